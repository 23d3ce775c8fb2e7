/- Do, Turn and Change: what operations make of values, or a trap. -/
import Derived.Test.YtcaailiijmjdlaaGreatDoorZve
import Derived.Test.YtcaailiijmjdlaaGreatDoorZts
set_option linter.unusedSimpArgs false
set_option linter.unusedVariables false
set_option maxRecDepth 100000

namespace Go.Proofs.YtcaailiijmjdlaaGreatDoor.Zp

open Flo

/-- What is done with values. -/
inductive DK | same | different | less | atMost | calc | neg | opp | real | int | len

def DK.out : DK → ByteArray → V → V → Out
  | .same, _, a, b => .val (vB (ordS a b))
  | .different, _, a, b => .val (vB (!ordS a b))
  | .less, _, a, b => .val (vB (ordL a b))
  | .atMost, _, a, b => .val (vB (ordL a b || ordS a b))
  | .calc, op, a, b => calcO op a b
  | .neg, _, a, _ => negO a
  | .opp, _, a, _ => .val (vB (decide (a.n = 0)))
  | .real, _, a, _ => .val (vR (floatOfInt .f64 a.n))
  | .int, _, a, _ => intO a
  | .len, _, a, _ => .val (vI (a.s.size : Int))

def DK.two : DK → Bool
  | .same => true | .different => true | .less => true | .atMost => true | .calc => true | _ => false

def binD (op : ByteArray) : Option (K × DK) :=
  if op = oMod then some (.wholes, .calc) else if op = oDiv then some (.numbers, .calc) else if op = oMul then some (.numbers, .calc) else if op = oSub then some (.numbers, .calc) else if op = oAdd then some (.added, .calc) else
  if op = oLe then some (.ordered, .atMost) else if op = oLt then some (.ordered, .less) else if op = oNe then some (.any, .different) else if op = oEq then some (.any, .same) else none

def unD (op : ByteArray) : Option (K × DK) := if op = oNot then some (.truth, .opp) else if op = oSub then some (.signed, .neg) else none

def convD (op : ByteArray) : Option (K × DK) := if op = cLen then some (.toLen, .len) else if op = tI then some (.toInt, .int) else if op = tR then some (.toReal, .real) else none

end Go.Proofs.YtcaailiijmjdlaaGreatDoor.Zp

namespace Go.Proofs.YtcaailiijmjdlaaGreatDoor

open Go.ChangeShapes Go.WideShapes Go.ChangeAt Go.RowKit Flo

attribute [local go_sem] Oper.semAt_some

open Zp (V R Out K DK e0 binD unD convD oOr oAnd oEq oNe oLt oLe oAdd oSub oMul oDiv oMod oNot cLen tI tR)

def fnD : DK → Nat
  | .same => 79
  | .different => 80
  | .less => 82
  | .atMost => 83
  | .calc => 85
  | .neg => 90
  | .opp => 92
  | .real => 94
  | .int => 96
  | .len => 98

theorem binD_some {op : ByteArray} {k : K} {d : DK} (h : binD op = some (k, d)) : binF op = some (wayV (fnK k) (fnV (fnD d))) ∧ isBin k = true ∧ d.two = true := by
  unfold binD at h
  unfold binF
  by_cases h0 : op = oMod
  · rw [if_pos h0] at h ⊢; cases h; exact ⟨rfl, rfl, rfl⟩
  rw [if_neg h0] at h ⊢
  by_cases h1 : op = oDiv
  · rw [if_pos h1] at h ⊢; cases h; exact ⟨rfl, rfl, rfl⟩
  rw [if_neg h1] at h ⊢
  by_cases h2 : op = oMul
  · rw [if_pos h2] at h ⊢; cases h; exact ⟨rfl, rfl, rfl⟩
  rw [if_neg h2] at h ⊢
  by_cases h3 : op = oSub
  · rw [if_pos h3] at h ⊢; cases h; exact ⟨rfl, rfl, rfl⟩
  rw [if_neg h3] at h ⊢
  by_cases h4 : op = oAdd
  · rw [if_pos h4] at h ⊢; cases h; exact ⟨rfl, rfl, rfl⟩
  rw [if_neg h4] at h ⊢
  by_cases h5 : op = oLe
  · rw [if_pos h5] at h ⊢; cases h; exact ⟨rfl, rfl, rfl⟩
  rw [if_neg h5] at h ⊢
  by_cases h6 : op = oLt
  · rw [if_pos h6] at h ⊢; cases h; exact ⟨rfl, rfl, rfl⟩
  rw [if_neg h6] at h ⊢
  by_cases h7 : op = oNe
  · rw [if_pos h7] at h ⊢; cases h; exact ⟨rfl, rfl, rfl⟩
  rw [if_neg h7] at h ⊢
  by_cases h8 : op = oEq
  · rw [if_pos h8] at h ⊢; cases h; exact ⟨rfl, rfl, rfl⟩
  rw [if_neg h8] at h ⊢
  cases h

theorem binD_none {op : ByteArray} (h : binD op = none) : binF op = none ∨ ∃ F, binF op = some (wayV F .nilFunc) := by
  unfold binD at h
  unfold binF
  by_cases h0 : op = oMod
  · rw [if_pos h0] at h; cases h
  rw [if_neg h0] at h ⊢
  by_cases h1 : op = oDiv
  · rw [if_pos h1] at h; cases h
  rw [if_neg h1] at h ⊢
  by_cases h2 : op = oMul
  · rw [if_pos h2] at h; cases h
  rw [if_neg h2] at h ⊢
  by_cases h3 : op = oSub
  · rw [if_pos h3] at h; cases h
  rw [if_neg h3] at h ⊢
  by_cases h4 : op = oAdd
  · rw [if_pos h4] at h; cases h
  rw [if_neg h4] at h ⊢
  by_cases h5 : op = oLe
  · rw [if_pos h5] at h; cases h
  rw [if_neg h5] at h ⊢
  by_cases h6 : op = oLt
  · rw [if_pos h6] at h; cases h
  rw [if_neg h6] at h ⊢
  by_cases h7 : op = oNe
  · rw [if_pos h7] at h; cases h
  rw [if_neg h7] at h ⊢
  by_cases h8 : op = oEq
  · rw [if_pos h8] at h; cases h
  rw [if_neg h8] at h ⊢
  by_cases h9 : op = oAnd
  · rw [if_pos h9]; exact .inr ⟨_, rfl⟩
  rw [if_neg h9]
  by_cases h10 : op = oOr
  · rw [if_pos h10]; exact .inr ⟨_, rfl⟩
  rw [if_neg h10]
  exact .inl rfl

theorem unD_some {op : ByteArray} {k : K} {d : DK} (h : unD op = some (k, d)) : unF op = some (wayV (fnK k) (fnV (fnD d))) ∧ isBin k = false ∧ d.two = false := by
  unfold unD at h
  unfold unF
  by_cases h0 : op = oNot
  · rw [if_pos h0] at h ⊢; cases h; exact ⟨rfl, rfl, rfl⟩
  rw [if_neg h0] at h ⊢
  by_cases h1 : op = oSub
  · rw [if_pos h1] at h ⊢; cases h; exact ⟨rfl, rfl, rfl⟩
  rw [if_neg h1] at h ⊢
  cases h

theorem unD_none {op : ByteArray} (h : unD op = none) : unF op = none ∨ ∃ F, unF op = some (wayV F .nilFunc) := by
  unfold unD at h
  unfold unF
  by_cases h0 : op = oNot
  · rw [if_pos h0] at h; cases h
  rw [if_neg h0] at h ⊢
  by_cases h1 : op = oSub
  · rw [if_pos h1] at h; cases h
  rw [if_neg h1] at h ⊢
  exact .inl rfl

theorem convD_some {op : ByteArray} {k : K} {d : DK} (h : convD op = some (k, d)) : convF op = some (wayV (fnK k) (fnV (fnD d))) ∧ isBin k = false ∧ d.two = false := by
  unfold convD at h
  unfold convF
  by_cases h0 : op = cLen
  · rw [if_pos h0] at h ⊢; cases h; exact ⟨rfl, rfl, rfl⟩
  rw [if_neg h0] at h ⊢
  by_cases h1 : op = tI
  · rw [if_pos h1] at h ⊢; cases h; exact ⟨rfl, rfl, rfl⟩
  rw [if_neg h1] at h ⊢
  by_cases h2 : op = tR
  · rw [if_pos h2] at h ⊢; cases h; exact ⟨rfl, rfl, rfl⟩
  rw [if_neg h2] at h ⊢
  cases h

theorem convD_none {op : ByteArray} (h : convD op = none) : convF op = none ∨ ∃ F, convF op = some (wayV F .nilFunc) := by
  unfold convD at h
  unfold convF
  by_cases h0 : op = cLen
  · rw [if_pos h0] at h; cases h
  rw [if_neg h0] at h ⊢
  by_cases h1 : op = tI
  · rw [if_pos h1] at h; cases h
  rw [if_neg h1] at h ⊢
  by_cases h2 : op = tR
  · rw [if_pos h2] at h; cases h
  rw [if_neg h2] at h ⊢
  exact .inl rfl

theorem fnD_eg (k : DK) : ∀ args w, (callFunc (fnD k) args).run Tryz.prog w = .ok (.enter (fnD k) args) w := by
  cases k <;> exact fun args w => rfl

/-- Values that are gone through: numbers of 64 bits, and a text that is not too long. -/
structure V.okM (x : V) : Prop where
  bits : x.bits < 18446744073709551616
  s : x.s.size ≤ 1000000

theorem fnD_two (d : DK) (hd : d.two = true) (op : ByteArray) (ho : op.size ≤ 1000000) (a b : V) (ha : V.okM a) (hb : V.okM b) (pa pb : Option Addr) (la ca lb cb : Nat) (g : Nat) (t : TypeId) (w : World) (h : Blk w g t (ten a b pa la ca pb lb cb)) :
    Calls Tryz.prog (fnD d) #[.slice (some ⟨g, 0, none⟩) 2 2, .string op] w (OutPost (d.out op a b) w) := by
  cases d
  · exact om_same a b pa pb la ca lb cb op g t w h
  · exact om_different a b pa pb la ca lb cb op g t w h
  · exact om_less a b pa pb la ca lb cb op g t w h
  · exact om_atMost a b pa pb la ca lb cb op g t w h
  · exact om_calculated a b pa pb la ca lb cb op g t w h ho ha.s hb.s
  all_goals cases hd

theorem fnD_one (d : DK) (hd : d.two = false) (op : ByteArray) (a : V) (ha : V.okM a) (pa : Option Addr) (la ca : Nat) (g : Nat) (t : TypeId) (w : World) (h : Blk w g t (five a pa la ca)) :
    Calls Tryz.prog (fnD d) #[.slice (some ⟨g, 0, none⟩) 1 1, .string op] w (OutPost (d.out op a V.z) w) := by
  cases d
  iterate 5 cases hd
  · exact om_negated a pa la ca op g t w h ha.bits
  · exact om_opposite a pa la ca op g t w h
  · exact om_toReal a pa la ca op g t w h
  · exact om_toInt a pa la ca op g t w h ha.bits
  · exact om_toLength a pa la ca op g t w h

def doBV (op : ByteArray) (a b : V) : Zp.D := match binD op with
  | none => Zp.badD 2
  | some (k, d) => zdoV (k.take (Wrd.ofT a.tag) (Wrd.ofT b.tag)) (d.out op a b)

def doUV (t : Option (K × DK)) (op : ByteArray) (a : V) : Zp.D := match t with
  | none => Zp.badD 2
  | some (k, d) => zdoV (k.take (Wrd.ofT a.tag) e0) (d.out op a V.z)

theorem zdo_bin (op : ByteArray) (ho : op.size ≤ 1000000) (a b : V) (ha : V.okM a) (hb : V.okM b) (pa pb : Option Addr) (la ca lb cb : Nat) (g m n : Nat) (t : TypeId) (w : World) (h : Blk w g t (ten a b pa la ca pb lb cb)) (hT : Tb w) (hM : MapF Tryz.prog 9 m n binF w) :
    Calls Tryz.prog 54 #[.map (some m), .string op, .slice (some ⟨g, 0, none⟩) 2 2] w fun e w' => e = .returned (doBV op a b).val ∧ Kept w w' := by
  have hom : op.size ≤ maxLen := by unfold maxLen; omega
  cases hk : binD op with
  | none =>
    have e : doBV op a b = Zp.badD 2 := by unfold doBV; rw [hk]
    rw [e]
    rcases binD_none hk with hf | ⟨F, hf⟩
    · exact zdo_none op hom binF m n 0 _ 2 2 w hM hf
    · exact zdo_nil op hom binF m n F _ 2 2 w hM hf
  | some kd =>
    obtain ⟨k, d⟩ := kd
    have e : doBV op a b = zdoV (k.take (Wrd.ofT a.tag) (Wrd.ofT b.tag)) (d.out op a b) := by unfold doBV; rw [hk]
    rw [e]
    obtain ⟨hf, h1, h2⟩ := binD_some hk
    exact zdo_some op hom binF m n (fnK k) (fnD d) _ _ [a, b] _ 2 w (by simp) hT (VlR.two h) hM hf (fnK_eg k) (fnD_eg d)
      (fun W a' c' _ ht => zk_bin k h1 _ _ a' c' W ht) (fun _ W hk' => fnD_two d h2 op ho a b ha hb pa pb la ca lb cb g t W (h.kept hk'))

theorem zdo_un (op : ByteArray) (ho : op.size ≤ 1000000) (a : V) (ha : V.okM a) (pa : Option Addr) (la ca : Nat) (g m n : Nat) (t : TypeId) (w : World) (h : Blk w g t (five a pa la ca)) (hT : Tb w) (hM : MapF Tryz.prog 9 m n unF w) :
    Calls Tryz.prog 54 #[.map (some m), .string op, .slice (some ⟨g, 0, none⟩) 1 1] w fun e w' => e = .returned (doUV (unD op) op a).val ∧ Kept w w' := by
  have hom : op.size ≤ maxLen := by unfold maxLen; omega
  cases hk : unD op with
  | none =>
    rcases unD_none hk with hf | ⟨F, hf⟩
    · exact zdo_none op hom unF m n 0 _ 1 1 w hM hf
    · exact zdo_nil op hom unF m n F _ 1 1 w hM hf
  | some kd =>
    obtain ⟨k, d⟩ := kd
    obtain ⟨hf, h1, h2⟩ := unD_some hk
    exact zdo_some op hom unF m n (fnK k) (fnD d) _ _ [a] _ 1 w (by simp) hT (VlR.one h) hM hf (fnK_eg k) (fnD_eg d)
      (fun W a' c' _ ht => zk_un k h1 _ a' c' W ht) (fun _ W hk' => fnD_one d h2 op a ha pa la ca g t W (h.kept hk'))

theorem zdo_conv (op : ByteArray) (ho : op.size ≤ 1000000) (a : V) (ha : V.okM a) (pa : Option Addr) (la ca : Nat) (g m n : Nat) (t : TypeId) (w : World) (h : Blk w g t (five a pa la ca)) (hT : Tb w) (hM : MapF Tryz.prog 9 m n convF w) :
    Calls Tryz.prog 54 #[.map (some m), .string op, .slice (some ⟨g, 0, none⟩) 1 1] w fun e w' => e = .returned (doUV (convD op) op a).val ∧ Kept w w' := by
  have hom : op.size ≤ maxLen := by unfold maxLen; omega
  cases hk : convD op with
  | none =>
    rcases convD_none hk with hf | ⟨F, hf⟩
    · exact zdo_none op hom convF m n 0 _ 1 1 w hM hf
    · exact zdo_nil op hom convF m n F _ 1 1 w hM hf
  | some kd =>
    obtain ⟨k, d⟩ := kd
    obtain ⟨hf, h1, h2⟩ := convD_some hk
    exact zdo_some op hom convF m n (fnK k) (fnD d) _ _ [a] _ 1 w (by simp) hT (VlR.one h) hM hf (fnK_eg k) (fnD_eg d)
      (fun W a' c' _ ht => zk_un k h1 _ a' c' W ht) (fun _ W hk' => fnD_one d h2 op a ha pa la ca g t W (h.kept hk'))

set_option maxHeartbeats 8000000 in
theorem zdo_c (op : ByteArray) (ho : op.size ≤ 1000000) (a b : V) (ha : V.okM a) (hb : V.okM b) (pa pb : Option Addr) (la ca lb cb : Nat) (w : World) (hT : Tb w) :
    Calls Tryz.prog 19 #[.string op, a.v (.slice pa la ca), b.v (.slice pb lb cb)] w fun e w' => e = .returned ((doBV op a b).val) ∧ Kept w w' := by
  obtain ⟨dv, hdv⟩ : ∃ dv, doBV op a b = dv := ⟨_, rfl⟩
  rw [hdv]
  obtain ⟨W1, hW1⟩ : ∃ W, w.alloc (.cells #[.int .i64 a.tag, .int .i64 a.n, .int .u64 (a.bits : Int), .string a.s, .slice pa la ca] vT) = W := ⟨_, rfl⟩
  obtain ⟨W2, hW2⟩ : ∃ W, W1.alloc (.cells #[.int .i64 b.tag, .int .i64 b.n, .int .u64 (b.bits : Int), .string b.s, .slice pb lb cb] vT) = W := ⟨_, rfl⟩
  obtain ⟨b1, b2, k2, z1⟩ := two_box hW1 hW2
  have z2 : W2.heap.size = w.heap.size + 2 := by rw [← hW2]; simp [z1]
  obtain ⟨W3, hW3⟩ : ∃ W, W2.alloc (.cells vZ vT) = W := ⟨_, rfl⟩
  obtain ⟨k3, b3, z3⟩ := vnew hW3
  obtain ⟨D, hD⟩ : ∃ D, W3.drew = D := ⟨_, rfl⟩
  have HA := Lib.hid (show Blk D w.heap.size vT (five a pa la ca) by rw [← hD]; exact (b1.kept k3).drew)
  have HB := Lib.hid (show Blk D (w.heap.size + 1) vT (five b pb lb cb) by rw [← hD]; exact (b2.kept k3).drew)
  have HR := Lib.hid (show Blk D (w.heap.size + 2) vT vZ by rw [← hD, ← z2]; exact b3.drew)
  have HK := Lib.hid (show Kept w D by rw [← hD]; exact (k2.trans k3).drew)
  have HO := Lib.hid (And.intro ho (And.intro ha hb))
  have HW1 := Lib.hid hW1
  have HW2 := Lib.hid hW2
  have HW3 := Lib.hid hW3
  have HDV := Lib.hid hdv
  have HT := Lib.hid hT
  clear hW1 hW2 hW3 b1 b2 b3 k2 k3 z3 ho ha hb hdv hT
  go_enter Tryz.func19, Tryz.ntmps19
  go_wp2_with (first | rw [HW1.out] | rw [z1] | rw [HW2.out] | rw [z2] | rw [HW3.out])
  refine wp_region_till (S := (fun W => W.cell? ⟨w.heap.size, 0, none⟩ = some (.int .i64 a.tag) ∧ W.cell? ⟨w.heap.size, 1, none⟩ = some (.int .i64 a.n) ∧ W.cell? ⟨w.heap.size, 2, none⟩ = some (.int .u64 (a.bits : Int)) ∧ W.cell? ⟨w.heap.size, 3, none⟩ = some (.string a.s) ∧ W.cell? ⟨w.heap.size, 4, none⟩ = some (.slice pa la ca) ∧ W.cell? ⟨w.heap.size + 1, 0, none⟩ = some (.int .i64 b.tag) ∧ W.cell? ⟨w.heap.size + 1, 1, none⟩ = some (.int .i64 b.n) ∧ W.cell? ⟨w.heap.size + 1, 2, none⟩ = some (.int .u64 (b.bits : Int)) ∧ W.cell? ⟨w.heap.size + 1, 3, none⟩ = some (.string b.s) ∧ W.cell? ⟨w.heap.size + 1, 4, none⟩ = some (.slice pb lb cb))) 11 (by kernel_rfl) (by rw [hD]; exact ⟨(blkF (HA.out.kept (Kept.refl _))).1, (blkF (HA.out.kept (Kept.refl _))).2.1, (blkF (HA.out.kept (Kept.refl _))).2.2.1, (blkF (HA.out.kept (Kept.refl _))).2.2.2.1, (blkF (HA.out.kept (Kept.refl _))).2.2.2.2, blkF (HB.out.kept (Kept.refl _))⟩) (fun hHeld0 => ?_)
  rw [hD] at hHeld0 ⊢
  clear hD
  have kq : Kept D D := Kept.refl _
  refine wpAnyT_take (i := 1) (v := ?_) rfl (by kernel_rfl) (by kernel_rfl) (by kernel_rfl) (fun _ _ _ h => h) (Or.inl ⟨by kernel_rfl, ?_⟩) (by assumption) ?_
  rotate_left
  · intro w hSw; (try dsimp only at hSw); go_simp; (try with_reducible rfl)
  (try simp only [Act.put, List.getElem_toArray, List.getElem_cons_zero, List.getElem_cons_succ, List.setIfInBounds_toArray, List.set_cons_zero, List.set_cons_succ])
  refine wpAnyT_take (i := 2) (v := ?_) rfl (by kernel_rfl) (by kernel_rfl) (by kernel_rfl) (fun _ _ _ h => h) (Or.inl ⟨by kernel_rfl, ?_⟩) (by assumption) ?_
  rotate_left
  · intro w hSw; (try dsimp only at hSw); go_simp; (try with_reducible rfl)
  (try simp only [Act.put, List.getElem_toArray, List.getElem_cons_zero, List.getElem_cons_succ, List.setIfInBounds_toArray, List.set_cons_zero, List.set_cons_succ])
  refine wpAnyT_take (i := 3) (v := ?_) rfl (by kernel_rfl) (by kernel_rfl) (by kernel_rfl) (fun _ _ _ h => h) (Or.inl ⟨by kernel_rfl, ?_⟩) (by assumption) ?_
  rotate_left
  · intro w hSw; (try dsimp only at hSw); go_simp; (try with_reducible rfl)
  (try simp only [Act.put, List.getElem_toArray, List.getElem_cons_zero, List.getElem_cons_succ, List.setIfInBounds_toArray, List.set_cons_zero, List.set_cons_succ])
  refine wpAnyT_ready (rs := [0,4]) (by kernel_rfl) (by simp) ?_
  refine AllReadyT.cons rfl (fun K hK => ?_) (AllReadyT.cons rfl (fun K hK => ?_) AllReadyT.nil)
  · go_simp
    refine (zbin_map D).mono ?_
    rintro e x1 ⟨rfl, hM, kn⟩
    replace kq := kq.trans kn
    clear kn
    refine hK.out _ _ (⟨(blkF (HA.out.kept kq)).1, (blkF (HA.out.kept kq)).2.1, (blkF (HA.out.kept kq)).2.2.1, (blkF (HA.out.kept kq)).2.2.2.1, (blkF (HA.out.kept kq)).2.2.2.2, blkF (HB.out.kept kq)⟩) (fun hHeld1 => ?_)
    clear hK K
    (try simp only [Act.put, List.getElem_toArray, List.getElem_cons_zero, List.getElem_cons_succ, List.setIfInBounds_toArray, List.set_cons_zero, List.set_cons_succ])
    refine wpAnyT_ready (rs := [4]) (by kernel_rfl) (by simp) ?_
    refine AllReadyT.cons rfl (fun K hK => ?_) AllReadyT.nil
    go_simp
    obtain ⟨x2, hnx⟩ : ∃ W, x1.alloc (.cells #[.int .i64 a.tag, .int .i64 a.n, .int .u64 (a.bits : Int), .string a.s, .slice pa la ca, .int .i64 b.tag, .int .i64 b.n, .int .u64 (b.bits : Int), .string b.s, .slice pb lb cb] vT) = W := ⟨_, rfl⟩
    have hS : Blk x2 x1.heap.size vT (ten a b pa la ca pb lb cb) := (vnew hnx).2.1
    have kn := (vnew hnx).1
    rw [hnx]
    clear hnx
    replace hM := hM.only (S := fun _ => False) (Only.of_kept kn) (fun h => h)
    replace kq := kq.trans kn
    clear kn
    refine hK.out _ _ (⟨(blkF (HA.out.kept kq)).1, (blkF (HA.out.kept kq)).2.1, (blkF (HA.out.kept kq)).2.2.1, (blkF (HA.out.kept kq)).2.2.2.1, (blkF (HA.out.kept kq)).2.2.2.2, blkF (HB.out.kept kq)⟩) (fun hHeld2 => ?_)
    clear hK K
    (try simp only [Act.put, List.getElem_toArray, List.getElem_cons_zero, List.getElem_cons_succ, List.setIfInBounds_toArray, List.set_cons_zero, List.set_cons_succ])
    refine wpAnyT_ready (rs := [5]) (by kernel_rfl) (by simp) ?_
    refine AllReadyT.cons rfl (fun K hK => ?_) AllReadyT.nil
    go_simp
    refine (zdo_bin op HO.out.1 a b HO.out.2.1 HO.out.2.2 pa pb la ca lb cb _ _ _ _ x2 hS (HT.out.kept (HK.out.trans kq)) hM).mono ?_
    rintro e x3 ⟨rfl, kn⟩
    rw [HDV.out]
    replace hM := hM.only (S := fun _ => False) (Only.of_kept kn) (fun h => h)
    replace hS := hS.kept kn
    replace kq := kq.trans kn
    clear kn
    refine hK.out _ _ (⟨(blkF (HA.out.kept kq)).1, (blkF (HA.out.kept kq)).2.1, (blkF (HA.out.kept kq)).2.2.1, (blkF (HA.out.kept kq)).2.2.2.1, (blkF (HA.out.kept kq)).2.2.2.2, blkF (HB.out.kept kq)⟩) (fun hHeld3 => ?_)
    clear hK K
    (try simp only [Act.put, List.getElem_toArray, List.getElem_cons_zero, List.getElem_cons_succ, List.setIfInBounds_toArray, List.set_cons_zero, List.set_cons_succ])
    refine wpAnyT_take (i := 6) (v := ?_) rfl (by kernel_rfl) (by kernel_rfl) (by kernel_rfl) (fun _ _ _ h => h) (Or.inl ⟨by kernel_rfl, ?_⟩) (by assumption) ?_
    rotate_left
    · intro w hSw; (try dsimp only at hSw); go_simp; (try with_reducible rfl)
    (try simp only [Act.put, List.getElem_toArray, List.getElem_cons_zero, List.getElem_cons_succ, List.setIfInBounds_toArray, List.set_cons_zero, List.set_cons_succ])
    refine wpAnyT_take (i := 7) (v := ?_) rfl (by kernel_rfl) (by kernel_rfl) (by kernel_rfl) (fun _ _ _ h => h) (Or.inl ⟨by kernel_rfl, ?_⟩) (by assumption) ?_
    rotate_left
    · intro w hSw; (try dsimp only at hSw); go_simp; (try with_reducible rfl)
    (try simp only [Act.put, List.getElem_toArray, List.getElem_cons_zero, List.getElem_cons_succ, List.setIfInBounds_toArray, List.set_cons_zero, List.set_cons_succ])
    refine wpAnyT_take (i := 8) (v := ?_) rfl (by kernel_rfl) (by kernel_rfl) (by kernel_rfl) (fun _ _ _ h => h) (Or.inl ⟨by kernel_rfl, ?_⟩) (by assumption) ?_
    rotate_left
    · intro w hSw; (try dsimp only at hSw); go_simp; (try with_reducible rfl)
    (try simp only [Act.put, List.getElem_toArray, List.getElem_cons_zero, List.getElem_cons_succ, List.setIfInBounds_toArray, List.set_cons_zero, List.set_cons_succ])
    have hR := HR.out.kept kq
    obtain ⟨⟨c0, c1, c2, c3, c4⟩, d0, d1, d2, d3, d4⟩ := blk5 hR
    obtain ⟨V9, hV9⟩ : ∃ W, put5 x3 (w.heap.size + 2) (.int .i64 dv.v.tag) (.int .i64 dv.v.n) (.int .u64 (dv.v.bits : Int)) (.string dv.v.s) (.slice none 0 0) = W := ⟨_, rfl⟩
    have o9 : Only (· = w.heap.size + 2) x3 V9 := by rw [← hV9]; exact put5_only _ _ _ _ _ _ _
    have HV := Lib.hid (show Blk V9 (w.heap.size + 2) vT (five dv.v none 0 0) by rw [← hV9]; exact put5_blk hR _ _ _ _ _)
    have HVA := Lib.hid ((HA.out.kept kq).only o9 (by omega))
    have HVB := Lib.hid ((HB.out.kept kq).only o9 (by omega))
    have HKV := Lib.hid (show Kept w V9 from (HK.out.trans kq).only o9 rfl (fun k e => by omega))
    have HWV := Lib.hid (show ((((x3.setCell ⟨w.heap.size + 2, 0, none⟩ (.int .i64 dv.v.tag)).setCell ⟨w.heap.size + 2, 1, none⟩ (.int .i64 dv.v.n)).setCell ⟨w.heap.size + 2, 2, none⟩ (.int .u64 (dv.v.bits : Int))).setCell ⟨w.heap.size + 2, 3, none⟩ (.string dv.v.s)).setCell ⟨w.heap.size + 2, 4, none⟩ (.slice none 0 0) = V9 from hV9)
    clear hV9 o9 hR kq
    refine wpAnyT_ready (rs := [9]) (by kernel_rfl) (by simp) ?_
    refine AllReadyT.cons rfl (fun K hK => ?_) AllReadyT.nil
    go_simp
    rw [HWV.out]
    refine hK.out _ _ (⟨(blkF HVA.out).1, (blkF HVA.out).2.1, (blkF HVA.out).2.2.1, (blkF HVA.out).2.2.2.1, (blkF HVA.out).2.2.2.2, blkF HVB.out⟩) (fun hHeld9 => ?_)
    clear hK K
    (try simp only [Act.put, List.getElem_toArray, List.getElem_cons_zero, List.getElem_cons_succ, List.setIfInBounds_toArray, List.set_cons_zero, List.set_cons_succ])
    refine wpAnyT_take (i := 10) (v := ?_) rfl (by kernel_rfl) (by kernel_rfl) (by kernel_rfl) (fun _ _ _ h => h) (Or.inl ⟨by kernel_rfl, ?_⟩) (by assumption) ?_
    rotate_left
    · intro w hSw; (try dsimp only at hSw); go_simp; (try with_reducible rfl)
    (try simp only [Act.put, List.getElem_toArray, List.getElem_cons_zero, List.getElem_cons_succ, List.setIfInBounds_toArray, List.set_cons_zero, List.set_cons_succ])
    refine wpAnyT_ready (rs := [11]) (by kernel_rfl) (by simp) ?_
    refine AllReadyT.fin rfl (fun K hK => ?_)
    go_simp
    refine hK.out _ _ ?_
    clear hK K
    (try simp only [Act.put, List.getElem_toArray, List.getElem_cons_zero, List.getElem_cons_succ, List.setIfInBounds_toArray, List.set_cons_zero, List.set_cons_succ])
    refine wpAnyT_done (by kernel_rfl) ?_ _
    clear hHeld9
    go_wp2_with fail
    exact bodyPost_ret (v_results3 (by rfl) _ _ rfl rfl rfl HV.out) rfl ⟨rfl, HKV.out⟩
  · go_simp
    obtain ⟨x1, hnx⟩ : ∃ W, D.alloc (.cells #[.int .i64 a.tag, .int .i64 a.n, .int .u64 (a.bits : Int), .string a.s, .slice pa la ca, .int .i64 b.tag, .int .i64 b.n, .int .u64 (b.bits : Int), .string b.s, .slice pb lb cb] vT) = W := ⟨_, rfl⟩
    have hS : Blk x1 D.heap.size vT (ten a b pa la ca pb lb cb) := (vnew hnx).2.1
    have kn := (vnew hnx).1
    rw [hnx]
    clear hnx
    replace kq := kq.trans kn
    clear kn
    refine hK.out _ _ (⟨(blkF (HA.out.kept kq)).1, (blkF (HA.out.kept kq)).2.1, (blkF (HA.out.kept kq)).2.2.1, (blkF (HA.out.kept kq)).2.2.2.1, (blkF (HA.out.kept kq)).2.2.2.2, blkF (HB.out.kept kq)⟩) (fun hHeld1 => ?_)
    clear hK K
    (try simp only [Act.put, List.getElem_toArray, List.getElem_cons_zero, List.getElem_cons_succ, List.setIfInBounds_toArray, List.set_cons_zero, List.set_cons_succ])
    refine wpAnyT_ready (rs := [0]) (by kernel_rfl) (by simp) ?_
    refine AllReadyT.cons rfl (fun K hK => ?_) AllReadyT.nil
    go_simp
    refine (zbin_map x1).mono ?_
    rintro e x2 ⟨rfl, hM, kn⟩
    replace hS := hS.kept kn
    replace kq := kq.trans kn
    clear kn
    refine hK.out _ _ (⟨(blkF (HA.out.kept kq)).1, (blkF (HA.out.kept kq)).2.1, (blkF (HA.out.kept kq)).2.2.1, (blkF (HA.out.kept kq)).2.2.2.1, (blkF (HA.out.kept kq)).2.2.2.2, blkF (HB.out.kept kq)⟩) (fun hHeld2 => ?_)
    clear hK K
    (try simp only [Act.put, List.getElem_toArray, List.getElem_cons_zero, List.getElem_cons_succ, List.setIfInBounds_toArray, List.set_cons_zero, List.set_cons_succ])
    refine wpAnyT_ready (rs := [5]) (by kernel_rfl) (by simp) ?_
    refine AllReadyT.cons rfl (fun K hK => ?_) AllReadyT.nil
    go_simp
    refine (zdo_bin op HO.out.1 a b HO.out.2.1 HO.out.2.2 pa pb la ca lb cb _ _ _ _ x2 hS (HT.out.kept (HK.out.trans kq)) hM).mono ?_
    rintro e x3 ⟨rfl, kn⟩
    rw [HDV.out]
    replace hM := hM.only (S := fun _ => False) (Only.of_kept kn) (fun h => h)
    replace hS := hS.kept kn
    replace kq := kq.trans kn
    clear kn
    refine hK.out _ _ (⟨(blkF (HA.out.kept kq)).1, (blkF (HA.out.kept kq)).2.1, (blkF (HA.out.kept kq)).2.2.1, (blkF (HA.out.kept kq)).2.2.2.1, (blkF (HA.out.kept kq)).2.2.2.2, blkF (HB.out.kept kq)⟩) (fun hHeld3 => ?_)
    clear hK K
    (try simp only [Act.put, List.getElem_toArray, List.getElem_cons_zero, List.getElem_cons_succ, List.setIfInBounds_toArray, List.set_cons_zero, List.set_cons_succ])
    refine wpAnyT_take (i := 6) (v := ?_) rfl (by kernel_rfl) (by kernel_rfl) (by kernel_rfl) (fun _ _ _ h => h) (Or.inl ⟨by kernel_rfl, ?_⟩) (by assumption) ?_
    rotate_left
    · intro w hSw; (try dsimp only at hSw); go_simp; (try with_reducible rfl)
    (try simp only [Act.put, List.getElem_toArray, List.getElem_cons_zero, List.getElem_cons_succ, List.setIfInBounds_toArray, List.set_cons_zero, List.set_cons_succ])
    refine wpAnyT_take (i := 7) (v := ?_) rfl (by kernel_rfl) (by kernel_rfl) (by kernel_rfl) (fun _ _ _ h => h) (Or.inl ⟨by kernel_rfl, ?_⟩) (by assumption) ?_
    rotate_left
    · intro w hSw; (try dsimp only at hSw); go_simp; (try with_reducible rfl)
    (try simp only [Act.put, List.getElem_toArray, List.getElem_cons_zero, List.getElem_cons_succ, List.setIfInBounds_toArray, List.set_cons_zero, List.set_cons_succ])
    refine wpAnyT_take (i := 8) (v := ?_) rfl (by kernel_rfl) (by kernel_rfl) (by kernel_rfl) (fun _ _ _ h => h) (Or.inl ⟨by kernel_rfl, ?_⟩) (by assumption) ?_
    rotate_left
    · intro w hSw; (try dsimp only at hSw); go_simp; (try with_reducible rfl)
    (try simp only [Act.put, List.getElem_toArray, List.getElem_cons_zero, List.getElem_cons_succ, List.setIfInBounds_toArray, List.set_cons_zero, List.set_cons_succ])
    have hR := HR.out.kept kq
    obtain ⟨⟨c0, c1, c2, c3, c4⟩, d0, d1, d2, d3, d4⟩ := blk5 hR
    obtain ⟨V9, hV9⟩ : ∃ W, put5 x3 (w.heap.size + 2) (.int .i64 dv.v.tag) (.int .i64 dv.v.n) (.int .u64 (dv.v.bits : Int)) (.string dv.v.s) (.slice none 0 0) = W := ⟨_, rfl⟩
    have o9 : Only (· = w.heap.size + 2) x3 V9 := by rw [← hV9]; exact put5_only _ _ _ _ _ _ _
    have HV := Lib.hid (show Blk V9 (w.heap.size + 2) vT (five dv.v none 0 0) by rw [← hV9]; exact put5_blk hR _ _ _ _ _)
    have HVA := Lib.hid ((HA.out.kept kq).only o9 (by omega))
    have HVB := Lib.hid ((HB.out.kept kq).only o9 (by omega))
    have HKV := Lib.hid (show Kept w V9 from (HK.out.trans kq).only o9 rfl (fun k e => by omega))
    have HWV := Lib.hid (show ((((x3.setCell ⟨w.heap.size + 2, 0, none⟩ (.int .i64 dv.v.tag)).setCell ⟨w.heap.size + 2, 1, none⟩ (.int .i64 dv.v.n)).setCell ⟨w.heap.size + 2, 2, none⟩ (.int .u64 (dv.v.bits : Int))).setCell ⟨w.heap.size + 2, 3, none⟩ (.string dv.v.s)).setCell ⟨w.heap.size + 2, 4, none⟩ (.slice none 0 0) = V9 from hV9)
    clear hV9 o9 hR kq
    refine wpAnyT_ready (rs := [9]) (by kernel_rfl) (by simp) ?_
    refine AllReadyT.cons rfl (fun K hK => ?_) AllReadyT.nil
    go_simp
    rw [HWV.out]
    refine hK.out _ _ (⟨(blkF HVA.out).1, (blkF HVA.out).2.1, (blkF HVA.out).2.2.1, (blkF HVA.out).2.2.2.1, (blkF HVA.out).2.2.2.2, blkF HVB.out⟩) (fun hHeld9 => ?_)
    clear hK K
    (try simp only [Act.put, List.getElem_toArray, List.getElem_cons_zero, List.getElem_cons_succ, List.setIfInBounds_toArray, List.set_cons_zero, List.set_cons_succ])
    refine wpAnyT_take (i := 10) (v := ?_) rfl (by kernel_rfl) (by kernel_rfl) (by kernel_rfl) (fun _ _ _ h => h) (Or.inl ⟨by kernel_rfl, ?_⟩) (by assumption) ?_
    rotate_left
    · intro w hSw; (try dsimp only at hSw); go_simp; (try with_reducible rfl)
    (try simp only [Act.put, List.getElem_toArray, List.getElem_cons_zero, List.getElem_cons_succ, List.setIfInBounds_toArray, List.set_cons_zero, List.set_cons_succ])
    refine wpAnyT_ready (rs := [11]) (by kernel_rfl) (by simp) ?_
    refine AllReadyT.fin rfl (fun K hK => ?_)
    go_simp
    refine hK.out _ _ ?_
    clear hK K
    (try simp only [Act.put, List.getElem_toArray, List.getElem_cons_zero, List.getElem_cons_succ, List.setIfInBounds_toArray, List.set_cons_zero, List.set_cons_succ])
    refine wpAnyT_done (by kernel_rfl) ?_ _
    clear hHeld9
    go_wp2_with fail
    exact bodyPost_ret (v_results3 (by rfl) _ _ rfl rfl rfl HV.out) rfl ⟨rfl, HKV.out⟩

end Go.Proofs.YtcaailiijmjdlaaGreatDoor
