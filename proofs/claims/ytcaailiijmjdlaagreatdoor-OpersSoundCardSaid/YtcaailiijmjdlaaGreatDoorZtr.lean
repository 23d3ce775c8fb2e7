/- The maps of operations; take; Bin, Un and Conv: what is told of types. -/
import Derived.Test.YtcaailiijmjdlaaGreatDoorZtq
import Derived.Test.YtcaailiijmjdlaaGreatDoorNam
set_option linter.unusedSimpArgs false
set_option linter.unusedVariables false
set_option maxRecDepth 100000
namespace Go.Proofs.YtcaailiijmjdlaaGreatDoor
open Go.ChangeShapes Go.WideShapes Go.ChangeAt Go.RowKit
attribute [local go_sem] Oper.semAt_some
open Zp (e0 dy R oper both one goes orR bad tI tR tB tS K oOr oAnd oEq oNe oLt oLe oAdd oSub oMul oDiv oMod oNot cLen binK unK convK binV unV convV)

abbrev fnV (F : Nat) : Value := .func (.func F) #[] #[]
abbrev wayV (F : Nat) (g : Value) : Value := .agg #[fnV F, g]
def fDif : Nat := 80
def fnK : K → Nat
  | .any => 78
  | .truths => 77
  | .ordered => 81
  | .added => 84
  | .numbers => 86
  | .wholes => 87
  | .signed => 89
  | .truth => 91
  | .toReal => 93
  | .toInt => 95
  | .toLen => 97

def binF (y : ByteArray) : Option Value :=
  if y = oMod then some (wayV (fnK .wholes) (fnV 85)) else if y = oDiv then some (wayV (fnK .numbers) (fnV 85)) else if y = oMul then some (wayV (fnK .numbers) (fnV 85)) else if y = oSub then some (wayV (fnK .numbers) (fnV 85)) else if y = oAdd then some (wayV (fnK .added) (fnV 85)) else if y = oLe then some (wayV (fnK .ordered) (fnV 83)) else if y = oLt then some (wayV (fnK .ordered) (fnV 82)) else if y = oNe then some (wayV (fnK .any) (fnV 80)) else if y = oEq then some (wayV (fnK .any) (fnV 79)) else if y = oAnd then some (wayV (fnK .truths) (.nilFunc)) else if y = oOr then some (wayV (fnK .truths) (.nilFunc)) else none
theorem binF_none {y : ByteArray} (h : binK y = none) : binF y = none := by
  unfold binK at h
  unfold binF
  by_cases h0 : y = oMod
  · rw [if_pos h0] at h; cases h
  rw [if_neg h0] at h ⊢
  by_cases h1 : y = oDiv
  · rw [if_pos h1] at h; cases h
  rw [if_neg h1] at h ⊢
  by_cases h2 : y = oMul
  · rw [if_pos h2] at h; cases h
  rw [if_neg h2] at h ⊢
  by_cases h3 : y = oSub
  · rw [if_pos h3] at h; cases h
  rw [if_neg h3] at h ⊢
  by_cases h4 : y = oAdd
  · rw [if_pos h4] at h; cases h
  rw [if_neg h4] at h ⊢
  by_cases h5 : y = oLe
  · rw [if_pos h5] at h; cases h
  rw [if_neg h5] at h ⊢
  by_cases h6 : y = oLt
  · rw [if_pos h6] at h; cases h
  rw [if_neg h6] at h ⊢
  by_cases h7 : y = oNe
  · rw [if_pos h7] at h; cases h
  rw [if_neg h7] at h ⊢
  by_cases h8 : y = oEq
  · rw [if_pos h8] at h; cases h
  rw [if_neg h8] at h ⊢
  by_cases h9 : y = oAnd
  · rw [if_pos h9] at h; cases h
  rw [if_neg h9] at h ⊢
  by_cases h10 : y = oOr
  · rw [if_pos h10] at h; cases h
  rw [if_neg h10] at h ⊢
theorem binF_some {y : ByteArray} {k : K} (h : binK y = some k) : ∃ g, (g = .nilFunc ∨ ∃ G, g = fnV G) ∧ binF y = some (wayV (fnK k) g) := by
  unfold binK at h
  unfold binF
  by_cases h0 : y = oMod
  · rw [if_pos h0] at h ⊢; cases h; exact ⟨_, .inr ⟨_, rfl⟩, rfl⟩
  rw [if_neg h0] at h ⊢
  by_cases h1 : y = oDiv
  · rw [if_pos h1] at h ⊢; cases h; exact ⟨_, .inr ⟨_, rfl⟩, rfl⟩
  rw [if_neg h1] at h ⊢
  by_cases h2 : y = oMul
  · rw [if_pos h2] at h ⊢; cases h; exact ⟨_, .inr ⟨_, rfl⟩, rfl⟩
  rw [if_neg h2] at h ⊢
  by_cases h3 : y = oSub
  · rw [if_pos h3] at h ⊢; cases h; exact ⟨_, .inr ⟨_, rfl⟩, rfl⟩
  rw [if_neg h3] at h ⊢
  by_cases h4 : y = oAdd
  · rw [if_pos h4] at h ⊢; cases h; exact ⟨_, .inr ⟨_, rfl⟩, rfl⟩
  rw [if_neg h4] at h ⊢
  by_cases h5 : y = oLe
  · rw [if_pos h5] at h ⊢; cases h; exact ⟨_, .inr ⟨_, rfl⟩, rfl⟩
  rw [if_neg h5] at h ⊢
  by_cases h6 : y = oLt
  · rw [if_pos h6] at h ⊢; cases h; exact ⟨_, .inr ⟨_, rfl⟩, rfl⟩
  rw [if_neg h6] at h ⊢
  by_cases h7 : y = oNe
  · rw [if_pos h7] at h ⊢; cases h; exact ⟨_, .inr ⟨_, rfl⟩, rfl⟩
  rw [if_neg h7] at h ⊢
  by_cases h8 : y = oEq
  · rw [if_pos h8] at h ⊢; cases h; exact ⟨_, .inr ⟨_, rfl⟩, rfl⟩
  rw [if_neg h8] at h ⊢
  by_cases h9 : y = oAnd
  · rw [if_pos h9] at h ⊢; cases h; exact ⟨_, .inl rfl, rfl⟩
  rw [if_neg h9] at h ⊢
  by_cases h10 : y = oOr
  · rw [if_pos h10] at h ⊢; cases h; exact ⟨_, .inl rfl, rfl⟩
  rw [if_neg h10] at h ⊢
  cases h
def unF (y : ByteArray) : Option Value :=
  if y = oNot then some (wayV (fnK .truth) (fnV 92)) else if y = oSub then some (wayV (fnK .signed) (fnV 90)) else none
theorem unF_none {y : ByteArray} (h : unK y = none) : unF y = none := by
  unfold unK at h
  unfold unF
  by_cases h0 : y = oNot
  · rw [if_pos h0] at h; cases h
  rw [if_neg h0] at h ⊢
  by_cases h1 : y = oSub
  · rw [if_pos h1] at h; cases h
  rw [if_neg h1] at h ⊢
theorem unF_some {y : ByteArray} {k : K} (h : unK y = some k) : ∃ g, (g = .nilFunc ∨ ∃ G, g = fnV G) ∧ unF y = some (wayV (fnK k) g) := by
  unfold unK at h
  unfold unF
  by_cases h0 : y = oNot
  · rw [if_pos h0] at h ⊢; cases h; exact ⟨_, .inr ⟨_, rfl⟩, rfl⟩
  rw [if_neg h0] at h ⊢
  by_cases h1 : y = oSub
  · rw [if_pos h1] at h ⊢; cases h; exact ⟨_, .inr ⟨_, rfl⟩, rfl⟩
  rw [if_neg h1] at h ⊢
  cases h
def convF (y : ByteArray) : Option Value :=
  if y = cLen then some (wayV (fnK .toLen) (fnV 98)) else if y = tI then some (wayV (fnK .toInt) (fnV 96)) else if y = tR then some (wayV (fnK .toReal) (fnV 94)) else none
theorem convF_none {y : ByteArray} (h : convK y = none) : convF y = none := by
  unfold convK at h
  unfold convF
  by_cases h0 : y = cLen
  · rw [if_pos h0] at h; cases h
  rw [if_neg h0] at h ⊢
  by_cases h1 : y = tI
  · rw [if_pos h1] at h; cases h
  rw [if_neg h1] at h ⊢
  by_cases h2 : y = tR
  · rw [if_pos h2] at h; cases h
  rw [if_neg h2] at h ⊢
theorem convF_some {y : ByteArray} {k : K} (h : convK y = some k) : ∃ g, (g = .nilFunc ∨ ∃ G, g = fnV G) ∧ convF y = some (wayV (fnK k) g) := by
  unfold convK at h
  unfold convF
  by_cases h0 : y = cLen
  · rw [if_pos h0] at h ⊢; cases h; exact ⟨_, .inr ⟨_, rfl⟩, rfl⟩
  rw [if_neg h0] at h ⊢
  by_cases h1 : y = tI
  · rw [if_pos h1] at h ⊢; cases h; exact ⟨_, .inr ⟨_, rfl⟩, rfl⟩
  rw [if_neg h1] at h ⊢
  by_cases h2 : y = tR
  · rw [if_pos h2] at h ⊢; cases h; exact ⟨_, .inr ⟨_, rfl⟩, rfl⟩
  rw [if_neg h2] at h ⊢
  cases h

theorem zinsert {P : Program} {w : World} {ops : Array Oper} {rest : List Oper} {o : Oper} {a : Act} {Q : Exit → Act → World → Prop} {f : ByteArray → Option Value}
    (hg : o.guard = none) (m x v : Operand) (t : TypeId) (hop : o.op = Op.insert t m x v) (k e : TypeId) (K : Maps.Keyed P k) (ht : P.underlying t = some (.map k e)) (b n : Nat)
    (hm : a.eval m = .map (some b)) (h : MapF P k b n f w) (hn : n < maxLen) (s : ByteArray) (val : Value) (hx : a.eval x = .string s) (hv : a.eval v = val) (hkey : keyOf P k (.string s) = some (.string s.data.toList))
    (hK : ∀ w', MapF P k b (n + 1) (fun y => if y = s then some val else f y) w' → w.grownBy w' (some b) → wpList P ops Q rest (a.put o.dst undef) w') : wpList P ops Q (o :: rest) a w := by
  obtain ⟨D, h1, h2, h3⟩ := h
  refine wpList_insert_own w hg m x v t hop k e K ht b n D hm h1 hn (.string s) val (.string s.data.toList) hx hv hkey (fun w' ho hgr => hK w' ⟨_, ho, h2.put _ _, fun y => ?_⟩ hgr)
  by_cases hy : y = s
  · subst hy
    refine ⟨by rw [Maps.has_put_same (k := Lit.string y.data.toList) h2 trivial]; simp, fun u hu z => ?_⟩
    rw [Maps.atKey_put_same (k := Lit.string y.data.toList) h2 trivial]
    simp at hu
    rw [hu]
  · refine ⟨by rw [Maps.has_put_other (str_ne hy)]; simp [hy, (h3 y).1], fun u hu z => ?_⟩
    rw [Maps.atKey_put_other (str_ne hy)]
    simp [hy] at hu
    exact (h3 y).2 u hu z

set_option maxHeartbeats 4000000 in
theorem zbin_map (w : World) : Calls Tryz.prog 43 #[] w fun e w' => e = .returned (.map (some w.heap.size)) ∧ MapF Tryz.prog 9 w.heap.size 11 binF w' ∧ Kept w w' := by
  have law := Maps.string_keyed (P := Tryz.prog) Tryz.underlying9
  have h0 : MapF Tryz.prog 9 w.heap.size 0 (fun _ => none) (w.alloc (.map #[] 0)) := MapF.made w _ _
  have k0 : Kept w (w.alloc (.map #[] 0)) := (Kept.refl w).alloc _
  have HM := Lib.hid (And.intro h0 k0)
  have LAW := Lib.hid law
  clear h0 k0 law
  have hmm := @run_makeMap Tryz.prog
  go_enter Tryz.func43, Tryz.ntmps43
  go_wp2_with (refine zinsert rfl _ _ _ 64 rfl 9 107 LAW.out Tryz.underlying64 _ _ rfl HM.out.1 (by unfold maxLen; omega) _ _ rfl rfl (WideMaps.keyOf_string_mk Tryz.underlying9 (by decide)) ?_; intro wn hn gn; replace HM := Lib.hid (And.intro hn (HM.out.2.grown gn (fun k e => by cases e; exact Nat.le_refl _))); clear hn gn)
  go_ret
  exact ⟨rfl, HM.out.1, HM.out.2⟩

set_option maxHeartbeats 4000000 in
theorem zun_map (w : World) : Calls Tryz.prog 48 #[] w fun e w' => e = .returned (.map (some w.heap.size)) ∧ MapF Tryz.prog 9 w.heap.size 2 unF w' ∧ Kept w w' := by
  have law := Maps.string_keyed (P := Tryz.prog) Tryz.underlying9
  have h0 : MapF Tryz.prog 9 w.heap.size 0 (fun _ => none) (w.alloc (.map #[] 0)) := MapF.made w _ _
  have k0 : Kept w (w.alloc (.map #[] 0)) := (Kept.refl w).alloc _
  have HM := Lib.hid (And.intro h0 k0)
  have LAW := Lib.hid law
  clear h0 k0 law
  have hmm := @run_makeMap Tryz.prog
  go_enter Tryz.func48, Tryz.ntmps48
  go_wp2_with (refine zinsert rfl _ _ _ 64 rfl 9 107 LAW.out Tryz.underlying64 _ _ rfl HM.out.1 (by unfold maxLen; omega) _ _ rfl rfl (WideMaps.keyOf_string_mk Tryz.underlying9 (by decide)) ?_; intro wn hn gn; replace HM := Lib.hid (And.intro hn (HM.out.2.grown gn (fun k e => by cases e; exact Nat.le_refl _))); clear hn gn)
  go_ret
  exact ⟨rfl, HM.out.1, HM.out.2⟩

set_option maxHeartbeats 4000000 in
theorem zconv_map (w : World) : Calls Tryz.prog 49 #[] w fun e w' => e = .returned (.map (some w.heap.size)) ∧ MapF Tryz.prog 9 w.heap.size 3 convF w' ∧ Kept w w' := by
  have law := Maps.string_keyed (P := Tryz.prog) Tryz.underlying9
  have h0 : MapF Tryz.prog 9 w.heap.size 0 (fun _ => none) (w.alloc (.map #[] 0)) := MapF.made w _ _
  have k0 : Kept w (w.alloc (.map #[] 0)) := (Kept.refl w).alloc _
  have HM := Lib.hid (And.intro h0 k0)
  have LAW := Lib.hid law
  clear h0 k0 law
  have hmm := @run_makeMap Tryz.prog
  go_enter Tryz.func49, Tryz.ntmps49
  go_wp2_with (refine zinsert rfl _ _ _ 64 rfl 9 107 LAW.out Tryz.underlying64 _ _ rfl HM.out.1 (by unfold maxLen; omega) _ _ rfl rfl (WideMaps.keyOf_string_mk Tryz.underlying9 (by decide)) ?_; intro wn hn gn; replace HM := Lib.hid (And.intro hn (HM.out.2.grown gn (fun k e => by cases e; exact Nat.le_refl _))); clear hn gn)
  go_ret
  exact ⟨rfl, HM.out.1, HM.out.2⟩

theorem zop_zero (w : World) : (zeroValue 107).run Tryz.prog w = .ok (.agg #[.nilFunc, .nilFunc]) w := by kernel_rfl
theorem zlook {f : ByteArray → Option Value} {m n : Nat} {W : World} (h : MapF Tryz.prog 9 m n f W) (op : ByteArray) (hs : op.size ≤ maxLen) :
    (Instr.lookup 64 (.map (some m)) (.string op) true).run Tryz.prog W = .ok (.tuple #[(f op).getD (.agg #[.nilFunc, .nilFunc]), .bool (f op).isSome]) W :=
  h.look (Maps.string_keyed (P := Tryz.prog) Tryz.underlying9) Tryz.underlying64 (zop_zero W) op (WideMaps.keyOf_string_mk Tryz.underlying9 hs)

set_option maxHeartbeats 4000000 in
theorem ztake_none (op : ByteArray) (hs : op.size ≤ maxLen) (f) (m n : Nat) (a : Option Addr) (k c : Nat) (w : World) (hM : MapF Tryz.prog 9 m n f w) (hf : f op = none) :
    Calls Tryz.prog 44 #[.map (some m), .string op, .slice a k c] w fun e w' => e = .returned (bad 2).val ∧ Kept w w' := by
  obtain ⟨W0, hW0⟩ : ∃ W, w.alloc (.cells opZ opT) = W := ⟨_, rfl⟩
  have k0 : Kept w W0 := by rw [← hW0]; exact (Kept.refl _).alloc _
  have b0 : Blk W0 w.heap.size opT opZ := by rw [← hW0]; exact Blk.new _ _ _
  have hl := zlook (hM.only (S := fun _ => False) (Only.of_kept k0) (fun h => h)) op hs
  rw [hf] at hl
  simp only [Option.getD_none, Option.isSome_none] at hl
  obtain ⟨W2, hW2⟩ : ∃ W, W0.alloc (.cells #[.nilFunc, .nilFunc] 107) = W := ⟨_, rfl⟩
  have k2 : Kept W0 W2 := by rw [← hW2]; exact (Kept.refl _).alloc _
  have b2 : Blk W2 W0.heap.size 107 #[.nilFunc, .nilFunc] := by rw [← hW2]; exact Blk.new _ _ _
  obtain ⟨W1, hW1⟩ : ∃ W, (W2.setCell ⟨W0.heap.size, 0, none⟩ (.nilFunc)).setCell ⟨W0.heap.size, 1, none⟩ (.nilFunc) = W := ⟨_, rfl⟩
  have k1 : Kept W0 W1 := by rw [← hW1]; exact (k2.setCell (Nat.le_refl _) _).setCell (Nat.le_refl _) _
  have b1 : Blk W1 W0.heap.size 107 #[.nilFunc, .nilFunc] := by rw [← hW1]; have := (b2.put 0 (.nilFunc)).put 1 (.nilFunc); simpa using this
  have r0 : W2.cell? ⟨W0.heap.size, 0, none⟩ = some .nilFunc := b2.cell 0
  have r1 : W2.cell? ⟨W0.heap.size, 1, none⟩ = some .nilFunc := b2.cell 1
  have r2 : W2.frozen? ⟨W0.heap.size, 0, none⟩ = false := b2.frozen 0
  have r3 : W2.frozen? ⟨W0.heap.size, 1, none⟩ = false := b2.frozen 1
  have HW2 := Lib.hid hW2
  clear hW2 k2 b2
  have HB1 := Lib.hid (b0.kept k1)
  have HK1 := Lib.hid (k0.trans k1)
  obtain ⟨z0, z1, z2, g0, g1, g2⟩ := blk3 HB1.out
  have HW0 := Lib.hid hW0
  have HW1 := Lib.hid hW1
  clear hW0 hW1 k0 k1 b0 b1 hM hf hs
  go_enter Tryz.func44, Tryz.ntmps44
  go_wp2_with (first | rw [HW0.out] | rw [HW2.out] | rw [HW1.out] | rw [hl])
  exact op_end (r := bad 2) (by rfl) rfl rfl rfl HB1.out HK1.out

def zans (ts : List ByteArray) (r : R) : R := if ts.all Wrd.typ = true then r else bad 7

set_option maxHeartbeats 4000000 in
theorem ztake_nil (op : ByteArray) (hs : op.size ≤ maxLen) (f) (m n : Nat) (F : Nat) (r : R) (ts : List ByteArray) (hlen : ts.length ≤ 2) (hts : ∀ t ∈ ts, t.size ≤ 9223372036854775807) (a : Option Addr) (k c : Nat) (w : World) (hT : Tb w) (hM : MapF Tryz.prog 9 m n f w) (hf : f op = some (wayV F .nilFunc))
    (h : TxR w (.slice a k c) ts) (heg : ∀ args w, (callFunc F args).run Tryz.prog w = .ok (.enter F args) w) (hF : ∀ W, Kept w W → Calls Tryz.prog F #[.slice a k c] W fun e w' => e = .returned r.val ∧ Kept W w') :
    Calls Tryz.prog 44 #[.map (some m), .string op, .slice a k c] w fun e w' => e = .returned (zans ts r).val ∧ Kept w w' := by
  obtain rfl : k = ts.length := by obtain ⟨_, _, e, _⟩ := h; injection e
  obtain ⟨W0, hW0⟩ : ∃ W, w.alloc (.cells opZ opT) = W := ⟨_, rfl⟩
  have k0 : Kept w W0 := by rw [← hW0]; exact (Kept.refl _).alloc _
  have b0 : Blk W0 w.heap.size opT opZ := by rw [← hW0]; exact Blk.new _ _ _
  have hl := zlook (hM.only (S := fun _ => False) (Only.of_kept k0) (fun h => h)) op hs
  rw [hf] at hl
  simp only [Option.getD_some, Option.isSome_some] at hl
  obtain ⟨W2, hW2⟩ : ∃ W, W0.alloc (.cells #[.nilFunc, .nilFunc] 107) = W := ⟨_, rfl⟩
  have k2 : Kept W0 W2 := by rw [← hW2]; exact (Kept.refl _).alloc _
  have b2 : Blk W2 W0.heap.size 107 #[.nilFunc, .nilFunc] := by rw [← hW2]; exact Blk.new _ _ _
  obtain ⟨W1, hW1⟩ : ∃ W, (W2.setCell ⟨W0.heap.size, 0, none⟩ (fnV F)).setCell ⟨W0.heap.size, 1, none⟩ (.nilFunc) = W := ⟨_, rfl⟩
  have k1 : Kept W0 W1 := by rw [← hW1]; exact (k2.setCell (Nat.le_refl _) _).setCell (Nat.le_refl _) _
  have b1 : Blk W1 W0.heap.size 107 #[fnV F, .nilFunc] := by rw [← hW1]; have := (b2.put 0 (fnV F)).put 1 (.nilFunc); simpa using this
  have r0 : W2.cell? ⟨W0.heap.size, 0, none⟩ = some .nilFunc := b2.cell 0
  have r1 : W2.cell? ⟨W0.heap.size, 1, none⟩ = some .nilFunc := b2.cell 1
  have r2 : W2.frozen? ⟨W0.heap.size, 0, none⟩ = false := b2.frozen 0
  have r3 : W2.frozen? ⟨W0.heap.size, 1, none⟩ = false := b2.frozen 1
  have HW2 := Lib.hid hW2
  clear hW2 k2 b2
  have HB := Lib.hid (b0.kept k1)
  have HB1 := Lib.hid b1
  have HK1 := Lib.hid (k0.trans k1)
  have HTb := Lib.hid (hT.kept (k0.trans k1))
  have HR := Lib.hid (h.kept (k0.trans k1))
  have HW0 := Lib.hid hW0
  have HW1 := Lib.hid hW1
  have HF := Lib.hid hF
  have HTS := Lib.hid hts
  have hcap : (ts.length : Int) ≤ 2 := by omega
  clear hW0 hW1 k0 k1 b0 b1 hM hf hs hF hts h hT
  go_enter Tryz.func44, Tryz.ntmps44
  go_wp2_with (first | rw [HW0.out] | rw [HW2.out] | rw [HW1.out] | rw [hl])
  go_loopw [11, 23] (fun u q wr => ∃ k : Nat, q = .int .i64 k ∧ k ≤ ts.length ∧ Hid ((ts.take k).all Wrd.typ = true) ∧ Hid (Kept W1 wr)) (fun u q wr => ts.length - (intOf q).toNat)
  case atStart => exact ⟨0, rfl, Nat.zero_le _, Lib.hid rfl, Lib.hid (Kept.refl _)⟩
  case round =>
    obtain ⟨k, rfl, hk, HA, HKR⟩ := hrel
    by_cases hlt : k < ts.length
    · have hltI : (k : Int) < (ts.length : Int) := by omega
      have hx : ts[k]? = some ts[k] := List.getElem?_eq_getElem hlt
      have hmem := HTS.out ts[k] (List.getElem_mem hlt)
      generalize hy : ts[k] = y at hx hmem
      obtain ⟨a', c', e, _, _, hat⟩ := HR.out.kept HKR.out
      injection e with e1 e2 e3
      subst e1 e3
      obtain ⟨b, o, rfl, hc⟩ := hat k y hx
      unfold TxB at hc
      rw [Nat.mul_one] at hc
      have HC := Lib.hid (type_c y wr (HTb.out.kept HKR.out) hmem)
      have HX := Lib.hid hx
      have hnk : ¬ ((ts.length : Int) ≤ (k : Int)) := by omega
      clear hx hy e2 hat hmem
      obtain ⟨wq, hwq⟩ : ∃ wq, wq = wr := ⟨_, rfl⟩
      rw [← hwq] at hc HC HKR ⊢
      clear hwq
      go_wp2_with fail
      refine HC.out.mono ?_
      rintro e w2 ⟨rfl, k2⟩
      have HK2 := Lib.hid (HKR.out.trans k2)
      clear k2
      cases hty : Wrd.typ y with
      | false =>
        have HE := Lib.hid (show zans ts r = bad 7 from if_neg (by
          intro h0
          have := List.all_eq_true.1 h0 y (List.mem_of_getElem? HX.out)
          rw [hty] at this
          cases this))
        clear hty
        have HB2 := Lib.hid (HB.out.kept HK2.out)
        have HK3 := Lib.hid (HK1.out.trans HK2.out)
        obtain ⟨z0, z1, z2, g0, g1, g2⟩ := blk3 HB2.out
        go_wp2_with fail
        rw [HE.out]
        exact op_end (r := bad 7) (by rfl) rfl rfl rfl HB2.out HK3.out
      | true =>
        have HA2 := Lib.hid (show (ts.take (k + 1)).all Wrd.typ = true by
          rw [List.take_add_one, HX.out, List.all_append, HA.out]
          simp [hty])
        clear hty
        go_wp2_with fail
        go_roundw
        case rel => exact ⟨k + 1, by go_num, by omega, HA2, HK2⟩
        case measure => simp [intOf]; omega
    · obtain rfl : k = ts.length := by omega
      have HE := Lib.hid (show zans ts r = r from if_pos (by have := HA.out; rw [List.take_length] at this; exact this))
      have p0 := (HB1.out.kept HKR.out).cell 0
      have p1 := (HB1.out.kept HKR.out).cell 1
      simp at p0 p1
      obtain ⟨wq, hwq⟩ : ∃ wq, wq = wr := ⟨_, rfl⟩
      rw [← hwq] at p0 p1 HKR ⊢
      clear hwq
      have HC := Lib.hid (HF.out wq (HK1.out.trans HKR.out))
      go_wp2_with fail
      refine HC.out.mono ?_
      rintro e w2 ⟨rfl, k2⟩
      have HB2 := Lib.hid ((HB.out.kept HKR.out).kept k2)
      have HK3 := Lib.hid ((HK1.out.trans HKR.out).trans k2)
      obtain ⟨z0, z1, z2, g0, g1, g2⟩ := blk3 HB2.out
      clear k2
      unfold Zp.R.val
      go_wp2_with fail
      rw [HE.out]
      exact op_end (by rfl) rfl rfl rfl HB2.out HK3.out

set_option maxHeartbeats 4000000 in
theorem ztake_fn (op : ByteArray) (hs : op.size ≤ maxLen) (f) (m n : Nat) (F : Nat) (G : Nat) (r : R) (ts : List ByteArray) (hlen : ts.length ≤ 2) (hts : ∀ t ∈ ts, t.size ≤ 9223372036854775807) (a : Option Addr) (k c : Nat) (w : World) (hT : Tb w) (hM : MapF Tryz.prog 9 m n f w) (hf : f op = some (wayV F (fnV G)))
    (h : TxR w (.slice a k c) ts) (heg : ∀ args w, (callFunc F args).run Tryz.prog w = .ok (.enter F args) w) (hF : ∀ W, Kept w W → Calls Tryz.prog F #[.slice a k c] W fun e w' => e = .returned r.val ∧ Kept W w') :
    Calls Tryz.prog 44 #[.map (some m), .string op, .slice a k c] w fun e w' => e = .returned (zans ts r).val ∧ Kept w w' := by
  obtain rfl : k = ts.length := by obtain ⟨_, _, e, _⟩ := h; injection e
  obtain ⟨W0, hW0⟩ : ∃ W, w.alloc (.cells opZ opT) = W := ⟨_, rfl⟩
  have k0 : Kept w W0 := by rw [← hW0]; exact (Kept.refl _).alloc _
  have b0 : Blk W0 w.heap.size opT opZ := by rw [← hW0]; exact Blk.new _ _ _
  have hl := zlook (hM.only (S := fun _ => False) (Only.of_kept k0) (fun h => h)) op hs
  rw [hf] at hl
  simp only [Option.getD_some, Option.isSome_some] at hl
  obtain ⟨W2, hW2⟩ : ∃ W, W0.alloc (.cells #[.nilFunc, .nilFunc] 107) = W := ⟨_, rfl⟩
  have k2 : Kept W0 W2 := by rw [← hW2]; exact (Kept.refl _).alloc _
  have b2 : Blk W2 W0.heap.size 107 #[.nilFunc, .nilFunc] := by rw [← hW2]; exact Blk.new _ _ _
  obtain ⟨W1, hW1⟩ : ∃ W, (W2.setCell ⟨W0.heap.size, 0, none⟩ (fnV F)).setCell ⟨W0.heap.size, 1, none⟩ (fnV G) = W := ⟨_, rfl⟩
  have k1 : Kept W0 W1 := by rw [← hW1]; exact (k2.setCell (Nat.le_refl _) _).setCell (Nat.le_refl _) _
  have b1 : Blk W1 W0.heap.size 107 #[fnV F, fnV G] := by rw [← hW1]; have := (b2.put 0 (fnV F)).put 1 (fnV G); simpa using this
  have r0 : W2.cell? ⟨W0.heap.size, 0, none⟩ = some .nilFunc := b2.cell 0
  have r1 : W2.cell? ⟨W0.heap.size, 1, none⟩ = some .nilFunc := b2.cell 1
  have r2 : W2.frozen? ⟨W0.heap.size, 0, none⟩ = false := b2.frozen 0
  have r3 : W2.frozen? ⟨W0.heap.size, 1, none⟩ = false := b2.frozen 1
  have HW2 := Lib.hid hW2
  clear hW2 k2 b2
  have HB := Lib.hid (b0.kept k1)
  have HB1 := Lib.hid b1
  have HK1 := Lib.hid (k0.trans k1)
  have HTb := Lib.hid (hT.kept (k0.trans k1))
  have HR := Lib.hid (h.kept (k0.trans k1))
  have HW0 := Lib.hid hW0
  have HW1 := Lib.hid hW1
  have HF := Lib.hid hF
  have HTS := Lib.hid hts
  have hcap : (ts.length : Int) ≤ 2 := by omega
  clear hW0 hW1 k0 k1 b0 b1 hM hf hs hF hts h hT
  go_enter Tryz.func44, Tryz.ntmps44
  go_wp2_with (first | rw [HW0.out] | rw [HW2.out] | rw [HW1.out] | rw [hl])
  go_loopw [11, 23] (fun u q wr => ∃ k : Nat, q = .int .i64 k ∧ k ≤ ts.length ∧ Hid ((ts.take k).all Wrd.typ = true) ∧ Hid (Kept W1 wr)) (fun u q wr => ts.length - (intOf q).toNat)
  case atStart => exact ⟨0, rfl, Nat.zero_le _, Lib.hid rfl, Lib.hid (Kept.refl _)⟩
  case round =>
    obtain ⟨k, rfl, hk, HA, HKR⟩ := hrel
    by_cases hlt : k < ts.length
    · have hltI : (k : Int) < (ts.length : Int) := by omega
      have hx : ts[k]? = some ts[k] := List.getElem?_eq_getElem hlt
      have hmem := HTS.out ts[k] (List.getElem_mem hlt)
      generalize hy : ts[k] = y at hx hmem
      obtain ⟨a', c', e, _, _, hat⟩ := HR.out.kept HKR.out
      injection e with e1 e2 e3
      subst e1 e3
      obtain ⟨b, o, rfl, hc⟩ := hat k y hx
      unfold TxB at hc
      rw [Nat.mul_one] at hc
      have HC := Lib.hid (type_c y wr (HTb.out.kept HKR.out) hmem)
      have HX := Lib.hid hx
      have hnk : ¬ ((ts.length : Int) ≤ (k : Int)) := by omega
      clear hx hy e2 hat hmem
      obtain ⟨wq, hwq⟩ : ∃ wq, wq = wr := ⟨_, rfl⟩
      rw [← hwq] at hc HC HKR ⊢
      clear hwq
      go_wp2_with fail
      refine HC.out.mono ?_
      rintro e w2 ⟨rfl, k2⟩
      have HK2 := Lib.hid (HKR.out.trans k2)
      clear k2
      cases hty : Wrd.typ y with
      | false =>
        have HE := Lib.hid (show zans ts r = bad 7 from if_neg (by
          intro h0
          have := List.all_eq_true.1 h0 y (List.mem_of_getElem? HX.out)
          rw [hty] at this
          cases this))
        clear hty
        have HB2 := Lib.hid (HB.out.kept HK2.out)
        have HK3 := Lib.hid (HK1.out.trans HK2.out)
        obtain ⟨z0, z1, z2, g0, g1, g2⟩ := blk3 HB2.out
        go_wp2_with fail
        rw [HE.out]
        exact op_end (r := bad 7) (by rfl) rfl rfl rfl HB2.out HK3.out
      | true =>
        have HA2 := Lib.hid (show (ts.take (k + 1)).all Wrd.typ = true by
          rw [List.take_add_one, HX.out, List.all_append, HA.out]
          simp [hty])
        clear hty
        go_wp2_with fail
        go_roundw
        case rel => exact ⟨k + 1, by go_num, by omega, HA2, HK2⟩
        case measure => simp [intOf]; omega
    · obtain rfl : k = ts.length := by omega
      have HE := Lib.hid (show zans ts r = r from if_pos (by have := HA.out; rw [List.take_length] at this; exact this))
      have p0 := (HB1.out.kept HKR.out).cell 0
      have p1 := (HB1.out.kept HKR.out).cell 1
      simp at p0 p1
      obtain ⟨wq, hwq⟩ : ∃ wq, wq = wr := ⟨_, rfl⟩
      rw [← hwq] at p0 p1 HKR ⊢
      clear hwq
      have HC := Lib.hid (HF.out wq (HK1.out.trans HKR.out))
      go_wp2_with fail
      refine HC.out.mono ?_
      rintro e w2 ⟨rfl, k2⟩
      have HB2 := Lib.hid ((HB.out.kept HKR.out).kept k2)
      have HK3 := Lib.hid ((HK1.out.trans HKR.out).trans k2)
      obtain ⟨z0, z1, z2, g0, g1, g2⟩ := blk3 HB2.out
      clear k2
      unfold Zp.R.val
      go_wp2_with fail
      rw [HE.out]
      exact op_end (by rfl) rfl rfl rfl HB2.out HK3.out

theorem ztake_some (op : ByteArray) (hs : op.size ≤ maxLen) (f) (m n : Nat) (F : Nat) (g : Value) (r : R) (ts : List ByteArray) (hlen : ts.length ≤ 2) (hts : ∀ t ∈ ts, t.size ≤ 9223372036854775807) (a : Option Addr) (k c : Nat) (w : World) (hT : Tb w) (hM : MapF Tryz.prog 9 m n f w) (hf : f op = some (wayV F g)) (hg : g = .nilFunc ∨ ∃ G, g = fnV G)
    (h : TxR w (.slice a k c) ts) (heg : ∀ args w, (callFunc F args).run Tryz.prog w = .ok (.enter F args) w) (hF : ∀ W, Kept w W → Calls Tryz.prog F #[.slice a k c] W fun e w' => e = .returned r.val ∧ Kept W w') :
    Calls Tryz.prog 44 #[.map (some m), .string op, .slice a k c] w fun e w' => e = .returned (zans ts r).val ∧ Kept w w' := by
  rcases hg with rfl | ⟨G, rfl⟩
  · exact ztake_nil op hs f m n F r ts hlen hts a k c w hT hM hf h heg hF
  · exact ztake_fn op hs f m n F G r ts hlen hts a k c w hT hM hf h heg hF
end Go.Proofs.YtcaailiijmjdlaaGreatDoor
