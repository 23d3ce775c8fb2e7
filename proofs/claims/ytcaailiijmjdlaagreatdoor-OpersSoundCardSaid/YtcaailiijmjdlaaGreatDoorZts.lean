/- Bin, Un and Conv: what is told of types. -/
import Derived.Test.YtcaailiijmjdlaaGreatDoorZtr
set_option linter.unusedSimpArgs false
set_option linter.unusedVariables false
set_option maxRecDepth 100000
namespace Go.Proofs.YtcaailiijmjdlaaGreatDoor
open Go.ChangeShapes Go.WideShapes Go.ChangeAt Go.RowKit
attribute [local go_sem] Oper.semAt_some
open Zp (e0 dy R oper both one goes orR bad tI tR tB tS K oOr oAnd oEq oNe oLt oLe oAdd oSub oMul oDiv oMod oNot cLen binK unK convK binV unV convV)

def isBin : K → Bool
  | .any => true | .truths => true | .ordered => true | .added => true | .numbers => true | .wholes => true | _ => false
theorem fnK_eg (k : K) : ∀ args w, (callFunc (fnK k) args).run Tryz.prog w = .ok (.enter (fnK k) args) w := by
  cases k <;> exact fun args w => rfl
theorem binK_bin {op : ByteArray} {k : K} (h : binK op = some k) : isBin k = true := by
  unfold binK at h
  repeat' split at h
  all_goals first | (cases h; rfl) | cases h
theorem unK_un {op : ByteArray} {k : K} (h : unK op = some k) : isBin k = false := by
  unfold unK at h
  repeat' split at h
  all_goals first | (cases h; rfl) | cases h
theorem convK_un {op : ByteArray} {k : K} (h : convK op = some k) : isBin k = false := by
  unfold convK at h
  repeat' split at h
  all_goals first | (cases h; rfl) | cases h
theorem zk_bin (k : K) (hk : isBin k = true) (l r : ByteArray) (a c) (w : World) (h : TxR w (.slice a 2 c) [l, r]) : Calls Tryz.prog (fnK k) #[.slice a 2 c] w fun e w' => e = .returned (k.take l r).val ∧ Kept w w' := by
  cases k
  · exact zk_whatever l r _ w
  · exact zk_truths l r a c w h
  · exact zk_ordered l r a c w h
  · exact zk_added l r a c w h
  · exact zk_numbers l r a c w h
  · exact zk_wholes l r a c w h
  all_goals cases hk
theorem zk_un (k : K) (hk : isBin k = false) (l : ByteArray) (a c) (w : World) (h : TxR w (.slice a 1 c) [l]) : Calls Tryz.prog (fnK k) #[.slice a 1 c] w fun e w' => e = .returned (k.take l e0).val ∧ Kept w w' := by
  cases k
  iterate 6 cases hk
  · exact zk_signed l a c w h
  · exact zk_truth l a c w h
  · exact zk_toReal l a c w h
  · exact zk_toInt l a c w h
  · exact zk_toLength l a c w h

def Small (s : ByteArray) : Prop := s.size ≤ 9223372036854775807
theorem small_max {s : ByteArray} (h : Small s) : s.size ≤ maxLen := by unfold Small at h; unfold maxLen; omega

theorem ztake_bin {op l r : ByteArray} (ho : Small op) (hl : Small l) (hr : Small r) {m n : Nat} {a : Option Addr} {c : Nat} {w : World} (hT : Tb w) (hM : MapF Tryz.prog 9 m n binF w) (h : TxR w (.slice a 2 c) [l, r]) :
    Calls Tryz.prog 44 #[.map (some m), .string op, .slice a 2 c] w fun e w' => e = .returned (binV op l r).val ∧ Kept w w' := by
  cases hk : binK op with
  | none =>
    have := ztake_none op (small_max ho) binF m n a 2 c w hM (binF_none hk)
    unfold binV
    rw [hk]
    exact this
  | some k =>
    obtain ⟨g, hg, hf⟩ := binF_some hk
    have := ztake_some op (small_max ho) binF m n (fnK k) g (k.take l r) [l, r] (by simp) (by intro t ht; simp at ht; rcases ht with e | e <;> subst e <;> assumption) a 2 c w hT hM hf hg h (fnK_eg k) (fun W hW => zk_bin k (binK_bin hk) l r a c W (h.kept hW))
    have e : binV op l r = zans [l, r] (k.take l r) := by
      unfold binV zans
      rw [hk]
      cases h1 : Wrd.typ l <;> cases h2 : Wrd.typ r <;> simp [h1, h2]
    rw [e]
    exact this
theorem ztake_un {op l : ByteArray} (ho : Small op) (hl : Small l) {m n : Nat} {a : Option Addr} {c : Nat} {w : World} (hT : Tb w) (hM : MapF Tryz.prog 9 m n unF w) (h : TxR w (.slice a 1 c) [l]) :
    Calls Tryz.prog 44 #[.map (some m), .string op, .slice a 1 c] w fun e w' => e = .returned (unV op l).val ∧ Kept w w' := by
  cases hk : unK op with
  | none =>
    have := ztake_none op (small_max ho) unF m n a 1 c w hM (unF_none hk)
    unfold unV
    rw [hk]
    exact this
  | some k =>
    obtain ⟨g, hg, hf⟩ := unF_some hk
    have := ztake_some op (small_max ho) unF m n (fnK k) g (k.take l e0) [l] (by simp) (by intro t ht; simp at ht; subst ht; exact hl) a 1 c w hT hM hf hg h (fnK_eg k) (fun W hW => zk_un k (unK_un hk) l a c W (h.kept hW))
    have e : unV op l = zans [l] (k.take l e0) := by
      unfold unV zans
      rw [hk]
      cases h1 : Wrd.typ l <;> simp [h1]
    rw [e]
    exact this
theorem ztake_conv {op l : ByteArray} (ho : Small op) (hl : Small l) {m n : Nat} {a : Option Addr} {c : Nat} {w : World} (hT : Tb w) (hM : MapF Tryz.prog 9 m n convF w) (h : TxR w (.slice a 1 c) [l]) :
    Calls Tryz.prog 44 #[.map (some m), .string op, .slice a 1 c] w fun e w' => e = .returned (convV op l).val ∧ Kept w w' := by
  cases hk : convK op with
  | none =>
    have := ztake_none op (small_max ho) convF m n a 1 c w hM (convF_none hk)
    unfold convV
    rw [hk]
    exact this
  | some k =>
    obtain ⟨g, hg, hf⟩ := convF_some hk
    have := ztake_some op (small_max ho) convF m n (fnK k) g (k.take l e0) [l] (by simp) (by intro t ht; simp at ht; subst ht; exact hl) a 1 c w hT hM hf hg h (fnK_eg k) (fun W hW => zk_un k (convK_un hk) l a c W (h.kept hW))
    have e : convV op l = zans [l] (k.take l e0) := by
      unfold convV zans
      rw [hk]
      cases h1 : Wrd.typ l <;> simp [h1]
    rw [e]
    exact this

set_option maxHeartbeats 1000000 in
theorem zbin_c (op l r : ByteArray) (ho : Small op) (hl : Small l) (hr : Small r) (w : World) (hT : Tb w) :
    Calls Tryz.prog 9 #[.string op, .string l, .string r] w fun e w' => e = .returned (binV op l r).val ∧ Kept w w' := by
  obtain ⟨W0, hW0⟩ : ∃ W, w.alloc (.cells opZ opT) = W := ⟨_, rfl⟩
  have k0 : Kept w W0 := by rw [← hW0]; exact (Kept.refl _).alloc _
  have b0 : Blk W0 w.heap.size opT opZ := by rw [← hW0]; exact Blk.new _ _ _
  have HW0 := Lib.hid hW0
  have HK := Lib.hid k0
  have HB := Lib.hid b0
  have HT := Lib.hid hT
  have HS := Lib.hid (And.intro ho (And.intro hl hr))
  clear hW0 k0 b0 hT ho hl hr
  go_enter Tryz.func9, Tryz.ntmps9
  go_wp2_with (first | rw [HW0.out])
  refine (zbin_map W0).mono ?_
  rintro e w1 ⟨rfl, hM, k1⟩
  obtain ⟨W1, hW1⟩ : ∃ W, w1.alloc (.cells #[.string l, .string r] 9) = W := ⟨_, rfl⟩
  have k2 : Kept w1 W1 := by rw [← hW1]; exact (Kept.refl _).alloc _
  have b2 : Blk W1 w1.heap.size 9 ([l, r].map Value.string).toArray := by rw [← hW1]; exact Blk.new _ _ _
  have HC := Lib.hid (ztake_bin HS.out.1 HS.out.2.1 HS.out.2.2 (HT.out.kept ((HK.out.trans k1).trans k2)) (hM.only (S := fun _ => False) (Only.of_kept k2) (fun h => h)) (TxR.lit [l, r] b2 (by simp)))
  have HK2 := Lib.hid ((HK.out.trans k1).trans k2)
  have HB2 := Lib.hid (HB.out.kept (k1.trans k2))
  have HW1 := Lib.hid hW1
  clear hM k1 k2 b2 hW1
  go_wp2_with (first | rw [HW1.out])
  refine HC.out.mono ?_
  rintro e w3 ⟨rfl, k3⟩
  have HB3 := Lib.hid (HB2.out.kept k3)
  have HK3 := Lib.hid (HK2.out.trans k3)
  obtain ⟨z0, z1, z2, g0, g1, g2⟩ := blk3 HB3.out
  clear k3
  unfold Zp.R.val
  go_wp2_with fail
  exact op_end (by rfl) rfl rfl rfl HB3.out HK3.out

set_option maxHeartbeats 1000000 in
theorem zun_c (op l : ByteArray) (ho : Small op) (hl : Small l) (w : World) (hT : Tb w) :
    Calls Tryz.prog 11 #[.string op, .string l] w fun e w' => e = .returned (unV op l).val ∧ Kept w w' := by
  obtain ⟨W0, hW0⟩ : ∃ W, w.alloc (.cells opZ opT) = W := ⟨_, rfl⟩
  have k0 : Kept w W0 := by rw [← hW0]; exact (Kept.refl _).alloc _
  have b0 : Blk W0 w.heap.size opT opZ := by rw [← hW0]; exact Blk.new _ _ _
  have HW0 := Lib.hid hW0
  have HK := Lib.hid k0
  have HB := Lib.hid b0
  have HT := Lib.hid hT
  have HS := Lib.hid (And.intro ho hl)
  clear hW0 k0 b0 hT ho hl
  go_enter Tryz.func11, Tryz.ntmps11
  go_wp2_with (first | rw [HW0.out])
  refine (zun_map W0).mono ?_
  rintro e w1 ⟨rfl, hM, k1⟩
  obtain ⟨W1, hW1⟩ : ∃ W, w1.alloc (.cells #[.string l] 9) = W := ⟨_, rfl⟩
  have k2 : Kept w1 W1 := by rw [← hW1]; exact (Kept.refl _).alloc _
  have b2 : Blk W1 w1.heap.size 9 ([l].map Value.string).toArray := by rw [← hW1]; exact Blk.new _ _ _
  have HC := Lib.hid (ztake_un HS.out.1 HS.out.2 (HT.out.kept ((HK.out.trans k1).trans k2)) (hM.only (S := fun _ => False) (Only.of_kept k2) (fun h => h)) (TxR.lit [l] b2 (by simp)))
  have HK2 := Lib.hid ((HK.out.trans k1).trans k2)
  have HB2 := Lib.hid (HB.out.kept (k1.trans k2))
  have HW1 := Lib.hid hW1
  clear hM k1 k2 b2 hW1
  go_wp2_with (first | rw [HW1.out])
  refine HC.out.mono ?_
  rintro e w3 ⟨rfl, k3⟩
  have HB3 := Lib.hid (HB2.out.kept k3)
  have HK3 := Lib.hid (HK2.out.trans k3)
  obtain ⟨z0, z1, z2, g0, g1, g2⟩ := blk3 HB3.out
  clear k3
  unfold Zp.R.val
  go_wp2_with fail
  exact op_end (by rfl) rfl rfl rfl HB3.out HK3.out

set_option maxHeartbeats 1000000 in
theorem zconv_c (op l : ByteArray) (ho : Small op) (hl : Small l) (w : World) (hT : Tb w) :
    Calls Tryz.prog 13 #[.string op, .string l] w fun e w' => e = .returned (convV op l).val ∧ Kept w w' := by
  obtain ⟨W0, hW0⟩ : ∃ W, w.alloc (.cells opZ opT) = W := ⟨_, rfl⟩
  have k0 : Kept w W0 := by rw [← hW0]; exact (Kept.refl _).alloc _
  have b0 : Blk W0 w.heap.size opT opZ := by rw [← hW0]; exact Blk.new _ _ _
  have HW0 := Lib.hid hW0
  have HK := Lib.hid k0
  have HB := Lib.hid b0
  have HT := Lib.hid hT
  have HS := Lib.hid (And.intro ho hl)
  clear hW0 k0 b0 hT ho hl
  go_enter Tryz.func13, Tryz.ntmps13
  go_wp2_with (first | rw [HW0.out])
  refine (zconv_map W0).mono ?_
  rintro e w1 ⟨rfl, hM, k1⟩
  obtain ⟨W1, hW1⟩ : ∃ W, w1.alloc (.cells #[.string l] 9) = W := ⟨_, rfl⟩
  have k2 : Kept w1 W1 := by rw [← hW1]; exact (Kept.refl _).alloc _
  have b2 : Blk W1 w1.heap.size 9 ([l].map Value.string).toArray := by rw [← hW1]; exact Blk.new _ _ _
  have HC := Lib.hid (ztake_conv HS.out.1 HS.out.2 (HT.out.kept ((HK.out.trans k1).trans k2)) (hM.only (S := fun _ => False) (Only.of_kept k2) (fun h => h)) (TxR.lit [l] b2 (by simp)))
  have HK2 := Lib.hid ((HK.out.trans k1).trans k2)
  have HB2 := Lib.hid (HB.out.kept (k1.trans k2))
  have HW1 := Lib.hid hW1
  clear hM k1 k2 b2 hW1
  go_wp2_with (first | rw [HW1.out])
  refine HC.out.mono ?_
  rintro e w3 ⟨rfl, k3⟩
  have HB3 := Lib.hid (HB2.out.kept k3)
  have HK3 := Lib.hid (HK2.out.trans k3)
  obtain ⟨z0, z1, z2, g0, g1, g2⟩ := blk3 HB3.out
  clear k3
  unfold Zp.R.val
  go_wp2_with fail
  exact op_end (by rfl) rfl rfl rfl HB3.out HK3.out
end Go.Proofs.YtcaailiijmjdlaaGreatDoor
