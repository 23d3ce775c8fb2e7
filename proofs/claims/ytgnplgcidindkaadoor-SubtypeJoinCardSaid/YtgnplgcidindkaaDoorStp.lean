/- The laws' list of a table's types; which one a number picks. -/
import Derived.Test.YtgnplgcidindkaaDoorShs
set_option linter.unusedSimpArgs false
set_option linter.unusedVariables false
set_option maxRecDepth 100000
namespace Go.Proofs.YtgnplgcidindkaaDoor
open Go.ChangeShapes Go.WideShapes Go.ChangeAt Go.RowKit

/-- Which of n things a number picks. -/
def pickN (x : Int) (n : Nat) : Nat := (if x.tmod n < 0 then x.tmod n + n else x.tmod n).toNat

theorem tmod_bounds (x : Int) {n : Nat} (h0 : 0 < n) : -(n : Int) < x.tmod n ∧ x.tmod n < (n : Int) := by
  rcases Int.natAbs_eq x with h | h
  · rw [h, show ((x.natAbs : Int)).tmod (n : Int) = ((x.natAbs % n : Nat) : Int) from (Int.ofNat_tmod _ _).symm]
    have := Nat.mod_lt x.natAbs h0; omega
  · rw [h, Int.neg_tmod, show ((x.natAbs : Int)).tmod (n : Int) = ((x.natAbs % n : Nat) : Int) from (Int.ofNat_tmod _ _).symm]
    have := Nat.mod_lt x.natAbs h0; omega

theorem pickN_lt (x : Int) {n : Nat} (h0 : 0 < n) : pickN x n < n := by
  obtain ⟨h1, h2⟩ := tmod_bounds x h0
  unfold pickN
  split <;> omega

theorem pick_v (x : Int) (n : Nat) (w : World) (h0 : 0 < n) (hn : n ≤ 1000) (h1 : -9223372036854775808 ≤ x) (h2 : x ≤ 9223372036854775807) :
    Calls Tryd.prog 23 #[.int .i64 x, .int .i64 n] w fun e w' => e = .returned (.int .i64 (pickN x n : Int)) ∧ w' = w := by
  have hnI : ¬ (n : Int) ≤ 0 := by omega
  have hne : ¬ (n : Int) = 0 := by omega
  obtain ⟨hm1, hm2⟩ := tmod_bounds x h0
  have HP := Lib.hid (show (pickN x n : Int) = if x.tmod n < 0 then x.tmod n + n else x.tmod n by unfold pickN; split <;> omega)
  generalize pickN x n = pn at HP ⊢
  generalize hr : x.tmod n = r at hm1 hm2 HP
  by_cases hneg : r < 0
  · have HQ := Lib.hid (show (pn : Int) = r + n by rw [HP.out, if_pos hneg])
    go_enter Tryd.func23, Tryd.ntmps23
    go_wp2_with fail
    go_ret
    exact ⟨by rw [HQ.out]; first | rfl | (congr 2; go_num), rfl⟩
  · have HQ := Lib.hid (show (pn : Int) = r by rw [HP.out, if_neg hneg])
    go_enter Tryd.func23, Tryd.ntmps23
    go_wp2_with fail
    go_ret
    exact ⟨by rw [HQ.out]; rfl, rfl⟩

/-- All types of a table. -/
def typL (t : List Tab.C) (j : Nat) : List ByteArray := Tab.basics ++ (t.map Tab.C.name).take j
def typs (t : List Tab.C) : List ByteArray := typL t t.length

theorem typL_len (t : List Tab.C) {j : Nat} (hj : j ≤ t.length) : (typL t j).length = 6 + j := by
  unfold typL Tab.basics
  simp
  omega
theorem typL_next {t : List Tab.C} {j : Nat} (hj : j < t.length) : typL t (j + 1) = typL t j ++ [(Tab.nth t j).name] := by
  unfold typL
  rw [List.take_add_one, List.getElem?_map, Tab.of_nth hj]
  simp
theorem typs_typ {t : List Tab.C} (ho : Tab.ok t = true) {s : ByteArray} (h : s ∈ typs t) : Tab.isT t s = true := by
  have hv := Tab.ok_valid ho
  unfold typs typL at h
  rw [List.take_of_length_le (by simp)] at h
  rcases List.mem_append.1 h with h | h
  · exact Tab.isT_own h
  · obtain ⟨c, hc, rfl⟩ := List.mem_map.1 h
    obtain ⟨i, hi, rfl⟩ := List.getElem_of_mem hc
    have := hv.isC hi
    rw [Tab.nth_of (List.getElem?_eq_getElem hi)] at this
    exact Tab.isT_cls this

def TyR (w : World) (l : List ByteArray) (v : Value) (W : World) : Prop := W.ownsRow w.heap.size 9 1 v l.length (l.map Value.string) ∧ Kept w W

theorem TyR.next {w W X w2 : World} {l : List ByteArray} {v v' : Value} {x : ByteArray} (h : TyR w l v W) (hk : Kept W X) (hr : w2.ownsRow w.heap.size 9 1 v' (l.length + 1) (l.map Value.string ++ [.string x])) (hg : X.grownBy w2 v.ownBlock) : TyR w (l ++ [x]) v' w2 :=
  ⟨by simpa using hr, (h.2.trans hk).grown hg fun k e => (owns_block h.1 e).1⟩
theorem TyR.keep {w W X : World} {l : List ByteArray} {v : Value} (h : TyR w l v W) (hk : Kept W X) : TyR w l v X :=
  ⟨owns_only (S := fun _ => False) h.1 (Only.of_kept hk) (fun _ _ h => h), h.2.trans hk⟩

theorem src_txt (w : World) (x : ByteArray) : Src Tryd.prog 1 56 (.slice (some ⟨w.heap.size, 0, none⟩) 1 1) 1 [.string x] (w.alloc (.cells #[.string x] 9)) :=
  Src.ofSlice (P := Tryd.prog) (size := 1) (tx := 56) _ Tryd.underlying56 ⟨w.heap.size, 0, none⟩ 1 1 [.string x] rfl (cell_one_new w _ _) (by simp [Value.oneCell'])

theorem types_start (t : List Tab.C) (w : World) : TyR w (typL t 0) (.slice (some ⟨w.heap.size, 0, none⟩) 6 6) (w.alloc (.cells #[.string ⟨#[105, 110, 116]⟩, .string ⟨#[114, 101, 97, 108]⟩, .string ⟨#[98, 111, 111, 108]⟩, .string ⟨#[115, 116, 114]⟩, .string ⟨#[117, 110, 105, 116]⟩, .string ⟨#[63]⟩] 9)) :=
  ⟨⟨by rw [List.length_map]; simp, .inr ⟨w.heap.size, 6, _, rfl, Nat.le_refl _, Blk.new w _ _, Nat.le_refl _, by decide, rfl, rfl⟩⟩, (Kept.refl w).alloc _⟩

set_option maxHeartbeats 2000000 in
theorem types6_c (t : List Tab.C) (a : Option Addr) (cp : Nat) (w : World) (h : TabAt w (.slice a t.length cp) t) (ht : t.length ≤ 1000) :
    Calls Tryd.prog 33 #[.slice a t.length cp] w fun e w' => ∃ v, e = .returned v ∧ TyR w (typs t) v w' := by
  obtain ⟨i0, hi, hz0, hzz1, hzz2⟩ := info_parts info_str
  have HT := Lib.hid h
  clear h
  go_enter Tryd.func33, Tryd.ntmps33
  go_wp2_with fail
  go_loopw [3, 4] (fun l q wr => ∃ j : Nat, q = .int .i64 j ∧ j ≤ t.length ∧ TyR w (typL t j) l wr) (fun l q wr => t.length - (intOf q).toNat)
  case atStart => exact ⟨0, rfl, Nat.zero_le _, types_start t w⟩
  case round =>
    obtain ⟨j, rfl, hj, hR⟩ := hrel
    have hlen := typL_len t hj
    by_cases hlt : j < t.length
    · have hltI : (j : Int) < (t.length : Int) := by omega
      obtain ⟨b, o, rfl, hcl⟩ := Row.cellsC (tab_kept HT.out hR.2) hlt
      have hcp : j ≤ cp := by obtain ⟨_, c', e, h1, h2, _⟩ := HT.out; injection e with _ _ e3; subst e3; omega
      have c0 := hcl.1
      have HX := Lib.hid (typL_next hlt)
      obtain ⟨nj, hnj⟩ : ∃ nj, (Tab.nth t j).name = nj := ⟨_, rfl⟩
      rw [hnj] at c0 HX
      have HM := Lib.hid hR
      obtain ⟨la, ln, lc, rfl⟩ := owns_slice hR.1
      have HRX := Lib.hid (hR.keep ((Kept.refl wr).alloc (.cells #[.string nj] 9)))
      have HSX := Lib.hid (src_txt wr nj)
      have hlw := hR.2.size
      clear hR hcl hnj
      go_wp2_with (at_builtin; refine wpList_apk rfl (.tmp 12) (.tmp 18) 56 56 rfl w.heap.size 1 9 i0 _ 16 Tryd.underlying56 hi hz0 hzz1 hzz2 rfl rfl HRX.out.1 rfl HSX.out (by unfold maxLen; omega) (by omega) (by simp; omega) ?_; intro v' w2 hown' hgrow hlies; have HN := Lib.hid (HRX.out.next (Kept.refl _) hown' hgrow); obtain ⟨va', vn', vc', rfl⟩ := owns_slice hown'; clear hown' hgrow hlies)
      go_roundw
      case rel => exact ⟨j + 1, by go_num, by omega, by rw [HX.out]; exact HN.out⟩
      case measure => simp [intOf]; omega
    · have hltI : ¬ (j : Int) < (t.length : Int) := by omega
      obtain rfl : j = t.length := by omega
      have HM := Lib.hid hR
      obtain ⟨la, ln, lc, rfl⟩ := owns_slice hR.1
      clear hR
      go_wp2_with fail
      go_ret
      exact ⟨_, rfl, HM.out⟩

end Go.Proofs.YtgnplgcidindkaaDoor
