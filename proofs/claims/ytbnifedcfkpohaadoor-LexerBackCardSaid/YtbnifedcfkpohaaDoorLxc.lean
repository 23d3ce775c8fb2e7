/- Contract of lexer.Join. -/
import Derived.Test.YtbnifedcfkpohaaDoorLxb
set_option linter.unusedSimpArgs false
set_option linter.unusedVariables false
set_option maxRecDepth 100000
namespace Go.Proofs.YtbnifedcfkpohaaDoor
open Go.ChangeShapes Go.WideShapes Go.ChangeAt Go.RowKit Go.Shelf
attribute [local go_sem] Oper.semAt_some

namespace Lx
/-- Tokens as a source, with one blank between two. -/
def joinB : List T → List UInt8
  | [] => []
  | x :: r => (spl x).data.toList ++ r.flatMap fun y => 32 :: (spl y).data.toList
theorem joinB_snoc (l : List T) (x : T) : joinB (l ++ [x]) = joinB l ++ (if l.length = 0 then [] else [32]) ++ (spl x).data.toList := by
  cases l with
  | nil => simp [joinB]
  | cons y r => simp [joinB]
theorem joinB_le (l m : List T) : (joinB l).length ≤ (joinB (l ++ m)).length := by
  cases l with
  | nil => exact Nat.zero_le _
  | cons y r => simp only [joinB, List.cons_append, List.flatMap_append, List.length_append]; omega
end Lx

set_option maxHeartbeats 8000000 in
theorem join_c (l : List Lx.T) (a : Option Addr) (c : Nat) (w : World) (h : TksAt w (.slice a l.length c) l) (hT : Tb w) (hP : Pw w) (hE : Er w) (hx : ∀ x ∈ l, TokOk x) (hsum : (Lx.joinB l).length ≤ 900000) :
    Calls Tryd.prog 9 #[.slice a l.length c] w fun e w' => e = .returned (spellV (l.all Lx.isTok) ⟨(Lx.joinB l).toArray⟩) ∧ Kept w w' := by
  have hcap : l.length ≤ c ∧ c ≤ maxLen := by
    obtain ⟨a', c', e, h1, h2, h3⟩ := h
    injection e with e1 e2 e3
    subst e1 e3
    exact ⟨h1, h2⟩
  unfold maxLen at hcap
  have HAT : Hid (∀ i (hi : i < l.length) W, Kept w W → ∃ b o, a = some ⟨b, o, none⟩ ∧ TokR W b (o + i * 4) l[i]) := Lib.hid (by
    intro i hi W k
    obtain ⟨a', c', e, h1, h2, h3⟩ := tks_kept h k
    injection e with e1 e2 e3
    subst e1 e3
    exact h3 i l[i] (List.getElem?_eq_getElem hi))
  obtain ⟨W1, hW1⟩ : ∃ W1, w.alloc (.cells #[.pointer none, .slice none 0 0] 48) = W1 := ⟨_, rfl⟩
  have hs1 : w.heap.size ≤ W1.heap.size := by rw [← hW1]; simp
  have HB1 : Hid (Bld w.heap.size w.heap.size [] W1) := Lib.hid (.inl ⟨Nat.le_refl _, .slice none 0 0, by rw [← hW1]; exact heap_alloc_new w _, World.ownsRow_nil _ _ _ _, by simp [Value.ownBlock]⟩)
  have HK1 : Hid (Kept w W1) := Lib.hid (by rw [← hW1]; exact (Kept.refl w).alloc _)
  have HW1 := Lib.hid hW1
  have HT := Lib.hid hT
  have HP := Lib.hid hP
  have HE := Lib.hid hE
  have HX := Lib.hid hx
  have HSUM := Lib.hid hsum
  obtain ⟨R, hR⟩ : ∃ R, l.all Lx.isTok = R := ⟨_, rfl⟩
  rw [hR]
  have HR := Lib.hid hR
  obtain ⟨J, hJ⟩ : ∃ J : ByteArray, ⟨(Lx.joinB l).toArray⟩ = J := ⟨_, rfl⟩
  rw [hJ]
  have HJ := Lib.hid hJ
  clear h hW1 hT hP hE hx hsum hR hJ
  go_enter Tryd.func9, Tryd.ntmps9
  go_wp2_with (rw [HW1.out])
  go_loopw [11] (fun i wr => ∃ k : Nat, k ≤ l.length ∧ i = .int .i64 k ∧ Hid (Bld w.heap.size w.heap.size (Lx.joinB (l.take k)) wr) ∧ Hid (Kept w wr) ∧ Hid (∀ x ∈ l.take k, Lx.isTok x = true) ∧ w.heap.size ≤ wr.heap.size) (fun i wr => l.length - (intOf i).toNat)
  case atStart => exact ⟨0, Nat.zero_le _, rfl, HB1, HK1, Lib.hid (by simp), hs1⟩
  case round =>
    clear HB1 HK1 hs1 HW1
    obtain ⟨k, hk, rfl, HB, HK, HA, hz⟩ := hrel
    by_cases hlt : k < l.length
    · have hltI : (k : Int) < (l.length : Int) := by omega
      obtain ⟨b, o, rfl, g0, g1, g2, g3⟩ := HAT.out k hlt wr HK.out
      have HTK := Lib.hid (show l.take (k + 1) = l.take k ++ [l[k]] from List.take_succ_eq_append_getElem hlt)
      have HXK := Lib.hid (HX.out l[k] (List.getElem_mem hlt))
      have HMEM := Lib.hid (show l[k] ∈ l from List.getElem_mem hlt)
      generalize l[k] = x at *
      have hkl : (l.take k).length = k := by rw [List.length_take]; omega
      have HSN := Lib.hid (show Lx.joinB (l.take (k + 1)) = Lx.joinB (l.take k) ++ (if k = 0 then [] else [32]) ++ (Lx.spl x).data.toList by rw [HTK.out, Lx.joinB_snoc, hkl])
      have HLE := Lib.hid (show (Lx.joinB (l.take (k + 1))).length ≤ 900000 from Nat.le_trans (by have := Lx.joinB_le (l.take (k + 1)) (l.drop (k + 1)); rwa [List.take_append_drop] at this) HSUM.out)
      obtain ⟨W2, hW2⟩ : ∃ W2, wr.alloc (.cells (tC x) 24) = W2 := ⟨_, rfl⟩
      have k2 : Kept wr W2 := by rw [← hW2]; exact (Kept.refl wr).alloc _
      have hb2 : Blk W2 wr.heap.size 24 (tC x) := by rw [← hW2]; exact Blk.new wr _ _
      obtain ⟨d0, d1, d2, d3⟩ : W2.cell? ⟨wr.heap.size, 0, none⟩ = some (.int .i64 x.kind) ∧ W2.cell? ⟨wr.heap.size, 1, none⟩ = some (.string x.text) ∧ W2.cell? ⟨wr.heap.size, 2, none⟩ = some (.int .i64 x.n) ∧ W2.cell? ⟨wr.heap.size, 3, none⟩ = some (.int .i64 x.pos) := ⟨hb2.cell 0, hb2.cell 1, hb2.cell 2, hb2.cell 3⟩
      have HK2 := Lib.hid (HK.out.trans k2)
      have HSP := Lib.hid (spell_c x W2 (HT.out.kept HK2.out) (HP.out.kept HK2.out) (HE.out.kept HK2.out) HXK.out)
      have HB2 := Lib.hid (bld_kept HB.out k2)
      have HW2 := Lib.hid hW2
      have hz2 := k2.size
      cases htk : Lx.isTok x with
      | false =>
        obtain rfl : R = false := by
          rw [← HR.out, Bool.eq_false_iff]
          intro hall
          rw [List.all_eq_true] at hall
          rw [hall x HMEM.out] at htk
          cases htk
        rw [htk] at HSP
        unfold spellV at HSP
        clear htk hW2 k2 hb2 hkl
        go_wp2_with (rw [HW2.out])
        refine HSP.out.mono ?_
        rintro e w3 ⟨rfl, k3⟩
        go_wp2_with fail
        exact bodyPost_ret (results_tmp2 rfl _ _ _) rfl ⟨rfl, HK2.out.trans k3⟩
      | true =>
        have HA2 := Lib.hid (show ∀ y ∈ l.take (k + 1), Lx.isTok y = true from fun y hy => by
          rw [HTK.out] at hy
          rcases List.mem_append.1 hy with h | h
          · exact HA.out y h
          · rw [List.mem_singleton] at h; subst h; exact htk)
        rw [htk] at HSP
        unfold spellV at HSP
        clear htk hW2 k2 hb2 hkl
        generalize Lx.spl x = sp at *
        go_wp2_with (rw [HW2.out])
        refine HSP.out.mono ?_
        rintro e w3 ⟨rfl, k3⟩
        have HB3 := Lib.hid (bld_kept HB2.out k3)
        have HK3 := Lib.hid (HK2.out.trans k3)
        have hz3 := k3.size
        clear k3 HB2 HK2 HSP g0 g1 g2 g3 d0 d1 d2 d3
        by_cases hk0 : k = 0
        · subst hk0
          have hlb : (Lx.joinB (l.take 0)).length + sp.size ≤ 1000000 := by
            have h1 := HLE.out
            rw [HSN.out, if_pos rfl, List.append_nil, List.length_append] at h1
            have hsp : sp.data.toList.length = sp.size := by rw [Array.length_toList]; rfl
            omega
          have HWS := Lib.hid (bstr_c w.heap.size w.heap.size _ sp w3 HB3.out hlb (by omega))
          rw [if_pos rfl, List.append_nil] at HSN
          rw [← HSN.out] at HWS
          go_wp2_with fail
          refine HWS.out.mono ?_
          rintro e w4 ⟨rfl, hb4, hB4⟩
          have HB4 := Lib.hid hb4
          have HK4 := Lib.hid (kept_below HK3.out hB4)
          have hz4 := HK4.out.size
          clear hb4 hB4
          go_wp2_with fail
          go_roundw
          case rel => exact ⟨1, by omega, rfl, HB4, HK4, HA2, hz4⟩
          case measure => simp [intOf]; omega
        · have hk0I : (0 : Int) < (k : Int) := by omega
          rw [if_neg hk0] at HSN
          have hlb : (Lx.joinB (l.take k) ++ [32]).length + sp.size ≤ 1000000 := by
            have h1 := HLE.out
            rw [HSN.out, List.length_append] at h1
            have hsp : sp.data.toList.length = sp.size := by rw [Array.length_toList]; rfl
            omega
          have HWB := Lib.hid (bbyte_z w.heap.size w.heap.size _ 32 32 rfl w3 HB3.out (by rw [List.length_append] at hlb; omega) (by omega))
          clear hk0
          go_wp2_with fail
          refine HWB.out.mono ?_
          rintro e w4 ⟨rfl, hb4, hB4⟩
          have HWS := Lib.hid (bstr_c w.heap.size w.heap.size _ sp w4 hb4 hlb (by have := hB4.size; omega))
          rw [← HSN.out] at HWS
          have HK4 := Lib.hid (kept_below HK3.out hB4)
          clear hb4 hB4 HWB
          go_wp2_with fail
          refine HWS.out.mono ?_
          rintro e w5 ⟨rfl, hb5, hB5⟩
          have HB5 := Lib.hid hb5
          have HK5 := Lib.hid (kept_below HK4.out hB5)
          have hz5 := HK5.out.size
          clear hb5 hB5 HWS
          go_wp2_with fail
          go_roundw
          case rel => exact ⟨k + 1, by omega, by go_num, HB5, HK5, HA2, hz5⟩
          case measure => simp [intOf]; omega
    · obtain rfl : k = l.length := by omega
      have hltI : ¬ (l.length : Int) < (l.length : Int) := by omega
      obtain rfl : R = true := by
        rw [← HR.out, List.all_eq_true]
        intro y hy
        exact HA.out y (by rw [List.take_of_length_le (Nat.le_refl _)]; exact hy)
      have HBL := Lib.hid (show Bld w.heap.size w.heap.size (Lx.joinB l) wr by have := HB.out; rwa [List.take_of_length_le (Nat.le_refl _)] at this)
      have HST := Lib.hid (Tryd.Builder_String_any w.heap.size w.heap.size _ wr HBL.out hz)
      rw [HJ.out] at HST
      go_wp2_with fail
      refine HST.out.mono ?_
      rintro e w4 ⟨rfl, hB4⟩
      have HK4 := Lib.hid (kept_below HK.out hB4)
      clear hB4
      go_wp2_with fail
      exact bodyPost_ret (results_tmp2 rfl _ _ _) rfl ⟨rfl, HK4.out⟩

end Go.Proofs.YtbnifedcfkpohaaDoor
