/- Contracts of package lexer's quoted, spelling. -/
import Derived.Test.YtbnifedcfkpohaaDoorLx8
set_option linter.unusedSimpArgs false
set_option linter.unusedVariables false
set_option maxRecDepth 100000
namespace Go.Proofs.YtbnifedcfkpohaaDoor
open Go.ChangeShapes Go.WideShapes Go.ChangeAt Go.RowKit Go.Shelf
attribute [local go_sem] Oper.semAt_some

/-! ### Quoted texts, and all of them -/
theorem kept_below {w w1 w2 : World} (h : Kept w w1) (k : Below w.heap.size w1 w2) : Kept w w2 :=
  ⟨k.os.trans h.os, k.output.trans h.output, Nat.le_trans h.size k.size, fun i hi => (k.block i hi).trans (h.block i hi)⟩
theorem bld_kept {B b : Nat} {l : List UInt8} {w w' : World} (h : Bld B b l w) (k : Kept w w') : Bld B b l w' := by
  have f : ∀ p, BldAt B b p l w → BldAt B b p l w' := by
    rintro p ⟨hB, v, hbk, hown, hne⟩
    exact ⟨hB, v, (k.block b (Array.getElem?_eq_some_iff.1 hbk).1).trans hbk, owns_keptU hown k, hne⟩
  exact h.elim (fun h => .inl (f _ h)) (fun h => .inr (f _ h))

theorem spelt_len (c : UInt8) : (Lx.spelt c).length ≤ 2 := by
  unfold Lx.spelt
  split
  · simp
  · split
    · simp
    · split <;> simp

/-- The first k letters as they stand in a source. -/
def quP (s : List UInt8) (k : Nat) : List UInt8 := 34 :: (s.take k).flatMap Lx.spelt
theorem quP_next {s : List UInt8} {k : Nat} (h : k < s.length) : quP s (k + 1) = quP s k ++ Lx.spelt s[k] := by
  unfold quP
  rw [List.take_succ_eq_append_getElem h, List.flatMap_append]
  simp only [List.flatMap_cons, List.flatMap_nil, List.append_nil, List.cons_append]
theorem quP_len (s : List UInt8) (k : Nat) : (quP s k).length ≤ 2 * k + 1 := by
  unfold quP
  have : ∀ l : List UInt8, (l.flatMap Lx.spelt).length ≤ 2 * l.length := by
    intro l
    induction l with
    | nil => exact Nat.zero_le _
    | cons c r ih => have := spelt_len c; rw [List.flatMap_cons, List.length_append, List.length_cons]; omega
  have h2 := this (s.take k)
  have h3 : (s.take k).length ≤ k := by rw [List.length_take]; omega
  rw [List.length_cons]; omega

set_option maxHeartbeats 4000000 in
theorem quoted_c (s : ByteArray) (w : World) (hT : Tb w) (hs : s.size ≤ 100000) :
    Calls Tryd.prog 29 #[.string s] w fun e w' => e = .returned (.string ⟨(34 :: s.data.toList.flatMap Lx.spelt ++ [34]).toArray⟩) ∧ Kept w w' := by
  have hl : s.data.toList.length = s.size := by rw [Array.length_toList]; rfl
  obtain ⟨W1, hW1⟩ : ∃ W1, w.alloc (.cells #[.pointer none, .slice none 0 0] 48) = W1 := ⟨_, rfl⟩
  have hs1 : w.heap.size ≤ W1.heap.size := by rw [← hW1]; simp
  have hb1 : Bld w.heap.size w.heap.size [] W1 := .inl ⟨Nat.le_refl _, .slice none 0 0, by rw [← hW1]; exact heap_alloc_new w _, World.ownsRow_nil _ _ _ _, by simp [Value.ownBlock]⟩
  have hB1 : Kept w W1 := by rw [← hW1]; exact (Kept.refl w).alloc _
  have HW1 := Lib.hid hW1
  have HC1 := Lib.hid (bbyte_z w.heap.size w.heap.size [] 34 34 rfl W1 hb1 (by simp) hs1)
  have HT := Lib.hid hT
  have HB1 := Lib.hid hB1
  obtain ⟨R, hR⟩ : ∃ R, (⟨(34 :: s.data.toList.flatMap Lx.spelt ++ [34]).toArray⟩ : ByteArray) = R := ⟨_, rfl⟩
  rw [hR]
  have HRR := Lib.hid hR
  clear hW1 hb1 hB1 hT hR
  go_enter Tryd.func29, Tryd.ntmps29
  go_wp2_with (rw [HW1.out])
  refine HC1.out.mono ?_
  rintro e w2 ⟨rfl, hb2, hB2⟩
  have HB2 := Lib.hid hb2
  have HK2 := Lib.hid (kept_below HB1.out hB2)
  have hs2 := hB2.size
  clear hb2 hB2 HC1 HB1
  go_wp2_with fail
  go_loopw [8] (fun i wr => ∃ k : Nat, k ≤ s.size ∧ i = .int .i64 k ∧ Hid (Bld w.heap.size w.heap.size (quP s.data.toList k) wr) ∧ Hid (Kept w wr) ∧ w.heap.size ≤ wr.heap.size) (fun i wr => s.size - (intOf i).toNat)
  case atStart => exact ⟨0, Nat.zero_le _, rfl, HB2, HK2, by omega⟩
  case round =>
    clear HB2 HK2 hs2 hs1
    obtain ⟨k, hk, rfl, HB, HK, hz⟩ := hrel
    by_cases hlt : k < s.size
    · have hltI : (k : Int) < (s.size : Int) := by omega
      have hlt' : k < s.data.toList.length := by omega
      have HN := Lib.hid (quP_next hlt')
      have hge : s.data.toList[k] = s[k] := by simp; rfl
      rw [hge] at HN
      have HS := Lib.hid (lspelt_c s[k] wr (HT.out.kept HK.out))
      have HSL := Lib.hid (spelt_len s[k])
      clear hge
      obtain ⟨sp, hsp⟩ : ∃ sp, Lx.spelt s[k] = sp := ⟨_, rfl⟩
      rw [hsp] at HN HS HSL
      clear hsp
      go_wp2_with fail
      refine HS.out.mono ?_
      rintro e w3 ⟨rfl, k3⟩
      have hz3 := k3.size
      have HB3 := Lib.hid (bld_kept HB.out k3)
      have HLE := Lib.hid (show (quP s.data.toList k).length + (⟨sp.toArray⟩ : ByteArray).size ≤ 1000000 by
        have h1 := quP_len s.data.toList k
        have h2 := HSL.out
        have h3 : (⟨sp.toArray⟩ : ByteArray).size = sp.length := by show sp.toArray.size = _; simp
        omega)
      have HW3 := Lib.hid (bstr_c w.heap.size w.heap.size _ ⟨sp.toArray⟩ w3 HB3.out HLE.out (by omega))
      have HK3 := Lib.hid (HK.out.trans k3)
      clear k3
      go_wp2_with fail
      refine HW3.out.mono ?_
      rintro e w4 ⟨rfl, hb4, hB4⟩
      have HB4 := Lib.hid hb4
      have HK4 := Lib.hid (kept_below HK3.out hB4)
      have hz4 := HK4.out.size
      clear hb4 hB4
      go_wp2_with fail
      go_roundw
      case rel => exact ⟨k + 1, by omega, by go_num, Lib.hid (by rw [HN.out]; exact HB4.out), HK4, hz4⟩
      case measure => simp [intOf]; omega
    · obtain rfl : k = s.size := by omega
      have hltI : ¬ (s.size : Int) < (s.size : Int) := by omega
      have HC2 := Lib.hid (bbyte_z w.heap.size w.heap.size _ 34 34 rfl wr HB.out (by have := quP_len s.data.toList s.size; omega) hz)
      go_wp2_with fail
      refine HC2.out.mono ?_
      rintro e w3 ⟨rfl, hb3, hB3⟩
      have HST := Lib.hid (Tryd.Builder_String_any w.heap.size w.heap.size _ w3 hb3 (by have := hB3.size; omega))
      have HK3 := Lib.hid (kept_below HK.out hB3)
      clear hb3 hB3
      go_wp2_with fail
      refine HST.out.mono ?_
      rintro e w4 ⟨rfl, hB4⟩
      have HK4 := Lib.hid (kept_below HK3.out hB4)
      clear hB4
      go_wp2_with fail
      go_ret
      refine ⟨?_, HK4.out⟩
      have e : quP s.data.toList s.size = 34 :: s.data.toList.flatMap Lx.spelt := by unfold quP; rw [List.take_of_length_le (by omega)]
      show Ending.returned (.string ⟨(quP s.data.toList s.size ++ [34]).toArray⟩) = _
      rw [e, HRR.out]

/-- The table of powers of ten that the library's Itoa reads. -/
def Pw (w : World) : Prop := Lib.TabIs Tryd.prog w "internal/strconv.uint64pow10" .u64 Lib.pow10Tab
theorem Pw.kept {w w' : World} (h : Pw w) (k : Kept w w') : Pw w' := by
  unfold Pw Lib.TabIs World.var? at h ⊢
  cases hg : Tryd.prog.globalNamed "internal/strconv.uint64pow10" with
  | none => rw [hg] at h; cases h
  | some g =>
    rw [hg] at h
    simp only [Option.bind_some] at h ⊢
    have hb : w'.heap[g]? = w.heap[g]? := by
      rcases Nat.lt_or_ge g w.heap.size with hl | hl
      · exact k.block g hl
      · rw [Array.getElem?_eq_none hl] at h; cases h
    rw [hb]; exact h

theorem itoa_c (n : Int) (h0 : -9223372036854775808 ≤ n) (h1 : n ≤ 9223372036854775807) (w : World) (hP : Pw w) :
    Calls Tryd.prog 28 #[.int .i64 n] w fun e w' => e = .returned (.string ⟨(Lib.itoa n).toArray⟩) ∧ Kept w w' := by
  refine (Tryd.strconv_Itoa n h0 h1 w hP).mono ?_
  rintro e w' ⟨he, k, os, rfl⟩
  refine ⟨he, ⟨rfl, rfl, by show _ ≤ (w.heap ++ os).size; simp, fun i hi => ?_⟩⟩
  show (w.heap ++ os)[i]? = w.heap[i]?
  rw [Array.getElem?_append_left hi]

namespace Lx
/-- A token's spelling, be it one or not. -/
def spl (x : T) : ByteArray :=
  if x.kind = 4 then ⟨(Lib.itoa x.n).toArray⟩ else if x.kind = 5 then ⟨(Lib.itoa x.n ++ [114]).toArray⟩ else if x.kind = 6 then ⟨(34 :: x.text.data.toList.flatMap spelt ++ [34]).toArray⟩ else x.text
end Lx

end Go.Proofs.YtbnifedcfkpohaaDoor
