/- Contracts of slices.EqualFunc at variables and of table.sameTypes. -/
import Derived.Test.YtghmgidnlopmaaaDoorCty
import Derived.Deep.RegionWith
set_option linter.unusedSimpArgs false
set_option linter.unusedVariables false
set_option maxRecDepth 100000
namespace Go.Proofs.YtghmgidnlopmaaaDoor
open Go.ChangeShapes Go.WideShapes Go.ChangeAt Go.RowKit

theorem sty1_v (a b : Tab.V) (v : Bool) (w : World) (hv : decide (a.typ = b.typ) = v) :
    Calls Tryd.prog 52 #[.agg #[.string a.name, .string a.typ], .agg #[.string b.name, .string b.typ]] w fun e w' => e = .returned (.bool v) ∧ Kept w w' := by
  have HK := Lib.hid (((Kept.refl w).alloc (.cells #[.string a.name, .string a.typ] 35)).alloc (.cells #[.string b.name, .string b.typ] 35))
  have hb : (a.typ.toList == b.typ.toList) = v := by
    rw [← hv]
    by_cases h : a.typ = b.typ
    · rw [beq_yes h, decide_eq_true h]
    · rw [beq_no h, decide_eq_false h]
  clear hv
  go_enter Tryd.func52, Tryd.ntmps52
  go_wp2_with fail
  go_ret
  exact ⟨by first | rfl | rw [hb], HK.out⟩

theorem same_take {l m : List Tab.V} {k : Nat} (h : l.length = m.length) (hk : k < l.length) {x y : Tab.V} (hx : l[k]? = some x) (hy : m[k]? = some y) (ht : ∀ z ∈ (l.zip m).take k, z.1.typ = z.2.typ) (he : x.typ = y.typ) : ∀ z ∈ (l.zip m).take (k + 1), z.1.typ = z.2.typ := by
  intro z hz
  rw [List.take_add_one, (List.getElem?_zip_eq_some (z := (x, y))).2 ⟨hx, hy⟩] at hz
  rcases List.mem_append.1 hz with hz | hz
  · exact ht z hz
  · simp at hz; rw [hz]; exact he
theorem same_yes {l m : List Tab.V} (h : l.length = m.length) (ht : ∀ z ∈ l.zip m, z.1.typ = z.2.typ) : Tab.sameTys l m = true := by
  unfold Tab.sameTys
  rw [Bool.and_eq_true, List.all_eq_true]
  exact ⟨decide_eq_true h, fun z hz => decide_eq_true (ht z hz)⟩
theorem same_no {l m : List Tab.V} {k : Nat} {x y : Tab.V} (hx : l[k]? = some x) (hy : m[k]? = some y) (he : ¬ x.typ = y.typ) : Tab.sameTys l m = false := by
  unfold Tab.sameTys
  rw [Bool.and_eq_false_iff]
  refine .inr ?_
  rw [List.all_eq_false]
  exact ⟨(x, y), List.mem_of_getElem? ((List.getElem?_zip_eq_some (z := (x, y))).2 ⟨hx, hy⟩), by simpa using he⟩

set_option maxHeartbeats 2000000 in
theorem eqf_c (l m : List Tab.V) (u v : Value) (w : World) (hu : Row 2 VarAt w u l) (hv : Row 2 VarAt w v m) :
    Calls Tryd.prog 53 #[u, v, .func (.func 52) #[] #[]] w fun e w' => e = .returned (.bool (Tab.sameTys l m)) ∧ Kept w w' := by
  obtain ⟨a, c, rfl, ha1, ha2, hat⟩ := hu
  obtain ⟨b, d, rfl, hb1, hb2, hbt⟩ := hv
  unfold maxLen at ha2 hb2
  by_cases hl : l.length = m.length
  · have hlI : (l.length : Int) = (m.length : Int) := by omega
    have HL := Lib.hid hl
    have HAT := Lib.hid hat
    have HBT := Lib.hid hbt
    have hne : ((l.length : Int) != (m.length : Int)) = false := by rw [hlI]; simp
    rw [← hl] at hb1 ⊢
    clear hlI hat hbt hne hl
    go_enter Tryd.func53, Tryd.ntmps53
    go_wp2_with fail
    go_loopw [17] (fun q wr => ∃ k : Nat, k ≤ l.length ∧ q = .int .i64 k ∧ Kept w wr ∧ ∀ z ∈ (l.zip m).take k, z.1.typ = z.2.typ) (fun q wr => l.length - (intOf q).toNat)
    case atStart => exact ⟨0, Nat.zero_le _, rfl, Kept.refl _, by simp⟩
    case round =>
      obtain ⟨k, hk, rfl, hkp, hs⟩ := hrel
      by_cases hlt : k < l.length
      · have hltI : (k : Int) < (l.length : Int) := by omega
        have hx : l[k]? = some l[k] := List.getElem?_eq_getElem hlt
        have hlt' : k < m.length := by have := HL.out; omega
        have hy : m[k]? = some m[k] := List.getElem?_eq_getElem hlt'
        obtain ⟨ab, ao, rfl, hax⟩ := HAT.out _ _ hx
        obtain ⟨bb, bo, rfl, hbx⟩ := HBT.out _ _ hy
        generalize l[k] = x at hx hax
        generalize m[k] = y at hy hbx
        obtain ⟨x0, x1, _⟩ := hax.kept hkp
        have hk1 := hkp.alloc (.cells #[.string x.name, .string x.typ] 35)
        obtain ⟨y0, y1, _⟩ := hbx.kept hk1
        have HB1 := Lib.hid (Blk.new wr 35 #[.string x.name, .string x.typ])
        have HK := Lib.hid (hk1.alloc (.cells #[.string y.name, .string y.typ] 35))
        have q := (Blk.new wr 35 #[.string x.name, .string x.typ]).alloc (.cells #[.string y.name, .string y.typ] 35)
        have q0 := q.cell 0
        have q1 := q.cell 1
        simp at q0 q1
        clear hax hbx hk1 q hkp
        by_cases he : x.typ = y.typ
        · have HS := Lib.hid (same_take HL.out hlt hx hy hs he)
          have HC := Lib.hid (fun w => sty1_v x y true w (decide_eq_true he))
          clear he hs hx hy hlt'
          go_wp2_with fail
          refine (HC.out _).mono ?_
          rintro e w3 ⟨rfl, k3⟩
          go_wp2_with fail
          go_roundw
          case rel => exact ⟨k + 1, by omega, by go_num, HK.out.trans k3, HS.out⟩
          case measure => simp [intOf]; omega
        · have HS := Lib.hid (same_no hx hy he)
          have HC := Lib.hid (fun w => sty1_v x y false w (decide_eq_false he))
          clear he hs hx hy hlt'
          go_wp2_with fail
          refine (HC.out _).mono ?_
          rintro e w3 ⟨rfl, k3⟩
          go_wp2_with fail
          go_ret
          exact ⟨by rw [HS.out]; rfl, HK.out.trans k3⟩
      · have hltI : ¬ (k : Int) < (l.length : Int) := by omega
        have hkl : k = l.length := by omega
        have HS := Lib.hid (same_yes HL.out (by
          have h2 : (l.zip m).take k = l.zip m := List.take_of_length_le (by rw [List.length_zip]; have := HL.out; omega)
          rw [h2] at hs
          exact hs))
        clear hs hkl
        go_wp2_with fail
        go_ret
        exact ⟨by rw [HS.out]; rfl, hkp⟩
  · have hlI : ¬ (l.length : Int) = (m.length : Int) := by omega
    have hne : ((l.length : Int) != (m.length : Int)) = true := by simpa using hlI
    have HF := Lib.hid (show Tab.sameTys l m = false by unfold Tab.sameTys; rw [decide_eq_false hl]; rfl)
    clear hl hat hbt
    go_enter Tryd.func53, Tryd.ntmps53
    go_wp2_with fail
    go_ret
    exact ⟨by rw [HF.out]; rfl, Kept.refl _⟩

end Go.Proofs.YtghmgidnlopmaaaDoor
