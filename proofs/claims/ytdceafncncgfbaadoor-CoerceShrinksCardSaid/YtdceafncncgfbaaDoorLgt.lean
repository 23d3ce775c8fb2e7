/- The laws' helpers: Pick, longVars, LongTable. -/
import Derived.Test.YtdceafncncgfbaaDoorTbf
import Derived.Test.YtdceafncncgfbaaDoorBlk
import Derived.Test.YtdceafncncgfbaaDoorFi2
import Derived.Test.YtdceafncncgfbaaDoorMts
import Derived.Test.YtdceafncncgfbaaDoorKey
set_option linter.unusedSimpArgs false
set_option linter.unusedVariables false
set_option maxRecDepth 100000
namespace Go.Proofs.YtdceafncncgfbaaDoor
open Go.ChangeShapes Go.WideShapes Go.ChangeAt Go.RowKit

/-- some bool -/
def IsB (e : Ending) : Prop := ∃ b, e = .returned (.bool b)

theorem isb (b : Bool) : IsB (Ending.returned (.bool b)) := ⟨b, rfl⟩

theorem longvars_c (l : List Tab.V) (v : Value) (w : World) (h : Row 2 VarAt w v l) :
    Calls Tryd.prog 43 #[v] w fun e w' => IsB e ∧ w' = w := by
  obtain ⟨a, c, rfl, h1, h2, hat⟩ := h
  unfold maxLen at h2
  have HAT := Lib.hid hat
  clear hat
  go_enter Tryd.func43, Tryd.ntmps43
  go_wp2_with fail
  go_loopw [3] (fun q wr => ∃ j : Nat, j ≤ l.length ∧ q = .int .i64 j ∧ wr = w) (fun q wr => l.length - (intOf q).toNat)
  case atStart => exact ⟨0, Nat.zero_le _, rfl, by first | trivial | rfl⟩
  case round =>
    obtain ⟨j, hj, rfl, rfl⟩ := hrel
    by_cases hlt : j < l.length
    · have hltI : (j : Int) < (l.length : Int) := by omega
      have hx : l[j]? = some l[j] := List.getElem?_eq_getElem hlt
      obtain ⟨b, o, rfl, x0, x1, hs⟩ := HAT.out _ _ hx
      generalize l[j] = x at hx x0 x1 hs
      by_cases q1 : 30 < x.name.size
      · have q1I : (30 : Int) < (x.name.size : Int) := by omega
        clear hx
        go_wp2_with fail
        go_ret
        exact ⟨isb _, rfl⟩
      · have q1I : ¬ (30 : Int) < (x.name.size : Int) := by omega
        by_cases q2 : 30 < x.typ.size
        · have q2I : (30 : Int) < (x.typ.size : Int) := by omega
          clear hx
          go_wp2_with fail
          go_ret
          exact ⟨isb _, rfl⟩
        · have q2I : ¬ (30 : Int) < (x.typ.size : Int) := by omega
          clear hx
          go_wp2_with fail
          go_roundw
          case rel => exact ⟨j + 1, by omega, by go_num, by first | trivial | rfl⟩
          case measure => simp [intOf]; omega
    · have hltI : ¬ (j : Int) < (l.length : Int) := by omega
      go_wp2_with fail
      go_ret
      exact ⟨isb _, rfl⟩

/-- what a class that isn't long has -/
def ShortM (m : Tab.M) : Prop := m.params.length ≤ 10

def ShortC (c : Tab.C) : Prop := c.fields.length ≤ 7 ∧ c.methods.length ≤ 7 ∧ ∀ m ∈ c.methods, ShortM m

/-- what LongTable tells -/
def LongPost (t : List Tab.C) (e : Ending) : Prop := ∃ b, e = .returned (.bool b) ∧ (b = false → t.length ≤ 9 ∧ ∀ c ∈ t, ShortC c)

theorem long_yes (t : List Tab.C) : LongPost t (.returned (.bool true)) := ⟨true, rfl, fun h => by cases h⟩

theorem all_more {α : Type} {P : α → Prop} {l : List α} {k : Nat} {x : α} (h : ∀ y ∈ l.take k, P y) (hx : l[k]? = some x) (hp : P x) : ∀ y ∈ l.take (k + 1), P y := by
  intro y hy
  rw [List.take_add_one, hx] at hy
  rcases List.mem_append.1 hy with hy | hy
  · exact h y hy
  · simp at hy; rw [hy]; exact hp

set_option maxHeartbeats 4000000 in
theorem long_c (t : List Tab.C) (v : Value) (w : World) (h : TabAt w v t) :
    Calls Tryd.prog 19 #[v] w fun e w' => LongPost t e ∧ Kept w w' := by
  obtain ⟨a, cp, rfl, h1, h2, hat⟩ := h
  unfold maxLen at h2
  have HAT := Lib.hid hat
  clear hat
  go_enter Tryd.func19, Tryd.ntmps19
  go_wp2_with fail
  go_loopw [3] (fun q wr => ∃ i : Nat, i ≤ t.length ∧ i ≤ 10 ∧ q = .int .i64 i ∧ Kept w wr ∧ ∀ c ∈ t.take i, ShortC c) (fun q wr => t.length - (intOf q).toNat)
  case atStart => exact ⟨0, Nat.zero_le _, by omega, rfl, Kept.refl _, by simp⟩
  case round =>
    obtain ⟨i, hi, hi10, rfl, hkp, hs⟩ := hrel
    have HS := Lib.hid hs
    have HK := Lib.hid hkp
    clear hs
    by_cases hlt : i < t.length
    · have hltI : (i : Int) < (t.length : Int) := by omega
      by_cases ht : i < 10
      · have htI : (i : Int) < 10 := by omega
        have hx : t[i]? = some t[i] := List.getElem?_eq_getElem hlt
        have HX := Lib.hid hx
        obtain ⟨b, o, rfl, hcl⟩ := HAT.out _ _ hx
        generalize t[i] = c at hx HX hcl
        obtain ⟨c0, c1, ⟨fu, c2, hf⟩, ⟨mu, c3, hm⟩, hs1, hs2⟩ := hcl.kept hkp
        have HF := Lib.hid hf
        obtain ⟨fa, fc, rfl, hf1, hf2, _⟩ := hf
        obtain ⟨ma, mc, rfl, hm1, hm2, hmat⟩ := hm
        unfold maxLen at hf2 hm2 hs1 hs2
        have HMAT := Lib.hid hmat
        have HB := Lib.hid (Blk.new wr 64 #[.string c.name, .string c.super, .slice fa c.fields.length fc, .slice ma c.methods.length mc])
        have HKA := Lib.hid (hkp.alloc (.cells #[.string c.name, .string c.super, .slice fa c.fields.length fc, .slice ma c.methods.length mc] 64))
        have HL := Lib.hid (fun w1 (k1 : Kept wr w1) => longvars_c c.fields (.slice fa c.fields.length fc) w1 (vars_kept HF.out k1))
        clear hx hcl hkp hmat
        by_cases q1 : 30 < c.name.size
        · have q1I : (30 : Int) < (c.name.size : Int) := by omega
          go_wp2_with fail
          go_ret
          exact ⟨long_yes _, HKA.out⟩
        · have q1I : ¬ (30 : Int) < (c.name.size : Int) := by omega
          by_cases q2 : 30 < c.super.size
          · have q2I : (30 : Int) < (c.super.size : Int) := by omega
            go_wp2_with fail
            go_ret
            exact ⟨long_yes _, HKA.out⟩
          · have q2I : ¬ (30 : Int) < (c.super.size : Int) := by omega
            by_cases q3 : 7 < c.fields.length
            · have q3I : (7 : Int) < (c.fields.length : Int) := by omega
              go_wp2_with fail
              go_ret
              exact ⟨long_yes _, HKA.out⟩
            · have q3I : ¬ (7 : Int) < (c.fields.length : Int) := by omega
              by_cases q4 : 7 < c.methods.length
              · have q4I : (7 : Int) < (c.methods.length : Int) := by omega
                go_wp2_with fail
                go_ret
                exact ⟨long_yes _, HKA.out⟩
              · have q4I : ¬ (7 : Int) < (c.methods.length : Int) := by omega
                have HL1 := Lib.hid (HL.out _ ((Kept.refl wr).alloc (.cells #[.string c.name, .string c.super, .slice fa c.fields.length fc, .slice ma c.methods.length mc] 64)))
                go_wp2_with fail
                refine HL1.out.mono ?_
                rintro e w3 ⟨⟨bv, rfl⟩, rfl⟩
                cases bv with
                | true =>
                  go_wp2_with fail
                  go_ret
                  exact ⟨long_yes _, HKA.out⟩
                | false =>
                  go_wp2_with fail
                  clear c0 c1 c2 c3
                  obtain ⟨wo, rfl⟩ : ∃ wo, wo = wr := ⟨_, rfl⟩
                  go_loopw [5] (fun q wr => ∃ k : Nat, k ≤ c.methods.length ∧ q = .int .i64 k ∧ Kept w wr ∧ Kept wo wr ∧ Blk wr wo.heap.size 64 #[.string c.name, .string c.super, .slice fa c.fields.length fc, .slice ma c.methods.length mc] ∧ ∀ m ∈ c.methods.take k, ShortM m) (fun q wr => c.methods.length - (intOf q).toNat)
                  case atStart => exact ⟨0, Nat.zero_le _, rfl, HKA.out, (Kept.refl wo).alloc _, HB.out, by simp⟩
                  case round =>
                    obtain ⟨k, hk, rfl, hkw, hkr, hbs, hms⟩ := hrel
                    have HMS := Lib.hid hms
                    have HKW := Lib.hid hkw
                    have HKR := Lib.hid hkr
                    have HBS := Lib.hid hbs
                    have d3 := hbs.cell 3
                    simp at d3
                    clear hms
                    by_cases hml : k < c.methods.length
                    · have hmlI : (k : Int) < (c.methods.length : Int) := by omega
                      have hy : c.methods[k]? = some c.methods[k] := List.getElem?_eq_getElem hml
                      have HY := Lib.hid hy
                      obtain ⟨b2, o2, rfl, hsg⟩ := HMAT.out _ _ hy
                      generalize c.methods[k] = m at hy HY hsg
                      obtain ⟨m0, ⟨pu, m1, hp⟩, m2, ms1, ms2⟩ := hsg.kept hkr
                      have HP := Lib.hid hp
                      obtain ⟨pa, pc, rfl, hp1, hp2, _⟩ := hp
                      unfold maxLen at hp2 ms1 ms2
                      have HKM := Lib.hid (hkw.alloc (.cells #[.string m.name, .slice pa m.params.length pc, .string m.res] 61))
                      have HKN := Lib.hid (hkr.alloc (.cells #[.string m.name, .slice pa m.params.length pc, .string m.res] 61))
                      have HBM := Lib.hid (hbs.alloc (.cells #[.string m.name, .slice pa m.params.length pc, .string m.res] 61))
                      have HLM := Lib.hid (longvars_c m.params (.slice pa m.params.length pc) _ (vars_kept HP.out ((Kept.refl wr).alloc (.cells #[.string m.name, .slice pa m.params.length pc, .string m.res] 61))))
                      clear hy hsg hkw hkr hbs
                      by_cases r1 : 30 < m.name.size
                      · have r1I : (30 : Int) < (m.name.size : Int) := by omega
                        go_wp2_with fail
                        go_ret
                        exact ⟨long_yes _, HKM.out⟩
                      · have r1I : ¬ (30 : Int) < (m.name.size : Int) := by omega
                        by_cases r2 : 30 < m.res.size
                        · have r2I : (30 : Int) < (m.res.size : Int) := by omega
                          go_wp2_with fail
                          go_ret
                          exact ⟨long_yes _, HKM.out⟩
                        · have r2I : ¬ (30 : Int) < (m.res.size : Int) := by omega
                          by_cases r3 : 10 < m.params.length
                          · have r3I : (10 : Int) < (m.params.length : Int) := by omega
                            go_wp2_with fail
                            go_ret
                            exact ⟨long_yes _, HKM.out⟩
                          · have r3I : ¬ (10 : Int) < (m.params.length : Int) := by omega
                            go_wp2_with fail
                            refine HLM.out.mono ?_
                            rintro e w4 ⟨⟨bm, rfl⟩, rfl⟩
                            cases bm with
                            | true =>
                              go_wp2_with fail
                              go_ret
                              exact ⟨long_yes _, HKM.out⟩
                            | false =>
                              have HMO := Lib.hid (all_more HMS.out HY.out (show ShortM m by unfold ShortM; omega))
                              go_wp2_with fail
                              go_roundw
                              case rel => exact ⟨k + 1, by omega, by go_num, HKM.out, HKN.out, HBM.out, HMO.out⟩
                              case measure => simp [intOf]; omega
                    · have hmlI : ¬ (k : Int) < (c.methods.length : Int) := by omega
                      obtain rfl : k = c.methods.length := by omega
                      have HMO := Lib.hid (all_more HS.out HX.out (show ShortC c from ⟨by omega, by omega, by have := HMS.out; rwa [List.take_length] at this⟩))
                      go_wp2_with fail
                      go_roundw
                      case rel => exact ⟨i + 1, by omega, by omega, by go_num, HKW.out, HMO.out⟩
                      case measure => simp [intOf]; omega
      · have htI : ¬ (i : Int) < 10 := by omega
        have h9 : (9 : Int) < (t.length : Int) := by omega
        go_wp2_with fail
        go_ret
        exact ⟨long_yes _, HK.out⟩
    · have hltI : ¬ (i : Int) < (t.length : Int) := by omega
      obtain rfl : i = t.length := by omega
      by_cases h9 : 9 < t.length
      · have h9I : (9 : Int) < (t.length : Int) := by omega
        go_wp2_with fail
        go_ret
        exact ⟨long_yes _, HK.out⟩
      · have h9I : ¬ (9 : Int) < (t.length : Int) := by omega
        have HE := Lib.hid (show LongPost t (.returned (.bool false)) from ⟨false, rfl, fun _ => ⟨by omega, by have := HS.out; rwa [List.take_length] at this⟩⟩)
        go_wp2_with fail
        go_ret
        exact ⟨HE.out, HK.out⟩

end Go.Proofs.YtdceafncncgfbaaDoor
