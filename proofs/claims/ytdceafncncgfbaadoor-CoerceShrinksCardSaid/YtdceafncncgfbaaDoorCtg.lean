/- taken, given: the type of what goes in to a member of a class, or comes out of it. -/
import Derived.Test.YtdceafncncgfbaaDoorCte
import Derived.Test.YtdceafncncgfbaaDoorAri
set_option linter.unusedSimpArgs false
set_option linter.unusedVariables false
set_option maxRecDepth 100000
namespace Go.Proofs.YtdceafncncgfbaaDoor
open Go.ChangeShapes Go.WideShapes Go.ChangeAt Go.RowKit Go.Shelf

namespace Co
def parOf (m : Tab.M) (p : Int) : Option ByteArray := if 0 ≤ p then (m.params[p.toNat]?).map (·.typ) else none
def takenP (t : List Tab.C) (c m : ByteArray) (p : Int) : Option ByteArray := match Tab.field t c m with
  | some s => some s
  | none => (Tab.method t c m).bind fun x => parOf x.1 p
def givenP (t : List Tab.C) (c m : ByteArray) : Option ByteArray := match Tab.field t c m with
  | some s => some s
  | none => (Tab.method t c m).map fun x => x.1.res
theorem given_f {t : List Tab.C} {c m r : ByteArray} (h : Tab.field t c m = some r) : givenP t c m = some r := by unfold givenP; rw [h]
theorem given_0 {t : List Tab.C} {c m : ByteArray} (h : Tab.field t c m = none) (h2 : Tab.method t c m = none) : givenP t c m = none := by unfold givenP; rw [h, h2]; rfl
theorem given_1 {t : List Tab.C} {c m own : ByteArray} {x : Tab.M} (h : Tab.field t c m = none) (h2 : Tab.method t c m = some (x, own)) : givenP t c m = some x.res := by unfold givenP; rw [h, h2]; rfl
theorem taken_f {t : List Tab.C} {c m r : ByteArray} {p : Int} (h : Tab.field t c m = some r) : takenP t c m p = some r := by unfold takenP; rw [h]
theorem taken_0 {t : List Tab.C} {c m : ByteArray} {p : Int} (h : Tab.field t c m = none) (h2 : Tab.method t c m = none) : takenP t c m p = none := by unfold takenP; rw [h, h2]; rfl
theorem taken_1 {t : List Tab.C} {c m own : ByteArray} {x : Tab.M} {p : Int} (h : Tab.field t c m = none) (h2 : Tab.method t c m = some (x, own)) : takenP t c m p = parOf x p := by unfold takenP; rw [h, h2]; rfl
end Co
def optV (r : Option ByteArray) : Value := .tuple #[.string (r.getD ⟨#[]⟩), .bool r.isSome]

set_option maxHeartbeats 4000000 in
theorem given_c (a : Option Addr) (cp : Nat) (t : List Tab.C) (s nm : ByteArray) (w : World) (hT : TabAt w (.slice a t.length cp) t) (hS : Small t) :
    Calls Tryd.prog 47 #[.slice a t.length cp, .string s, .string nm] w fun e w' => e = .returned (optV (Co.givenP t s nm)) ∧ Kept w w' := by
  have HFd := Lib.hid (field_c a cp t s nm w hT hS.len)
  have HMt := Lib.hid (fun W (k : Kept w W) => method_c a cp t s nm W (tab_kept hT k) hS)
  clear hT hS
  cases hf : Tab.field t s nm with
  | some r =>
    rw [hf] at HFd
    have HFE := Lib.hid hf
    clear hf
    go_enter Tryd.func47, Tryd.ntmps47
    go_wp2_with fail
    refine HFd.out.mono ?_
    rintro e w1 ⟨rfl, k1⟩
    simp only [Option.getD_some, Option.isSome_some]
    go_wp2_with fail
    go_ret2
    exact ⟨by rw [Co.given_f HFE.out]; rfl, k1⟩
  | none =>
    rw [hf] at HFd
    have HFE := Lib.hid hf
    clear hf
    go_enter Tryd.func47, Tryd.ntmps47
    go_wp2_with fail
    refine HFd.out.mono ?_
    rintro e w1 ⟨rfl, k1⟩
    have HK1 := Lib.hid k1
    clear k1
    simp only [Option.getD_none, Option.isSome_none]
    go_wp2_with fail
    refine (HMt.out w1 HK1.out).mono ?_
    rintro e w2 ⟨k2, ⟨hm, rfl⟩ | ⟨m, own, p, hm, rfl, hrow⟩⟩
    · have HME := Lib.hid hm
      have HK2 := Lib.hid (HK1.out.trans k2)
      clear k2 hm
      unfold zSig
      go_wp2_with fail
      go_ret2
      exact ⟨by rw [Co.given_0 HFE.out HME.out]; rfl, HK2.out.alloc _⟩
    · have HME := Lib.hid hm
      have HK2 := Lib.hid (HK1.out.trans k2)
      obtain ⟨pa, pc, rfl⟩ := owns_slice_n hrow
      clear k2 hm hrow
      go_wp2_with fail
      go_ret2
      exact ⟨by rw [Co.given_1 HFE.out HME.out]; rfl, HK2.out.alloc _⟩

set_option maxHeartbeats 4000000 in
theorem taken_c (a : Option Addr) (cp : Nat) (t : List Tab.C) (s nm : ByteArray) (p : Int) (w : World) (hT : TabAt w (.slice a t.length cp) t) (hS : Small t) (hp : -9223372036854775808 ≤ p ∧ p ≤ 9223372036854775807) :
    Calls Tryd.prog 42 #[.slice a t.length cp, .string s, .string nm, .int .i64 p] w fun e w' => e = .returned (optV (Co.takenP t s nm p)) ∧ Kept w w' := by
  have HFd := Lib.hid (field_c a cp t s nm w hT hS.len)
  have HMt := Lib.hid (fun W (k : Kept w W) => method_c a cp t s nm W (tab_kept hT k) hS)
  clear hT hS
  cases hf : Tab.field t s nm with
  | some r =>
    rw [hf] at HFd
    have HFE := Lib.hid hf
    clear hf
    go_enter Tryd.func42, Tryd.ntmps42
    go_wp2_with fail
    refine HFd.out.mono ?_
    rintro e w1 ⟨rfl, k1⟩
    simp only [Option.getD_some, Option.isSome_some]
    go_wp2_with fail
    go_ret2
    exact ⟨by rw [Co.taken_f HFE.out]; rfl, k1⟩
  | none =>
    rw [hf] at HFd
    have HFE := Lib.hid hf
    clear hf
    go_enter Tryd.func42, Tryd.ntmps42
    go_wp2_with fail
    refine HFd.out.mono ?_
    rintro e w1 ⟨rfl, k1⟩
    have HK1 := Lib.hid k1
    clear k1
    simp only [Option.getD_none, Option.isSome_none]
    go_wp2_with fail
    refine (HMt.out w1 HK1.out).mono ?_
    rintro e w2 ⟨k2, ⟨hm, rfl⟩ | ⟨m, own, q, hm, rfl, hrow⟩⟩
    · have HME := Lib.hid hm
      have HK2 := Lib.hid (HK1.out.trans k2)
      clear k2 hm
      unfold zSig
      by_cases h0 : p < 0
      · go_wp2_with fail
        go_ret2
        exact ⟨by rw [Co.taken_0 HFE.out HME.out]; rfl, HK2.out.alloc _⟩
      · have h0b : (0 : Int) ≤ p := by omega
        go_wp2_with fail
        go_ret2
        exact ⟨by rw [Co.taken_0 HFE.out HME.out]; rfl, HK2.out.alloc _⟩
    · have HME := Lib.hid hm
      have HK2 := Lib.hid (HK1.out.trans k2)
      obtain ⟨pa, pc, rfl⟩ := owns_slice_n hrow
      have HR := Lib.hid hrow
      clear k2 hm hrow
      by_cases h0 : p < 0
      · have HPE := Lib.hid (show Co.parOf m p = none from if_neg (by omega))
        go_wp2_with fail
        go_ret2
        exact ⟨by rw [Co.taken_1 HFE.out HME.out, HPE.out]; rfl, HK2.out.alloc _⟩
      · obtain ⟨j, rfl⟩ : ∃ j : Nat, p = j := ⟨p.toNat, by omega⟩
        clear h0
        have h0b : ¬ (j : Int) < 0 := by omega
        by_cases hj : j < m.params.length
        · have hjb : ¬ (m.params.length : Int) ≤ (j : Int) := by omega
          have hx : m.params[j]? = some m.params[j] := List.getElem?_eq_getElem hj
          generalize m.params[j] = x at hx
          obtain ⟨g, rfl, _⟩ := row_cells HR.out (by omega)
          obtain ⟨c0, c1⟩ := var_cells HR.out hx
          have HPE := Lib.hid (show Co.parOf m (j : Int) = some x.typ by unfold Co.parOf; rw [if_pos (by omega), Int.toNat_natCast, hx]; rfl)
          have k3 : Kept w2 (w2.alloc (.cells #[.string m.name, .slice (some ⟨g, 0, none⟩) m.params.length pc, .string m.res] 61)) := (Kept.refl _).alloc _
          have c1' := k3.cell c1
          clear hx k3 c0 c1
          go_wp2_with fail
          go_ret2
          exact ⟨by rw [Co.taken_1 HFE.out HME.out, HPE.out]; rfl, HK2.out.alloc _⟩
        · have hjb : (m.params.length : Int) ≤ (j : Int) := by omega
          have HPE := Lib.hid (show Co.parOf m (j : Int) = none by unfold Co.parOf; rw [if_pos (by omega), Int.toNat_natCast, List.getElem?_eq_none (by omega)]; rfl)
          go_wp2_with fail
          go_ret2
          exact ⟨by rw [Co.taken_1 HFE.out HME.out, HPE.out]; rfl, HK2.out.alloc _⟩

theorem given1_c (b1 b2 : Nat) (a : Option Addr) (cp : Nat) (t : List Tab.C) (s nm : ByteArray) (w : World) (h1 : w.cell? ⟨b1, 0, none⟩ = some (.slice a t.length cp)) (h2 : w.cell? ⟨b2, 0, none⟩ = some (.string nm)) (hT : TabAt w (.slice a t.length cp) t) (hS : Small t) :
    Calls Tryd.prog 46 #[.string s, .pointer (some ⟨b1, 0, none⟩), .pointer (some ⟨b2, 0, none⟩)] w fun e w' => e = .returned (optV (Co.givenP t s nm)) ∧ Kept w w' := by
  have HG := Lib.hid (given_c a cp t s nm w hT hS)
  clear hT hS
  generalize Co.givenP t s nm = r at *
  go_enter Tryd.func46, Tryd.ntmps46
  go_wp2_with fail
  refine HG.out.mono ?_
  rintro e w1 ⟨rfl, k1⟩
  unfold optV
  go_wp2_with fail
  go_ret2
  exact ⟨rfl, k1⟩
theorem taken1_c (b1 b2 b3 : Nat) (a : Option Addr) (cp : Nat) (t : List Tab.C) (s nm : ByteArray) (p : Int) (w : World) (h1 : w.cell? ⟨b1, 0, none⟩ = some (.slice a t.length cp)) (h2 : w.cell? ⟨b2, 0, none⟩ = some (.string nm)) (h3 : w.cell? ⟨b3, 0, none⟩ = some (.int .i64 p)) (hT : TabAt w (.slice a t.length cp) t) (hS : Small t) (hp : -9223372036854775808 ≤ p ∧ p ≤ 9223372036854775807) :
    Calls Tryd.prog 41 #[.string s, .pointer (some ⟨b1, 0, none⟩), .pointer (some ⟨b2, 0, none⟩), .pointer (some ⟨b3, 0, none⟩)] w fun e w' => e = .returned (optV (Co.takenP t s nm p)) ∧ Kept w w' := by
  have HG := Lib.hid (taken_c a cp t s nm p w hT hS hp)
  clear hT hS hp
  generalize Co.takenP t s nm p = r at *
  go_enter Tryd.func41, Tryd.ntmps41
  go_wp2_with fail
  refine HG.out.mono ?_
  rintro e w1 ⟨rfl, k1⟩
  unfold optV
  go_wp2_with fail
  go_ret2
  exact ⟨rfl, k1⟩
end Go.Proofs.YtdceafncncgfbaaDoor
