/- The helpers of checkNode: slices.Index and Contains at numbers, leading, isContents, isName, hasWord. -/
import Derived.Test.YtgdmcdjkmgpkpaaDoorNdm
import Derived.Test.YtgdmcdjkmgpkpaaDoorNam
import Derived.Laws.BytesString
set_option linter.unusedSimpArgs false
set_option linter.unusedVariables false
set_option maxRecDepth 100000
namespace Go.Proofs.YtgdmcdjkmgpkpaaDoor
open Go.ChangeShapes Go.WideShapes Go.ChangeAt Go.RowKit Go.Shelf
attribute [local go_sem] Oper.semAt_some

/-- Whether a place that was told is one. -/
def IdxR (k : Int) (x : Int) (l : List Int) : Prop := decide (0 ≤ k) = decide (x ∈ l)
theorem index_c (a : Option Addr) (c : Nat) (l : List Int) (x : Int) (w : World) (h : IntsR w (.slice a l.length c) l) :
    Calls Tryd.prog 57 #[.slice a l.length c, .int .i64 x] w fun e w' => ∃ k : Int, e = .returned (.int .i64 k) ∧ IdxR k x l ∧ w' = w := by
  have hcap : l.length ≤ maxLen := Row.len h
  obtain ⟨_, _, e0, _, _, hat⟩ := h
  injection e0 with e1 e2 e3
  subst e1 e3
  clear e2
  have HAT := Lib.hid hat
  clear hat
  unfold maxLen at hcap
  go_enter Tryd.func57, Tryd.ntmps57
  go_wp2_with fail
  go_loopw [8] (fun i wr => ∃ k : Nat, i = .int .i64 k ∧ k ≤ l.length ∧ Hid (x ∉ l.take k) ∧ wr = w) (fun i wr => l.length - (intOf i).toNat)
  case atStart => exact ⟨0, rfl, Nat.zero_le _, Lib.hid (by simp), rfl⟩
  case round =>
    obtain ⟨k, rfl, hk, HN, rfl⟩ := hrel
    by_cases hlt : k < l.length
    · have hltI : (k : Int) < (l.length : Int) := by omega
      have hx : l[k]? = some l[k] := List.getElem?_eq_getElem hlt
      generalize hy : l[k] = y at hx
      obtain ⟨b, o, rfl, hc⟩ := HAT.out k y hx
      unfold IntAt at hc
      rw [Nat.mul_one] at hc
      have HX := Lib.hid hx
      clear hx hy
      by_cases hxy : x = y
      · have hb : (x == y) = true := by simp [hxy]
        have HD := Lib.hid (show IdxR (k : Int) x l by unfold IdxR; rw [decide_eq_true (by omega : (0 : Int) ≤ (k : Int)), decide_eq_true (by rw [hxy]; exact List.mem_of_getElem? HX.out)])
        clear hxy
        go_wp2_with fail
        go_ret
        exact ⟨k, rfl, HD.out, rfl⟩
      · have hb : (x == y) = false := by simp [hxy]
        have HN2 := Lib.hid (show x ∉ l.take (k + 1) by
          rw [List.take_add_one, HX.out]
          simp only [Option.toList_some, List.mem_append, List.mem_singleton, not_or]
          exact ⟨HN.out, hxy⟩)
        clear hxy
        go_wp2_with fail
        go_roundw
        case rel => exact ⟨k + 1, by go_num, by omega, HN2, by first | trivial | rfl⟩
        case measure => simp [intOf]; omega
    · obtain rfl : k = l.length := by omega
      have HD := Lib.hid (show IdxR (-1) x l by
        unfold IdxR
        have := HN.out
        rw [List.take_length] at this
        rw [decide_eq_false this]; rfl)
      have hltI : ¬ (l.length : Int) < (l.length : Int) := by omega
      go_wp2_with fail
      go_ret
      exact ⟨-1, rfl, HD.out, rfl⟩

theorem contains_c (a : Option Addr) (c : Nat) (l : List Int) (x : Int) (w : World) (h : IntsR w (.slice a l.length c) l) :
    Calls Tryd.prog 52 #[.slice a l.length c, .int .i64 x] w fun e w' => e = .returned (.bool (decide (x ∈ l))) ∧ w' = w := by
  have HI := Lib.hid (index_c a c l x w h)
  clear h
  go_enter Tryd.func52, Tryd.ntmps52
  go_wp2_with fail
  refine HI.out.mono ?_
  rintro e w' ⟨k, rfl, HD, rfl⟩
  go_wp2_with fail
  go_ret
  exact ⟨by have := HD; unfold IdxR at this; rw [← this]; rfl, rfl⟩

namespace Nd
/-- How many of these are of the kinds, ahead of the first one that is not. -/
def lead (kinds : List Int) (l : List Nd) : Nat := (l.takeWhile fun y => decide (y.kind ∈ kinds)).length
theorem lead_at {kinds : List Int} : ∀ {l : List Nd} {k : Nat} {y : Nd}, (∀ z ∈ l.take k, z.kind ∈ kinds) → l[k]? = some y → ¬ y.kind ∈ kinds → lead kinds l = k
  | [], k, y, _, h, _ => by simp at h
  | x :: r, 0, y, _, h, hn => by
    simp at h; subst h
    unfold lead; rw [List.takeWhile_cons, decide_eq_false hn]; rfl
  | x :: r, k + 1, y, h, hy, hn => by
    have h0 : x.kind ∈ kinds := h x (by simp)
    have ih := lead_at (l := r) (k := k) (y := y) (fun z hz => h z (by simp [hz])) (by simpa using hy) hn
    unfold lead at ih ⊢
    rw [List.takeWhile_cons, decide_eq_true h0]
    simp [ih]
theorem lead_all {kinds : List Int} {l : List Nd} (h : ∀ z ∈ l, z.kind ∈ kinds) : lead kinds l = l.length := by
  unfold lead
  rw [show l.takeWhile (fun y => decide (y.kind ∈ kinds)) = l by
    induction l with
    | nil => rfl
    | cons x r ih => rw [List.takeWhile_cons, decide_eq_true (h x (by simp))]; simp [ih fun z hz => h z (List.mem_cons_of_mem _ hz)]]
theorem lead_le (kinds : List Int) (l : List Nd) : lead kinds l ≤ l.length := by unfold lead; exact (List.takeWhile_prefix _).length_le
end Nd

set_option maxHeartbeats 2000000 in
theorem leading_c (a : Option Addr) (c : Nat) (l : List Nd) (ka : Option Addr) (kc : Nat) (ks : List Int) (w : World) (h : KidsAt w (.slice a l.length c) l) (hk : IntsR w (.slice ka ks.length kc) ks) :
    Calls Tryd.prog 47 #[.slice a l.length c, .slice ka ks.length kc] w fun e w' => e = .returned (.int .i64 (Nd.lead ks l : Nat)) ∧ w' = w := by
  have hcap : l.length ≤ maxLen := Row.len h
  obtain ⟨_, _, e0, _, _, hat⟩ := h
  injection e0 with e1 e2 e3
  subst e1 e3
  clear e2
  have HAT := Lib.hid hat
  have HC := Lib.hid (fun x => contains_c ka kc ks x w hk)
  clear hat hk
  unfold maxLen at hcap
  go_enter Tryd.func47, Tryd.ntmps47
  go_wp2_with fail
  go_loopw [8] (fun i wr => ∃ k : Nat, i = .int .i64 k ∧ k ≤ l.length ∧ Hid (∀ z ∈ l.take k, z.kind ∈ ks) ∧ wr = w) (fun i wr => l.length - (intOf i).toNat)
  case atStart => exact ⟨0, rfl, Nat.zero_le _, Lib.hid (by simp), rfl⟩
  case round =>
    obtain ⟨k, rfl, hkl, HN, rfl⟩ := hrel
    by_cases hlt : k < l.length
    · have hltI : (k : Int) < (l.length : Int) := by omega
      have hx : l[k]? = some l[k] := List.getElem?_eq_getElem hlt
      generalize hy : l[k] = y at hx
      obtain ⟨b, o, rfl, hn⟩ := HAT.out k y hx
      obtain ⟨_, _, ⟨d0, _⟩, _⟩ := hn.cells
      have HX := Lib.hid hx
      have HCY := Lib.hid (HC.out y.kind)
      clear hx hy hn
      by_cases hxy : y.kind ∈ ks
      · rw [decide_eq_true hxy] at HCY
        have HN2 := Lib.hid (show ∀ z ∈ l.take (k + 1), z.kind ∈ ks from fun z hz => by
          rw [List.take_add_one, HX.out] at hz
          simp only [Option.toList_some, List.mem_append, List.mem_singleton] at hz
          rcases hz with hz | rfl
          · exact HN.out z hz
          · exact hxy)
        clear hxy
        go_wp2_with fail
        refine HCY.out.mono ?_
        rintro e w' ⟨rfl, rfl⟩
        go_wp2_with fail
        go_roundw
        case rel => exact ⟨k + 1, by go_num, by omega, HN2, by first | trivial | rfl⟩
        case measure => simp [intOf]; omega
      · rw [decide_eq_false hxy] at HCY
        have HL := Lib.hid (Nd.lead_at HN.out HX.out hxy)
        clear hxy
        go_wp2_with fail
        refine HCY.out.mono ?_
        rintro e w' ⟨rfl, rfl⟩
        go_wp2_with fail
        go_ret
        exact ⟨by rw [HL.out]; rfl, rfl⟩
    · obtain rfl : k = l.length := by omega
      have HL := Lib.hid (show Nd.lead ks l = l.length from Nd.lead_all (by have := HN.out; rwa [List.take_length] at this))
      have hltI : ¬ (l.length : Int) < (l.length : Int) := by omega
      go_wp2_with fail
      go_ret
      exact ⟨by rw [HL.out]; rfl, rfl⟩

/-- Is a byte one that a text of a source may have? -/
def ctB (c : UInt8) : Bool := (decide (32 ≤ c.toNat) && decide (c.toNat ≤ 126)) || decide (c.toNat = 10)
def contsB (s : ByteArray) : Bool := s.data.toList.all ctB

set_option maxHeartbeats 2000000 in
theorem conts_c (s : ByteArray) (w : World) (hs : s.size ≤ maxLen) : Calls Tryd.prog 49 #[.string s] w fun e w' => e = .returned (.bool (contsB s)) ∧ w' = w := by
  unfold maxLen at hs
  go_enter Tryd.func49, Tryd.ntmps49
  go_wp2_with fail
  go_loopw [6] (fun i wr => ∃ k : Nat, i = .int .i64 k ∧ k ≤ s.size ∧ Hid (∀ c ∈ s.data.toList.take k, ctB c = true) ∧ wr = w) (fun i wr => s.size - (intOf i).toNat)
  case atStart => exact ⟨0, rfl, Nat.zero_le _, Lib.hid (by simp), rfl⟩
  case round =>
    obtain ⟨k, rfl, hk, HN, rfl⟩ := hrel
    by_cases hlt : k < s.size
    · have hltI : (k : Int) < (s.size : Int) := by omega
      have hx : s.data.toList[k]? = some s[k] := by
        rw [Array.getElem?_toList]
        exact Array.getElem?_eq_getElem hlt
      have HX := Lib.hid hx
      clear hx
      have good : ctB s[k] = true → Hid (∀ c ∈ s.data.toList.take (k + 1), ctB c = true) := fun hc => Lib.hid (fun z hz => by
          rw [List.take_add_one, HX.out] at hz
          simp only [Option.toList_some, List.mem_append, List.mem_singleton] at hz
          rcases hz with hz | rfl
          · exact HN.out z hz
          · exact hc)
      have bad : ctB s[k] = false → Hid (contsB s = false) := fun hc => Lib.hid (by
        unfold contsB
        rw [List.all_eq_false]
        exact ⟨_, List.mem_of_getElem? HX.out, by rw [hc]; simp⟩)
      by_cases h1 : 32 ≤ s[k].toNat ∧ s[k].toNat ≤ 126
      · have HN2 := good (by unfold ctB; rw [decide_eq_true h1.1, decide_eq_true h1.2]; rfl)
        have hA : ¬ ((s[k].toNat : Nat) : Int) < 32 := by omega
        have hB : ¬ 126 < ((s[k].toNat : Nat) : Int) := by omega
        clear h1 good bad
        go_wp2_with fail
        go_roundw
        case rel => exact ⟨k + 1, by go_num, by omega, HN2, by first | trivial | rfl⟩
        case measure => simp [intOf]; omega
      · by_cases h2 : s[k].toNat = 10
        · have HN2 := good (by unfold ctB; rw [decide_eq_true h2]; simp)
          have hA : ((s[k].toNat : Nat) : Int) = 10 := by omega
          clear h1 h2 good bad
          go_wp2_with fail
          go_roundw
          case rel => exact ⟨k + 1, by go_num, by omega, HN2, by first | trivial | rfl⟩
          case measure => simp [intOf]; omega
        · have HB := bad (by
            unfold ctB
            rw [decide_eq_false h2]
            have : (decide (32 ≤ s[k].toNat) && decide (s[k].toNat ≤ 126)) = false := by
              rw [Bool.and_eq_false_iff, decide_eq_false_iff_not, decide_eq_false_iff_not]; omega
            rw [this]; rfl)
          have hne : (((s[k].toNat : Nat) : Int) != 10) = true := by simp; omega
          by_cases h3 : s[k].toNat < 32
          · have hA : ((s[k].toNat : Nat) : Int) < 32 := by omega
            clear h1 h2 h3 good bad
            go_wp2_with fail
            go_ret
            exact ⟨by rw [HB.out]; rfl, rfl⟩
          · have hA : ¬ ((s[k].toNat : Nat) : Int) < 32 := by omega
            have hB : 126 < ((s[k].toNat : Nat) : Int) := by omega
            clear h1 h2 h3 good bad
            go_wp2_with fail
            go_ret
            exact ⟨by rw [HB.out]; rfl, rfl⟩
    · obtain rfl : k = s.size := by omega
      have HL := Lib.hid (show contsB s = true from List.all_eq_true.2 (by have := HN.out; rw [List.take_of_length_le (by simp)] at this; exact this))
      have hltI : ¬ (s.size : Int) < (s.size : Int) := by omega
      go_wp2_with fail
      go_ret
      exact ⟨by rw [HL.out]; rfl, rfl⟩

end Go.Proofs.YtgdmcdjkmgpkpaaDoor
