/- The document's own answers about types (chaperonref06): in, class, Typed. -/
import Derived.Test.YthooiofaicdhgaaGreatDoorRfc
import Derived.Test.YthooiofaicdhgaaGreatDoorRfm
set_option linter.unusedSimpArgs false
set_option linter.unusedVariables false
set_option maxRecDepth 100000
namespace Go.Proofs.YthooiofaicdhgaaGreatDoor
open Go.ChangeShapes Go.WideShapes Go.ChangeAt Go.RowKit

set_option maxHeartbeats 2000000 in
theorem rin6_c (l : List ByteArray) (v : Value) (s : ByteArray) (w : World) (h : Row 1 TxtS w v l) :
    Calls Tryz.prog 77 #[v, .string s] w fun e w' => e = .returned (.bool (inL l s)) ∧ w' = w := by
  obtain ⟨a, c, rfl, h1, h2, hat⟩ := h
  unfold maxLen at h2
  have HAT := Lib.hid hat
  clear hat
  go_enter Tryz.func77, Tryz.ntmps77
  go_wp2_with fail
  go_loopw [5] (fun q wr => ∃ j : Nat, q = .int .i64 j ∧ j ≤ l.length ∧ inL (l.take j) s = false ∧ wr = w) (fun q wr => l.length - (intOf q).toNat)
  case atStart => exact ⟨0, rfl, Nat.zero_le _, rfl, rfl⟩
  case round =>
    obtain ⟨j, rfl, hj, hno, rfl⟩ := hrel
    have HNO := Lib.hid hno
    clear hno
    by_cases hlt : j < l.length
    · have hltI : (j : Int) < (l.length : Int) := by omega
      have hx : l[j]? = some l[j] := List.getElem?_eq_getElem hlt
      obtain ⟨b, o, rfl, hcl⟩ := HAT.out _ _ hx
      generalize l[j] = x at hx hcl
      have c0 : wr.cell? ⟨b, o + j, none⟩ = some (.string x) := by simpa [TxtS] using hcl
      have HX := Lib.hid hx
      by_cases hn : x = s
      · have HP := Lib.hid (show inL l s = true by unfold inL; rw [List.any_eq_true]; exact ⟨x, List.mem_of_getElem? HX.out, decide_eq_true hn⟩)
        have hb := beq_yes hn
        clear hx hcl
        go_wp2_with fail
        go_ret
        exact ⟨by rw [HP.out]; rfl, rfl⟩
      · have HM := Lib.hid (show inL (l.take (j + 1)) s = false by
          rw [List.take_add_one, HX.out]
          have := HNO.out
          unfold inL at this ⊢
          rw [List.any_append, this]
          simp [hn])
        have hb := beq_no hn
        clear hx hcl
        go_wp2_with fail
        go_roundw
        case rel => exact ⟨j + 1, by go_num, by omega, HM.out, by first | trivial | rfl⟩
        case measure => simp [intOf]; omega
    · have hltI : ¬ (j : Int) < (l.length : Int) := by omega
      obtain rfl : j = l.length := by omega
      have HP := Lib.hid (show inL l s = false by have := HNO.out; rwa [List.take_length] at this)
      go_wp2_with fail
      go_ret
      exact ⟨by rw [HP.out]; rfl, rfl⟩

theorem rcls6_c (t : List Tab.C) (v : Value) (s : ByteArray) (w : World) (h : TabAt w v t) :
    Calls Tryz.prog 80 #[v, .string s] w fun e w' => e = .returned (.bool (Tab.isC t s)) ∧ w' = w := by
  have HC := Lib.hid (rfind_c t v s w h)
  unfold FindPost at HC
  unfold Tab.isC
  generalize Tab.num (Tab.ix Tab.C.name t s) = n at HC ⊢
  generalize (Tab.ix Tab.C.name t s).isSome = y at HC ⊢
  obtain ⟨a, c, rfl, _⟩ := h
  go_enter Tryz.func80, Tryz.ntmps80
  go_wp2_with fail
  refine HC.out.mono ?_
  rintro e w1 ⟨rfl, rfl⟩
  go_wp2_with fail
  go_ret
  exact ⟨rfl, rfl⟩

theorem isT_or (t : List Tab.C) (s : ByteArray) : Tab.isT t s = (Wrd.base s || (decide (s = ⟨#[63]⟩) || Tab.isC t s)) := by
  unfold Tab.isT
  rw [← Bool.or_assoc]
  congr 1
  rw [Bool.eq_iff_iff]
  unfold Tab.basics Wrd.base Wrd.has Wrd.bs
  simp
  constructor
  · rintro (e | e | e | e | e | e) <;> subst e <;> simp
  · rintro ((e | e | e | e | e) | e) <;> subst e <;> simp

set_option maxHeartbeats 2000000 in
theorem rtyped6_c (t : List Tab.C) (v : Value) (s : ByteArray) (w : World) (h : TabAt w v t) :
    Calls Tryz.prog 75 #[v, .string s] w fun e w' => e = .returned (.bool (Tab.isT t s)) ∧ Kept w w' := by
  have HB := Lib.hid (baseR_c s w)
  have HC := Lib.hid (fun (W : World) (k : Kept w W) => rcls6_c t v s W (tab_kept h k))
  have HE := Lib.hid (isT_or t s)
  obtain ⟨a, c, rfl, _⟩ := h
  generalize Tab.isT t s = y at HE ⊢
  generalize Tab.isC t s = z at HC HE
  cases hb : Wrd.base s with
  | true =>
    rw [hb] at HB HE
    obtain rfl : y = true := HE.out
    clear hb
    go_enter Tryz.func75, Tryz.ntmps75
    go_wp2_with fail
    refine HB.out.mono ?_
    rintro e w1 ⟨rfl, k1⟩
    go_wp2_with fail
    go_ret
    exact ⟨rfl, k1⟩
  | false =>
    rw [hb] at HB HE
    clear hb
    by_cases hd : s = ⟨#[63]⟩
    · have hq : (s.toList == ([63] : List UInt8)) = true := by have := beq_yes hd; rwa [show (⟨#[63]⟩ : ByteArray).toList = [63] by kernel_rfl] at this
      obtain rfl : y = true := by have := HE.out; rw [decide_eq_true hd] at this; exact this
      clear hd
      go_enter Tryz.func75, Tryz.ntmps75
      go_wp2_with fail
      refine HB.out.mono ?_
      rintro e w1 ⟨rfl, k1⟩
      go_wp2_with fail
      go_ret
      exact ⟨rfl, k1⟩
    · have hq : (s.toList == ([63] : List UInt8)) = false := by have := beq_no hd; rwa [show (⟨#[63]⟩ : ByteArray).toList = [63] by kernel_rfl] at this
      obtain rfl : y = z := by have := HE.out; rw [decide_eq_false hd] at this; exact this
      clear hd
      go_enter Tryz.func75, Tryz.ntmps75
      go_wp2_with fail
      refine HB.out.mono ?_
      rintro e w1 ⟨rfl, k1⟩
      have HK := Lib.hid k1
      clear k1
      go_wp2_with fail
      refine (HC.out _ HK.out).mono ?_
      rintro e w2 ⟨rfl, rfl⟩
      go_wp2_with fail
      go_ret
      exact ⟨rfl, HK.out⟩

end Go.Proofs.YthooiofaicdhgaaGreatDoor
