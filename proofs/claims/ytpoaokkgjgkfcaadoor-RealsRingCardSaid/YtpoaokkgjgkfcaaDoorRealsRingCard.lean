/- RealsRing returns true for every two words of 64 bits, and leaves its arguments as they were. The tables of math/bits and internal/strconv are as the program's text lays them; no other condition. -/
import Derived.Test.YtpoaokkgjgkfcaaDoorCards
import Derived.Test.YtpoaokkgjgkfcaaDoorTie
import Derived.Test.YtpoaokkgjgkfcaaDoorKno
import Derived.WalkKit
import Derived.ProofKit
import Derived.OpenShut
import Derived.ShutString
import Derived.Deep.DeepHandedRow
import Derived.Lib.LaidTab
set_option linter.unusedVariables false
set_option linter.unusedSimpArgs false
namespace Go.Proofs.YtpoaokkgjgkfcaaDoor.realsRing
open Go.ChangeShapes Go.WideShapes Go.ChangeAt Go.RowKit
open Go.ChangeMaps (open_string shut_string)
open Flo

theorem number_c (a : Nat) (h : a < 18446744073709551616) (w : World) : Calls Tryd.prog 25 #[.int .u64 a] w fun e w' => e = .returned (.bool (!isN a)) ∧ w = w' := by
  go_enter Tryd.func25, Tryd.ntmps25
  go_wp2
  go_ret
  refine ⟨ret_bool ?_, rfl⟩
  rw [and_low a h]
  unfold isN
  rw [Bool.eq_iff_iff]; simp; omega

/-- Two operations that come to the same. -/
theorem same_c (s t : ByteArray) (o p : BinOp) (hs : opOf s.toList = some o) (ht : opOf t.toList = some p) (a b c d : Nat) (h : doN o a b = doN p c d) (w : World) :
    Calls Tryd.prog 23 #[.string s, .int .u64 a, .int .u64 b, .string t, .int .u64 c, .int .u64 d] w fun e w' => e = .returned (.bool true) ∧ Grown w w' := by
  have H1 := Lib.hid (fun w => doR_op s a b w o hs)
  have H2 := Lib.hid (fun w => does_t t p ht c d (doN o a b) h.symm w)
  clear h hs ht
  generalize doN o a b = x at *
  go_enter Tryd.func23, Tryd.ntmps23
  go_wp2_with fail
  refine (H1.out _).mono ?_
  rintro e w1 ⟨rfl, g1⟩
  go_wp2_with fail
  refine (H2.out _).mono ?_
  rintro e w2 ⟨rfl, g2⟩
  go_wp2_with fail
  go_ret
  exact ⟨rfl, grown_trans g1 g2⟩
set_option maxHeartbeats 4000000 in
theorem walk (a0 : Int) (a1 : Int) (w0 : (Lit.int .u64 a0).wf = true) (w1 : (Lit.int .u64 a1).wf = true) (w : World) (T0 : Lib.TabIs Tryd.prog w "math/bits.deBruijn32tab" .u8 [0, 1, 28, 2, 29, 14, 24, 3, 30, 22, 20, 15, 25, 17, 4, 8, 31, 27, 13, 23, 21, 19, 16, 7, 26, 12, 18, 6, 11, 5, 10, 9]) (T1 : Lib.TabIs Tryd.prog w "math/bits.deBruijn64tab" .u8 [0, 1, 56, 2, 57, 49, 28, 3, 61, 58, 42, 50, 38, 29, 17, 4, 62, 47, 59, 36, 45, 43, 51, 22, 53, 39, 33, 30, 24, 18, 12, 5, 63, 55, 48, 27, 60, 41, 37, 16, 46, 35, 44, 21, 52, 32, 23, 11, 54, 26, 40, 15, 34, 20, 31, 10, 25, 14, 19, 9, 13, 8, 7, 6]) (T2 : Lib.TabIs Tryd.prog w "internal/strconv.uint64pow10" .u64 [1, 10, 100, 1000, 10000, 100000, 1000000, 10000000, 100000000, 1000000000, 10000000000, 100000000000, 1000000000000, 10000000000000, 100000000000000, 1000000000000000, 10000000000000000, 100000000000000000, 1000000000000000000, 10000000000000000000]) :
    Calls Tryd.prog 5 #[.int .u64 a0, .int .u64 a1] w fun e w' => e = .returned (.bool true) ∧ Kept w w' := by
  have hg : Tryd.prog.globalNamed "math/bits.deBruijn64tab" = some 4 := by kernel_rfl
  have hT : Tab w := T1.cell hg 15 (by decide)
  obtain ⟨b1, b2⟩ := bounds_u64 w0
  obtain ⟨b3, b4⟩ := bounds_u64 w1
  obtain ⟨x, rfl⟩ : ∃ x : Nat, a0 = x := ⟨a0.toNat, by omega⟩
  obtain ⟨y, rfl⟩ : ∃ y : Nat, a1 = y := ⟨a1.toNat, by omega⟩
  have hx : x < 18446744073709551616 := by omega
  have hy : y < 18446744073709551616 := by omega
  clear w0 w1 b1 b2 b3 b4 T0 T1 T2 hg
  have HK := Lib.hid (known_c w hT)
  clear hT
  have HNx := Lib.hid (fun w => negR_c x hx w)
  have HNy := Lib.hid (fun w => negR_c y hy w)
  have HS1 := Lib.hid (fun w => same_c ⟨#[43]⟩ ⟨#[43]⟩ .add .add (by kernel_rfl) (by kernel_rfl) x y y x (add_comm x y) w)
  have HS2 := Lib.hid (fun w => same_c ⟨#[42]⟩ ⟨#[42]⟩ .mul .mul (by kernel_rfl) (by kernel_rfl) x y y x (mul_comm x y) w)
  have HS3 := Lib.hid (fun w => same_c ⟨#[45]⟩ ⟨#[43]⟩ .sub .add (by kernel_rfl) (by kernel_rfl) x y x (ng y) (sub_neg x y hy) w)
  have HM := Lib.hid (fun w => doR_op ⟨#[42]⟩ x y w .mul (by kernel_rfl))
  have HQ := Lib.hid (fun w => doR_op ⟨#[47]⟩ x y w .quo (by kernel_rfl))
  have HNm := Lib.hid (fun w => negR_c (doN .mul x y) (doN_lt _ _ _) w)
  have HNq := Lib.hid (fun w => negR_c (doN .quo x y) (doN_lt _ _ _) w)
  have HDm := Lib.hid (fun w => does_t ⟨#[42]⟩ .mul (by kernel_rfl) (ng x) y (ng (doN .mul x y)) (mul_neg x y hx hy) w)
  have HDq := Lib.hid (fun w => does_t ⟨#[47]⟩ .quo (by kernel_rfl) x (ng y) (ng (doN .quo x y)) (quo_neg x y hy) w)
  have HnX := Lib.hid (fun w => number_c x hx w)
  have HnY := Lib.hid (fun w => number_c y hy w)
  have hN : isN x = true ∨ isN y = true → doN .add x y = nan ∧ doN .sub x y = nan ∧ doN .mul x y = nan ∧ doN .quo x y = nan := fun h =>
    ⟨doN_nan .add (by simp [Four]) x y hy h, doN_nan .sub (by simp [Four]) x y hy h, doN_nan .mul (by simp [Four]) x y hy h, doN_nan .quo (by simp [Four]) x y hy h⟩
  cases n1 : isN x
  · rw [n1] at HnX
    cases n2 : isN y
    · rw [n2] at HnY
      clear hN n1 n2
      go_enter Tryd.func5, Tryd.ntmps5
      go_wp2_with fail
      refine HK.out.mono ?_
      rintro e w' ⟨rfl, hkK⟩
      go_wp2_with fail
      refine (HS1.out _).mono ?_
      rintro e w' ⟨rfl, hg⟩
      have hkHS1 := Kept.of_grown hg
      clear hg
      go_wp2_with fail
      refine (HS2.out _).mono ?_
      rintro e w' ⟨rfl, hg⟩
      have hkHS2 := Kept.of_grown hg
      clear hg
      go_wp2_with fail
      refine (HNy.out _).mono ?_
      rintro e w' ⟨rfl, rfl⟩
      go_wp2_with fail
      refine (HS3.out _).mono ?_
      rintro e w' ⟨rfl, hg⟩
      have hkHS3 := Kept.of_grown hg
      clear hg
      go_wp2_with fail
      refine (HM.out _).mono ?_
      rintro e w' ⟨rfl, hg⟩
      have hkHM := Kept.of_grown hg
      clear hg
      go_wp2_with fail
      refine (HQ.out _).mono ?_
      rintro e w' ⟨rfl, hg⟩
      have hkHQ := Kept.of_grown hg
      clear hg
      go_wp2_with fail
      refine (HNx.out _).mono ?_
      rintro e w' ⟨rfl, rfl⟩
      go_wp2_with fail
      refine (HNm.out _).mono ?_
      rintro e w' ⟨rfl, rfl⟩
      go_wp2_with fail
      refine (HDm.out _).mono ?_
      rintro e w' ⟨rfl, hg⟩
      have hkHDm := Kept.of_grown hg
      clear hg
      go_wp2_with fail
      refine (HNy.out _).mono ?_
      rintro e w' ⟨rfl, rfl⟩
      go_wp2_with fail
      refine (HNq.out _).mono ?_
      rintro e w' ⟨rfl, rfl⟩
      go_wp2_with fail
      refine (HDq.out _).mono ?_
      rintro e w' ⟨rfl, hg⟩
      have hkHDq := Kept.of_grown hg
      clear hg
      go_wp2_with fail
      refine (HnX.out _).mono ?_
      rintro e w' ⟨rfl, rfl⟩
      go_wp2_with fail
      refine (HnY.out _).mono ?_
      rintro e w' ⟨rfl, rfl⟩
      go_wp2_with fail
      go_ret
      refine ⟨rfl, ?_⟩
      repeat (first | assumption | exact Kept.refl _ | refine Kept.trans ?_ (by assumption))
    · rw [n2] at HnY
      obtain ⟨v1, v2, v3, v4⟩ := hN (by simp [n1, n2])
      have HA := Lib.hid (fun w => does_t ⟨#[43]⟩ .add (by kernel_rfl) x y 9221120237041090560 v1 w)
      have HB := Lib.hid (fun w => does_t ⟨#[45]⟩ .sub (by kernel_rfl) x y 9221120237041090560 v2 w)
      have v3' : doN .mul x y = 9221120237041090560 := v3
      have v4' : doN .quo x y = 9221120237041090560 := v4
      have E1 : ((doN .mul x y : Nat) : Int) = 9221120237041090560 := by rw [v3']; rfl
      have E2 : ((doN .quo x y : Nat) : Int) = 9221120237041090560 := by rw [v4']; rfl
      have EH1 := Lib.hid E1
      have EH2 := Lib.hid E2
      clear v1 v2 v3 v4 v3' v4' E1 E2 hN
      go_enter Tryd.func5, Tryd.ntmps5
      go_wp2_with fail
      refine HK.out.mono ?_
      rintro e w' ⟨rfl, hkK⟩
      go_wp2_with fail
      refine (HS1.out _).mono ?_
      rintro e w' ⟨rfl, hg⟩
      have hkHS1 := Kept.of_grown hg
      clear hg
      go_wp2_with fail
      refine (HS2.out _).mono ?_
      rintro e w' ⟨rfl, hg⟩
      have hkHS2 := Kept.of_grown hg
      clear hg
      go_wp2_with fail
      refine (HNy.out _).mono ?_
      rintro e w' ⟨rfl, rfl⟩
      go_wp2_with fail
      refine (HS3.out _).mono ?_
      rintro e w' ⟨rfl, hg⟩
      have hkHS3 := Kept.of_grown hg
      clear hg
      go_wp2_with fail
      refine (HM.out _).mono ?_
      rintro e w' ⟨rfl, hg⟩
      have hkHM := Kept.of_grown hg
      clear hg
      go_wp2_with fail
      refine (HQ.out _).mono ?_
      rintro e w' ⟨rfl, hg⟩
      have hkHQ := Kept.of_grown hg
      clear hg
      go_wp2_with fail
      refine (HNx.out _).mono ?_
      rintro e w' ⟨rfl, rfl⟩
      go_wp2_with fail
      refine (HNm.out _).mono ?_
      rintro e w' ⟨rfl, rfl⟩
      go_wp2_with fail
      refine (HDm.out _).mono ?_
      rintro e w' ⟨rfl, hg⟩
      have hkHDm := Kept.of_grown hg
      clear hg
      go_wp2_with fail
      refine (HNy.out _).mono ?_
      rintro e w' ⟨rfl, rfl⟩
      go_wp2_with fail
      refine (HNq.out _).mono ?_
      rintro e w' ⟨rfl, rfl⟩
      go_wp2_with fail
      refine (HDq.out _).mono ?_
      rintro e w' ⟨rfl, hg⟩
      have hkHDq := Kept.of_grown hg
      clear hg
      go_wp2_with fail
      refine (HnX.out _).mono ?_
      rintro e w' ⟨rfl, rfl⟩
      go_wp2_with fail
      refine (HnY.out _).mono ?_
      rintro e w' ⟨rfl, rfl⟩
      go_wp2_with fail
      refine (HA.out _).mono ?_
      rintro e w' ⟨rfl, hg⟩
      have hkHA := Kept.of_grown hg
      clear hg
      go_wp2_with fail
      refine (HB.out _).mono ?_
      rintro e w' ⟨rfl, hg⟩
      have hkHB := Kept.of_grown hg
      clear hg
      have c1 : (((doN .mul x y : Nat) : Int) == 9221120237041090560) = true := by rw [EH1.out]; rfl
      have c2 : (((doN .quo x y : Nat) : Int) == 9221120237041090560) = true := by rw [EH2.out]; rfl
      go_wp2_with fail
      go_ret
      refine ⟨rfl, ?_⟩
      repeat (first | assumption | exact Kept.refl _ | refine Kept.trans ?_ (by assumption))
  · rw [n1] at HnX
    obtain ⟨v1, v2, v3, v4⟩ := hN (by simp [n1])
    have HA := Lib.hid (fun w => does_t ⟨#[43]⟩ .add (by kernel_rfl) x y 9221120237041090560 v1 w)
    have HB := Lib.hid (fun w => does_t ⟨#[45]⟩ .sub (by kernel_rfl) x y 9221120237041090560 v2 w)
    have v3' : doN .mul x y = 9221120237041090560 := v3
    have v4' : doN .quo x y = 9221120237041090560 := v4
    have E1 : ((doN .mul x y : Nat) : Int) = 9221120237041090560 := by rw [v3']; rfl
    have E2 : ((doN .quo x y : Nat) : Int) = 9221120237041090560 := by rw [v4']; rfl
    have EH1 := Lib.hid E1
    have EH2 := Lib.hid E2
    clear v1 v2 v3 v4 v3' v4' E1 E2 hN
    go_enter Tryd.func5, Tryd.ntmps5
    go_wp2_with fail
    refine HK.out.mono ?_
    rintro e w' ⟨rfl, hkK⟩
    go_wp2_with fail
    refine (HS1.out _).mono ?_
    rintro e w' ⟨rfl, hg⟩
    have hkHS1 := Kept.of_grown hg
    clear hg
    go_wp2_with fail
    refine (HS2.out _).mono ?_
    rintro e w' ⟨rfl, hg⟩
    have hkHS2 := Kept.of_grown hg
    clear hg
    go_wp2_with fail
    refine (HNy.out _).mono ?_
    rintro e w' ⟨rfl, rfl⟩
    go_wp2_with fail
    refine (HS3.out _).mono ?_
    rintro e w' ⟨rfl, hg⟩
    have hkHS3 := Kept.of_grown hg
    clear hg
    go_wp2_with fail
    refine (HM.out _).mono ?_
    rintro e w' ⟨rfl, hg⟩
    have hkHM := Kept.of_grown hg
    clear hg
    go_wp2_with fail
    refine (HQ.out _).mono ?_
    rintro e w' ⟨rfl, hg⟩
    have hkHQ := Kept.of_grown hg
    clear hg
    go_wp2_with fail
    refine (HNx.out _).mono ?_
    rintro e w' ⟨rfl, rfl⟩
    go_wp2_with fail
    refine (HNm.out _).mono ?_
    rintro e w' ⟨rfl, rfl⟩
    go_wp2_with fail
    refine (HDm.out _).mono ?_
    rintro e w' ⟨rfl, hg⟩
    have hkHDm := Kept.of_grown hg
    clear hg
    go_wp2_with fail
    refine (HNy.out _).mono ?_
    rintro e w' ⟨rfl, rfl⟩
    go_wp2_with fail
    refine (HNq.out _).mono ?_
    rintro e w' ⟨rfl, rfl⟩
    go_wp2_with fail
    refine (HDq.out _).mono ?_
    rintro e w' ⟨rfl, hg⟩
    have hkHDq := Kept.of_grown hg
    clear hg
    go_wp2_with fail
    refine (HnX.out _).mono ?_
    rintro e w' ⟨rfl, rfl⟩
    go_wp2_with fail
    refine (HA.out _).mono ?_
    rintro e w' ⟨rfl, hg⟩
    have hkHA := Kept.of_grown hg
    clear hg
    go_wp2_with fail
    refine (HB.out _).mono ?_
    rintro e w' ⟨rfl, hg⟩
    have hkHB := Kept.of_grown hg
    clear hg
    have c1 : (((doN .mul x y : Nat) : Int) == 9221120237041090560) = true := by rw [EH1.out]; rfl
    have c2 : (((doN .quo x y : Nat) : Int) == 9221120237041090560) = true := by rw [EH2.out]; rfl
    go_wp2_with fail
    go_ret
    refine ⟨rfl, ?_⟩
    repeat (first | assumption | exact Kept.refl _ | refine Kept.trans ?_ (by assumption))

theorem own : ownKnob Tryd.prog.godebug = none := by kernel_rfl
theorem g0 : Tryd.prog.globalNamed "math/bits.deBruijn32tab" = some 3 := by kernel_rfl
theorem tab0 {W : World} (h : laidMetH Tryd.prog Rows.realsRingRow.laid W) : Lib.TabIs Tryd.prog W "math/bits.deBruijn32tab" .u8 [0, 1, 28, 2, 29, 14, 24, 3, 30, 22, 20, 15, 25, 17, 4, 8, 31, 27, 13, 23, 21, 19, 16, 7, 26, 12, 18, 6, 11, 5, 10, 9] := by
  have h' : laidMet Tryd.prog Rows.realsRingRow.laid W := h
  obtain ⟨ps, hv, _, _⟩ := h'
  obtain ⟨g, t, cs, fuel, p, q, hg, ht, hvar, hd, _, _⟩ := hv
  obtain rfl := Option.some.inj (g0.symm.trans hg)
  obtain rfl := Option.some.inj ((show (Tryd.prog.globals[3]?).map (·.type) = some 90 by kernel_rfl).symm.trans ht)
  have hd' : DataW.trod (fun _ => ()) Tryd.prog W 0 (fun _ => true) false fuel 90 cs.toList = some (Lib.tabData .u8 [0, 1, 28, 2, 29, 14, 24, 3, 30, 22, 20, 15, 25, 17, 4, 8, 31, 27, 13, 23, 21, 19, 16, 7, 26, 12, 18, 6, 11, 5, 10, 9], p) := hd
  unfold Lib.TabIs
  rw [hvar, ← Lib.cells_of_tab (n := 32) (e := 5) (by kernel_rfl) (by kernel_rfl) (by kernel_rfl) (by kernel_rfl) hd']
theorem g1 : Tryd.prog.globalNamed "math/bits.deBruijn64tab" = some 4 := by kernel_rfl
theorem tab1 {W : World} (h : laidMetH Tryd.prog Rows.realsRingRow.laid W) : Lib.TabIs Tryd.prog W "math/bits.deBruijn64tab" .u8 [0, 1, 56, 2, 57, 49, 28, 3, 61, 58, 42, 50, 38, 29, 17, 4, 62, 47, 59, 36, 45, 43, 51, 22, 53, 39, 33, 30, 24, 18, 12, 5, 63, 55, 48, 27, 60, 41, 37, 16, 46, 35, 44, 21, 52, 32, 23, 11, 54, 26, 40, 15, 34, 20, 31, 10, 25, 14, 19, 9, 13, 8, 7, 6] := by
  have h' : laidMet Tryd.prog Rows.realsRingRow.laid W := h
  obtain ⟨ps, hv, _, _⟩ := h'
  obtain ⟨_, _, _, _, _, _, _, _, _, _, hv, _⟩ := hv
  obtain ⟨g, t, cs, fuel, p, q, hg, ht, hvar, hd, _, _⟩ := hv
  obtain rfl := Option.some.inj (g1.symm.trans hg)
  obtain rfl := Option.some.inj ((show (Tryd.prog.globals[4]?).map (·.type) = some 91 by kernel_rfl).symm.trans ht)
  have hd' : DataW.trod (fun _ => ()) Tryd.prog W 0 (fun _ => true) false fuel 91 cs.toList = some (Lib.tabData .u8 [0, 1, 56, 2, 57, 49, 28, 3, 61, 58, 42, 50, 38, 29, 17, 4, 62, 47, 59, 36, 45, 43, 51, 22, 53, 39, 33, 30, 24, 18, 12, 5, 63, 55, 48, 27, 60, 41, 37, 16, 46, 35, 44, 21, 52, 32, 23, 11, 54, 26, 40, 15, 34, 20, 31, 10, 25, 14, 19, 9, 13, 8, 7, 6], p) := hd
  unfold Lib.TabIs
  rw [hvar, ← Lib.cells_of_tab (n := 64) (e := 5) (by kernel_rfl) (by kernel_rfl) (by kernel_rfl) (by kernel_rfl) hd']
theorem g2 : Tryd.prog.globalNamed "internal/strconv.uint64pow10" = some 1 := by kernel_rfl
theorem tab2 {W : World} (h : laidMetH Tryd.prog Rows.realsRingRow.laid W) : Lib.TabIs Tryd.prog W "internal/strconv.uint64pow10" .u64 [1, 10, 100, 1000, 10000, 100000, 1000000, 10000000, 100000000, 1000000000, 10000000000, 100000000000, 1000000000000, 10000000000000, 100000000000000, 1000000000000000, 10000000000000000, 100000000000000000, 1000000000000000000, 10000000000000000000] := by
  have h' : laidMet Tryd.prog Rows.realsRingRow.laid W := h
  obtain ⟨ps, hv, _, _⟩ := h'
  obtain ⟨_, _, _, _, _, _, _, _, _, _, hv, _⟩ := hv
  obtain ⟨_, _, _, _, _, _, _, _, _, _, hv, _⟩ := hv
  obtain ⟨g, t, cs, fuel, p, q, hg, ht, hvar, hd, _, _⟩ := hv
  obtain rfl := Option.some.inj (g2.symm.trans hg)
  obtain rfl := Option.some.inj ((show (Tryd.prog.globals[1]?).map (·.type) = some 82 by kernel_rfl).symm.trans ht)
  have hd' : DataW.trod (fun _ => ()) Tryd.prog W 0 (fun _ => true) false fuel 82 cs.toList = some (Lib.tabData .u64 [1, 10, 100, 1000, 10000, 100000, 1000000, 10000000, 100000000, 1000000000, 10000000000, 100000000000, 1000000000000, 10000000000000, 100000000000000, 1000000000000000, 10000000000000000, 100000000000000000, 1000000000000000000, 10000000000000000000], p) := hd
  unfold Lib.TabIs
  rw [hvar, ← Lib.cells_of_tab (n := 20) (e := 22) (by kernel_rfl) (by kernel_rfl) (by kernel_rfl) (by kernel_rfl) hd']
def setTab (h : Array Obj) (g : Nat) (cs : Array Value) : Array Obj := h.modify g fun
  | .cells _ t frozen => .cells cs t frozen
  | x => x
noncomputable def laidWorld (os : Os) : World :=
  { World.holding Tryd.prog os ⟨#[], #[], []⟩ with heap := (setTab (setTab (setTab (World.holding Tryd.prog os ⟨#[], #[], []⟩).heap 3 #[.int .u8 0, .int .u8 1, .int .u8 28, .int .u8 2, .int .u8 29, .int .u8 14, .int .u8 24, .int .u8 3, .int .u8 30, .int .u8 22, .int .u8 20, .int .u8 15, .int .u8 25, .int .u8 17, .int .u8 4, .int .u8 8, .int .u8 31, .int .u8 27, .int .u8 13, .int .u8 23, .int .u8 21, .int .u8 19, .int .u8 16, .int .u8 7, .int .u8 26, .int .u8 12, .int .u8 18, .int .u8 6, .int .u8 11, .int .u8 5, .int .u8 10, .int .u8 9]) 4 #[.int .u8 0, .int .u8 1, .int .u8 56, .int .u8 2, .int .u8 57, .int .u8 49, .int .u8 28, .int .u8 3, .int .u8 61, .int .u8 58, .int .u8 42, .int .u8 50, .int .u8 38, .int .u8 29, .int .u8 17, .int .u8 4, .int .u8 62, .int .u8 47, .int .u8 59, .int .u8 36, .int .u8 45, .int .u8 43, .int .u8 51, .int .u8 22, .int .u8 53, .int .u8 39, .int .u8 33, .int .u8 30, .int .u8 24, .int .u8 18, .int .u8 12, .int .u8 5, .int .u8 63, .int .u8 55, .int .u8 48, .int .u8 27, .int .u8 60, .int .u8 41, .int .u8 37, .int .u8 16, .int .u8 46, .int .u8 35, .int .u8 44, .int .u8 21, .int .u8 52, .int .u8 32, .int .u8 23, .int .u8 11, .int .u8 54, .int .u8 26, .int .u8 40, .int .u8 15, .int .u8 34, .int .u8 20, .int .u8 31, .int .u8 10, .int .u8 25, .int .u8 14, .int .u8 19, .int .u8 9, .int .u8 13, .int .u8 8, .int .u8 7, .int .u8 6]) 1 #[.int .u64 1, .int .u64 10, .int .u64 100, .int .u64 1000, .int .u64 10000, .int .u64 100000, .int .u64 1000000, .int .u64 10000000, .int .u64 100000000, .int .u64 1000000000, .int .u64 10000000000, .int .u64 100000000000, .int .u64 1000000000000, .int .u64 10000000000000, .int .u64 100000000000000, .int .u64 1000000000000000, .int .u64 10000000000000000, .int .u64 100000000000000000, .int .u64 1000000000000000000, .int .u64 10000000000000000000]) }
theorem laid_met (os : Os) : laidMet Tryd.prog Rows.realsRingRow.laid ((laidWorld os).forCall (fun _ _ => 0) ⟨#[], #[.int .u64 0, .int .u64 0], []⟩).memory :=
  laidMet_of_run' 8 (by kernel_rfl) (by kernel_rfl)
theorem reads (os : Os) {H : Type} (enc : TypeId × Value → H) : ∃ places, DataW.whole enc Tryd.prog ((laidWorld os).forCall (fun _ _ => 0) ⟨#[], #[.int .u64 0, .int .u64 0], []⟩).memory Tryd.f5.params.toList Rows.realsRingSpec.vars false (#[.int .u64 0, .int .u64 0] : Array Value).toList 8 = some ([.lit (.int .u64 0), .lit (.int .u64 0)], [], places) :=
  ⟨[], by kernel_rfl⟩
theorem contract (H : Type) (enc : TypeId × Value → H) (W : World) (base : Nat) (args : Array Value) (ds gs : List (DataW H)) (before : List MemPlace)
    (hval : ∀ (j : Nat) t v, Tryd.f5.params[j]? = some t → args[j]? = some v → Value.okWide Tryd.prog W .any base t v)
    (hW : DataW.Whole enc Tryd.prog Tryd.f5.params.toList Rows.realsRingSpec.vars false W args.toList ds gs before) (hL : laidMetH Tryd.prog Rows.realsRingRow.laid W) :
    Calls Tryd.prog 5 args W fun e W' => ∃ v, e = .returned v ∧ Rows.realsRingSpec.post enc Tryd.prog Tryd.f5 false true false false W args v W' := by
  have hW' := hW
  obtain ⟨p, q, hA0, hV, rfl, hfz, hnd⟩ := hW
  have hA : DataW.TrodAll enc Tryd.prog W 0 (fun _ => true) true Tryd.f5.params.toList args.toList ds p := hA0
  rw [Tryd.params5] at hA hval
  obtain ⟨v0, vs0, d0, ds0, p0, q0, hargs, rfl, rfl, h0, r0⟩ := trodAll_cons hA
  obtain ⟨v1, vs1, d1, ds1, p1, q1, rfl, rfl, rfl, h1, r1⟩ := trodAll_cons r0
  obtain ⟨rfl, rfl, rfl⟩ := trodAll_nil r1
  obtain rfl : args = #[v0, v1] := by cases args; simp_all
  obtain ⟨rfl, rfl⟩ := trodVars_none hV
  obtain ⟨a0, rfl, rfl, rfl, w0⟩ := open_int Tryd.underlying22 (hval 0 22 v0 rfl rfl) h0
  obtain ⟨a1, rfl, rfl, rfl, w1⟩ := open_int Tryd.underlying22 (hval 1 22 v1 rfl rfl) h1
  clear hA0
  simp only [List.append_nil] at hW'
  refine (walk a0 a1 w0 w1 W (tab0 hL) (tab1 hL) (tab2 hL)).mono fun e W' ⟨he, hg⟩ => ?_
  subst he
  exact ⟨_, rfl, post_of_kept (pa := []) (pv := []) hW' (fun _ _ _ => (trodAll_cons_mk (shut_bool Tryd.underlying4 _) trodAll_mk0)) (fun sp _ => (trodAll_cons_mk (shut_int Tryd.underlying22 w0) (trodAll_cons_mk (shut_int Tryd.underlying22 w1) trodAll_mk0))) (fun _ _ => rfl) rfl
    hg (ok_one (by kernel_rfl) rfl (okWide_bool_mk Tryd.underlying4 _))⟩
set_option maxRecDepth 100000 in
theorem lifted (os : Os) (started : os.Started) (H : Type) (enc : TypeId × Value → H) (F : Stop.Interp) :
    ReturnsInHanded {} Tryd.checked os 5 .any ((OpenSpec.ofChange Rows.realsRingSpec).preRow enc Tryd.prog Tryd.f5 Rows.realsRingRow.domain false Rows.realsRingRow.laid) (((OpenSpec.ofChange Rows.realsRingSpec).at F).post enc Tryd.prog Tryd.f5 false true false false) := by
  obtain ⟨places, hx⟩ := reads os enc
  refine returnsInHanded_of_row (C := Tryd.checked) (s := OpenSpec.ofChange Rows.realsRingSpec) own started (by kernel_rfl) Tryd.func5
    (witness_row_at (enc := enc) (C := Tryd.checked) false (laidWorld os) #[.int .u64 0, .int .u64 0] rfl (by kernel_rfl) (by kernel_rfl) (by kernel_rfl)
      (OpenSpec.preRow_of_cond 8 hx (by kernel_rfl) (fun k hk => by cases hk) (by kernel_rfl) (laid_met os))) ?_
  intro W base args ds gs before hval hW _ _ _ hL _ _
  exact contract H enc W base args ds gs before hval hW hL

theorem said : Rows.RealsRingSaid :=
  OpenClaim.holds_of_cond 5 Tryd.f5 rfl rfl rfl rfl rfl rfl rfl ⟨rfl, rfl, rfl, rfl, rfl⟩ rfl rfl rfl rfl rfl (by kernel_rfl) Tryd.func5 (by kernel_rfl)
    (of_decide_eq_true (by kernel_rfl)) (by unfold Func.isWrapper; first | (rw [if_pos (by decide +kernel)]; kernel_rfl) | (rw [if_neg (by decide +kernel)]; exact ⟨rfl, rfl⟩))
    (fun os started H enc _ F => by rw [OpenClaim.pre_eq_preRow]; exact lifted os started H enc F)

theorem plain (f : FuncId) (fn : Func) (hf : Tryd.pinned.checked.prog.funcNamed Tryd.f5.name = some f) (hfn : Tryd.pinned.checked.prog.funcs[f]? = some fn) :
    false = Tryd.pinned.checked.prog.looks [] ∧ ∀ (j : Nat) t, fn.params[j]? = some t → Tryd.pinned.checked.prog.wantsStandIn t = false := by
  obtain rfl : f = 5 := Option.some.inj ((show Tryd.prog.funcNamed Tryd.f5.name = some 5 by kernel_rfl).symm.trans hf) |>.symm
  obtain rfl : fn = Tryd.f5 := (Option.some.inj (Tryd.func5.symm.trans hfn)).symm
  refine ⟨by kernel_rfl, fun j t ht => ?_⟩
  rw [Tryd.params5] at ht
  have hm : t = 22 := by
    have := Array.mem_of_getElem? ht
    simp at this
    omega
  rcases hm with rfl
  · exact (show Tryd.prog.wantsStandIn 22 = false by kernel_rfl)

theorem proved : Rows.RealsRingCardSaid :=
  Claim7.holds_tied_plain_at .later [] _ _ _ _ said (fun _ h => by cases h) (by kernel_rfl) (fun _ h => by cases h) realsRing_row_tie rfl ⟨rfl, rfl⟩ (by kernel_rfl) rfl plain (by kernel_rfl)
#print axioms proved
end Go.Proofs.YtpoaokkgjgkfcaaDoor.realsRing
