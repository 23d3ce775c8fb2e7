/- RealsNought returns true for every word of 64 bits, and leaves its argument as it was. The tables of math/bits and internal/strconv are as the program's text lays them; no other condition. -/
import Derived.Test.YtpoaokkgjgkfcaaDoorCards
import Derived.Test.YtpoaokkgjgkfcaaDoorTie
import Derived.Test.YtpoaokkgjgkfcaaDoorKno
import Derived.Test.YtpoaokkgjgkfcaaDoorFlz
import Derived.WalkKit
import Derived.ProofKit
import Derived.OpenShut
import Derived.ShutString
import Derived.Deep.DeepHandedRow
import Derived.Lib.LaidTab
set_option linter.unusedVariables false
set_option linter.unusedSimpArgs false
namespace Go.Proofs.YtpoaokkgjgkfcaaDoor.realsNought
open Go.ChangeShapes Go.WideShapes Go.ChangeAt Go.RowKit
open Go.ChangeMaps (open_string shut_string)
open Flo

theorem number_c (a : Nat) (h : a < 18446744073709551616) (w : World) : Calls Tryd.prog 25 #[.int .u64 a] w fun e w' => e = .returned (.bool (!isN a)) ∧ w = w' := by
  go_enter Tryd.func25, Tryd.ntmps25
  go_wp2
  go_ret
  refine ⟨ret_bool ?_, rfl⟩
  rw [and_low a h]
  unfold isN
  rw [Bool.eq_iff_iff]; simp; omega

theorem finite_c (a : Nat) (h : a < 18446744073709551616) (w : World) : Calls Tryd.prog 27 #[.int .u64 a] w fun e w' => e = .returned (.bool (decide (low a < 9218868437227405312))) ∧ w = w' := by
  go_enter Tryd.func27, Tryd.ntmps27
  go_wp2
  go_ret
  refine ⟨ret_bool ?_, rfl⟩
  rw [and_low a h]
  rw [Bool.eq_iff_iff]; simp; omega
set_option maxHeartbeats 4000000 in
theorem walk (a0 : Int) (w0 : (Lit.int .u64 a0).wf = true) (w : World) (T0 : Lib.TabIs Tryd.prog w "math/bits.deBruijn32tab" .u8 [0, 1, 28, 2, 29, 14, 24, 3, 30, 22, 20, 15, 25, 17, 4, 8, 31, 27, 13, 23, 21, 19, 16, 7, 26, 12, 18, 6, 11, 5, 10, 9]) (T1 : Lib.TabIs Tryd.prog w "math/bits.deBruijn64tab" .u8 [0, 1, 56, 2, 57, 49, 28, 3, 61, 58, 42, 50, 38, 29, 17, 4, 62, 47, 59, 36, 45, 43, 51, 22, 53, 39, 33, 30, 24, 18, 12, 5, 63, 55, 48, 27, 60, 41, 37, 16, 46, 35, 44, 21, 52, 32, 23, 11, 54, 26, 40, 15, 34, 20, 31, 10, 25, 14, 19, 9, 13, 8, 7, 6]) (T2 : Lib.TabIs Tryd.prog w "internal/strconv.uint64pow10" .u64 [1, 10, 100, 1000, 10000, 100000, 1000000, 10000000, 100000000, 1000000000, 10000000000, 100000000000, 1000000000000, 10000000000000, 100000000000000, 1000000000000000, 10000000000000000, 100000000000000000, 1000000000000000000, 10000000000000000000]) :
    Calls Tryd.prog 6 #[.int .u64 a0] w fun e w' => e = .returned (.bool true) ∧ Kept w w' := by
  have hg : Tryd.prog.globalNamed "math/bits.deBruijn64tab" = some 4 := by kernel_rfl
  have hT : Tab w := T1.cell hg 15 (by decide)
  obtain ⟨b1, b2⟩ := bounds_u64 w0
  obtain ⟨x, rfl⟩ : ∃ x : Nat, a0 = x := ⟨a0.toNat, by omega⟩
  have hx : x < 18446744073709551616 := by omega
  clear w0 b1 b2 T0 T1 T2 hg
  have HK := Lib.hid (known_c w hT)
  clear hT
  have HNu := Lib.hid (fun w => number_c x hx w)
  have HF := Lib.hid (fun w => finite_c x hx w)
  have HC := Lib.hid (fun w => canR_c x hx w)
  have HN := Lib.hid (fun w => negR_c x hx w)
  have HNN := Lib.hid (fun w => negR_c (ng x) (ng_lt hx) w)
  cases n1 : isN x
  · rw [n1] at HNu
    rw [cn_not n1] at HC
    rw [ng_ng x hx n1] at HNN
    have HD := Lib.hid (fun w => does_t ⟨#[42]⟩ .mul (by kernel_rfl) x 4607182418800017408 x (mul_one x hx n1) w)
    have HE := Lib.hid (fun w => does_t ⟨#[47]⟩ .quo (by kernel_rfl) x 4607182418800017408 x (quo_one x hx n1) w)
    have hl : low x ≤ 9218868437227405312 := by unfold isN at n1; rw [decide_eq_false_iff_not] at n1; omega
    by_cases hf : low x < 9218868437227405312
    · have hs := sub_self_fin x hx hf
      have HA := Lib.hid (fun w => does_t ⟨#[45]⟩ .sub (by kernel_rfl) x x 0 hs w)
      have HB := Lib.hid (fun w => does_t ⟨#[43]⟩ .add (by kernel_rfl) x (ng x) 0 (by rw [← sub_neg x x hx]; exact hs) w)
      rw [decide_eq_true hf] at HF
      have HI := Lib.hid (fun w => does_t ⟨#[47]⟩ .quo (by kernel_rfl) x 9218868437227405312 (word (sgn x) 0) (quo_inf x hf) w)
      have hsign : bits BinOp.and IntKind.u64 (x : Int) 9223372036854775808 = ((word (sgn x) 0 : Nat) : Int) := by
        rw [and_sign x hx]
        unfold word sgn
        by_cases h : x < 9223372036854775808
        · rw [if_pos h, if_neg (by rw [beq_iff_eq]; omega)]; rfl
        · rw [if_neg h, if_pos (by rw [beq_iff_eq]; omega)]; rfl
      by_cases h0 : low x = 0
      · have z1 : (bits BinOp.and IntKind.u64 (x : Int) 9223372036854775807 != 0) = false := by rw [and_low x hx, h0]; rfl
        clear n1 hs hl hf h0 hx
        go_enter Tryd.func6, Tryd.ntmps6
        go_wp2_with fail
        refine HK.out.mono ?_
        rintro e w' ⟨rfl, hkK⟩
        go_wp2_with fail
        refine (HNu.out _).mono ?_
        rintro e w' ⟨rfl, rfl⟩
        go_wp2_with fail
        refine (HF.out _).mono ?_
        rintro e w' ⟨rfl, rfl⟩
        go_wp2_with fail
        refine (HA.out _).mono ?_
        rintro e w' ⟨rfl, hg⟩
        have hk1 := Kept.of_grown hg
        clear hg
        go_wp2_with fail
        refine (HN.out _).mono ?_
        rintro e w' ⟨rfl, rfl⟩
        go_wp2_with fail
        refine (HB.out _).mono ?_
        rintro e w' ⟨rfl, hg⟩
        have hk2 := Kept.of_grown hg
        clear hg
        go_wp2_with fail
        refine (HD.out _).mono ?_
        rintro e w' ⟨rfl, hg⟩
        have hk3 := Kept.of_grown hg
        clear hg
        go_wp2_with fail
        refine (HE.out _).mono ?_
        rintro e w' ⟨rfl, hg⟩
        have hk4 := Kept.of_grown hg
        clear hg
        go_wp2_with fail
        refine (HC.out _).mono ?_
        rintro e w' ⟨rfl, rfl⟩
        go_wp2_with fail
        refine (HN.out _).mono ?_
        rintro e w' ⟨rfl, rfl⟩
        go_wp2_with fail
        refine (HNN.out _).mono ?_
        rintro e w' ⟨rfl, rfl⟩
        go_wp2_with fail
        refine (HF.out _).mono ?_
        rintro e w' ⟨rfl, rfl⟩
        go_wp2_with fail
        refine (HI.out _).mono ?_
        rintro e w' ⟨rfl, hg⟩
        have hk5 := Kept.of_grown hg
        clear hg
        go_wp2_with fail
        go_ret
        refine ⟨rfl, ?_⟩
        repeat (first | assumption | exact Kept.refl _ | refine Kept.trans ?_ (by assumption))
      · have z1 : (bits BinOp.and IntKind.u64 (x : Int) 9223372036854775807 != 0) = true := by rw [and_low x hx]; simp; exact h0
        have HP := Lib.hid (fun w => does_t ⟨#[43]⟩ .add (by kernel_rfl) x 9223372036854775808 x (add_nought x _ hx n1 h0 (by decide)) w)
        have HQ := Lib.hid (fun w => does_t ⟨#[43]⟩ .add (by kernel_rfl) x 0 x (add_nought x _ hx n1 h0 (by decide)) w)
        clear n1 hs hl hf h0 hx
        go_enter Tryd.func6, Tryd.ntmps6
        go_wp2_with fail
        refine HK.out.mono ?_
        rintro e w' ⟨rfl, hkK⟩
        go_wp2_with fail
        refine (HNu.out _).mono ?_
        rintro e w' ⟨rfl, rfl⟩
        go_wp2_with fail
        refine (HF.out _).mono ?_
        rintro e w' ⟨rfl, rfl⟩
        go_wp2_with fail
        refine (HA.out _).mono ?_
        rintro e w' ⟨rfl, hg⟩
        have hk1 := Kept.of_grown hg
        clear hg
        go_wp2_with fail
        refine (HN.out _).mono ?_
        rintro e w' ⟨rfl, rfl⟩
        go_wp2_with fail
        refine (HB.out _).mono ?_
        rintro e w' ⟨rfl, hg⟩
        have hk2 := Kept.of_grown hg
        clear hg
        go_wp2_with fail
        refine (HD.out _).mono ?_
        rintro e w' ⟨rfl, hg⟩
        have hk3 := Kept.of_grown hg
        clear hg
        go_wp2_with fail
        refine (HE.out _).mono ?_
        rintro e w' ⟨rfl, hg⟩
        have hk4 := Kept.of_grown hg
        clear hg
        go_wp2_with fail
        refine (HC.out _).mono ?_
        rintro e w' ⟨rfl, rfl⟩
        go_wp2_with fail
        refine (HN.out _).mono ?_
        rintro e w' ⟨rfl, rfl⟩
        go_wp2_with fail
        refine (HNN.out _).mono ?_
        rintro e w' ⟨rfl, rfl⟩
        go_wp2_with fail
        refine (HP.out _).mono ?_
        rintro e w' ⟨rfl, hg⟩
        have hk6 := Kept.of_grown hg
        clear hg
        go_wp2_with fail
        refine (HQ.out _).mono ?_
        rintro e w' ⟨rfl, hg⟩
        have hk7 := Kept.of_grown hg
        clear hg
        go_wp2_with fail
        refine (HF.out _).mono ?_
        rintro e w' ⟨rfl, rfl⟩
        go_wp2_with fail
        refine (HI.out _).mono ?_
        rintro e w' ⟨rfl, hg⟩
        have hk8 := Kept.of_grown hg
        clear hg
        go_wp2_with fail
        go_ret
        refine ⟨rfl, ?_⟩
        repeat (first | assumption | exact Kept.refl _ | refine Kept.trans ?_ (by assumption))
    · have hi : low x = 9218868437227405312 := by omega
      have h0 : low x ≠ 0 := by omega
      have hs := sub_self_inf x hx hi
      have HA := Lib.hid (fun w => does_t ⟨#[45]⟩ .sub (by kernel_rfl) x x 9221120237041090560 hs w)
      have HB := Lib.hid (fun w => does_t ⟨#[43]⟩ .add (by kernel_rfl) x (ng x) 9221120237041090560 (by rw [← sub_neg x x hx]; exact hs) w)
      rw [decide_eq_false hf] at HF
      have z1 : (bits BinOp.and IntKind.u64 (x : Int) 9223372036854775807 != 0) = true := by rw [and_low x hx]; simp; exact h0
      have HP := Lib.hid (fun w => does_t ⟨#[43]⟩ .add (by kernel_rfl) x 9223372036854775808 x (add_nought x _ hx n1 h0 (by decide)) w)
      have HQ := Lib.hid (fun w => does_t ⟨#[43]⟩ .add (by kernel_rfl) x 0 x (add_nought x _ hx n1 h0 (by decide)) w)
      clear n1 hs hl hf h0 hx hi
      go_enter Tryd.func6, Tryd.ntmps6
      go_wp2_with fail
      refine HK.out.mono ?_
      rintro e w' ⟨rfl, hkK⟩
      go_wp2_with fail
      refine (HNu.out _).mono ?_
      rintro e w' ⟨rfl, rfl⟩
      go_wp2_with fail
      refine (HF.out _).mono ?_
      rintro e w' ⟨rfl, rfl⟩
      go_wp2_with fail
      refine (HA.out _).mono ?_
      rintro e w' ⟨rfl, hg⟩
      have hk1 := Kept.of_grown hg
      clear hg
      go_wp2_with fail
      refine (HN.out _).mono ?_
      rintro e w' ⟨rfl, rfl⟩
      go_wp2_with fail
      refine (HB.out _).mono ?_
      rintro e w' ⟨rfl, hg⟩
      have hk2 := Kept.of_grown hg
      clear hg
      go_wp2_with fail
      refine (HD.out _).mono ?_
      rintro e w' ⟨rfl, hg⟩
      have hk3 := Kept.of_grown hg
      clear hg
      go_wp2_with fail
      refine (HE.out _).mono ?_
      rintro e w' ⟨rfl, hg⟩
      have hk4 := Kept.of_grown hg
      clear hg
      go_wp2_with fail
      refine (HC.out _).mono ?_
      rintro e w' ⟨rfl, rfl⟩
      go_wp2_with fail
      refine (HN.out _).mono ?_
      rintro e w' ⟨rfl, rfl⟩
      go_wp2_with fail
      refine (HNN.out _).mono ?_
      rintro e w' ⟨rfl, rfl⟩
      go_wp2_with fail
      refine (HP.out _).mono ?_
      rintro e w' ⟨rfl, hg⟩
      have hk9 := Kept.of_grown hg
      clear hg
      go_wp2_with fail
      refine (HQ.out _).mono ?_
      rintro e w' ⟨rfl, hg⟩
      have hk10 := Kept.of_grown hg
      clear hg
      go_wp2_with fail
      refine (HF.out _).mono ?_
      rintro e w' ⟨rfl, rfl⟩
      go_wp2_with fail
      go_ret
      refine ⟨rfl, ?_⟩
      repeat (first | assumption | exact Kept.refl _ | refine Kept.trans ?_ (by assumption))
  · rw [n1] at HNu
    have m1 : cn x = 9221120237041090560 := cn_yes n1
    have m2 : ng x = 9221120237041090560 := by
      rcases ng_of x with ⟨_, h⟩ | ⟨h, _⟩
      · exact h
      · rw [n1] at h; cases h
    rw [m1] at HC
    rw [m2] at HN
    clear n1 m1 m2 hx HNN
    go_enter Tryd.func6, Tryd.ntmps6
    go_wp2_with fail
    refine HK.out.mono ?_
    rintro e w' ⟨rfl, hkK⟩
    go_wp2_with fail
    refine (HNu.out _).mono ?_
    rintro e w' ⟨rfl, rfl⟩
    go_wp2_with fail
    refine (HC.out _).mono ?_
    rintro e w' ⟨rfl, rfl⟩
    go_wp2_with fail
    refine (HN.out _).mono ?_
    rintro e w' ⟨rfl, rfl⟩
    go_wp2_with fail
    go_ret
    refine ⟨rfl, ?_⟩
    repeat (first | assumption | exact Kept.refl _ | refine Kept.trans ?_ (by assumption))

theorem own : ownKnob Tryd.prog.godebug = none := by kernel_rfl
theorem g0 : Tryd.prog.globalNamed "math/bits.deBruijn32tab" = some 3 := by kernel_rfl
theorem tab0 {W : World} (h : laidMetH Tryd.prog Rows.realsNoughtRow.laid W) : Lib.TabIs Tryd.prog W "math/bits.deBruijn32tab" .u8 [0, 1, 28, 2, 29, 14, 24, 3, 30, 22, 20, 15, 25, 17, 4, 8, 31, 27, 13, 23, 21, 19, 16, 7, 26, 12, 18, 6, 11, 5, 10, 9] := by
  have h' : laidMet Tryd.prog Rows.realsNoughtRow.laid W := h
  obtain ⟨ps, hv, _, _⟩ := h'
  obtain ⟨g, t, cs, fuel, p, q, hg, ht, hvar, hd, _, _⟩ := hv
  obtain rfl := Option.some.inj (g0.symm.trans hg)
  obtain rfl := Option.some.inj ((show (Tryd.prog.globals[3]?).map (·.type) = some 90 by kernel_rfl).symm.trans ht)
  have hd' : DataW.trod (fun _ => ()) Tryd.prog W 0 (fun _ => true) false fuel 90 cs.toList = some (Lib.tabData .u8 [0, 1, 28, 2, 29, 14, 24, 3, 30, 22, 20, 15, 25, 17, 4, 8, 31, 27, 13, 23, 21, 19, 16, 7, 26, 12, 18, 6, 11, 5, 10, 9], p) := hd
  unfold Lib.TabIs
  rw [hvar, ← Lib.cells_of_tab (n := 32) (e := 5) (by kernel_rfl) (by kernel_rfl) (by kernel_rfl) (by kernel_rfl) hd']
theorem g1 : Tryd.prog.globalNamed "math/bits.deBruijn64tab" = some 4 := by kernel_rfl
theorem tab1 {W : World} (h : laidMetH Tryd.prog Rows.realsNoughtRow.laid W) : Lib.TabIs Tryd.prog W "math/bits.deBruijn64tab" .u8 [0, 1, 56, 2, 57, 49, 28, 3, 61, 58, 42, 50, 38, 29, 17, 4, 62, 47, 59, 36, 45, 43, 51, 22, 53, 39, 33, 30, 24, 18, 12, 5, 63, 55, 48, 27, 60, 41, 37, 16, 46, 35, 44, 21, 52, 32, 23, 11, 54, 26, 40, 15, 34, 20, 31, 10, 25, 14, 19, 9, 13, 8, 7, 6] := by
  have h' : laidMet Tryd.prog Rows.realsNoughtRow.laid W := h
  obtain ⟨ps, hv, _, _⟩ := h'
  obtain ⟨_, _, _, _, _, _, _, _, _, _, hv, _⟩ := hv
  obtain ⟨g, t, cs, fuel, p, q, hg, ht, hvar, hd, _, _⟩ := hv
  obtain rfl := Option.some.inj (g1.symm.trans hg)
  obtain rfl := Option.some.inj ((show (Tryd.prog.globals[4]?).map (·.type) = some 91 by kernel_rfl).symm.trans ht)
  have hd' : DataW.trod (fun _ => ()) Tryd.prog W 0 (fun _ => true) false fuel 91 cs.toList = some (Lib.tabData .u8 [0, 1, 56, 2, 57, 49, 28, 3, 61, 58, 42, 50, 38, 29, 17, 4, 62, 47, 59, 36, 45, 43, 51, 22, 53, 39, 33, 30, 24, 18, 12, 5, 63, 55, 48, 27, 60, 41, 37, 16, 46, 35, 44, 21, 52, 32, 23, 11, 54, 26, 40, 15, 34, 20, 31, 10, 25, 14, 19, 9, 13, 8, 7, 6], p) := hd
  unfold Lib.TabIs
  rw [hvar, ← Lib.cells_of_tab (n := 64) (e := 5) (by kernel_rfl) (by kernel_rfl) (by kernel_rfl) (by kernel_rfl) hd']
theorem g2 : Tryd.prog.globalNamed "internal/strconv.uint64pow10" = some 1 := by kernel_rfl
theorem tab2 {W : World} (h : laidMetH Tryd.prog Rows.realsNoughtRow.laid W) : Lib.TabIs Tryd.prog W "internal/strconv.uint64pow10" .u64 [1, 10, 100, 1000, 10000, 100000, 1000000, 10000000, 100000000, 1000000000, 10000000000, 100000000000, 1000000000000, 10000000000000, 100000000000000, 1000000000000000, 10000000000000000, 100000000000000000, 1000000000000000000, 10000000000000000000] := by
  have h' : laidMet Tryd.prog Rows.realsNoughtRow.laid W := h
  obtain ⟨ps, hv, _, _⟩ := h'
  obtain ⟨_, _, _, _, _, _, _, _, _, _, hv, _⟩ := hv
  obtain ⟨_, _, _, _, _, _, _, _, _, _, hv, _⟩ := hv
  obtain ⟨g, t, cs, fuel, p, q, hg, ht, hvar, hd, _, _⟩ := hv
  obtain rfl := Option.some.inj (g2.symm.trans hg)
  obtain rfl := Option.some.inj ((show (Tryd.prog.globals[1]?).map (·.type) = some 82 by kernel_rfl).symm.trans ht)
  have hd' : DataW.trod (fun _ => ()) Tryd.prog W 0 (fun _ => true) false fuel 82 cs.toList = some (Lib.tabData .u64 [1, 10, 100, 1000, 10000, 100000, 1000000, 10000000, 100000000, 1000000000, 10000000000, 100000000000, 1000000000000, 10000000000000, 100000000000000, 1000000000000000, 10000000000000000, 100000000000000000, 1000000000000000000, 10000000000000000000], p) := hd
  unfold Lib.TabIs
  rw [hvar, ← Lib.cells_of_tab (n := 20) (e := 22) (by kernel_rfl) (by kernel_rfl) (by kernel_rfl) (by kernel_rfl) hd']
def setTab (h : Array Obj) (g : Nat) (cs : Array Value) : Array Obj := h.modify g fun
  | .cells _ t frozen => .cells cs t frozen
  | x => x
noncomputable def laidWorld (os : Os) : World :=
  { World.holding Tryd.prog os ⟨#[], #[], []⟩ with heap := (setTab (setTab (setTab (World.holding Tryd.prog os ⟨#[], #[], []⟩).heap 3 #[.int .u8 0, .int .u8 1, .int .u8 28, .int .u8 2, .int .u8 29, .int .u8 14, .int .u8 24, .int .u8 3, .int .u8 30, .int .u8 22, .int .u8 20, .int .u8 15, .int .u8 25, .int .u8 17, .int .u8 4, .int .u8 8, .int .u8 31, .int .u8 27, .int .u8 13, .int .u8 23, .int .u8 21, .int .u8 19, .int .u8 16, .int .u8 7, .int .u8 26, .int .u8 12, .int .u8 18, .int .u8 6, .int .u8 11, .int .u8 5, .int .u8 10, .int .u8 9]) 4 #[.int .u8 0, .int .u8 1, .int .u8 56, .int .u8 2, .int .u8 57, .int .u8 49, .int .u8 28, .int .u8 3, .int .u8 61, .int .u8 58, .int .u8 42, .int .u8 50, .int .u8 38, .int .u8 29, .int .u8 17, .int .u8 4, .int .u8 62, .int .u8 47, .int .u8 59, .int .u8 36, .int .u8 45, .int .u8 43, .int .u8 51, .int .u8 22, .int .u8 53, .int .u8 39, .int .u8 33, .int .u8 30, .int .u8 24, .int .u8 18, .int .u8 12, .int .u8 5, .int .u8 63, .int .u8 55, .int .u8 48, .int .u8 27, .int .u8 60, .int .u8 41, .int .u8 37, .int .u8 16, .int .u8 46, .int .u8 35, .int .u8 44, .int .u8 21, .int .u8 52, .int .u8 32, .int .u8 23, .int .u8 11, .int .u8 54, .int .u8 26, .int .u8 40, .int .u8 15, .int .u8 34, .int .u8 20, .int .u8 31, .int .u8 10, .int .u8 25, .int .u8 14, .int .u8 19, .int .u8 9, .int .u8 13, .int .u8 8, .int .u8 7, .int .u8 6]) 1 #[.int .u64 1, .int .u64 10, .int .u64 100, .int .u64 1000, .int .u64 10000, .int .u64 100000, .int .u64 1000000, .int .u64 10000000, .int .u64 100000000, .int .u64 1000000000, .int .u64 10000000000, .int .u64 100000000000, .int .u64 1000000000000, .int .u64 10000000000000, .int .u64 100000000000000, .int .u64 1000000000000000, .int .u64 10000000000000000, .int .u64 100000000000000000, .int .u64 1000000000000000000, .int .u64 10000000000000000000]) }
theorem laid_met (os : Os) : laidMet Tryd.prog Rows.realsNoughtRow.laid ((laidWorld os).forCall (fun _ _ => 0) ⟨#[], #[.int .u64 0], []⟩).memory :=
  laidMet_of_run' 8 (by kernel_rfl) (by kernel_rfl)
theorem reads (os : Os) {H : Type} (enc : TypeId × Value → H) : ∃ places, DataW.whole enc Tryd.prog ((laidWorld os).forCall (fun _ _ => 0) ⟨#[], #[.int .u64 0], []⟩).memory Tryd.f6.params.toList Rows.realsNoughtSpec.vars false (#[.int .u64 0] : Array Value).toList 8 = some ([.lit (.int .u64 0)], [], places) :=
  ⟨[], by kernel_rfl⟩
theorem contract (H : Type) (enc : TypeId × Value → H) (W : World) (base : Nat) (args : Array Value) (ds gs : List (DataW H)) (before : List MemPlace)
    (hval : ∀ (j : Nat) t v, Tryd.f6.params[j]? = some t → args[j]? = some v → Value.okWide Tryd.prog W .any base t v)
    (hW : DataW.Whole enc Tryd.prog Tryd.f6.params.toList Rows.realsNoughtSpec.vars false W args.toList ds gs before) (hL : laidMetH Tryd.prog Rows.realsNoughtRow.laid W) :
    Calls Tryd.prog 6 args W fun e W' => ∃ v, e = .returned v ∧ Rows.realsNoughtSpec.post enc Tryd.prog Tryd.f6 false true false false W args v W' := by
  have hW' := hW
  obtain ⟨p, q, hA0, hV, rfl, hfz, hnd⟩ := hW
  have hA : DataW.TrodAll enc Tryd.prog W 0 (fun _ => true) true Tryd.f6.params.toList args.toList ds p := hA0
  rw [Tryd.params6] at hA hval
  obtain ⟨v0, vs0, d0, ds0, p0, q0, hargs, rfl, rfl, h0, r0⟩ := trodAll_cons hA
  obtain ⟨rfl, rfl, rfl⟩ := trodAll_nil r0
  obtain rfl : args = #[v0] := by cases args; simp_all
  obtain ⟨rfl, rfl⟩ := trodVars_none hV
  obtain ⟨a0, rfl, rfl, rfl, w0⟩ := open_int Tryd.underlying22 (hval 0 22 v0 rfl rfl) h0
  clear hA0
  simp only [List.append_nil] at hW'
  refine (walk a0 w0 W (tab0 hL) (tab1 hL) (tab2 hL)).mono fun e W' ⟨he, hg⟩ => ?_
  subst he
  exact ⟨_, rfl, post_of_kept (pa := []) (pv := []) hW' (fun _ _ _ => (trodAll_cons_mk (shut_bool Tryd.underlying4 _) trodAll_mk0)) (fun sp _ => (trodAll_cons_mk (shut_int Tryd.underlying22 w0) trodAll_mk0)) (fun _ _ => rfl) rfl
    hg (ok_one (by kernel_rfl) rfl (okWide_bool_mk Tryd.underlying4 _))⟩
set_option maxRecDepth 100000 in
theorem lifted (os : Os) (started : os.Started) (H : Type) (enc : TypeId × Value → H) (F : Stop.Interp) :
    ReturnsInHanded {} Tryd.checked os 6 .any ((OpenSpec.ofChange Rows.realsNoughtSpec).preRow enc Tryd.prog Tryd.f6 Rows.realsNoughtRow.domain false Rows.realsNoughtRow.laid) (((OpenSpec.ofChange Rows.realsNoughtSpec).at F).post enc Tryd.prog Tryd.f6 false true false false) := by
  obtain ⟨places, hx⟩ := reads os enc
  refine returnsInHanded_of_row (C := Tryd.checked) (s := OpenSpec.ofChange Rows.realsNoughtSpec) own started (by kernel_rfl) Tryd.func6
    (witness_row_at (enc := enc) (C := Tryd.checked) false (laidWorld os) #[.int .u64 0] rfl (by kernel_rfl) (by kernel_rfl) (by kernel_rfl)
      (OpenSpec.preRow_of_cond 8 hx (by kernel_rfl) (fun k hk => by cases hk) (by kernel_rfl) (laid_met os))) ?_
  intro W base args ds gs before hval hW _ _ _ hL _ _
  exact contract H enc W base args ds gs before hval hW hL

theorem said : Rows.RealsNoughtSaid :=
  OpenClaim.holds_of_cond 6 Tryd.f6 rfl rfl rfl rfl rfl rfl rfl ⟨rfl, rfl, rfl, rfl, rfl⟩ rfl rfl rfl rfl rfl (by kernel_rfl) Tryd.func6 (by kernel_rfl)
    (of_decide_eq_true (by kernel_rfl)) (by unfold Func.isWrapper; first | (rw [if_pos (by decide +kernel)]; kernel_rfl) | (rw [if_neg (by decide +kernel)]; exact ⟨rfl, rfl⟩))
    (fun os started H enc _ F => by rw [OpenClaim.pre_eq_preRow]; exact lifted os started H enc F)

theorem plain (f : FuncId) (fn : Func) (hf : Tryd.pinned.checked.prog.funcNamed Tryd.f6.name = some f) (hfn : Tryd.pinned.checked.prog.funcs[f]? = some fn) :
    false = Tryd.pinned.checked.prog.looks [] ∧ ∀ (j : Nat) t, fn.params[j]? = some t → Tryd.pinned.checked.prog.wantsStandIn t = false := by
  obtain rfl : f = 6 := Option.some.inj ((show Tryd.prog.funcNamed Tryd.f6.name = some 6 by kernel_rfl).symm.trans hf) |>.symm
  obtain rfl : fn = Tryd.f6 := (Option.some.inj (Tryd.func6.symm.trans hfn)).symm
  refine ⟨by kernel_rfl, fun j t ht => ?_⟩
  rw [Tryd.params6] at ht
  have hm : t = 22 := by
    have := Array.mem_of_getElem? ht
    simp at this
    omega
  rcases hm with rfl
  · exact (show Tryd.prog.wantsStandIn 22 = false by kernel_rfl)

theorem proved : Rows.RealsNoughtCardSaid :=
  Claim7.holds_tied_plain_at .later [] _ _ _ _ said (fun _ h => by cases h) (by kernel_rfl) (fun _ h => by cases h) realsNought_row_tie rfl ⟨rfl, rfl⟩ (by kernel_rfl) rfl plain (by kernel_rfl)
#print axioms proved
end Go.Proofs.YtpoaokkgjgkfcaaDoor.realsNought
