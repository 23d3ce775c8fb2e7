/- ParserMore walked. -/
import Derived.Test.YtfkmnpgpfmkjaaaGreatDoorPsu
set_option linter.unusedSimpArgs false
set_option linter.unusedVariables false
set_option maxRecDepth 100000
namespace Go.Proofs.YtfkmnpgpfmkjaaaGreatDoor
open Go.ChangeShapes Go.WideShapes Go.ChangeAt Go.RowKit Go.Shelf
attribute [local go_sem] Oper.semAt_some

set_option maxHeartbeats 8000000 in
theorem pmore_c (c g : Int) (w : World) (hc : -9223372036854775808 ≤ c ∧ c ≤ 9223372036854775807) (hg : -9223372036854775808 ≤ g ∧ g ≤ 9223372036854775807) (hT : PTab w) :
    Calls Tryz.prog 7 #[.int .i64 c, .int .i64 g] w fun e w' => e = .returned (.bool true) ∧ Kept w w' := by
  have HTB := Lib.hid hT
  have HKK := Lib.hid (Kept.refl w)
  have HP1 := Lib.hid (ppick_c c 20 · (by decide) (by decide) hc)
  have HP2 := Lib.hid (ppick_c g 60 · (by decide) (by decide) hg)
  clear hT
  obtain ⟨i, hi, ei⟩ : ∃ i : Nat, i < 20 ∧ c % 20 = i := ⟨(c % 20).toNat, by omega, by omega⟩
  obtain ⟨j, hj, ej⟩ : ∃ j : Nat, j < 60 ∧ g % 60 = j := ⟨(g % 60).toNat, by omega, by omega⟩
  rw [ei] at HP1
  rw [ej] at HP2
  clear ei ej
  have HA := Lib.hid (more_a' i hi)
  have HB := Lib.hid (more_b' j hj)
  obtain ⟨m, hm⟩ : ∃ m, 41 + i = m := ⟨_, rfl⟩
  obtain ⟨n, hn⟩ : ∃ n, 60 + j = n := ⟨_, rfl⟩
  have hmI : (41 : Int) + (i : Int) = (m : Int) := by omega
  have hnI : (60 : Int) + (j : Int) = (n : Int) := by omega
  rw [hm] at HA
  rw [hn] at HB
  have hm61 : m ≤ 61 := by omega
  have hn120 : n ≤ 120 := by omega
  go_enter Tryz.func7, Tryz.ntmps7
  go_wp2_with fail
  refine (pawake_c _ HTB.out).mono ?_
  rintro e w1 ⟨rfl, k1⟩
  replace HTB := Lib.hid (HTB.out.kept k1)
  replace HKK := Lib.hid (HKK.out.trans k1)
  clear k1
  go_wp2_with fail
  refine (HP1.out _).mono ?_
  rintro e w1 ⟨rfl, rfl⟩
  go_wp2_with fail
  refine (HP2.out _).mono ?_
  rintro e w1 ⟨rfl, rfl⟩
  go_wp2_with fail
  clear HP1 HP2 hm hn
  go_loop [6, 8] (fun a p => ∃ k : Nat, k ≤ m ∧ a = .string (repB ⟨#[]⟩ mcA k) ∧ p = .int .i64 k) (fun _ p => m - (intOf p).toNat)
  case atStart => exact ⟨0, Nat.zero_le _, rfl, rfl⟩
  case round =>
    obtain ⟨k, hk, rfl, rfl⟩ := hrel
    have hsz := repB_size ⟨#[]⟩ mcA k
    have hsA : (⟨#[]⟩ : ByteArray).size = 0 := rfl
    have hsB : mcA.size = 9 := rfl
    rw [hsA, hsB] at hsz
    have hss : (repB ⟨#[]⟩ mcA k).size ≤ 900 := by omega
    by_cases hlt : k < m
    · have hltI : (k : Int) < (m : Int) := by omega
      clear hsz hsA hsB
      have HNX := Lib.hid (show repB ⟨#[]⟩ mcA k ++ mcA = repB ⟨#[]⟩ mcA (k + 1) from rfl)
      generalize repB ⟨#[]⟩ mcA k = s at *
      go_wp2
      exact ⟨⟨k + 1, by omega, by rw [← HNX.out], by go_num⟩, by simp [intOf]; omega⟩
    · obtain rfl : k = m := by omega
      clear hsz hsA hsB hlt hk
      have hltI : ¬ (k : Int) < (k : Int) := by omega
      have HA := HA
      generalize repB ⟨#[]⟩ mcA k = sa at *
      go_wp2_with fail
      go_loop [7, 9] (fun a p => ∃ k : Nat, k ≤ n ∧ a = .string (repB mcC mcD k) ∧ p = .int .i64 k) (fun _ p => n - (intOf p).toNat)
      case atStart => exact ⟨0, Nat.zero_le _, rfl, rfl⟩
      case round =>
        obtain ⟨q, hq, rfl, rfl⟩ := hrel
        have hsz := repB_size mcC mcD q
        have hsA : (mcC : ByteArray).size = 5 := rfl
        have hsB : mcD.size = 1 := rfl
        rw [hsA, hsB] at hsz
        have hss2 : (repB mcC mcD q).size ≤ 900 := by omega
        by_cases hlt : q < n
        · have hltI : (q : Int) < (n : Int) := by omega
          clear hsz hsA hsB
          have HNX := Lib.hid (show repB mcC mcD q ++ mcD = repB mcC mcD (q + 1) from rfl)
          generalize repB mcC mcD q = s at *
          go_wp2
          exact ⟨⟨q + 1, by omega, by rw [← HNX.out], by go_num⟩, by simp [intOf]; omega⟩
        · obtain rfl : q = n := by omega
          clear hsz hsA hsB hlt hq
          have hltI2 : ¬ (q : Int) < (q : Int) := by omega
          generalize repB mcC mcD q = sb at *
          have hq12 := fun W => eqF 12 0 12 0 W
          have hq11 := fun W => eqF 11 0 11 0 W
          obtain ⟨S1, hS1⟩ : ∃ S, sa ++ (⟨#[109, 97, 105, 110, 123, 125]⟩ : ByteArray) = S := ⟨_, rfl⟩
          have hz1 : S1.size ≤ 1000000 := by rw [← hS1, ByteArray.size_append]; have : (⟨#[109, 97, 105, 110, 123, 125]⟩ : ByteArray).size = 6 := rfl; omega
          have HP1 := Lib.hid (show parseP S1.data.toList = .fault 12 0 by rw [← hS1]; exact HA.out)
          have HS1 := Lib.hid hS1
          have hl1 : S1.data.toList.length = S1.size := by rw [Array.length_toList]; rfl
          clear HA hS1
          have hcv := Lib.run_convert_string_bytes (P := Tryz.prog) w1 9 33 5 S1 Tryz.underlying9 Tryz.underlying33 Tryz.underlying5
          have hsrc := src_of_text S1 w1 hz1
          obtain ⟨W41, hW4⟩ : ∃ W4, Lib.bytesWorld w1 5 S1 = W4 := ⟨_, rfl⟩
          have k4 : Kept w1 W41 := by rw [← hW4]; exact Kept.of_below (Lib.bytesWorld_below _ _ _)
          rw [hW4] at hcv hsrc
          replace HTB := Lib.hid (HTB.out.kept k4)
          replace HKK := Lib.hid (HKK.out.trans k4)
          have HPC := Lib.hid (parse_c (some ⟨w1.heap.size, 0, none⟩) _ S1.data.toList W41 hsrc HTB.out.tb HTB.out.er HTB.out.so)
          rw [hl1, HP1.out] at HPC
          clear hsrc hW4 k4 hl1 HP1
          go_wp2_with (rw [HS1.out])
          refine HPC.out.mono ?_
          rintro e w51 (⟨_, _, _, h1, _⟩ | ⟨er, ea, h1, _, rfl, k5⟩)
          · cases h1
          injection h1 with h1 h2
          subst h1 h2
          obtain ⟨Z61, h6⟩ : ∃ Z, (w51.alloc (.cells pzN nT)).alloc (.cells #[.int .i64 0, .int .i64 0] 36) = Z := ⟨_, rfl⟩
          obtain ⟨Z71, h7⟩ : ∃ Z, put6n Z61 w51.heap.size (Ps.nd 0 Ps.e0 Ps.e0 0 []) (.slice none 0 0) = Z := ⟨_, rfl⟩
          obtain ⟨W71, hW7⟩ : ∃ Z, (Z71.setCell ⟨w51.heap.size + 1, 0, none⟩ (.int .i64 12)).setCell ⟨w51.heap.size + 1, 1, none⟩ (.int .i64 0) = Z := ⟨_, rfl⟩
          obtain ⟨t1, t2, b6, b7, k7⟩ := two_boxes w51 (Ps.nd 0 Ps.e0 Ps.e0 0 []) (.slice none 0 0) 12 0 h6 h7 hW7
          have HZ61 := Lib.hid h6
          have HZ71 := Lib.hid (show (((((Z61.setCell ⟨w51.heap.size, 0, none⟩ (.int .i64 0)).setCell ⟨w51.heap.size, 1, none⟩ (.string ⟨#[]⟩)).setCell ⟨w51.heap.size, 2, none⟩ (.string ⟨#[]⟩)).setCell ⟨w51.heap.size, 3, none⟩ (.string ⟨#[]⟩)).setCell ⟨w51.heap.size, 4, none⟩ (.int .i64 0)).setCell ⟨w51.heap.size, 5, none⟩ (.slice none 0 0) = Z71 from h7)
          have HW71 := Lib.hid hW7
          obtain ⟨⟨q01, q11, q21, q31, q41, q51⟩, f01, f11, f21, f31, f41, f51⟩ := nd_six t1
          have p01 := t2.cell 0
          have p11 := t2.cell 1
          have r01 := t2.frozen 0
          have r11 := t2.frozen 1
          have HBF1 := Lib.hid b7
          replace HTB := Lib.hid (HTB.out.kept (k5.trans k7))
          replace HKK := Lib.hid (HKK.out.trans (k5.trans k7))
          clear t1 t2 h6 h7 hW7 k5 k7 b6 b7 hcv HPC
          go_wp2_with (first | rw [HZ61.out] | rw [HZ71.out] | rw [HW71.out])
          clear q01 q11 q21 q31 q41 q51 f01 f11 f21 f31 f41 f51 p01 p11 r01 r11
          obtain ⟨S2, hS2⟩ : ∃ S, sb ++ (⟨#[49, 125]⟩ : ByteArray) = S := ⟨_, rfl⟩
          have hz2 : S2.size ≤ 1000000 := by rw [← hS2, ByteArray.size_append]; have : (⟨#[49, 125]⟩ : ByteArray).size = 2 := rfl; omega
          have HP2 := Lib.hid (show parseP S2.data.toList = .fault 11 0 by rw [← hS2]; exact HB.out)
          have HS2 := Lib.hid hS2
          have hl2 : S2.data.toList.length = S2.size := by rw [Array.length_toList]; rfl
          clear HB hS2
          have hcv := Lib.run_convert_string_bytes (P := Tryz.prog) W71 9 33 5 S2 Tryz.underlying9 Tryz.underlying33 Tryz.underlying5
          have hsrc := src_of_text S2 W71 hz2
          obtain ⟨W42, hW4⟩ : ∃ W4, Lib.bytesWorld W71 5 S2 = W4 := ⟨_, rfl⟩
          have k4 : Kept W71 W42 := by rw [← hW4]; exact Kept.of_below (Lib.bytesWorld_below _ _ _)
          rw [hW4] at hcv hsrc
          replace HTB := Lib.hid (HTB.out.kept k4)
          replace HKK := Lib.hid (HKK.out.trans k4)
          replace HBF1 := Lib.hid (HBF1.out.kept k4)
          have HPC := Lib.hid (parse_c (some ⟨W71.heap.size, 0, none⟩) _ S2.data.toList W42 hsrc HTB.out.tb HTB.out.er HTB.out.so)
          rw [hl2, HP2.out] at HPC
          clear hsrc hW4 k4 hl2 HP2
          go_wp2_with (rw [HS2.out])
          rw [hcv]
          go_wp2_with fail
          refine HPC.out.mono ?_
          rintro e w52 (⟨_, _, _, h1, _⟩ | ⟨er, ea, h1, _, rfl, k5⟩)
          · cases h1
          injection h1 with h1 h2
          subst h1 h2
          obtain ⟨Z62, h6⟩ : ∃ Z, (w52.alloc (.cells pzN nT)).alloc (.cells #[.int .i64 0, .int .i64 0] 36) = Z := ⟨_, rfl⟩
          obtain ⟨Z72, h7⟩ : ∃ Z, put6n Z62 w52.heap.size (Ps.nd 0 Ps.e0 Ps.e0 0 []) (.slice none 0 0) = Z := ⟨_, rfl⟩
          obtain ⟨W72, hW7⟩ : ∃ Z, (Z72.setCell ⟨w52.heap.size + 1, 0, none⟩ (.int .i64 11)).setCell ⟨w52.heap.size + 1, 1, none⟩ (.int .i64 0) = Z := ⟨_, rfl⟩
          obtain ⟨t1, t2, b6, b7, k7⟩ := two_boxes w52 (Ps.nd 0 Ps.e0 Ps.e0 0 []) (.slice none 0 0) 11 0 h6 h7 hW7
          have HZ62 := Lib.hid h6
          have HZ72 := Lib.hid (show (((((Z62.setCell ⟨w52.heap.size, 0, none⟩ (.int .i64 0)).setCell ⟨w52.heap.size, 1, none⟩ (.string ⟨#[]⟩)).setCell ⟨w52.heap.size, 2, none⟩ (.string ⟨#[]⟩)).setCell ⟨w52.heap.size, 3, none⟩ (.string ⟨#[]⟩)).setCell ⟨w52.heap.size, 4, none⟩ (.int .i64 0)).setCell ⟨w52.heap.size, 5, none⟩ (.slice none 0 0) = Z72 from h7)
          have HW72 := Lib.hid hW7
          obtain ⟨⟨q02, q12, q22, q32, q42, q52⟩, f02, f12, f22, f32, f42, f52⟩ := nd_six t1
          have p02 := t2.cell 0
          have p12 := t2.cell 1
          have r02 := t2.frozen 0
          have r12 := t2.frozen 1
          have HBF2 := Lib.hid b7
          replace HTB := Lib.hid (HTB.out.kept (k5.trans k7))
          replace HKK := Lib.hid (HKK.out.trans (k5.trans k7))
          replace HBF1 := Lib.hid (HBF1.out.kept (k5.trans k7))
          clear t1 t2 h6 h7 hW7 k5 k7 b6 b7 hcv HPC
          have i01 := HBF1.out.cell 0
          have i11 := HBF1.out.cell 1
          have i02 := HBF2.out.cell 0
          have i12 := HBF2.out.cell 1
          go_wp2_with (first | rw [HZ62.out] | rw [HZ72.out] | rw [HW72.out])
          go_ret
          exact ⟨rfl, HKK.out⟩
end Go.Proofs.YtfkmnpgpfmkjaaaGreatDoor
