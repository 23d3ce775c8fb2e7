/- The contract of table.Check. -/
import Derived.Test.YthooiofaicdhgaaGreatDoorChm
import Derived.Test.YthooiofaicdhgaaGreatDoorChd
import Derived.Test.YthooiofaicdhgaaGreatDoorCsu
set_option linter.unusedSimpArgs false
set_option linter.unusedVariables false
set_option maxRecDepth 100000
namespace Go.Proofs.YthooiofaicdhgaaGreatDoor
open Go.ChangeShapes Go.WideShapes Go.ChangeAt Go.RowKit

/-- The checks, in their order. -/
def RF (t : List Tab.C) : Nat → Nat → Int
  | 0 => Tab.chkHead t
  | 1 => Tab.chkSuper t
  | _ => Tab.chkMembers t
theorem rnd_step (f : Nat → Int) (i n : Nat) : Tab.chkRound f i (n + 1) = if f i = 0 then Tab.chkRound f (i + 1) n else (f i, (i : Int)) := rfl
theorem rnd_zero (f : Nat → Int) : ∀ (n i : Nat), (Tab.chkRound f i n).1 = 0 → Tab.chkRound f i n = (0, 0)
  | 0, _, _ => rfl
  | n + 1, i, h => by
    rw [rnd_step] at h ⊢
    by_cases hz : f i = 0
    · rw [if_pos hz] at h ⊢; exact rnd_zero f n (i + 1) h
    · rw [if_neg hz] at h; exact absurd h hz
theorem chk_bad {t : List Tab.C} {k : Nat} {e i : Int} (hl : ¬ 40 < t.length) (hz : ∀ r, r < k → (Tab.chkRound (RF t r) 0 t.length).1 = 0) (hk : Tab.chkRound (RF t k) 0 t.length = (e, i)) (he : ¬ e = 0) (hk3 : k < 3 := by omega) : Tab.check t = (e, i) := by
  unfold Tab.check
  rw [if_neg hl]
  rcases (show k = 0 ∨ k = 1 ∨ k = 2 by omega) with rfl | rfl | rfl
  · have h0 : Tab.chkRound (Tab.chkHead t) 0 t.length = (e, i) := hk
    rw [h0, if_neg he]
  · have h0 : (Tab.chkRound (Tab.chkHead t) 0 t.length).1 = 0 := hz 0 (by omega)
    have h1 : Tab.chkRound (Tab.chkSuper t) 0 t.length = (e, i) := hk
    rw [if_pos h0, h1, if_neg he]
  · have h0 : (Tab.chkRound (Tab.chkHead t) 0 t.length).1 = 0 := hz 0 (by omega)
    have h1 : (Tab.chkRound (Tab.chkSuper t) 0 t.length).1 = 0 := hz 1 (by omega)
    have h2 : Tab.chkRound (Tab.chkMembers t) 0 t.length = (e, i) := hk
    rw [if_pos h0, if_pos h1, h2]
theorem chk_ok {t : List Tab.C} (hl : ¬ 40 < t.length) (hz : ∀ r, r < 3 → (Tab.chkRound (RF t r) 0 t.length).1 = 0) : Tab.check t = (0, 0) := by
  unfold Tab.check
  have h0 : (Tab.chkRound (Tab.chkHead t) 0 t.length).1 = 0 := hz 0 (by omega)
  have h1 : (Tab.chkRound (Tab.chkSuper t) 0 t.length).1 = 0 := hz 1 (by omega)
  have h2 : (Tab.chkRound (Tab.chkMembers t) 0 t.length).1 = 0 := hz 2 (by omega)
  rw [if_neg hl, if_pos h0, if_pos h1]
  exact rnd_zero _ _ _ h2

/-- The result's cells, and the list of the checks. -/
def ChkC (w W : World) : Prop :=
  Blk W w.heap.size 38 #[.int .i64 0, .int .i64 0] ∧ Blk W (w.heap.size + 1) 107 #[.func (.func 100) #[] #[], .func (.func 101) #[] #[], .func (.func 102) #[] #[]] ∧ Kept w W
theorem ChkC.keep {w A B : World} (h : ChkC w A) (k : Kept A B) : ChkC w B := ⟨h.1.kept k, h.2.1.kept k, h.2.2.trans k⟩
theorem ChkC.set {w W : World} (h : ChkC w W) (e i : Int) : Blk ((W.setCell ⟨w.heap.size, 0, none⟩ (.int .i64 e)).setCell ⟨w.heap.size, 1, none⟩ (.int .i64 i)) w.heap.size 38 #[.int .i64 e, .int .i64 i] ∧ Kept w ((W.setCell ⟨w.heap.size, 0, none⟩ (.int .i64 e)).setCell ⟨w.heap.size, 1, none⟩ (.int .i64 i)) :=
  ⟨(h.1.put 0 _).put 1 _, (h.2.2.setCell (by simp) _).setCell (by simp) _⟩

set_option maxHeartbeats 8000000 in
theorem check_c (t : List Tab.C) (a : Option Addr) (cp : Nat) (w : World) (hTb : Tb w) (h : TabAt w (.slice a t.length cp) t) (hS : Small t) :
    Calls Tryz.prog 35 #[.slice a t.length cp] w fun e w' => e = .returned (.agg #[.int .i64 (Tab.check t).1, .int .i64 (Tab.check t).2]) ∧ Kept w w' := by
  obtain ⟨av, hav⟩ : ∃ av, av = Tab.check t := ⟨_, rfl⟩
  rw [← hav]
  have HAV := Lib.hid hav
  clear hav
  have hk0 : Kept w ((w.alloc (.cells #[.int .i64 0, .int .i64 0] 38)).alloc (.cells #[.func (.func 100) #[] #[], .func (.func 101) #[] #[], .func (.func 102) #[] #[]] 107)) := ((Kept.refl w).alloc _).alloc _
  have hb1 := Blk.new w 38 #[.int .i64 0, .int .i64 0]
  have hb2 := Blk.new (w.alloc (.cells #[.int .i64 0, .int .i64 0] 38)) 107 #[.func (.func 100) #[] #[], .func (.func 101) #[] #[], .func (.func 102) #[] #[]]
  simp only [World.size_alloc] at hb2
  have HC0 := Lib.hid (show ChkC w _ from ⟨hb1.alloc (.cells #[.func (.func 100) #[] #[], .func (.func 101) #[] #[], .func (.func 102) #[] #[]] 107), hb2, hk0⟩)
  have HH1 := Lib.hid (fun (i : Nat) (wr : World) (hi : i < t.length) (k : Kept w wr) => chead_c t a cp i wr (tab_kept h k) hi hS.len)
  have HH2 := Lib.hid (fun (i : Nat) (wr : World) (hi : i < t.length) (k : Kept w wr) => csuper_c t a cp i wr (tab_kept h k) hi hS.len)
  have HH3 := Lib.hid (fun (i : Nat) (wr : World) (hi : i < t.length) (k : Kept w wr) => cmembers_c t a cp i wr (hTb.kept k) (tab_kept h k) hi hS)
  have hts := hS.len
  clear h hTb hk0 hb2
  by_cases hl : 40 < t.length
  · have hlI : (40 : Int) < (t.length : Int) := by omega
    have HG := Lib.hid (show Tab.check t = (12, 40) by unfold Tab.check; rw [if_pos hl])
    have q0 := hb1.cell 0
    have q1 := hb1.cell 1
    have f0 := hb1.frozen 0
    have f1 := hb1.frozen 1
    have HF := Lib.hid (show Blk (((w.alloc (.cells #[.int .i64 0, .int .i64 0] 38)).setCell ⟨w.heap.size, 0, none⟩ (.int .i64 12)).setCell ⟨w.heap.size, 1, none⟩ (.int .i64 40)) w.heap.size 38 #[.int .i64 12, .int .i64 40] from (hb1.put 0 _).put 1 _)
    have HK := Lib.hid (show Kept w (((w.alloc (.cells #[.int .i64 0, .int .i64 0] 38)).setCell ⟨w.heap.size, 0, none⟩ (.int .i64 12)).setCell ⟨w.heap.size, 1, none⟩ (.int .i64 40)) from (((Kept.refl w).alloc _).setCell (by simp) _).setCell (by simp) _)
    clear hl hb1 HF HK
    go_enter Tryz.func35, Tryz.ntmps35
    go_wp2_with fail
    clear q0 q1 f0 f1
    have hb := Blk.new w 38 #[.int .i64 12, .int .i64 40]
    have q0 := hb.cell 0
    have q1 := hb.cell 1
    simp only [List.getElem?_toArray, List.getElem?_cons_zero, List.getElem?_cons_succ] at q0 q1
    exact bodyPost_ret (v := .agg #[.int .i64 12, .int .i64 40]) (by simp [results, Tryz.results35, go_sem, q0, q1]) rfl ⟨by rw [HAV.out, HG.out], (Kept.refl w).alloc _⟩
  · have hlI : ¬ (40 : Int) < (t.length : Int) := by omega
    have HLN := Lib.hid hl
    clear hl hb1
    go_enter Tryz.func35, Tryz.ntmps35
    go_wp2_with fail
    go_loopw [13] (fun q wr => ∃ k : Nat, k ≤ 3 ∧ q = .int .i64 k ∧ ChkC w wr ∧ ∀ r, r < k → (Tab.chkRound (RF t r) 0 t.length).1 = 0) (fun q wr => 3 - (intOf q).toNat)
    case atStart => exact ⟨0, by omega, rfl, HC0.out, fun r hr => absurd hr (by omega)⟩
    case round =>
      obtain ⟨k, hk, rfl, hcc, hz⟩ := hrel
      have p0 := hcc.2.1.cell 0
      have p1 := hcc.2.1.cell 1
      have p2 := hcc.2.1.cell 2
      have HCC := Lib.hid hcc
      have HZ := Lib.hid hz
      simp at p0 p1 p2
      clear hcc hz
      rcases (show k = 3 ∨ k = 0 ∨ k = 1 ∨ k = 2 by omega) with rfl | rfl | rfl | rfl
      · have q0 := HCC.out.1.cell 0
        have q1 := HCC.out.1.cell 1
        have f0 := HCC.out.1.frozen 0
        have f1 := HCC.out.1.frozen 1
        have HF := Lib.hid (HCC.out.set 0 0)
        have HG := Lib.hid (chk_ok HLN.out HZ.out)
        simp at q0 q1
        go_wp2_with fail
        clear q0 q1 f0 f1
        have q0 := HF.out.1.cell 0
        have q1 := HF.out.1.cell 1
        simp only [List.getElem?_toArray, List.getElem?_cons_zero, List.getElem?_cons_succ] at q0 q1
        exact bodyPost_ret (v := .agg #[.int .i64 0, .int .i64 0]) (by simp [results, Tryz.results35, go_sem, q0, q1]) rfl ⟨by rw [HAV.out, HG.out], HF.out.2⟩
      · go_wp2_with fail
        go_loopw [19] (fun q wr => ∃ i : Nat, i ≤ t.length ∧ q = .int .i64 i ∧ ChkC w wr ∧ Tab.chkRound (RF t 0) 0 t.length = Tab.chkRound (RF t 0) i (t.length - i)) (fun q wr => t.length - (intOf q).toNat)
        case atStart => exact ⟨0, Nat.zero_le _, rfl, HCC.out, rfl⟩
        case round =>
          obtain ⟨i, hi, rfl, hcc, he⟩ := hrel
          by_cases hlt : i < t.length
          · have hltI : (i : Int) < (t.length : Int) := by omega
            have HCL := Lib.hid (HH1.out i wr hlt hcc.2.2)
            have HCD := Lib.hid hcc
            rw [show t.length - i = (t.length - (i + 1)) + 1 by omega] at he
            have HE := Lib.hid (he.trans (rnd_step (RF t 0) i (t.length - (i + 1))))
            clear he hcc
            by_cases hz : RF t 0 i = 0
            · rw [show Tab.chkHead t i = RF t 0 i from rfl, hz] at HCL
              have HG := Lib.hid (show Tab.chkRound (RF t 0) 0 t.length = Tab.chkRound (RF t 0) (i + 1) (t.length - (i + 1)) by rw [HE.out, if_pos hz])
              clear hz
              go_wp2_with fail
              refine HCL.out.mono ?_
              rintro e w3 ⟨rfl, k3⟩
              go_wp2_with fail
              go_roundw
              case rel => exact ⟨_, _, _, _, _, _, _, _, _, _, _, _, _, _, _, ⟨i + 1, by omega, by go_num, HCD.out.keep k3, HG.out⟩, rfl⟩
              case measure => simp [intOf]; omega
            · have HG := Lib.hid (show Tab.chkRound (RF t 0) 0 t.length = (RF t 0 i, (i : Int)) by rw [HE.out, if_neg hz])
              have HCK := Lib.hid (chk_bad HLN.out HZ.out HG.out hz)
              rw [show Tab.chkHead t i = RF t 0 i from rfl] at HCL
              generalize RF t 0 i = z at HCL HCK hz
              have hzf : (z != 0) = true := by simpa using hz
              clear hz HG HE
              go_wp2_with fail
              refine HCL.out.mono ?_
              rintro e w3 ⟨rfl, k3⟩
              have hd := HCD.out.keep k3
              have q0 := hd.1.cell 0
              have q1 := hd.1.cell 1
              have f0 := hd.1.frozen 0
              have f1 := hd.1.frozen 1
              have HF := Lib.hid (hd.set z (i : Int))
              simp at q0 q1
              clear hd k3
              go_wp2_with fail
              clear q0 q1 f0 f1
              have q0 := HF.out.1.cell 0
              have q1 := HF.out.1.cell 1
              simp only [List.getElem?_toArray, List.getElem?_cons_zero, List.getElem?_cons_succ] at q0 q1
              exact bodyPost_ret (v := .agg #[.int .i64 z, .int .i64 i]) (by simp [results, Tryz.results35, go_sem, q0, q1]) rfl ⟨by rw [HAV.out, HCK.out], HF.out.2⟩
          · have hltI : ¬ (i : Int) < (t.length : Int) := by omega
            obtain rfl : i = t.length := by omega
            have HG := Lib.hid (show (Tab.chkRound (RF t 0) 0 t.length).1 = 0 by rw [he, Nat.sub_self]; rfl)
            have HCD := Lib.hid hcc
            clear he hcc hlt
            go_wp2_with fail
            go_roundw
            case rel => exact ⟨0 + 1, by omega, by go_num, HCD.out, fun r hr => by
              rcases Nat.lt_succ_iff_lt_or_eq.1 hr with h | h
              · exact HZ.out r h
              · rw [h]; exact HG.out⟩
            case measure => simp [intOf]
      · go_wp2_with fail
        go_loopw [19] (fun q wr => ∃ i : Nat, i ≤ t.length ∧ q = .int .i64 i ∧ ChkC w wr ∧ Tab.chkRound (RF t 1) 0 t.length = Tab.chkRound (RF t 1) i (t.length - i)) (fun q wr => t.length - (intOf q).toNat)
        case atStart => exact ⟨0, Nat.zero_le _, rfl, HCC.out, rfl⟩
        case round =>
          obtain ⟨i, hi, rfl, hcc, he⟩ := hrel
          by_cases hlt : i < t.length
          · have hltI : (i : Int) < (t.length : Int) := by omega
            have HCL := Lib.hid (HH2.out i wr hlt hcc.2.2)
            have HCD := Lib.hid hcc
            rw [show t.length - i = (t.length - (i + 1)) + 1 by omega] at he
            have HE := Lib.hid (he.trans (rnd_step (RF t 1) i (t.length - (i + 1))))
            clear he hcc
            by_cases hz : RF t 1 i = 0
            · rw [show Tab.chkSuper t i = RF t 1 i from rfl, hz] at HCL
              have HG := Lib.hid (show Tab.chkRound (RF t 1) 0 t.length = Tab.chkRound (RF t 1) (i + 1) (t.length - (i + 1)) by rw [HE.out, if_pos hz])
              clear hz
              go_wp2_with fail
              refine HCL.out.mono ?_
              rintro e w3 ⟨rfl, k3⟩
              go_wp2_with fail
              go_roundw
              case rel => exact ⟨_, _, _, _, _, _, _, _, _, _, _, _, _, _, _, ⟨i + 1, by omega, by go_num, HCD.out.keep k3, HG.out⟩, rfl⟩
              case measure => simp [intOf]; omega
            · have HG := Lib.hid (show Tab.chkRound (RF t 1) 0 t.length = (RF t 1 i, (i : Int)) by rw [HE.out, if_neg hz])
              have HCK := Lib.hid (chk_bad HLN.out HZ.out HG.out hz)
              rw [show Tab.chkSuper t i = RF t 1 i from rfl] at HCL
              generalize RF t 1 i = z at HCL HCK hz
              have hzf : (z != 0) = true := by simpa using hz
              clear hz HG HE
              go_wp2_with fail
              refine HCL.out.mono ?_
              rintro e w3 ⟨rfl, k3⟩
              have hd := HCD.out.keep k3
              have q0 := hd.1.cell 0
              have q1 := hd.1.cell 1
              have f0 := hd.1.frozen 0
              have f1 := hd.1.frozen 1
              have HF := Lib.hid (hd.set z (i : Int))
              simp at q0 q1
              clear hd k3
              go_wp2_with fail
              clear q0 q1 f0 f1
              have q0 := HF.out.1.cell 0
              have q1 := HF.out.1.cell 1
              simp only [List.getElem?_toArray, List.getElem?_cons_zero, List.getElem?_cons_succ] at q0 q1
              exact bodyPost_ret (v := .agg #[.int .i64 z, .int .i64 i]) (by simp [results, Tryz.results35, go_sem, q0, q1]) rfl ⟨by rw [HAV.out, HCK.out], HF.out.2⟩
          · have hltI : ¬ (i : Int) < (t.length : Int) := by omega
            obtain rfl : i = t.length := by omega
            have HG := Lib.hid (show (Tab.chkRound (RF t 1) 0 t.length).1 = 0 by rw [he, Nat.sub_self]; rfl)
            have HCD := Lib.hid hcc
            clear he hcc hlt
            go_wp2_with fail
            go_roundw
            case rel => exact ⟨1 + 1, by omega, by go_num, HCD.out, fun r hr => by
              rcases Nat.lt_succ_iff_lt_or_eq.1 hr with h | h
              · exact HZ.out r h
              · rw [h]; exact HG.out⟩
            case measure => simp [intOf]
      · go_wp2_with fail
        go_loopw [19] (fun q wr => ∃ i : Nat, i ≤ t.length ∧ q = .int .i64 i ∧ ChkC w wr ∧ Tab.chkRound (RF t 2) 0 t.length = Tab.chkRound (RF t 2) i (t.length - i)) (fun q wr => t.length - (intOf q).toNat)
        case atStart => exact ⟨0, Nat.zero_le _, rfl, HCC.out, rfl⟩
        case round =>
          obtain ⟨i, hi, rfl, hcc, he⟩ := hrel
          by_cases hlt : i < t.length
          · have hltI : (i : Int) < (t.length : Int) := by omega
            have HCL := Lib.hid (HH3.out i wr hlt hcc.2.2)
            have HCD := Lib.hid hcc
            rw [show t.length - i = (t.length - (i + 1)) + 1 by omega] at he
            have HE := Lib.hid (he.trans (rnd_step (RF t 2) i (t.length - (i + 1))))
            clear he hcc
            by_cases hz : RF t 2 i = 0
            · rw [show Tab.chkMembers t i = RF t 2 i from rfl, hz] at HCL
              have HG := Lib.hid (show Tab.chkRound (RF t 2) 0 t.length = Tab.chkRound (RF t 2) (i + 1) (t.length - (i + 1)) by rw [HE.out, if_pos hz])
              clear hz
              go_wp2_with fail
              refine HCL.out.mono ?_
              rintro e w3 ⟨rfl, k3⟩
              go_wp2_with fail
              go_roundw
              case rel => exact ⟨_, _, _, _, _, _, _, _, _, _, _, _, _, _, _, ⟨i + 1, by omega, by go_num, HCD.out.keep k3, HG.out⟩, rfl⟩
              case measure => simp [intOf]; omega
            · have HG := Lib.hid (show Tab.chkRound (RF t 2) 0 t.length = (RF t 2 i, (i : Int)) by rw [HE.out, if_neg hz])
              have HCK := Lib.hid (chk_bad HLN.out HZ.out HG.out hz)
              rw [show Tab.chkMembers t i = RF t 2 i from rfl] at HCL
              generalize RF t 2 i = z at HCL HCK hz
              have hzf : (z != 0) = true := by simpa using hz
              clear hz HG HE
              go_wp2_with fail
              refine HCL.out.mono ?_
              rintro e w3 ⟨rfl, k3⟩
              have hd := HCD.out.keep k3
              have q0 := hd.1.cell 0
              have q1 := hd.1.cell 1
              have f0 := hd.1.frozen 0
              have f1 := hd.1.frozen 1
              have HF := Lib.hid (hd.set z (i : Int))
              simp at q0 q1
              clear hd k3
              go_wp2_with fail
              clear q0 q1 f0 f1
              have q0 := HF.out.1.cell 0
              have q1 := HF.out.1.cell 1
              simp only [List.getElem?_toArray, List.getElem?_cons_zero, List.getElem?_cons_succ] at q0 q1
              exact bodyPost_ret (v := .agg #[.int .i64 z, .int .i64 i]) (by simp [results, Tryz.results35, go_sem, q0, q1]) rfl ⟨by rw [HAV.out, HCK.out], HF.out.2⟩
          · have hltI : ¬ (i : Int) < (t.length : Int) := by omega
            obtain rfl : i = t.length := by omega
            have HG := Lib.hid (show (Tab.chkRound (RF t 2) 0 t.length).1 = 0 by rw [he, Nat.sub_self]; rfl)
            have HCD := Lib.hid hcc
            clear he hcc hlt
            go_wp2_with fail
            go_roundw
            case rel => exact ⟨2 + 1, by omega, by go_num, HCD.out, fun r hr => by
              rcases Nat.lt_succ_iff_lt_or_eq.1 hr with h | h
              · exact HZ.out r h
              · rw [h]; exact HG.out⟩
            case measure => simp [intOf]

end Go.Proofs.YthooiofaicdhgaaGreatDoor
