/- The chapter's examples of chain: awake, known. -/
import Derived.Test.YtjfhfalhcmgaaaaChx
import Derived.OrdersHeld
import Derived.Deep.RegionHeld3
set_option linter.unusedSimpArgs false
set_option linter.unusedVariables false
set_option maxRecDepth 100000
namespace Go.Proofs.Ytjfhfalhcmgaaaa
open Go.ChangeShapes Go.WideShapes Go.ChangeAt Go.RowKit

/-- A list of layers that is built: where it lies. -/
theorem prepB (l : List Ly) (hz : (l.all fun x => decide (x.cls.size ≤ 1000) && decide (l.length ≤ 100)) = true) (W : World) :
    ∃ W3, W.alloc (.cells (l.flatMap lCells).toArray 24) = W3 ∧ Hid (LysAt W3 (.slice (some ⟨W.heap.size, 0, none⟩) l.length l.length) l) ∧ Hid (Kept W W3) := by
  have hs : ∀ x ∈ l, x.cls.size ≤ 1000 ∧ l.length ≤ 100 := fun x hx => by
    have := List.all_eq_true.1 hz x hx
    rw [Bool.and_eq_true, decide_eq_true_iff, decide_eq_true_iff] at this
    exact this
  have hl : l.length ≤ 100 := by
    cases l with
    | nil => simp
    | cons x r => exact (hs x (by simp)).2
  refine ⟨_, rfl, Lib.hid (owns_lys (base := W.heap.size) ⟨flat_len lCells lCells_len l, .inr ⟨W.heap.size, l.length, _, rfl, Nat.le_refl _, Blk.new W _ _, Nat.le_refl _, by unfold maxLen; omega, ?_, ?_⟩⟩ (fun x hx => by have := (hs x hx).1; unfold maxLen; omega)), Lib.hid ((Kept.refl W).alloc _)⟩
  · simp only [List.size_toArray]; exact flat_len lCells lCells_len l
  · show (l.flatMap lCells).take (l.length * 3) = _
    exact List.take_of_length_le (by rw [flat_len lCells lCells_len l]; exact Nat.le_refl _)
theorem prepT (l : List ByteArray) (hz : decide (l.length ≤ 100) = true) (W : World) :
    ∃ W3, W.alloc (.cells (l.map Value.string).toArray 9) = W3 ∧ Hid (TxsAt W3 (.slice (some ⟨W.heap.size, 0, none⟩) l.length l.length) l) ∧ Hid (Kept W W3) := by
  have hl := of_decide_eq_true hz
  refine ⟨_, rfl, Lib.hid (owns_txs (base := W.heap.size) ⟨by simp, .inr ⟨W.heap.size, l.length, _, rfl, Nat.le_refl _, Blk.new W _ _, Nat.le_refl _, by unfold maxLen; omega, ?_, ?_⟩⟩), Lib.hid ((Kept.refl W).alloc _)⟩
  · simp
  · show (l.map Value.string).take (l.length * 1) = _
    exact List.take_of_length_le (by simp)

set_option maxHeartbeats 32000000 in
theorem awake_c (w : World) : Calls Try.prog 10 #[] w fun e w' => e = .returned (.bool true) ∧ Kept w w' := by
  have HB := Lib.hid (bound_c 1 w (by omega) (by omega))
  rw [show bndV 1 = (12, 0) from by kernel_rfl] at HB
  go_enter Try.func10, Try.ntmps10
  go_wp2_with fail
  refine HB.out.mono ?_
  rintro e w1 ⟨rfl, rfl⟩
  go_wp2_with fail
  refine (turns_c 7 _ (by omega)).mono ?_
  rintro e w3 ⟨⟨ta, tc, rfl, ow⟩, k3⟩
  rw [show turnsV 7 = [⟨true, ⟨#[67]⟩, 1⟩, ⟨true, ⟨#[68]⟩, 2⟩, ⟨true, ⟨#[67]⟩, 3⟩, ⟨true, ⟨#[68]⟩, 4⟩, ⟨true, ⟨#[67]⟩, 5⟩, ⟨true, ⟨#[68]⟩, 6⟩, ⟨true, ⟨#[67]⟩, 7⟩] from by kernel_rfl] at ow ⊢
  have htu := owns_lys ow (by decide)
  obtain ⟨tg, rfl⟩ : ∃ g, ta = some ⟨g, 0, none⟩ := by
    rcases ow.2 with ⟨h, _⟩ | ⟨g, cap, cur, h, _⟩
    · cases h
    · injection h with h1 h2 h3; exact ⟨g, h1⟩
  have HSU := Lib.hid (lys_kept htu (Kept.refl w3).drew)
  have HTC := Lib.hid (show w3.drew.cell? ⟨tg, 0, none⟩ = some (.bool true) ∧ w3.drew.cell? ⟨tg, 1, none⟩ = some (.string ⟨#[67]⟩) ∧ w3.drew.cell? ⟨tg, 2, none⟩ = some (.int .i64 1) ∧ w3.drew.cell? ⟨tg, 3, none⟩ = some (.bool true) ∧ w3.drew.cell? ⟨tg, 4, none⟩ = some (.string ⟨#[68]⟩) ∧ w3.drew.cell? ⟨tg, 5, none⟩ = some (.int .i64 2) ∧ w3.drew.cell? ⟨tg, 6, none⟩ = some (.bool true) ∧ w3.drew.cell? ⟨tg, 7, none⟩ = some (.string ⟨#[67]⟩) ∧ w3.drew.cell? ⟨tg, 8, none⟩ = some (.int .i64 3) ∧ w3.drew.cell? ⟨tg, 12, none⟩ = some (.bool true) ∧ w3.drew.cell? ⟨tg, 13, none⟩ = some (.string ⟨#[67]⟩) ∧ w3.drew.cell? ⟨tg, 14, none⟩ = some (.int .i64 5) ∧ w3.drew.cell? ⟨tg, 15, none⟩ = some (.bool true) ∧ w3.drew.cell? ⟨tg, 16, none⟩ = some (.string ⟨#[68]⟩) ∧ w3.drew.cell? ⟨tg, 17, none⟩ = some (.int .i64 6) ∧ w3.drew.cell? ⟨tg, 18, none⟩ = some (.bool true) ∧ w3.drew.cell? ⟨tg, 19, none⟩ = some (.string ⟨#[67]⟩) ∧ w3.drew.cell? ⟨tg, 20, none⟩ = some (.int .i64 7) from by
    obtain ⟨_, _, e, _, _, hat⟩ := htu
    cases e
    have z0 := hat 0 _ rfl
    have z1 := hat 1 _ rfl
    have z2 := hat 2 _ rfl
    have z4 := hat 4 _ rfl
    have z5 := hat 5 _ rfl
    have z6 := hat 6 _ rfl
    obtain ⟨_, _, e, y0, y1, y2, _⟩ := z0
    cases e
    obtain ⟨_, _, e, y3, y4, y5, _⟩ := z1
    cases e
    obtain ⟨_, _, e, y6, y7, y8, _⟩ := z2
    cases e
    obtain ⟨_, _, e, y9, y10, y11, _⟩ := z4
    cases e
    obtain ⟨_, _, e, y12, y13, y14, _⟩ := z5
    cases e
    obtain ⟨_, _, e, y15, y16, y17, _⟩ := z6
    cases e
    exact ⟨y0, y1, y2, y3, y4, y5, y6, y7, y8, y9, y10, y11, y12, y13, y14, y15, y16, y17⟩)
  have HK := Lib.hid k3
  clear htu ow k3 HB
  go_wp2_with fail
  have HKB := Lib.hid (Kept.refl w3.drew)
  have HK := Lib.hid (HK.out.drew)
  refine wp_region_held_drew (S := (fun W => (W.cell? ⟨tg, 0, none⟩ = some (.bool true) ∧ W.cell? ⟨tg, 1, none⟩ = some (.string ⟨#[67]⟩) ∧ W.cell? ⟨tg, 2, none⟩ = some (.int .i64 1) ∧ W.cell? ⟨tg, 3, none⟩ = some (.bool true) ∧ W.cell? ⟨tg, 4, none⟩ = some (.string ⟨#[68]⟩) ∧ W.cell? ⟨tg, 5, none⟩ = some (.int .i64 2) ∧ W.cell? ⟨tg, 6, none⟩ = some (.bool true) ∧ W.cell? ⟨tg, 7, none⟩ = some (.string ⟨#[67]⟩) ∧ W.cell? ⟨tg, 8, none⟩ = some (.int .i64 3) ∧ W.cell? ⟨tg, 12, none⟩ = some (.bool true) ∧ W.cell? ⟨tg, 13, none⟩ = some (.string ⟨#[67]⟩) ∧ W.cell? ⟨tg, 14, none⟩ = some (.int .i64 5) ∧ W.cell? ⟨tg, 15, none⟩ = some (.bool true) ∧ W.cell? ⟨tg, 16, none⟩ = some (.string ⟨#[68]⟩) ∧ W.cell? ⟨tg, 17, none⟩ = some (.int .i64 6) ∧ W.cell? ⟨tg, 18, none⟩ = some (.bool true) ∧ W.cell? ⟨tg, 19, none⟩ = some (.string ⟨#[67]⟩) ∧ W.cell? ⟨tg, 20, none⟩ = some (.int .i64 7)) ∧ Kept w3.drew W)) (by kernel_rfl) ⟨⟨HKB.out.cell HTC.out.1, HKB.out.cell HTC.out.2.1, HKB.out.cell HTC.out.2.2.1, HKB.out.cell HTC.out.2.2.2.1, HKB.out.cell HTC.out.2.2.2.2.1, HKB.out.cell HTC.out.2.2.2.2.2.1, HKB.out.cell HTC.out.2.2.2.2.2.2.1, HKB.out.cell HTC.out.2.2.2.2.2.2.2.1, HKB.out.cell HTC.out.2.2.2.2.2.2.2.2.1, HKB.out.cell HTC.out.2.2.2.2.2.2.2.2.2.1, HKB.out.cell HTC.out.2.2.2.2.2.2.2.2.2.2.1, HKB.out.cell HTC.out.2.2.2.2.2.2.2.2.2.2.2.1, HKB.out.cell HTC.out.2.2.2.2.2.2.2.2.2.2.2.2.1, HKB.out.cell HTC.out.2.2.2.2.2.2.2.2.2.2.2.2.2.1, HKB.out.cell HTC.out.2.2.2.2.2.2.2.2.2.2.2.2.2.2.1, HKB.out.cell HTC.out.2.2.2.2.2.2.2.2.2.2.2.2.2.2.2.1, HKB.out.cell HTC.out.2.2.2.2.2.2.2.2.2.2.2.2.2.2.2.2.1, HKB.out.cell HTC.out.2.2.2.2.2.2.2.2.2.2.2.2.2.2.2.2.2⟩, HKB.out⟩ (fun hHeld10 => ?_)
  refine wpAnyH_ready (rs := [0]) (by kernel_rfl) (by simp) ?_
  refine AllReadyH.cons rfl (fun K hK => ?_) AllReadyH.nil
  go_simp
  go_at_call 30
  refine (out_c _ _ _).mono ?_
  rintro e w11 ⟨rfl, k11⟩
  have HK := Lib.hid (HK.out.trans k11)
  have HKB := Lib.hid (HKB.out.trans k11)
  have HSU := Lib.hid (lys_kept HSU.out k11)
  clear k11
  refine hK.out _ _ ⟨⟨HKB.out.cell HTC.out.1, HKB.out.cell HTC.out.2.1, HKB.out.cell HTC.out.2.2.1, HKB.out.cell HTC.out.2.2.2.1, HKB.out.cell HTC.out.2.2.2.2.1, HKB.out.cell HTC.out.2.2.2.2.2.1, HKB.out.cell HTC.out.2.2.2.2.2.2.1, HKB.out.cell HTC.out.2.2.2.2.2.2.2.1, HKB.out.cell HTC.out.2.2.2.2.2.2.2.2.1, HKB.out.cell HTC.out.2.2.2.2.2.2.2.2.2.1, HKB.out.cell HTC.out.2.2.2.2.2.2.2.2.2.2.1, HKB.out.cell HTC.out.2.2.2.2.2.2.2.2.2.2.2.1, HKB.out.cell HTC.out.2.2.2.2.2.2.2.2.2.2.2.2.1, HKB.out.cell HTC.out.2.2.2.2.2.2.2.2.2.2.2.2.2.1, HKB.out.cell HTC.out.2.2.2.2.2.2.2.2.2.2.2.2.2.2.1, HKB.out.cell HTC.out.2.2.2.2.2.2.2.2.2.2.2.2.2.2.2.1, HKB.out.cell HTC.out.2.2.2.2.2.2.2.2.2.2.2.2.2.2.2.2.1, HKB.out.cell HTC.out.2.2.2.2.2.2.2.2.2.2.2.2.2.2.2.2.2⟩, HKB.out⟩ (fun hHeld11 => ?_)
  clear hK K
  (try simp only [Act.put, List.getElem_toArray, List.getElem_cons_zero, List.getElem_cons_succ, List.setIfInBounds_toArray, List.set_cons_zero, List.set_cons_succ])
  refine wpAnyH_ready (rs := [1]) (by kernel_rfl) (by simp) ?_
  refine AllReadyH.cons rfl (fun K hK => ?_) AllReadyH.nil
  go_simp
  go_at_call 30
  refine (out_c _ _ _).mono ?_
  rintro e w12 ⟨rfl, k12⟩
  have HK := Lib.hid (HK.out.trans k12)
  have HKB := Lib.hid (HKB.out.trans k12)
  have HSU := Lib.hid (lys_kept HSU.out k12)
  clear k12
  refine hK.out _ _ ⟨⟨HKB.out.cell HTC.out.1, HKB.out.cell HTC.out.2.1, HKB.out.cell HTC.out.2.2.1, HKB.out.cell HTC.out.2.2.2.1, HKB.out.cell HTC.out.2.2.2.2.1, HKB.out.cell HTC.out.2.2.2.2.2.1, HKB.out.cell HTC.out.2.2.2.2.2.2.1, HKB.out.cell HTC.out.2.2.2.2.2.2.2.1, HKB.out.cell HTC.out.2.2.2.2.2.2.2.2.1, HKB.out.cell HTC.out.2.2.2.2.2.2.2.2.2.1, HKB.out.cell HTC.out.2.2.2.2.2.2.2.2.2.2.1, HKB.out.cell HTC.out.2.2.2.2.2.2.2.2.2.2.2.1, HKB.out.cell HTC.out.2.2.2.2.2.2.2.2.2.2.2.2.1, HKB.out.cell HTC.out.2.2.2.2.2.2.2.2.2.2.2.2.2.1, HKB.out.cell HTC.out.2.2.2.2.2.2.2.2.2.2.2.2.2.2.1, HKB.out.cell HTC.out.2.2.2.2.2.2.2.2.2.2.2.2.2.2.2.1, HKB.out.cell HTC.out.2.2.2.2.2.2.2.2.2.2.2.2.2.2.2.2.1, HKB.out.cell HTC.out.2.2.2.2.2.2.2.2.2.2.2.2.2.2.2.2.2⟩, HKB.out⟩ (fun hHeld12 => ?_)
  clear hK K
  (try simp only [Act.put, List.getElem_toArray, List.getElem_cons_zero, List.getElem_cons_succ, List.setIfInBounds_toArray, List.set_cons_zero, List.set_cons_succ])
  refine wpAnyH_ready (rs := [2]) (by kernel_rfl) (by simp) ?_
  refine AllReadyH.cons rfl (fun K hK => ?_) AllReadyH.nil
  go_simp
  go_at_call 30
  refine (out_c _ _ _).mono ?_
  rintro e w13 ⟨rfl, k13⟩
  have HK := Lib.hid (HK.out.trans k13)
  have HKB := Lib.hid (HKB.out.trans k13)
  have HSU := Lib.hid (lys_kept HSU.out k13)
  clear k13
  refine hK.out _ _ ⟨⟨HKB.out.cell HTC.out.1, HKB.out.cell HTC.out.2.1, HKB.out.cell HTC.out.2.2.1, HKB.out.cell HTC.out.2.2.2.1, HKB.out.cell HTC.out.2.2.2.2.1, HKB.out.cell HTC.out.2.2.2.2.2.1, HKB.out.cell HTC.out.2.2.2.2.2.2.1, HKB.out.cell HTC.out.2.2.2.2.2.2.2.1, HKB.out.cell HTC.out.2.2.2.2.2.2.2.2.1, HKB.out.cell HTC.out.2.2.2.2.2.2.2.2.2.1, HKB.out.cell HTC.out.2.2.2.2.2.2.2.2.2.2.1, HKB.out.cell HTC.out.2.2.2.2.2.2.2.2.2.2.2.1, HKB.out.cell HTC.out.2.2.2.2.2.2.2.2.2.2.2.2.1, HKB.out.cell HTC.out.2.2.2.2.2.2.2.2.2.2.2.2.2.1, HKB.out.cell HTC.out.2.2.2.2.2.2.2.2.2.2.2.2.2.2.1, HKB.out.cell HTC.out.2.2.2.2.2.2.2.2.2.2.2.2.2.2.2.1, HKB.out.cell HTC.out.2.2.2.2.2.2.2.2.2.2.2.2.2.2.2.2.1, HKB.out.cell HTC.out.2.2.2.2.2.2.2.2.2.2.2.2.2.2.2.2.2⟩, HKB.out⟩ (fun hHeld13 => ?_)
  clear hK K
  (try simp only [Act.put, List.getElem_toArray, List.getElem_cons_zero, List.getElem_cons_succ, List.setIfInBounds_toArray, List.set_cons_zero, List.set_cons_succ])
  refine wpAnyH_ready (rs := [3, 4]) (by kernel_rfl) (by simp) ?_
  refine AllReadyH.cons rfl (fun K hK => ?_) ?_
  · skip
    obtain ⟨w14, hw14, HS3, k14⟩ := prepB [⟨true, ⟨#[67]⟩, 1⟩, ⟨true, ⟨#[67]⟩, 2⟩, ⟨true, ⟨#[67]⟩, 3⟩] (by decide) w13
    have HK := Lib.hid (HK.out.trans k14.out)
    have HKB := Lib.hid (HKB.out.trans k14.out)
    have HSU := Lib.hid (lys_kept HSU.out k14.out)
    go_simp
    rw [show w13.alloc (.cells #[.bool true, .string ⟨#[67]⟩, .int .i64 1, .bool true, .string ⟨#[67]⟩, .int .i64 2, .bool true, .string ⟨#[67]⟩, .int .i64 3] 24) = w14 from hw14]
    clear hw14 k14
    refine hK.out _ _ ⟨⟨HKB.out.cell HTC.out.1, HKB.out.cell HTC.out.2.1, HKB.out.cell HTC.out.2.2.1, HKB.out.cell HTC.out.2.2.2.1, HKB.out.cell HTC.out.2.2.2.2.1, HKB.out.cell HTC.out.2.2.2.2.2.1, HKB.out.cell HTC.out.2.2.2.2.2.2.1, HKB.out.cell HTC.out.2.2.2.2.2.2.2.1, HKB.out.cell HTC.out.2.2.2.2.2.2.2.2.1, HKB.out.cell HTC.out.2.2.2.2.2.2.2.2.2.1, HKB.out.cell HTC.out.2.2.2.2.2.2.2.2.2.2.1, HKB.out.cell HTC.out.2.2.2.2.2.2.2.2.2.2.2.1, HKB.out.cell HTC.out.2.2.2.2.2.2.2.2.2.2.2.2.1, HKB.out.cell HTC.out.2.2.2.2.2.2.2.2.2.2.2.2.2.1, HKB.out.cell HTC.out.2.2.2.2.2.2.2.2.2.2.2.2.2.2.1, HKB.out.cell HTC.out.2.2.2.2.2.2.2.2.2.2.2.2.2.2.2.1, HKB.out.cell HTC.out.2.2.2.2.2.2.2.2.2.2.2.2.2.2.2.2.1, HKB.out.cell HTC.out.2.2.2.2.2.2.2.2.2.2.2.2.2.2.2.2.2⟩, HKB.out⟩ (fun hHeld14 => ?_)
    clear hK K
    (try simp only [Act.put, List.getElem_toArray, List.getElem_cons_zero, List.getElem_cons_succ, List.setIfInBounds_toArray, List.set_cons_zero, List.set_cons_succ])
    refine wpAnyH_ready (rs := [4]) (by kernel_rfl) (by simp) ?_
    refine AllReadyH.cons rfl (fun K hK => ?_) AllReadyH.nil
    go_simp
    go_at_call 30
    refine (out_c _ _ _).mono ?_
    rintro e w15 ⟨rfl, k15⟩
    have HK := Lib.hid (HK.out.trans k15)
    have HKB := Lib.hid (HKB.out.trans k15)
    have HSU := Lib.hid (lys_kept HSU.out k15)
    have HS3 := Lib.hid (lys_kept HS3.out k15)
    clear k15
    refine hK.out _ _ ⟨⟨HKB.out.cell HTC.out.1, HKB.out.cell HTC.out.2.1, HKB.out.cell HTC.out.2.2.1, HKB.out.cell HTC.out.2.2.2.1, HKB.out.cell HTC.out.2.2.2.2.1, HKB.out.cell HTC.out.2.2.2.2.2.1, HKB.out.cell HTC.out.2.2.2.2.2.2.1, HKB.out.cell HTC.out.2.2.2.2.2.2.2.1, HKB.out.cell HTC.out.2.2.2.2.2.2.2.2.1, HKB.out.cell HTC.out.2.2.2.2.2.2.2.2.2.1, HKB.out.cell HTC.out.2.2.2.2.2.2.2.2.2.2.1, HKB.out.cell HTC.out.2.2.2.2.2.2.2.2.2.2.2.1, HKB.out.cell HTC.out.2.2.2.2.2.2.2.2.2.2.2.2.1, HKB.out.cell HTC.out.2.2.2.2.2.2.2.2.2.2.2.2.2.1, HKB.out.cell HTC.out.2.2.2.2.2.2.2.2.2.2.2.2.2.2.1, HKB.out.cell HTC.out.2.2.2.2.2.2.2.2.2.2.2.2.2.2.2.1, HKB.out.cell HTC.out.2.2.2.2.2.2.2.2.2.2.2.2.2.2.2.2.1, HKB.out.cell HTC.out.2.2.2.2.2.2.2.2.2.2.2.2.2.2.2.2.2⟩, HKB.out⟩ (fun hHeld15 => ?_)
    clear hK K
    (try simp only [Act.put, List.getElem_toArray, List.getElem_cons_zero, List.getElem_cons_succ, List.setIfInBounds_toArray, List.set_cons_zero, List.set_cons_succ])
    refine wpAnyH_ready (rs := [5]) (by kernel_rfl) (by simp) ?_
    refine AllReadyH.cons rfl (fun K hK => ?_) AllReadyH.nil
    go_simp
    go_at_call 30
    refine (out_c _ _ _).mono ?_
    rintro e w16 ⟨rfl, k16⟩
    have HK := Lib.hid (HK.out.trans k16)
    have HKB := Lib.hid (HKB.out.trans k16)
    have HSU := Lib.hid (lys_kept HSU.out k16)
    have HS3 := Lib.hid (lys_kept HS3.out k16)
    clear k16
    refine hK.out _ _ ⟨⟨HKB.out.cell HTC.out.1, HKB.out.cell HTC.out.2.1, HKB.out.cell HTC.out.2.2.1, HKB.out.cell HTC.out.2.2.2.1, HKB.out.cell HTC.out.2.2.2.2.1, HKB.out.cell HTC.out.2.2.2.2.2.1, HKB.out.cell HTC.out.2.2.2.2.2.2.1, HKB.out.cell HTC.out.2.2.2.2.2.2.2.1, HKB.out.cell HTC.out.2.2.2.2.2.2.2.2.1, HKB.out.cell HTC.out.2.2.2.2.2.2.2.2.2.1, HKB.out.cell HTC.out.2.2.2.2.2.2.2.2.2.2.1, HKB.out.cell HTC.out.2.2.2.2.2.2.2.2.2.2.2.1, HKB.out.cell HTC.out.2.2.2.2.2.2.2.2.2.2.2.2.1, HKB.out.cell HTC.out.2.2.2.2.2.2.2.2.2.2.2.2.2.1, HKB.out.cell HTC.out.2.2.2.2.2.2.2.2.2.2.2.2.2.2.1, HKB.out.cell HTC.out.2.2.2.2.2.2.2.2.2.2.2.2.2.2.2.1, HKB.out.cell HTC.out.2.2.2.2.2.2.2.2.2.2.2.2.2.2.2.2.1, HKB.out.cell HTC.out.2.2.2.2.2.2.2.2.2.2.2.2.2.2.2.2.2⟩, HKB.out⟩ (fun hHeld16 => ?_)
    clear hK K
    (try simp only [Act.put, List.getElem_toArray, List.getElem_cons_zero, List.getElem_cons_succ, List.setIfInBounds_toArray, List.set_cons_zero, List.set_cons_succ])
    refine wpAnyH_ready (rs := [6]) (by kernel_rfl) (by simp) ?_
    refine AllReadyH.cons rfl (fun K hK => ?_) AllReadyH.nil
    obtain ⟨w17, hw17, HS6, k17⟩ := prepB [⟨true, ⟨#[67]⟩, 1⟩, ⟨true, ⟨#[67]⟩, 3⟩] (by decide) w16
    have HK := Lib.hid (HK.out.trans k17.out)
    have HKB := Lib.hid (HKB.out.trans k17.out)
    have HSU := Lib.hid (lys_kept HSU.out k17.out)
    have HS3 := Lib.hid (lys_kept HS3.out k17.out)
    go_simp
    rw [show w16.alloc (.cells #[.bool true, .string ⟨#[67]⟩, .int .i64 1, .bool true, .string ⟨#[67]⟩, .int .i64 3] 24) = w17 from hw17]
    clear hw17 k17
    refine hK.out _ _ ⟨⟨HKB.out.cell HTC.out.1, HKB.out.cell HTC.out.2.1, HKB.out.cell HTC.out.2.2.1, HKB.out.cell HTC.out.2.2.2.1, HKB.out.cell HTC.out.2.2.2.2.1, HKB.out.cell HTC.out.2.2.2.2.2.1, HKB.out.cell HTC.out.2.2.2.2.2.2.1, HKB.out.cell HTC.out.2.2.2.2.2.2.2.1, HKB.out.cell HTC.out.2.2.2.2.2.2.2.2.1, HKB.out.cell HTC.out.2.2.2.2.2.2.2.2.2.1, HKB.out.cell HTC.out.2.2.2.2.2.2.2.2.2.2.1, HKB.out.cell HTC.out.2.2.2.2.2.2.2.2.2.2.2.1, HKB.out.cell HTC.out.2.2.2.2.2.2.2.2.2.2.2.2.1, HKB.out.cell HTC.out.2.2.2.2.2.2.2.2.2.2.2.2.2.1, HKB.out.cell HTC.out.2.2.2.2.2.2.2.2.2.2.2.2.2.2.1, HKB.out.cell HTC.out.2.2.2.2.2.2.2.2.2.2.2.2.2.2.2.1, HKB.out.cell HTC.out.2.2.2.2.2.2.2.2.2.2.2.2.2.2.2.2.1, HKB.out.cell HTC.out.2.2.2.2.2.2.2.2.2.2.2.2.2.2.2.2.2⟩, HKB.out⟩ (fun hHeld17 => ?_)
    clear hK K
    (try simp only [Act.put, List.getElem_toArray, List.getElem_cons_zero, List.getElem_cons_succ, List.setIfInBounds_toArray, List.set_cons_zero, List.set_cons_succ])
    refine wpAnyH_ready (rs := [7]) (by kernel_rfl) (by simp) ?_
    refine AllReadyH.cons rfl (fun K hK => ?_) AllReadyH.nil
    have HC := Lib.hid (norms_c [⟨true, ⟨#[67]⟩, 1⟩, ⟨true, ⟨#[67]⟩, 2⟩, ⟨true, ⟨#[67]⟩, 3⟩] [⟨true, ⟨#[67]⟩, 1⟩, ⟨true, ⟨#[67]⟩, 3⟩] _ _ w17 HS3.out HS6.out (by decide))
    rw [show decide (Chn.norm ky [⟨true, ⟨#[67]⟩, 1⟩, ⟨true, ⟨#[67]⟩, 2⟩, ⟨true, ⟨#[67]⟩, 3⟩] = [⟨true, ⟨#[67]⟩, 1⟩, ⟨true, ⟨#[67]⟩, 3⟩]) = true from by kernel_rfl] at HC
    go_simp
    go_at_call 29
    refine HC.out.mono ?_
    rintro e w18 ⟨rfl, k18⟩
    have HK := Lib.hid (HK.out.trans k18)
    have HKB := Lib.hid (HKB.out.trans k18)
    have HSU := Lib.hid (lys_kept HSU.out k18)
    have HS3 := Lib.hid (lys_kept HS3.out k18)
    have HS6 := Lib.hid (lys_kept HS6.out k18)
    clear k18 HC
    refine hK.out _ _ ⟨⟨HKB.out.cell HTC.out.1, HKB.out.cell HTC.out.2.1, HKB.out.cell HTC.out.2.2.1, HKB.out.cell HTC.out.2.2.2.1, HKB.out.cell HTC.out.2.2.2.2.1, HKB.out.cell HTC.out.2.2.2.2.2.1, HKB.out.cell HTC.out.2.2.2.2.2.2.1, HKB.out.cell HTC.out.2.2.2.2.2.2.2.1, HKB.out.cell HTC.out.2.2.2.2.2.2.2.2.1, HKB.out.cell HTC.out.2.2.2.2.2.2.2.2.2.1, HKB.out.cell HTC.out.2.2.2.2.2.2.2.2.2.2.1, HKB.out.cell HTC.out.2.2.2.2.2.2.2.2.2.2.2.1, HKB.out.cell HTC.out.2.2.2.2.2.2.2.2.2.2.2.2.1, HKB.out.cell HTC.out.2.2.2.2.2.2.2.2.2.2.2.2.2.1, HKB.out.cell HTC.out.2.2.2.2.2.2.2.2.2.2.2.2.2.2.1, HKB.out.cell HTC.out.2.2.2.2.2.2.2.2.2.2.2.2.2.2.2.1, HKB.out.cell HTC.out.2.2.2.2.2.2.2.2.2.2.2.2.2.2.2.2.1, HKB.out.cell HTC.out.2.2.2.2.2.2.2.2.2.2.2.2.2.2.2.2.2⟩, HKB.out⟩ (fun hHeld18 => ?_)
    clear hK K
    (try simp only [Act.put, List.getElem_toArray, List.getElem_cons_zero, List.getElem_cons_succ, List.setIfInBounds_toArray, List.set_cons_zero, List.set_cons_succ])
    refine wpAnyH_take (i := 8) (v := ?_) rfl (by kernel_rfl) (by kernel_rfl) (by kernel_rfl) (fun _ _ _ h => h) (Or.inl ⟨by kernel_rfl, ?_⟩) (by assumption) ?_
    rotate_left
    · intro w hSw; (try dsimp only at hSw); go_simp; (try with_reducible rfl)
    (try simp only [Act.put, List.getElem_toArray, List.getElem_cons_zero, List.getElem_cons_succ, List.setIfInBounds_toArray, List.set_cons_zero, List.set_cons_succ])
    refine wpAnyH_take (i := 9) (v := ?_) rfl (by kernel_rfl) (by kernel_rfl) (by kernel_rfl) (fun _ _ _ h => h) (Or.inl ⟨by kernel_rfl, ?_⟩) (by assumption) ?_
    rotate_left
    · intro w hSw; (try dsimp only at hSw); go_simp; (try with_reducible rfl)
    (try simp only [Act.put, List.getElem_toArray, List.getElem_cons_zero, List.getElem_cons_succ, List.setIfInBounds_toArray, List.set_cons_zero, List.set_cons_succ])
    refine wpAnyH_take (i := 10) (v := ?_) rfl (by kernel_rfl) (by kernel_rfl) (by kernel_rfl) (fun _ _ _ h => h) (Or.inl ⟨by kernel_rfl, ?_⟩) (by assumption) ?_
    rotate_left
    · intro w hSw; (try dsimp only at hSw); go_simp; (try with_reducible rfl)
    (try simp only [Act.put, List.getElem_toArray, List.getElem_cons_zero, List.getElem_cons_succ, List.setIfInBounds_toArray, List.set_cons_zero, List.set_cons_succ])
    refine wpAnyH_take (i := 11) (v := ?_) rfl (by kernel_rfl) (by kernel_rfl) (by kernel_rfl) (fun _ _ _ h => h) (Or.inl ⟨by kernel_rfl, ?_⟩) (by assumption) ?_
    rotate_left
    · intro w hSw; (try dsimp only at hSw); go_simp; (try with_reducible rfl)
    (try simp only [Act.put, List.getElem_toArray, List.getElem_cons_zero, List.getElem_cons_succ, List.setIfInBounds_toArray, List.set_cons_zero, List.set_cons_succ])
    refine wpAnyH_take (i := 12) (v := ?_) rfl (by kernel_rfl) (by kernel_rfl) (by kernel_rfl) (fun _ _ _ h => h) (Or.inl ⟨by kernel_rfl, ?_⟩) (by assumption) ?_
    rotate_left
    · intro w hSw; (try dsimp only at hSw); go_simp; (try with_reducible rfl)
    (try simp only [Act.put, List.getElem_toArray, List.getElem_cons_zero, List.getElem_cons_succ, List.setIfInBounds_toArray, List.set_cons_zero, List.set_cons_succ])
    refine wpAnyH_take (i := 13) (v := ?_) rfl (by kernel_rfl) (by kernel_rfl) (by kernel_rfl) (fun _ _ _ h => h) (Or.inl ⟨by kernel_rfl, ?_⟩) (by assumption) ?_
    rotate_left
    · intro w hSw; (try dsimp only at hSw); go_simp; (try with_reducible rfl)
    (try simp only [Act.put, List.getElem_toArray, List.getElem_cons_zero, List.getElem_cons_succ, List.setIfInBounds_toArray, List.set_cons_zero, List.set_cons_succ])
    refine wpAnyH_take (i := 14) (v := ?_) rfl (by kernel_rfl) (by kernel_rfl) (by kernel_rfl) (fun _ _ _ h => h) (Or.inl ⟨by kernel_rfl, ?_⟩) (by assumption) ?_
    rotate_left
    · intro w hSw; (try dsimp only at hSw); go_simp; (try with_reducible rfl)
    (try simp only [Act.put, List.getElem_toArray, List.getElem_cons_zero, List.getElem_cons_succ, List.setIfInBounds_toArray, List.set_cons_zero, List.set_cons_succ])
    refine wpAnyH_take (i := 15) (v := ?_) rfl (by kernel_rfl) (by kernel_rfl) (by kernel_rfl) (fun _ _ _ h => h) (Or.inl ⟨by kernel_rfl, ?_⟩) (by assumption) ?_
    rotate_left
    · intro w hSw; (try dsimp only at hSw); go_simp; (try with_reducible rfl)
    (try simp only [Act.put, List.getElem_toArray, List.getElem_cons_zero, List.getElem_cons_succ, List.setIfInBounds_toArray, List.set_cons_zero, List.set_cons_succ])
    refine wpAnyH_take (i := 16) (v := ?_) rfl (by kernel_rfl) (by kernel_rfl) (by kernel_rfl) (fun _ _ _ h => h) (Or.inl ⟨by kernel_rfl, ?_⟩) (by assumption) ?_
    rotate_left
    · intro w hSw; (try dsimp only at hSw); go_simp; (try with_reducible rfl)
    (try simp only [Act.put, List.getElem_toArray, List.getElem_cons_zero, List.getElem_cons_succ, List.setIfInBounds_toArray, List.set_cons_zero, List.set_cons_succ])
    refine wpAnyH_take (i := 17) (v := ?_) rfl (by kernel_rfl) (by kernel_rfl) (by kernel_rfl) (fun _ _ _ h => h) (Or.inl ⟨by kernel_rfl, ?_⟩) (by assumption) ?_
    rotate_left
    · intro w hSw; (try dsimp only at hSw); go_simp; (try with_reducible rfl)
    (try simp only [Act.put, List.getElem_toArray, List.getElem_cons_zero, List.getElem_cons_succ, List.setIfInBounds_toArray, List.set_cons_zero, List.set_cons_succ])
    refine wpAnyH_take (i := 18) (v := ?_) rfl (by kernel_rfl) (by kernel_rfl) (by kernel_rfl) (fun _ _ _ h => h) (Or.inl ⟨by kernel_rfl, ?_⟩) (by assumption) ?_
    rotate_left
    · intro w hSw; (try dsimp only at hSw); go_simp; (try with_reducible rfl)
    (try simp only [Act.put, List.getElem_toArray, List.getElem_cons_zero, List.getElem_cons_succ, List.setIfInBounds_toArray, List.set_cons_zero, List.set_cons_succ])
    refine wpAnyH_take (i := 19) (v := ?_) rfl (by kernel_rfl) (by kernel_rfl) (by kernel_rfl) (fun _ _ _ h => h) (Or.inl ⟨by kernel_rfl, ?_⟩) (by assumption) ?_
    rotate_left
    · intro w hSw; (try dsimp only at hSw); go_simp; (try with_reducible rfl)
    (try simp only [Act.put, List.getElem_toArray, List.getElem_cons_zero, List.getElem_cons_succ, List.setIfInBounds_toArray, List.set_cons_zero, List.set_cons_succ])
    refine wpAnyH_take (i := 20) (v := ?_) rfl (by kernel_rfl) (by kernel_rfl) (by kernel_rfl) (fun _ _ _ h => h) (Or.inl ⟨by kernel_rfl, ?_⟩) (by assumption) ?_
    rotate_left
    · intro w hSw; (try dsimp only at hSw); go_simp; (try with_reducible rfl)
    (try simp only [Act.put, List.getElem_toArray, List.getElem_cons_zero, List.getElem_cons_succ, List.setIfInBounds_toArray, List.set_cons_zero, List.set_cons_succ])
    refine wpAnyH_take (i := 21) (v := ?_) rfl (by kernel_rfl) (by kernel_rfl) (by kernel_rfl) (fun _ _ _ h => h) (Or.inl ⟨by kernel_rfl, ?_⟩) (by assumption) ?_
    rotate_left
    · intro w hSw; (try dsimp only at hSw); go_simp; (try with_reducible rfl)
    (try simp only [Act.put, List.getElem_toArray, List.getElem_cons_zero, List.getElem_cons_succ, List.setIfInBounds_toArray, List.set_cons_zero, List.set_cons_succ])
    refine wpAnyH_take (i := 22) (v := ?_) rfl (by kernel_rfl) (by kernel_rfl) (by kernel_rfl) (fun _ _ _ h => h) (Or.inl ⟨by kernel_rfl, ?_⟩) (by assumption) ?_
    rotate_left
    · intro w hSw; (try dsimp only at hSw); go_simp; (try with_reducible rfl)
    (try simp only [Act.put, List.getElem_toArray, List.getElem_cons_zero, List.getElem_cons_succ, List.setIfInBounds_toArray, List.set_cons_zero, List.set_cons_succ])
    refine wpAnyH_take (i := 23) (v := ?_) rfl (by kernel_rfl) (by kernel_rfl) (by kernel_rfl) (fun _ _ _ h => h) (Or.inl ⟨by kernel_rfl, ?_⟩) (by assumption) ?_
    rotate_left
    · intro w hSw; (try dsimp only at hSw); go_simp; (try with_reducible rfl)
    (try simp only [Act.put, List.getElem_toArray, List.getElem_cons_zero, List.getElem_cons_succ, List.setIfInBounds_toArray, List.set_cons_zero, List.set_cons_succ])
    refine wpAnyH_take (i := 24) (v := ?_) rfl (by kernel_rfl) (by kernel_rfl) (by kernel_rfl) (fun _ _ _ h => h) (Or.inl ⟨by kernel_rfl, ?_⟩) (by assumption) ?_
    rotate_left
    · intro w hSw; (try dsimp only at hSw); go_simp; (try with_reducible rfl)
    (try simp only [Act.put, List.getElem_toArray, List.getElem_cons_zero, List.getElem_cons_succ, List.setIfInBounds_toArray, List.set_cons_zero, List.set_cons_succ])
    refine wpAnyH_take (i := 25) (v := ?_) rfl (by kernel_rfl) (by kernel_rfl) (by kernel_rfl) (fun _ _ _ h => h) (Or.inl ⟨by kernel_rfl, ?_⟩) (by assumption) ?_
    rotate_left
    · intro w hSw; (try dsimp only at hSw); go_simp; (try with_reducible rfl)
    (try simp only [Act.put, List.getElem_toArray, List.getElem_cons_zero, List.getElem_cons_succ, List.setIfInBounds_toArray, List.set_cons_zero, List.set_cons_succ])
    refine wpAnyH_take (i := 26) (v := ?_) rfl (by kernel_rfl) (by kernel_rfl) (by kernel_rfl) (fun _ _ _ h => h) (Or.inl ⟨by kernel_rfl, ?_⟩) (by assumption) ?_
    rotate_left
    · intro w hSw; (try dsimp only at hSw); go_simp; (try with_reducible rfl)
    (try simp only [Act.put, List.getElem_toArray, List.getElem_cons_zero, List.getElem_cons_succ, List.setIfInBounds_toArray, List.set_cons_zero, List.set_cons_succ])
    refine wpAnyH_take (i := 27) (v := ?_) rfl (by kernel_rfl) (by kernel_rfl) (by kernel_rfl) (fun _ _ _ h => h) (Or.inl ⟨by kernel_rfl, ?_⟩) (by assumption) ?_
    rotate_left
    · intro w hSw; (try dsimp only at hSw); go_simp; (try with_reducible rfl)
    (try simp only [Act.put, List.getElem_toArray, List.getElem_cons_zero, List.getElem_cons_succ, List.setIfInBounds_toArray, List.set_cons_zero, List.set_cons_succ])
    refine wpAnyH_ready (rs := [28]) (by kernel_rfl) (by simp) ?_
    refine AllReadyH.cons rfl (fun K hK => ?_) AllReadyH.nil
    obtain ⟨w19, hw19, HS28, k19⟩ := prepB [⟨true, ⟨#[67]⟩, 1⟩, ⟨true, ⟨#[68]⟩, 2⟩, ⟨true, ⟨#[67]⟩, 3⟩, ⟨true, ⟨#[67]⟩, 5⟩, ⟨true, ⟨#[68]⟩, 6⟩, ⟨true, ⟨#[67]⟩, 7⟩] (by decide) w18
    have HK := Lib.hid (HK.out.trans k19.out)
    have HKB := Lib.hid (HKB.out.trans k19.out)
    have HSU := Lib.hid (lys_kept HSU.out k19.out)
    have HS3 := Lib.hid (lys_kept HS3.out k19.out)
    have HS6 := Lib.hid (lys_kept HS6.out k19.out)
    go_simp
    rw [show w18.alloc (.cells #[.bool true, .string ⟨#[67]⟩, .int .i64 1, .bool true, .string ⟨#[68]⟩, .int .i64 2, .bool true, .string ⟨#[67]⟩, .int .i64 3, .bool true, .string ⟨#[67]⟩, .int .i64 5, .bool true, .string ⟨#[68]⟩, .int .i64 6, .bool true, .string ⟨#[67]⟩, .int .i64 7] 24) = w19 from hw19]
    clear hw19 k19
    refine hK.out _ _ ⟨⟨HKB.out.cell HTC.out.1, HKB.out.cell HTC.out.2.1, HKB.out.cell HTC.out.2.2.1, HKB.out.cell HTC.out.2.2.2.1, HKB.out.cell HTC.out.2.2.2.2.1, HKB.out.cell HTC.out.2.2.2.2.2.1, HKB.out.cell HTC.out.2.2.2.2.2.2.1, HKB.out.cell HTC.out.2.2.2.2.2.2.2.1, HKB.out.cell HTC.out.2.2.2.2.2.2.2.2.1, HKB.out.cell HTC.out.2.2.2.2.2.2.2.2.2.1, HKB.out.cell HTC.out.2.2.2.2.2.2.2.2.2.2.1, HKB.out.cell HTC.out.2.2.2.2.2.2.2.2.2.2.2.1, HKB.out.cell HTC.out.2.2.2.2.2.2.2.2.2.2.2.2.1, HKB.out.cell HTC.out.2.2.2.2.2.2.2.2.2.2.2.2.2.1, HKB.out.cell HTC.out.2.2.2.2.2.2.2.2.2.2.2.2.2.2.1, HKB.out.cell HTC.out.2.2.2.2.2.2.2.2.2.2.2.2.2.2.2.1, HKB.out.cell HTC.out.2.2.2.2.2.2.2.2.2.2.2.2.2.2.2.2.1, HKB.out.cell HTC.out.2.2.2.2.2.2.2.2.2.2.2.2.2.2.2.2.2⟩, HKB.out⟩ (fun hHeld19 => ?_)
    clear hK K
    (try simp only [Act.put, List.getElem_toArray, List.getElem_cons_zero, List.getElem_cons_succ, List.setIfInBounds_toArray, List.set_cons_zero, List.set_cons_succ])
    refine wpAnyH_ready (rs := [29]) (by kernel_rfl) (by simp) ?_
    refine AllReadyH.cons rfl (fun K hK => ?_) AllReadyH.nil
    have HC := Lib.hid (norms_c [⟨true, ⟨#[67]⟩, 1⟩, ⟨true, ⟨#[68]⟩, 2⟩, ⟨true, ⟨#[67]⟩, 3⟩, ⟨true, ⟨#[68]⟩, 4⟩, ⟨true, ⟨#[67]⟩, 5⟩, ⟨true, ⟨#[68]⟩, 6⟩, ⟨true, ⟨#[67]⟩, 7⟩] [⟨true, ⟨#[67]⟩, 1⟩, ⟨true, ⟨#[68]⟩, 2⟩, ⟨true, ⟨#[67]⟩, 3⟩, ⟨true, ⟨#[67]⟩, 5⟩, ⟨true, ⟨#[68]⟩, 6⟩, ⟨true, ⟨#[67]⟩, 7⟩] _ _ w19 HSU.out HS28.out (by decide))
    rw [show decide (Chn.norm ky [⟨true, ⟨#[67]⟩, 1⟩, ⟨true, ⟨#[68]⟩, 2⟩, ⟨true, ⟨#[67]⟩, 3⟩, ⟨true, ⟨#[68]⟩, 4⟩, ⟨true, ⟨#[67]⟩, 5⟩, ⟨true, ⟨#[68]⟩, 6⟩, ⟨true, ⟨#[67]⟩, 7⟩] = [⟨true, ⟨#[67]⟩, 1⟩, ⟨true, ⟨#[68]⟩, 2⟩, ⟨true, ⟨#[67]⟩, 3⟩, ⟨true, ⟨#[67]⟩, 5⟩, ⟨true, ⟨#[68]⟩, 6⟩, ⟨true, ⟨#[67]⟩, 7⟩]) = true from by kernel_rfl] at HC
    go_simp
    go_at_call 29
    refine HC.out.mono ?_
    rintro e w20 ⟨rfl, k20⟩
    have HK := Lib.hid (HK.out.trans k20)
    have HKB := Lib.hid (HKB.out.trans k20)
    have HSU := Lib.hid (lys_kept HSU.out k20)
    have HS3 := Lib.hid (lys_kept HS3.out k20)
    have HS6 := Lib.hid (lys_kept HS6.out k20)
    have HS28 := Lib.hid (lys_kept HS28.out k20)
    clear k20 HC
    refine hK.out _ _ ⟨⟨HKB.out.cell HTC.out.1, HKB.out.cell HTC.out.2.1, HKB.out.cell HTC.out.2.2.1, HKB.out.cell HTC.out.2.2.2.1, HKB.out.cell HTC.out.2.2.2.2.1, HKB.out.cell HTC.out.2.2.2.2.2.1, HKB.out.cell HTC.out.2.2.2.2.2.2.1, HKB.out.cell HTC.out.2.2.2.2.2.2.2.1, HKB.out.cell HTC.out.2.2.2.2.2.2.2.2.1, HKB.out.cell HTC.out.2.2.2.2.2.2.2.2.2.1, HKB.out.cell HTC.out.2.2.2.2.2.2.2.2.2.2.1, HKB.out.cell HTC.out.2.2.2.2.2.2.2.2.2.2.2.1, HKB.out.cell HTC.out.2.2.2.2.2.2.2.2.2.2.2.2.1, HKB.out.cell HTC.out.2.2.2.2.2.2.2.2.2.2.2.2.2.1, HKB.out.cell HTC.out.2.2.2.2.2.2.2.2.2.2.2.2.2.2.1, HKB.out.cell HTC.out.2.2.2.2.2.2.2.2.2.2.2.2.2.2.2.1, HKB.out.cell HTC.out.2.2.2.2.2.2.2.2.2.2.2.2.2.2.2.2.1, HKB.out.cell HTC.out.2.2.2.2.2.2.2.2.2.2.2.2.2.2.2.2.2⟩, HKB.out⟩ (fun hHeld20 => ?_)
    clear hK K
    (try simp only [Act.put, List.getElem_toArray, List.getElem_cons_zero, List.getElem_cons_succ, List.setIfInBounds_toArray, List.set_cons_zero, List.set_cons_succ])
    refine wpAnyH_take (i := 30) (v := ?_) rfl (by kernel_rfl) (by kernel_rfl) (by kernel_rfl) (fun _ _ _ h => h) (Or.inl ⟨by kernel_rfl, ?_⟩) (by assumption) ?_
    rotate_left
    · intro w hSw; (try dsimp only at hSw); go_simp; (try with_reducible rfl)
    (try simp only [Act.put, List.getElem_toArray, List.getElem_cons_zero, List.getElem_cons_succ, List.setIfInBounds_toArray, List.set_cons_zero, List.set_cons_succ])
    refine wpAnyH_take (i := 31) (v := ?_) rfl (by kernel_rfl) (by kernel_rfl) (by kernel_rfl) (fun _ _ _ h => h) (Or.inl ⟨by kernel_rfl, ?_⟩) (by assumption) ?_
    rotate_left
    · intro w hSw; (try dsimp only at hSw); go_simp; (try with_reducible rfl)
    (try simp only [Act.put, List.getElem_toArray, List.getElem_cons_zero, List.getElem_cons_succ, List.setIfInBounds_toArray, List.set_cons_zero, List.set_cons_succ])
    refine wpAnyH_take (i := 32) (v := ?_) rfl (by kernel_rfl) (by kernel_rfl) (by kernel_rfl) (fun _ _ _ h => h) (Or.inl ⟨by kernel_rfl, ?_⟩) (by assumption) ?_
    rotate_left
    · intro w hSw; (try dsimp only at hSw); go_simp; (try with_reducible rfl)
    (try simp only [Act.put, List.getElem_toArray, List.getElem_cons_zero, List.getElem_cons_succ, List.setIfInBounds_toArray, List.set_cons_zero, List.set_cons_succ])
    refine wpAnyH_take (i := 33) (v := ?_) rfl (by kernel_rfl) (by kernel_rfl) (by kernel_rfl) (fun _ _ _ h => h) (Or.inl ⟨by kernel_rfl, ?_⟩) (by assumption) ?_
    rotate_left
    · intro w hSw; (try dsimp only at hSw); go_simp; (try with_reducible rfl)
    (try simp only [Act.put, List.getElem_toArray, List.getElem_cons_zero, List.getElem_cons_succ, List.setIfInBounds_toArray, List.set_cons_zero, List.set_cons_succ])
    refine wpAnyH_take (i := 34) (v := ?_) rfl (by kernel_rfl) (by kernel_rfl) (by kernel_rfl) (fun _ _ _ h => h) (Or.inl ⟨by kernel_rfl, ?_⟩) (by assumption) ?_
    rotate_left
    · intro w hSw; (try dsimp only at hSw); go_simp; (try with_reducible rfl)
    (try simp only [Act.put, List.getElem_toArray, List.getElem_cons_zero, List.getElem_cons_succ, List.setIfInBounds_toArray, List.set_cons_zero, List.set_cons_succ])
    refine wpAnyH_take (i := 35) (v := ?_) rfl (by kernel_rfl) (by kernel_rfl) (by kernel_rfl) (fun _ _ _ h => h) (Or.inl ⟨by kernel_rfl, ?_⟩) (by assumption) ?_
    rotate_left
    · intro w hSw; (try dsimp only at hSw); go_simp; (try with_reducible rfl)
    (try simp only [Act.put, List.getElem_toArray, List.getElem_cons_zero, List.getElem_cons_succ, List.setIfInBounds_toArray, List.set_cons_zero, List.set_cons_succ])
    refine wpAnyH_take (i := 36) (v := ?_) rfl (by kernel_rfl) (by kernel_rfl) (by kernel_rfl) (fun _ _ _ h => h) (Or.inl ⟨by kernel_rfl, ?_⟩) (by assumption) ?_
    rotate_left
    · intro w hSw; (try dsimp only at hSw); go_simp; (try with_reducible rfl)
    (try simp only [Act.put, List.getElem_toArray, List.getElem_cons_zero, List.getElem_cons_succ, List.setIfInBounds_toArray, List.set_cons_zero, List.set_cons_succ])
    refine wpAnyH_take (i := 37) (v := ?_) rfl (by kernel_rfl) (by kernel_rfl) (by kernel_rfl) (fun _ _ _ h => h) (Or.inl ⟨by kernel_rfl, ?_⟩) (by assumption) ?_
    rotate_left
    · intro w hSw; (try dsimp only at hSw); go_simp; (try with_reducible rfl)
    (try simp only [Act.put, List.getElem_toArray, List.getElem_cons_zero, List.getElem_cons_succ, List.setIfInBounds_toArray, List.set_cons_zero, List.set_cons_succ])
    refine wpAnyH_take (i := 38) (v := ?_) rfl (by kernel_rfl) (by kernel_rfl) (by kernel_rfl) (fun _ _ _ h => h) (Or.inl ⟨by kernel_rfl, ?_⟩) (by assumption) ?_
    rotate_left
    · intro w hSw; (try dsimp only at hSw); go_simp; (try with_reducible rfl)
    (try simp only [Act.put, List.getElem_toArray, List.getElem_cons_zero, List.getElem_cons_succ, List.setIfInBounds_toArray, List.set_cons_zero, List.set_cons_succ])
    refine wpAnyH_take (i := 39) (v := ?_) rfl (by kernel_rfl) (by kernel_rfl) (by kernel_rfl) (fun _ _ _ h => h) (Or.inl ⟨by kernel_rfl, ?_⟩) (by assumption) ?_
    rotate_left
    · intro w hSw; (try dsimp only at hSw); go_simp; (try with_reducible rfl)
    (try simp only [Act.put, List.getElem_toArray, List.getElem_cons_zero, List.getElem_cons_succ, List.setIfInBounds_toArray, List.set_cons_zero, List.set_cons_succ])
    refine wpAnyH_done (by kernel_rfl) ?_ _
    go_wp2_with fail
    go_ret
    exact ⟨rfl, HK.out⟩
  refine AllReadyH.cons rfl (fun K hK => ?_) AllReadyH.nil
  go_simp
  go_at_call 30
  refine (out_c _ _ _).mono ?_
  rintro e w21 ⟨rfl, k21⟩
  have HK := Lib.hid (HK.out.trans k21)
  have HKB := Lib.hid (HKB.out.trans k21)
  have HSU := Lib.hid (lys_kept HSU.out k21)
  clear k21
  refine hK.out _ _ ⟨⟨HKB.out.cell HTC.out.1, HKB.out.cell HTC.out.2.1, HKB.out.cell HTC.out.2.2.1, HKB.out.cell HTC.out.2.2.2.1, HKB.out.cell HTC.out.2.2.2.2.1, HKB.out.cell HTC.out.2.2.2.2.2.1, HKB.out.cell HTC.out.2.2.2.2.2.2.1, HKB.out.cell HTC.out.2.2.2.2.2.2.2.1, HKB.out.cell HTC.out.2.2.2.2.2.2.2.2.1, HKB.out.cell HTC.out.2.2.2.2.2.2.2.2.2.1, HKB.out.cell HTC.out.2.2.2.2.2.2.2.2.2.2.1, HKB.out.cell HTC.out.2.2.2.2.2.2.2.2.2.2.2.1, HKB.out.cell HTC.out.2.2.2.2.2.2.2.2.2.2.2.2.1, HKB.out.cell HTC.out.2.2.2.2.2.2.2.2.2.2.2.2.2.1, HKB.out.cell HTC.out.2.2.2.2.2.2.2.2.2.2.2.2.2.2.1, HKB.out.cell HTC.out.2.2.2.2.2.2.2.2.2.2.2.2.2.2.2.1, HKB.out.cell HTC.out.2.2.2.2.2.2.2.2.2.2.2.2.2.2.2.2.1, HKB.out.cell HTC.out.2.2.2.2.2.2.2.2.2.2.2.2.2.2.2.2.2⟩, HKB.out⟩ (fun hHeld21 => ?_)
  clear hK K
  (try simp only [Act.put, List.getElem_toArray, List.getElem_cons_zero, List.getElem_cons_succ, List.setIfInBounds_toArray, List.set_cons_zero, List.set_cons_succ])
  refine wpAnyH_ready (rs := [3, 5]) (by kernel_rfl) (by simp) ?_
  refine AllReadyH.cons rfl (fun K hK => ?_) ?_
  · skip
    obtain ⟨w22, hw22, HS3, k22⟩ := prepB [⟨true, ⟨#[67]⟩, 1⟩, ⟨true, ⟨#[67]⟩, 2⟩, ⟨true, ⟨#[67]⟩, 3⟩] (by decide) w21
    have HK := Lib.hid (HK.out.trans k22.out)
    have HKB := Lib.hid (HKB.out.trans k22.out)
    have HSU := Lib.hid (lys_kept HSU.out k22.out)
    go_simp
    rw [show w21.alloc (.cells #[.bool true, .string ⟨#[67]⟩, .int .i64 1, .bool true, .string ⟨#[67]⟩, .int .i64 2, .bool true, .string ⟨#[67]⟩, .int .i64 3] 24) = w22 from hw22]
    clear hw22 k22
    refine hK.out _ _ ⟨⟨HKB.out.cell HTC.out.1, HKB.out.cell HTC.out.2.1, HKB.out.cell HTC.out.2.2.1, HKB.out.cell HTC.out.2.2.2.1, HKB.out.cell HTC.out.2.2.2.2.1, HKB.out.cell HTC.out.2.2.2.2.2.1, HKB.out.cell HTC.out.2.2.2.2.2.2.1, HKB.out.cell HTC.out.2.2.2.2.2.2.2.1, HKB.out.cell HTC.out.2.2.2.2.2.2.2.2.1, HKB.out.cell HTC.out.2.2.2.2.2.2.2.2.2.1, HKB.out.cell HTC.out.2.2.2.2.2.2.2.2.2.2.1, HKB.out.cell HTC.out.2.2.2.2.2.2.2.2.2.2.2.1, HKB.out.cell HTC.out.2.2.2.2.2.2.2.2.2.2.2.2.1, HKB.out.cell HTC.out.2.2.2.2.2.2.2.2.2.2.2.2.2.1, HKB.out.cell HTC.out.2.2.2.2.2.2.2.2.2.2.2.2.2.2.1, HKB.out.cell HTC.out.2.2.2.2.2.2.2.2.2.2.2.2.2.2.2.1, HKB.out.cell HTC.out.2.2.2.2.2.2.2.2.2.2.2.2.2.2.2.2.1, HKB.out.cell HTC.out.2.2.2.2.2.2.2.2.2.2.2.2.2.2.2.2.2⟩, HKB.out⟩ (fun hHeld22 => ?_)
    clear hK K
    (try simp only [Act.put, List.getElem_toArray, List.getElem_cons_zero, List.getElem_cons_succ, List.setIfInBounds_toArray, List.set_cons_zero, List.set_cons_succ])
    refine wpAnyH_ready (rs := [5]) (by kernel_rfl) (by simp) ?_
    refine AllReadyH.cons rfl (fun K hK => ?_) AllReadyH.nil
    go_simp
    go_at_call 30
    refine (out_c _ _ _).mono ?_
    rintro e w23 ⟨rfl, k23⟩
    have HK := Lib.hid (HK.out.trans k23)
    have HKB := Lib.hid (HKB.out.trans k23)
    have HSU := Lib.hid (lys_kept HSU.out k23)
    have HS3 := Lib.hid (lys_kept HS3.out k23)
    clear k23
    refine hK.out _ _ ⟨⟨HKB.out.cell HTC.out.1, HKB.out.cell HTC.out.2.1, HKB.out.cell HTC.out.2.2.1, HKB.out.cell HTC.out.2.2.2.1, HKB.out.cell HTC.out.2.2.2.2.1, HKB.out.cell HTC.out.2.2.2.2.2.1, HKB.out.cell HTC.out.2.2.2.2.2.2.1, HKB.out.cell HTC.out.2.2.2.2.2.2.2.1, HKB.out.cell HTC.out.2.2.2.2.2.2.2.2.1, HKB.out.cell HTC.out.2.2.2.2.2.2.2.2.2.1, HKB.out.cell HTC.out.2.2.2.2.2.2.2.2.2.2.1, HKB.out.cell HTC.out.2.2.2.2.2.2.2.2.2.2.2.1, HKB.out.cell HTC.out.2.2.2.2.2.2.2.2.2.2.2.2.1, HKB.out.cell HTC.out.2.2.2.2.2.2.2.2.2.2.2.2.2.1, HKB.out.cell HTC.out.2.2.2.2.2.2.2.2.2.2.2.2.2.2.1, HKB.out.cell HTC.out.2.2.2.2.2.2.2.2.2.2.2.2.2.2.2.1, HKB.out.cell HTC.out.2.2.2.2.2.2.2.2.2.2.2.2.2.2.2.2.1, HKB.out.cell HTC.out.2.2.2.2.2.2.2.2.2.2.2.2.2.2.2.2.2⟩, HKB.out⟩ (fun hHeld23 => ?_)
    clear hK K
    (try simp only [Act.put, List.getElem_toArray, List.getElem_cons_zero, List.getElem_cons_succ, List.setIfInBounds_toArray, List.set_cons_zero, List.set_cons_succ])
    refine wpAnyH_ready (rs := [6]) (by kernel_rfl) (by simp) ?_
    refine AllReadyH.cons rfl (fun K hK => ?_) AllReadyH.nil
    obtain ⟨w24, hw24, HS6, k24⟩ := prepB [⟨true, ⟨#[67]⟩, 1⟩, ⟨true, ⟨#[67]⟩, 3⟩] (by decide) w23
    have HK := Lib.hid (HK.out.trans k24.out)
    have HKB := Lib.hid (HKB.out.trans k24.out)
    have HSU := Lib.hid (lys_kept HSU.out k24.out)
    have HS3 := Lib.hid (lys_kept HS3.out k24.out)
    go_simp
    rw [show w23.alloc (.cells #[.bool true, .string ⟨#[67]⟩, .int .i64 1, .bool true, .string ⟨#[67]⟩, .int .i64 3] 24) = w24 from hw24]
    clear hw24 k24
    refine hK.out _ _ ⟨⟨HKB.out.cell HTC.out.1, HKB.out.cell HTC.out.2.1, HKB.out.cell HTC.out.2.2.1, HKB.out.cell HTC.out.2.2.2.1, HKB.out.cell HTC.out.2.2.2.2.1, HKB.out.cell HTC.out.2.2.2.2.2.1, HKB.out.cell HTC.out.2.2.2.2.2.2.1, HKB.out.cell HTC.out.2.2.2.2.2.2.2.1, HKB.out.cell HTC.out.2.2.2.2.2.2.2.2.1, HKB.out.cell HTC.out.2.2.2.2.2.2.2.2.2.1, HKB.out.cell HTC.out.2.2.2.2.2.2.2.2.2.2.1, HKB.out.cell HTC.out.2.2.2.2.2.2.2.2.2.2.2.1, HKB.out.cell HTC.out.2.2.2.2.2.2.2.2.2.2.2.2.1, HKB.out.cell HTC.out.2.2.2.2.2.2.2.2.2.2.2.2.2.1, HKB.out.cell HTC.out.2.2.2.2.2.2.2.2.2.2.2.2.2.2.1, HKB.out.cell HTC.out.2.2.2.2.2.2.2.2.2.2.2.2.2.2.2.1, HKB.out.cell HTC.out.2.2.2.2.2.2.2.2.2.2.2.2.2.2.2.2.1, HKB.out.cell HTC.out.2.2.2.2.2.2.2.2.2.2.2.2.2.2.2.2.2⟩, HKB.out⟩ (fun hHeld24 => ?_)
    clear hK K
    (try simp only [Act.put, List.getElem_toArray, List.getElem_cons_zero, List.getElem_cons_succ, List.setIfInBounds_toArray, List.set_cons_zero, List.set_cons_succ])
    refine wpAnyH_ready (rs := [7]) (by kernel_rfl) (by simp) ?_
    refine AllReadyH.cons rfl (fun K hK => ?_) AllReadyH.nil
    have HC := Lib.hid (norms_c [⟨true, ⟨#[67]⟩, 1⟩, ⟨true, ⟨#[67]⟩, 2⟩, ⟨true, ⟨#[67]⟩, 3⟩] [⟨true, ⟨#[67]⟩, 1⟩, ⟨true, ⟨#[67]⟩, 3⟩] _ _ w24 HS3.out HS6.out (by decide))
    rw [show decide (Chn.norm ky [⟨true, ⟨#[67]⟩, 1⟩, ⟨true, ⟨#[67]⟩, 2⟩, ⟨true, ⟨#[67]⟩, 3⟩] = [⟨true, ⟨#[67]⟩, 1⟩, ⟨true, ⟨#[67]⟩, 3⟩]) = true from by kernel_rfl] at HC
    go_simp
    go_at_call 29
    refine HC.out.mono ?_
    rintro e w25 ⟨rfl, k25⟩
    have HK := Lib.hid (HK.out.trans k25)
    have HKB := Lib.hid (HKB.out.trans k25)
    have HSU := Lib.hid (lys_kept HSU.out k25)
    have HS3 := Lib.hid (lys_kept HS3.out k25)
    have HS6 := Lib.hid (lys_kept HS6.out k25)
    clear k25 HC
    refine hK.out _ _ ⟨⟨HKB.out.cell HTC.out.1, HKB.out.cell HTC.out.2.1, HKB.out.cell HTC.out.2.2.1, HKB.out.cell HTC.out.2.2.2.1, HKB.out.cell HTC.out.2.2.2.2.1, HKB.out.cell HTC.out.2.2.2.2.2.1, HKB.out.cell HTC.out.2.2.2.2.2.2.1, HKB.out.cell HTC.out.2.2.2.2.2.2.2.1, HKB.out.cell HTC.out.2.2.2.2.2.2.2.2.1, HKB.out.cell HTC.out.2.2.2.2.2.2.2.2.2.1, HKB.out.cell HTC.out.2.2.2.2.2.2.2.2.2.2.1, HKB.out.cell HTC.out.2.2.2.2.2.2.2.2.2.2.2.1, HKB.out.cell HTC.out.2.2.2.2.2.2.2.2.2.2.2.2.1, HKB.out.cell HTC.out.2.2.2.2.2.2.2.2.2.2.2.2.2.1, HKB.out.cell HTC.out.2.2.2.2.2.2.2.2.2.2.2.2.2.2.1, HKB.out.cell HTC.out.2.2.2.2.2.2.2.2.2.2.2.2.2.2.2.1, HKB.out.cell HTC.out.2.2.2.2.2.2.2.2.2.2.2.2.2.2.2.2.1, HKB.out.cell HTC.out.2.2.2.2.2.2.2.2.2.2.2.2.2.2.2.2.2⟩, HKB.out⟩ (fun hHeld25 => ?_)
    clear hK K
    (try simp only [Act.put, List.getElem_toArray, List.getElem_cons_zero, List.getElem_cons_succ, List.setIfInBounds_toArray, List.set_cons_zero, List.set_cons_succ])
    refine wpAnyH_take (i := 8) (v := ?_) rfl (by kernel_rfl) (by kernel_rfl) (by kernel_rfl) (fun _ _ _ h => h) (Or.inl ⟨by kernel_rfl, ?_⟩) (by assumption) ?_
    rotate_left
    · intro w hSw; (try dsimp only at hSw); go_simp; (try with_reducible rfl)
    (try simp only [Act.put, List.getElem_toArray, List.getElem_cons_zero, List.getElem_cons_succ, List.setIfInBounds_toArray, List.set_cons_zero, List.set_cons_succ])
    refine wpAnyH_take (i := 9) (v := ?_) rfl (by kernel_rfl) (by kernel_rfl) (by kernel_rfl) (fun _ _ _ h => h) (Or.inl ⟨by kernel_rfl, ?_⟩) (by assumption) ?_
    rotate_left
    · intro w hSw; (try dsimp only at hSw); go_simp; (try with_reducible rfl)
    (try simp only [Act.put, List.getElem_toArray, List.getElem_cons_zero, List.getElem_cons_succ, List.setIfInBounds_toArray, List.set_cons_zero, List.set_cons_succ])
    refine wpAnyH_take (i := 10) (v := ?_) rfl (by kernel_rfl) (by kernel_rfl) (by kernel_rfl) (fun _ _ _ h => h) (Or.inl ⟨by kernel_rfl, ?_⟩) (by assumption) ?_
    rotate_left
    · intro w hSw; (try dsimp only at hSw); go_simp; (try with_reducible rfl)
    (try simp only [Act.put, List.getElem_toArray, List.getElem_cons_zero, List.getElem_cons_succ, List.setIfInBounds_toArray, List.set_cons_zero, List.set_cons_succ])
    refine wpAnyH_take (i := 11) (v := ?_) rfl (by kernel_rfl) (by kernel_rfl) (by kernel_rfl) (fun _ _ _ h => h) (Or.inl ⟨by kernel_rfl, ?_⟩) (by assumption) ?_
    rotate_left
    · intro w hSw; (try dsimp only at hSw); go_simp; (try with_reducible rfl)
    (try simp only [Act.put, List.getElem_toArray, List.getElem_cons_zero, List.getElem_cons_succ, List.setIfInBounds_toArray, List.set_cons_zero, List.set_cons_succ])
    refine wpAnyH_take (i := 12) (v := ?_) rfl (by kernel_rfl) (by kernel_rfl) (by kernel_rfl) (fun _ _ _ h => h) (Or.inl ⟨by kernel_rfl, ?_⟩) (by assumption) ?_
    rotate_left
    · intro w hSw; (try dsimp only at hSw); go_simp; (try with_reducible rfl)
    (try simp only [Act.put, List.getElem_toArray, List.getElem_cons_zero, List.getElem_cons_succ, List.setIfInBounds_toArray, List.set_cons_zero, List.set_cons_succ])
    refine wpAnyH_take (i := 13) (v := ?_) rfl (by kernel_rfl) (by kernel_rfl) (by kernel_rfl) (fun _ _ _ h => h) (Or.inl ⟨by kernel_rfl, ?_⟩) (by assumption) ?_
    rotate_left
    · intro w hSw; (try dsimp only at hSw); go_simp; (try with_reducible rfl)
    (try simp only [Act.put, List.getElem_toArray, List.getElem_cons_zero, List.getElem_cons_succ, List.setIfInBounds_toArray, List.set_cons_zero, List.set_cons_succ])
    refine wpAnyH_take (i := 14) (v := ?_) rfl (by kernel_rfl) (by kernel_rfl) (by kernel_rfl) (fun _ _ _ h => h) (Or.inl ⟨by kernel_rfl, ?_⟩) (by assumption) ?_
    rotate_left
    · intro w hSw; (try dsimp only at hSw); go_simp; (try with_reducible rfl)
    (try simp only [Act.put, List.getElem_toArray, List.getElem_cons_zero, List.getElem_cons_succ, List.setIfInBounds_toArray, List.set_cons_zero, List.set_cons_succ])
    refine wpAnyH_take (i := 15) (v := ?_) rfl (by kernel_rfl) (by kernel_rfl) (by kernel_rfl) (fun _ _ _ h => h) (Or.inl ⟨by kernel_rfl, ?_⟩) (by assumption) ?_
    rotate_left
    · intro w hSw; (try dsimp only at hSw); go_simp; (try with_reducible rfl)
    (try simp only [Act.put, List.getElem_toArray, List.getElem_cons_zero, List.getElem_cons_succ, List.setIfInBounds_toArray, List.set_cons_zero, List.set_cons_succ])
    refine wpAnyH_take (i := 16) (v := ?_) rfl (by kernel_rfl) (by kernel_rfl) (by kernel_rfl) (fun _ _ _ h => h) (Or.inl ⟨by kernel_rfl, ?_⟩) (by assumption) ?_
    rotate_left
    · intro w hSw; (try dsimp only at hSw); go_simp; (try with_reducible rfl)
    (try simp only [Act.put, List.getElem_toArray, List.getElem_cons_zero, List.getElem_cons_succ, List.setIfInBounds_toArray, List.set_cons_zero, List.set_cons_succ])
    refine wpAnyH_take (i := 17) (v := ?_) rfl (by kernel_rfl) (by kernel_rfl) (by kernel_rfl) (fun _ _ _ h => h) (Or.inl ⟨by kernel_rfl, ?_⟩) (by assumption) ?_
    rotate_left
    · intro w hSw; (try dsimp only at hSw); go_simp; (try with_reducible rfl)
    (try simp only [Act.put, List.getElem_toArray, List.getElem_cons_zero, List.getElem_cons_succ, List.setIfInBounds_toArray, List.set_cons_zero, List.set_cons_succ])
    refine wpAnyH_take (i := 18) (v := ?_) rfl (by kernel_rfl) (by kernel_rfl) (by kernel_rfl) (fun _ _ _ h => h) (Or.inl ⟨by kernel_rfl, ?_⟩) (by assumption) ?_
    rotate_left
    · intro w hSw; (try dsimp only at hSw); go_simp; (try with_reducible rfl)
    (try simp only [Act.put, List.getElem_toArray, List.getElem_cons_zero, List.getElem_cons_succ, List.setIfInBounds_toArray, List.set_cons_zero, List.set_cons_succ])
    refine wpAnyH_take (i := 19) (v := ?_) rfl (by kernel_rfl) (by kernel_rfl) (by kernel_rfl) (fun _ _ _ h => h) (Or.inl ⟨by kernel_rfl, ?_⟩) (by assumption) ?_
    rotate_left
    · intro w hSw; (try dsimp only at hSw); go_simp; (try with_reducible rfl)
    (try simp only [Act.put, List.getElem_toArray, List.getElem_cons_zero, List.getElem_cons_succ, List.setIfInBounds_toArray, List.set_cons_zero, List.set_cons_succ])
    refine wpAnyH_take (i := 20) (v := ?_) rfl (by kernel_rfl) (by kernel_rfl) (by kernel_rfl) (fun _ _ _ h => h) (Or.inl ⟨by kernel_rfl, ?_⟩) (by assumption) ?_
    rotate_left
    · intro w hSw; (try dsimp only at hSw); go_simp; (try with_reducible rfl)
    (try simp only [Act.put, List.getElem_toArray, List.getElem_cons_zero, List.getElem_cons_succ, List.setIfInBounds_toArray, List.set_cons_zero, List.set_cons_succ])
    refine wpAnyH_take (i := 21) (v := ?_) rfl (by kernel_rfl) (by kernel_rfl) (by kernel_rfl) (fun _ _ _ h => h) (Or.inl ⟨by kernel_rfl, ?_⟩) (by assumption) ?_
    rotate_left
    · intro w hSw; (try dsimp only at hSw); go_simp; (try with_reducible rfl)
    (try simp only [Act.put, List.getElem_toArray, List.getElem_cons_zero, List.getElem_cons_succ, List.setIfInBounds_toArray, List.set_cons_zero, List.set_cons_succ])
    refine wpAnyH_take (i := 22) (v := ?_) rfl (by kernel_rfl) (by kernel_rfl) (by kernel_rfl) (fun _ _ _ h => h) (Or.inl ⟨by kernel_rfl, ?_⟩) (by assumption) ?_
    rotate_left
    · intro w hSw; (try dsimp only at hSw); go_simp; (try with_reducible rfl)
    (try simp only [Act.put, List.getElem_toArray, List.getElem_cons_zero, List.getElem_cons_succ, List.setIfInBounds_toArray, List.set_cons_zero, List.set_cons_succ])
    refine wpAnyH_take (i := 23) (v := ?_) rfl (by kernel_rfl) (by kernel_rfl) (by kernel_rfl) (fun _ _ _ h => h) (Or.inl ⟨by kernel_rfl, ?_⟩) (by assumption) ?_
    rotate_left
    · intro w hSw; (try dsimp only at hSw); go_simp; (try with_reducible rfl)
    (try simp only [Act.put, List.getElem_toArray, List.getElem_cons_zero, List.getElem_cons_succ, List.setIfInBounds_toArray, List.set_cons_zero, List.set_cons_succ])
    refine wpAnyH_take (i := 24) (v := ?_) rfl (by kernel_rfl) (by kernel_rfl) (by kernel_rfl) (fun _ _ _ h => h) (Or.inl ⟨by kernel_rfl, ?_⟩) (by assumption) ?_
    rotate_left
    · intro w hSw; (try dsimp only at hSw); go_simp; (try with_reducible rfl)
    (try simp only [Act.put, List.getElem_toArray, List.getElem_cons_zero, List.getElem_cons_succ, List.setIfInBounds_toArray, List.set_cons_zero, List.set_cons_succ])
    refine wpAnyH_take (i := 25) (v := ?_) rfl (by kernel_rfl) (by kernel_rfl) (by kernel_rfl) (fun _ _ _ h => h) (Or.inl ⟨by kernel_rfl, ?_⟩) (by assumption) ?_
    rotate_left
    · intro w hSw; (try dsimp only at hSw); go_simp; (try with_reducible rfl)
    (try simp only [Act.put, List.getElem_toArray, List.getElem_cons_zero, List.getElem_cons_succ, List.setIfInBounds_toArray, List.set_cons_zero, List.set_cons_succ])
    refine wpAnyH_take (i := 26) (v := ?_) rfl (by kernel_rfl) (by kernel_rfl) (by kernel_rfl) (fun _ _ _ h => h) (Or.inl ⟨by kernel_rfl, ?_⟩) (by assumption) ?_
    rotate_left
    · intro w hSw; (try dsimp only at hSw); go_simp; (try with_reducible rfl)
    (try simp only [Act.put, List.getElem_toArray, List.getElem_cons_zero, List.getElem_cons_succ, List.setIfInBounds_toArray, List.set_cons_zero, List.set_cons_succ])
    refine wpAnyH_take (i := 27) (v := ?_) rfl (by kernel_rfl) (by kernel_rfl) (by kernel_rfl) (fun _ _ _ h => h) (Or.inl ⟨by kernel_rfl, ?_⟩) (by assumption) ?_
    rotate_left
    · intro w hSw; (try dsimp only at hSw); go_simp; (try with_reducible rfl)
    (try simp only [Act.put, List.getElem_toArray, List.getElem_cons_zero, List.getElem_cons_succ, List.setIfInBounds_toArray, List.set_cons_zero, List.set_cons_succ])
    refine wpAnyH_ready (rs := [28]) (by kernel_rfl) (by simp) ?_
    refine AllReadyH.cons rfl (fun K hK => ?_) AllReadyH.nil
    obtain ⟨w26, hw26, HS28, k26⟩ := prepB [⟨true, ⟨#[67]⟩, 1⟩, ⟨true, ⟨#[68]⟩, 2⟩, ⟨true, ⟨#[67]⟩, 3⟩, ⟨true, ⟨#[67]⟩, 5⟩, ⟨true, ⟨#[68]⟩, 6⟩, ⟨true, ⟨#[67]⟩, 7⟩] (by decide) w25
    have HK := Lib.hid (HK.out.trans k26.out)
    have HKB := Lib.hid (HKB.out.trans k26.out)
    have HSU := Lib.hid (lys_kept HSU.out k26.out)
    have HS3 := Lib.hid (lys_kept HS3.out k26.out)
    have HS6 := Lib.hid (lys_kept HS6.out k26.out)
    go_simp
    rw [show w25.alloc (.cells #[.bool true, .string ⟨#[67]⟩, .int .i64 1, .bool true, .string ⟨#[68]⟩, .int .i64 2, .bool true, .string ⟨#[67]⟩, .int .i64 3, .bool true, .string ⟨#[67]⟩, .int .i64 5, .bool true, .string ⟨#[68]⟩, .int .i64 6, .bool true, .string ⟨#[67]⟩, .int .i64 7] 24) = w26 from hw26]
    clear hw26 k26
    refine hK.out _ _ ⟨⟨HKB.out.cell HTC.out.1, HKB.out.cell HTC.out.2.1, HKB.out.cell HTC.out.2.2.1, HKB.out.cell HTC.out.2.2.2.1, HKB.out.cell HTC.out.2.2.2.2.1, HKB.out.cell HTC.out.2.2.2.2.2.1, HKB.out.cell HTC.out.2.2.2.2.2.2.1, HKB.out.cell HTC.out.2.2.2.2.2.2.2.1, HKB.out.cell HTC.out.2.2.2.2.2.2.2.2.1, HKB.out.cell HTC.out.2.2.2.2.2.2.2.2.2.1, HKB.out.cell HTC.out.2.2.2.2.2.2.2.2.2.2.1, HKB.out.cell HTC.out.2.2.2.2.2.2.2.2.2.2.2.1, HKB.out.cell HTC.out.2.2.2.2.2.2.2.2.2.2.2.2.1, HKB.out.cell HTC.out.2.2.2.2.2.2.2.2.2.2.2.2.2.1, HKB.out.cell HTC.out.2.2.2.2.2.2.2.2.2.2.2.2.2.2.1, HKB.out.cell HTC.out.2.2.2.2.2.2.2.2.2.2.2.2.2.2.2.1, HKB.out.cell HTC.out.2.2.2.2.2.2.2.2.2.2.2.2.2.2.2.2.1, HKB.out.cell HTC.out.2.2.2.2.2.2.2.2.2.2.2.2.2.2.2.2.2⟩, HKB.out⟩ (fun hHeld26 => ?_)
    clear hK K
    (try simp only [Act.put, List.getElem_toArray, List.getElem_cons_zero, List.getElem_cons_succ, List.setIfInBounds_toArray, List.set_cons_zero, List.set_cons_succ])
    refine wpAnyH_ready (rs := [29]) (by kernel_rfl) (by simp) ?_
    refine AllReadyH.cons rfl (fun K hK => ?_) AllReadyH.nil
    have HC := Lib.hid (norms_c [⟨true, ⟨#[67]⟩, 1⟩, ⟨true, ⟨#[68]⟩, 2⟩, ⟨true, ⟨#[67]⟩, 3⟩, ⟨true, ⟨#[68]⟩, 4⟩, ⟨true, ⟨#[67]⟩, 5⟩, ⟨true, ⟨#[68]⟩, 6⟩, ⟨true, ⟨#[67]⟩, 7⟩] [⟨true, ⟨#[67]⟩, 1⟩, ⟨true, ⟨#[68]⟩, 2⟩, ⟨true, ⟨#[67]⟩, 3⟩, ⟨true, ⟨#[67]⟩, 5⟩, ⟨true, ⟨#[68]⟩, 6⟩, ⟨true, ⟨#[67]⟩, 7⟩] _ _ w26 HSU.out HS28.out (by decide))
    rw [show decide (Chn.norm ky [⟨true, ⟨#[67]⟩, 1⟩, ⟨true, ⟨#[68]⟩, 2⟩, ⟨true, ⟨#[67]⟩, 3⟩, ⟨true, ⟨#[68]⟩, 4⟩, ⟨true, ⟨#[67]⟩, 5⟩, ⟨true, ⟨#[68]⟩, 6⟩, ⟨true, ⟨#[67]⟩, 7⟩] = [⟨true, ⟨#[67]⟩, 1⟩, ⟨true, ⟨#[68]⟩, 2⟩, ⟨true, ⟨#[67]⟩, 3⟩, ⟨true, ⟨#[67]⟩, 5⟩, ⟨true, ⟨#[68]⟩, 6⟩, ⟨true, ⟨#[67]⟩, 7⟩]) = true from by kernel_rfl] at HC
    go_simp
    go_at_call 29
    refine HC.out.mono ?_
    rintro e w27 ⟨rfl, k27⟩
    have HK := Lib.hid (HK.out.trans k27)
    have HKB := Lib.hid (HKB.out.trans k27)
    have HSU := Lib.hid (lys_kept HSU.out k27)
    have HS3 := Lib.hid (lys_kept HS3.out k27)
    have HS6 := Lib.hid (lys_kept HS6.out k27)
    have HS28 := Lib.hid (lys_kept HS28.out k27)
    clear k27 HC
    refine hK.out _ _ ⟨⟨HKB.out.cell HTC.out.1, HKB.out.cell HTC.out.2.1, HKB.out.cell HTC.out.2.2.1, HKB.out.cell HTC.out.2.2.2.1, HKB.out.cell HTC.out.2.2.2.2.1, HKB.out.cell HTC.out.2.2.2.2.2.1, HKB.out.cell HTC.out.2.2.2.2.2.2.1, HKB.out.cell HTC.out.2.2.2.2.2.2.2.1, HKB.out.cell HTC.out.2.2.2.2.2.2.2.2.1, HKB.out.cell HTC.out.2.2.2.2.2.2.2.2.2.1, HKB.out.cell HTC.out.2.2.2.2.2.2.2.2.2.2.1, HKB.out.cell HTC.out.2.2.2.2.2.2.2.2.2.2.2.1, HKB.out.cell HTC.out.2.2.2.2.2.2.2.2.2.2.2.2.1, HKB.out.cell HTC.out.2.2.2.2.2.2.2.2.2.2.2.2.2.1, HKB.out.cell HTC.out.2.2.2.2.2.2.2.2.2.2.2.2.2.2.1, HKB.out.cell HTC.out.2.2.2.2.2.2.2.2.2.2.2.2.2.2.2.1, HKB.out.cell HTC.out.2.2.2.2.2.2.2.2.2.2.2.2.2.2.2.2.1, HKB.out.cell HTC.out.2.2.2.2.2.2.2.2.2.2.2.2.2.2.2.2.2⟩, HKB.out⟩ (fun hHeld27 => ?_)
    clear hK K
    (try simp only [Act.put, List.getElem_toArray, List.getElem_cons_zero, List.getElem_cons_succ, List.setIfInBounds_toArray, List.set_cons_zero, List.set_cons_succ])
    refine wpAnyH_take (i := 30) (v := ?_) rfl (by kernel_rfl) (by kernel_rfl) (by kernel_rfl) (fun _ _ _ h => h) (Or.inl ⟨by kernel_rfl, ?_⟩) (by assumption) ?_
    rotate_left
    · intro w hSw; (try dsimp only at hSw); go_simp; (try with_reducible rfl)
    (try simp only [Act.put, List.getElem_toArray, List.getElem_cons_zero, List.getElem_cons_succ, List.setIfInBounds_toArray, List.set_cons_zero, List.set_cons_succ])
    refine wpAnyH_take (i := 31) (v := ?_) rfl (by kernel_rfl) (by kernel_rfl) (by kernel_rfl) (fun _ _ _ h => h) (Or.inl ⟨by kernel_rfl, ?_⟩) (by assumption) ?_
    rotate_left
    · intro w hSw; (try dsimp only at hSw); go_simp; (try with_reducible rfl)
    (try simp only [Act.put, List.getElem_toArray, List.getElem_cons_zero, List.getElem_cons_succ, List.setIfInBounds_toArray, List.set_cons_zero, List.set_cons_succ])
    refine wpAnyH_take (i := 32) (v := ?_) rfl (by kernel_rfl) (by kernel_rfl) (by kernel_rfl) (fun _ _ _ h => h) (Or.inl ⟨by kernel_rfl, ?_⟩) (by assumption) ?_
    rotate_left
    · intro w hSw; (try dsimp only at hSw); go_simp; (try with_reducible rfl)
    (try simp only [Act.put, List.getElem_toArray, List.getElem_cons_zero, List.getElem_cons_succ, List.setIfInBounds_toArray, List.set_cons_zero, List.set_cons_succ])
    refine wpAnyH_take (i := 33) (v := ?_) rfl (by kernel_rfl) (by kernel_rfl) (by kernel_rfl) (fun _ _ _ h => h) (Or.inl ⟨by kernel_rfl, ?_⟩) (by assumption) ?_
    rotate_left
    · intro w hSw; (try dsimp only at hSw); go_simp; (try with_reducible rfl)
    (try simp only [Act.put, List.getElem_toArray, List.getElem_cons_zero, List.getElem_cons_succ, List.setIfInBounds_toArray, List.set_cons_zero, List.set_cons_succ])
    refine wpAnyH_take (i := 34) (v := ?_) rfl (by kernel_rfl) (by kernel_rfl) (by kernel_rfl) (fun _ _ _ h => h) (Or.inl ⟨by kernel_rfl, ?_⟩) (by assumption) ?_
    rotate_left
    · intro w hSw; (try dsimp only at hSw); go_simp; (try with_reducible rfl)
    (try simp only [Act.put, List.getElem_toArray, List.getElem_cons_zero, List.getElem_cons_succ, List.setIfInBounds_toArray, List.set_cons_zero, List.set_cons_succ])
    refine wpAnyH_take (i := 35) (v := ?_) rfl (by kernel_rfl) (by kernel_rfl) (by kernel_rfl) (fun _ _ _ h => h) (Or.inl ⟨by kernel_rfl, ?_⟩) (by assumption) ?_
    rotate_left
    · intro w hSw; (try dsimp only at hSw); go_simp; (try with_reducible rfl)
    (try simp only [Act.put, List.getElem_toArray, List.getElem_cons_zero, List.getElem_cons_succ, List.setIfInBounds_toArray, List.set_cons_zero, List.set_cons_succ])
    refine wpAnyH_take (i := 36) (v := ?_) rfl (by kernel_rfl) (by kernel_rfl) (by kernel_rfl) (fun _ _ _ h => h) (Or.inl ⟨by kernel_rfl, ?_⟩) (by assumption) ?_
    rotate_left
    · intro w hSw; (try dsimp only at hSw); go_simp; (try with_reducible rfl)
    (try simp only [Act.put, List.getElem_toArray, List.getElem_cons_zero, List.getElem_cons_succ, List.setIfInBounds_toArray, List.set_cons_zero, List.set_cons_succ])
    refine wpAnyH_take (i := 37) (v := ?_) rfl (by kernel_rfl) (by kernel_rfl) (by kernel_rfl) (fun _ _ _ h => h) (Or.inl ⟨by kernel_rfl, ?_⟩) (by assumption) ?_
    rotate_left
    · intro w hSw; (try dsimp only at hSw); go_simp; (try with_reducible rfl)
    (try simp only [Act.put, List.getElem_toArray, List.getElem_cons_zero, List.getElem_cons_succ, List.setIfInBounds_toArray, List.set_cons_zero, List.set_cons_succ])
    refine wpAnyH_take (i := 38) (v := ?_) rfl (by kernel_rfl) (by kernel_rfl) (by kernel_rfl) (fun _ _ _ h => h) (Or.inl ⟨by kernel_rfl, ?_⟩) (by assumption) ?_
    rotate_left
    · intro w hSw; (try dsimp only at hSw); go_simp; (try with_reducible rfl)
    (try simp only [Act.put, List.getElem_toArray, List.getElem_cons_zero, List.getElem_cons_succ, List.setIfInBounds_toArray, List.set_cons_zero, List.set_cons_succ])
    refine wpAnyH_take (i := 39) (v := ?_) rfl (by kernel_rfl) (by kernel_rfl) (by kernel_rfl) (fun _ _ _ h => h) (Or.inl ⟨by kernel_rfl, ?_⟩) (by assumption) ?_
    rotate_left
    · intro w hSw; (try dsimp only at hSw); go_simp; (try with_reducible rfl)
    (try simp only [Act.put, List.getElem_toArray, List.getElem_cons_zero, List.getElem_cons_succ, List.setIfInBounds_toArray, List.set_cons_zero, List.set_cons_succ])
    refine wpAnyH_done (by kernel_rfl) ?_ _
    go_wp2_with fail
    go_ret
    exact ⟨rfl, HK.out⟩
  refine AllReadyH.cons rfl (fun K hK => ?_) AllReadyH.nil
  go_simp
  go_at_call 30
  refine (out_c _ _ _).mono ?_
  rintro e w28 ⟨rfl, k28⟩
  have HK := Lib.hid (HK.out.trans k28)
  have HKB := Lib.hid (HKB.out.trans k28)
  have HSU := Lib.hid (lys_kept HSU.out k28)
  clear k28
  refine hK.out _ _ ⟨⟨HKB.out.cell HTC.out.1, HKB.out.cell HTC.out.2.1, HKB.out.cell HTC.out.2.2.1, HKB.out.cell HTC.out.2.2.2.1, HKB.out.cell HTC.out.2.2.2.2.1, HKB.out.cell HTC.out.2.2.2.2.2.1, HKB.out.cell HTC.out.2.2.2.2.2.2.1, HKB.out.cell HTC.out.2.2.2.2.2.2.2.1, HKB.out.cell HTC.out.2.2.2.2.2.2.2.2.1, HKB.out.cell HTC.out.2.2.2.2.2.2.2.2.2.1, HKB.out.cell HTC.out.2.2.2.2.2.2.2.2.2.2.1, HKB.out.cell HTC.out.2.2.2.2.2.2.2.2.2.2.2.1, HKB.out.cell HTC.out.2.2.2.2.2.2.2.2.2.2.2.2.1, HKB.out.cell HTC.out.2.2.2.2.2.2.2.2.2.2.2.2.2.1, HKB.out.cell HTC.out.2.2.2.2.2.2.2.2.2.2.2.2.2.2.1, HKB.out.cell HTC.out.2.2.2.2.2.2.2.2.2.2.2.2.2.2.2.1, HKB.out.cell HTC.out.2.2.2.2.2.2.2.2.2.2.2.2.2.2.2.2.1, HKB.out.cell HTC.out.2.2.2.2.2.2.2.2.2.2.2.2.2.2.2.2.2⟩, HKB.out⟩ (fun hHeld28 => ?_)
  clear hK K
  (try simp only [Act.put, List.getElem_toArray, List.getElem_cons_zero, List.getElem_cons_succ, List.setIfInBounds_toArray, List.set_cons_zero, List.set_cons_succ])
  refine wpAnyH_ready (rs := [3, 6]) (by kernel_rfl) (by simp) ?_
  refine AllReadyH.cons rfl (fun K hK => ?_) ?_
  · skip
    obtain ⟨w29, hw29, HS3, k29⟩ := prepB [⟨true, ⟨#[67]⟩, 1⟩, ⟨true, ⟨#[67]⟩, 2⟩, ⟨true, ⟨#[67]⟩, 3⟩] (by decide) w28
    have HK := Lib.hid (HK.out.trans k29.out)
    have HKB := Lib.hid (HKB.out.trans k29.out)
    have HSU := Lib.hid (lys_kept HSU.out k29.out)
    go_simp
    rw [show w28.alloc (.cells #[.bool true, .string ⟨#[67]⟩, .int .i64 1, .bool true, .string ⟨#[67]⟩, .int .i64 2, .bool true, .string ⟨#[67]⟩, .int .i64 3] 24) = w29 from hw29]
    clear hw29 k29
    refine hK.out _ _ ⟨⟨HKB.out.cell HTC.out.1, HKB.out.cell HTC.out.2.1, HKB.out.cell HTC.out.2.2.1, HKB.out.cell HTC.out.2.2.2.1, HKB.out.cell HTC.out.2.2.2.2.1, HKB.out.cell HTC.out.2.2.2.2.2.1, HKB.out.cell HTC.out.2.2.2.2.2.2.1, HKB.out.cell HTC.out.2.2.2.2.2.2.2.1, HKB.out.cell HTC.out.2.2.2.2.2.2.2.2.1, HKB.out.cell HTC.out.2.2.2.2.2.2.2.2.2.1, HKB.out.cell HTC.out.2.2.2.2.2.2.2.2.2.2.1, HKB.out.cell HTC.out.2.2.2.2.2.2.2.2.2.2.2.1, HKB.out.cell HTC.out.2.2.2.2.2.2.2.2.2.2.2.2.1, HKB.out.cell HTC.out.2.2.2.2.2.2.2.2.2.2.2.2.2.1, HKB.out.cell HTC.out.2.2.2.2.2.2.2.2.2.2.2.2.2.2.1, HKB.out.cell HTC.out.2.2.2.2.2.2.2.2.2.2.2.2.2.2.2.1, HKB.out.cell HTC.out.2.2.2.2.2.2.2.2.2.2.2.2.2.2.2.2.1, HKB.out.cell HTC.out.2.2.2.2.2.2.2.2.2.2.2.2.2.2.2.2.2⟩, HKB.out⟩ (fun hHeld29 => ?_)
    clear hK K
    (try simp only [Act.put, List.getElem_toArray, List.getElem_cons_zero, List.getElem_cons_succ, List.setIfInBounds_toArray, List.set_cons_zero, List.set_cons_succ])
    refine wpAnyH_ready (rs := [6]) (by kernel_rfl) (by simp) ?_
    refine AllReadyH.cons rfl (fun K hK => ?_) AllReadyH.nil
    obtain ⟨w30, hw30, HS6, k30⟩ := prepB [⟨true, ⟨#[67]⟩, 1⟩, ⟨true, ⟨#[67]⟩, 3⟩] (by decide) w29
    have HK := Lib.hid (HK.out.trans k30.out)
    have HKB := Lib.hid (HKB.out.trans k30.out)
    have HSU := Lib.hid (lys_kept HSU.out k30.out)
    have HS3 := Lib.hid (lys_kept HS3.out k30.out)
    go_simp
    rw [show w29.alloc (.cells #[.bool true, .string ⟨#[67]⟩, .int .i64 1, .bool true, .string ⟨#[67]⟩, .int .i64 3] 24) = w30 from hw30]
    clear hw30 k30
    refine hK.out _ _ ⟨⟨HKB.out.cell HTC.out.1, HKB.out.cell HTC.out.2.1, HKB.out.cell HTC.out.2.2.1, HKB.out.cell HTC.out.2.2.2.1, HKB.out.cell HTC.out.2.2.2.2.1, HKB.out.cell HTC.out.2.2.2.2.2.1, HKB.out.cell HTC.out.2.2.2.2.2.2.1, HKB.out.cell HTC.out.2.2.2.2.2.2.2.1, HKB.out.cell HTC.out.2.2.2.2.2.2.2.2.1, HKB.out.cell HTC.out.2.2.2.2.2.2.2.2.2.1, HKB.out.cell HTC.out.2.2.2.2.2.2.2.2.2.2.1, HKB.out.cell HTC.out.2.2.2.2.2.2.2.2.2.2.2.1, HKB.out.cell HTC.out.2.2.2.2.2.2.2.2.2.2.2.2.1, HKB.out.cell HTC.out.2.2.2.2.2.2.2.2.2.2.2.2.2.1, HKB.out.cell HTC.out.2.2.2.2.2.2.2.2.2.2.2.2.2.2.1, HKB.out.cell HTC.out.2.2.2.2.2.2.2.2.2.2.2.2.2.2.2.1, HKB.out.cell HTC.out.2.2.2.2.2.2.2.2.2.2.2.2.2.2.2.2.1, HKB.out.cell HTC.out.2.2.2.2.2.2.2.2.2.2.2.2.2.2.2.2.2⟩, HKB.out⟩ (fun hHeld30 => ?_)
    clear hK K
    (try simp only [Act.put, List.getElem_toArray, List.getElem_cons_zero, List.getElem_cons_succ, List.setIfInBounds_toArray, List.set_cons_zero, List.set_cons_succ])
    refine wpAnyH_ready (rs := [7]) (by kernel_rfl) (by simp) ?_
    refine AllReadyH.cons rfl (fun K hK => ?_) AllReadyH.nil
    have HC := Lib.hid (norms_c [⟨true, ⟨#[67]⟩, 1⟩, ⟨true, ⟨#[67]⟩, 2⟩, ⟨true, ⟨#[67]⟩, 3⟩] [⟨true, ⟨#[67]⟩, 1⟩, ⟨true, ⟨#[67]⟩, 3⟩] _ _ w30 HS3.out HS6.out (by decide))
    rw [show decide (Chn.norm ky [⟨true, ⟨#[67]⟩, 1⟩, ⟨true, ⟨#[67]⟩, 2⟩, ⟨true, ⟨#[67]⟩, 3⟩] = [⟨true, ⟨#[67]⟩, 1⟩, ⟨true, ⟨#[67]⟩, 3⟩]) = true from by kernel_rfl] at HC
    go_simp
    go_at_call 29
    refine HC.out.mono ?_
    rintro e w31 ⟨rfl, k31⟩
    have HK := Lib.hid (HK.out.trans k31)
    have HKB := Lib.hid (HKB.out.trans k31)
    have HSU := Lib.hid (lys_kept HSU.out k31)
    have HS3 := Lib.hid (lys_kept HS3.out k31)
    have HS6 := Lib.hid (lys_kept HS6.out k31)
    clear k31 HC
    refine hK.out _ _ ⟨⟨HKB.out.cell HTC.out.1, HKB.out.cell HTC.out.2.1, HKB.out.cell HTC.out.2.2.1, HKB.out.cell HTC.out.2.2.2.1, HKB.out.cell HTC.out.2.2.2.2.1, HKB.out.cell HTC.out.2.2.2.2.2.1, HKB.out.cell HTC.out.2.2.2.2.2.2.1, HKB.out.cell HTC.out.2.2.2.2.2.2.2.1, HKB.out.cell HTC.out.2.2.2.2.2.2.2.2.1, HKB.out.cell HTC.out.2.2.2.2.2.2.2.2.2.1, HKB.out.cell HTC.out.2.2.2.2.2.2.2.2.2.2.1, HKB.out.cell HTC.out.2.2.2.2.2.2.2.2.2.2.2.1, HKB.out.cell HTC.out.2.2.2.2.2.2.2.2.2.2.2.2.1, HKB.out.cell HTC.out.2.2.2.2.2.2.2.2.2.2.2.2.2.1, HKB.out.cell HTC.out.2.2.2.2.2.2.2.2.2.2.2.2.2.2.1, HKB.out.cell HTC.out.2.2.2.2.2.2.2.2.2.2.2.2.2.2.2.1, HKB.out.cell HTC.out.2.2.2.2.2.2.2.2.2.2.2.2.2.2.2.2.1, HKB.out.cell HTC.out.2.2.2.2.2.2.2.2.2.2.2.2.2.2.2.2.2⟩, HKB.out⟩ (fun hHeld31 => ?_)
    clear hK K
    (try simp only [Act.put, List.getElem_toArray, List.getElem_cons_zero, List.getElem_cons_succ, List.setIfInBounds_toArray, List.set_cons_zero, List.set_cons_succ])
    refine wpAnyH_take (i := 8) (v := ?_) rfl (by kernel_rfl) (by kernel_rfl) (by kernel_rfl) (fun _ _ _ h => h) (Or.inl ⟨by kernel_rfl, ?_⟩) (by assumption) ?_
    rotate_left
    · intro w hSw; (try dsimp only at hSw); go_simp; (try with_reducible rfl)
    (try simp only [Act.put, List.getElem_toArray, List.getElem_cons_zero, List.getElem_cons_succ, List.setIfInBounds_toArray, List.set_cons_zero, List.set_cons_succ])
    refine wpAnyH_take (i := 9) (v := ?_) rfl (by kernel_rfl) (by kernel_rfl) (by kernel_rfl) (fun _ _ _ h => h) (Or.inl ⟨by kernel_rfl, ?_⟩) (by assumption) ?_
    rotate_left
    · intro w hSw; (try dsimp only at hSw); go_simp; (try with_reducible rfl)
    (try simp only [Act.put, List.getElem_toArray, List.getElem_cons_zero, List.getElem_cons_succ, List.setIfInBounds_toArray, List.set_cons_zero, List.set_cons_succ])
    refine wpAnyH_take (i := 10) (v := ?_) rfl (by kernel_rfl) (by kernel_rfl) (by kernel_rfl) (fun _ _ _ h => h) (Or.inl ⟨by kernel_rfl, ?_⟩) (by assumption) ?_
    rotate_left
    · intro w hSw; (try dsimp only at hSw); go_simp; (try with_reducible rfl)
    (try simp only [Act.put, List.getElem_toArray, List.getElem_cons_zero, List.getElem_cons_succ, List.setIfInBounds_toArray, List.set_cons_zero, List.set_cons_succ])
    refine wpAnyH_take (i := 11) (v := ?_) rfl (by kernel_rfl) (by kernel_rfl) (by kernel_rfl) (fun _ _ _ h => h) (Or.inl ⟨by kernel_rfl, ?_⟩) (by assumption) ?_
    rotate_left
    · intro w hSw; (try dsimp only at hSw); go_simp; (try with_reducible rfl)
    (try simp only [Act.put, List.getElem_toArray, List.getElem_cons_zero, List.getElem_cons_succ, List.setIfInBounds_toArray, List.set_cons_zero, List.set_cons_succ])
    refine wpAnyH_take (i := 12) (v := ?_) rfl (by kernel_rfl) (by kernel_rfl) (by kernel_rfl) (fun _ _ _ h => h) (Or.inl ⟨by kernel_rfl, ?_⟩) (by assumption) ?_
    rotate_left
    · intro w hSw; (try dsimp only at hSw); go_simp; (try with_reducible rfl)
    (try simp only [Act.put, List.getElem_toArray, List.getElem_cons_zero, List.getElem_cons_succ, List.setIfInBounds_toArray, List.set_cons_zero, List.set_cons_succ])
    refine wpAnyH_take (i := 13) (v := ?_) rfl (by kernel_rfl) (by kernel_rfl) (by kernel_rfl) (fun _ _ _ h => h) (Or.inl ⟨by kernel_rfl, ?_⟩) (by assumption) ?_
    rotate_left
    · intro w hSw; (try dsimp only at hSw); go_simp; (try with_reducible rfl)
    (try simp only [Act.put, List.getElem_toArray, List.getElem_cons_zero, List.getElem_cons_succ, List.setIfInBounds_toArray, List.set_cons_zero, List.set_cons_succ])
    refine wpAnyH_take (i := 14) (v := ?_) rfl (by kernel_rfl) (by kernel_rfl) (by kernel_rfl) (fun _ _ _ h => h) (Or.inl ⟨by kernel_rfl, ?_⟩) (by assumption) ?_
    rotate_left
    · intro w hSw; (try dsimp only at hSw); go_simp; (try with_reducible rfl)
    (try simp only [Act.put, List.getElem_toArray, List.getElem_cons_zero, List.getElem_cons_succ, List.setIfInBounds_toArray, List.set_cons_zero, List.set_cons_succ])
    refine wpAnyH_take (i := 15) (v := ?_) rfl (by kernel_rfl) (by kernel_rfl) (by kernel_rfl) (fun _ _ _ h => h) (Or.inl ⟨by kernel_rfl, ?_⟩) (by assumption) ?_
    rotate_left
    · intro w hSw; (try dsimp only at hSw); go_simp; (try with_reducible rfl)
    (try simp only [Act.put, List.getElem_toArray, List.getElem_cons_zero, List.getElem_cons_succ, List.setIfInBounds_toArray, List.set_cons_zero, List.set_cons_succ])
    refine wpAnyH_take (i := 16) (v := ?_) rfl (by kernel_rfl) (by kernel_rfl) (by kernel_rfl) (fun _ _ _ h => h) (Or.inl ⟨by kernel_rfl, ?_⟩) (by assumption) ?_
    rotate_left
    · intro w hSw; (try dsimp only at hSw); go_simp; (try with_reducible rfl)
    (try simp only [Act.put, List.getElem_toArray, List.getElem_cons_zero, List.getElem_cons_succ, List.setIfInBounds_toArray, List.set_cons_zero, List.set_cons_succ])
    refine wpAnyH_take (i := 17) (v := ?_) rfl (by kernel_rfl) (by kernel_rfl) (by kernel_rfl) (fun _ _ _ h => h) (Or.inl ⟨by kernel_rfl, ?_⟩) (by assumption) ?_
    rotate_left
    · intro w hSw; (try dsimp only at hSw); go_simp; (try with_reducible rfl)
    (try simp only [Act.put, List.getElem_toArray, List.getElem_cons_zero, List.getElem_cons_succ, List.setIfInBounds_toArray, List.set_cons_zero, List.set_cons_succ])
    refine wpAnyH_take (i := 18) (v := ?_) rfl (by kernel_rfl) (by kernel_rfl) (by kernel_rfl) (fun _ _ _ h => h) (Or.inl ⟨by kernel_rfl, ?_⟩) (by assumption) ?_
    rotate_left
    · intro w hSw; (try dsimp only at hSw); go_simp; (try with_reducible rfl)
    (try simp only [Act.put, List.getElem_toArray, List.getElem_cons_zero, List.getElem_cons_succ, List.setIfInBounds_toArray, List.set_cons_zero, List.set_cons_succ])
    refine wpAnyH_take (i := 19) (v := ?_) rfl (by kernel_rfl) (by kernel_rfl) (by kernel_rfl) (fun _ _ _ h => h) (Or.inl ⟨by kernel_rfl, ?_⟩) (by assumption) ?_
    rotate_left
    · intro w hSw; (try dsimp only at hSw); go_simp; (try with_reducible rfl)
    (try simp only [Act.put, List.getElem_toArray, List.getElem_cons_zero, List.getElem_cons_succ, List.setIfInBounds_toArray, List.set_cons_zero, List.set_cons_succ])
    refine wpAnyH_take (i := 20) (v := ?_) rfl (by kernel_rfl) (by kernel_rfl) (by kernel_rfl) (fun _ _ _ h => h) (Or.inl ⟨by kernel_rfl, ?_⟩) (by assumption) ?_
    rotate_left
    · intro w hSw; (try dsimp only at hSw); go_simp; (try with_reducible rfl)
    (try simp only [Act.put, List.getElem_toArray, List.getElem_cons_zero, List.getElem_cons_succ, List.setIfInBounds_toArray, List.set_cons_zero, List.set_cons_succ])
    refine wpAnyH_take (i := 21) (v := ?_) rfl (by kernel_rfl) (by kernel_rfl) (by kernel_rfl) (fun _ _ _ h => h) (Or.inl ⟨by kernel_rfl, ?_⟩) (by assumption) ?_
    rotate_left
    · intro w hSw; (try dsimp only at hSw); go_simp; (try with_reducible rfl)
    (try simp only [Act.put, List.getElem_toArray, List.getElem_cons_zero, List.getElem_cons_succ, List.setIfInBounds_toArray, List.set_cons_zero, List.set_cons_succ])
    refine wpAnyH_take (i := 22) (v := ?_) rfl (by kernel_rfl) (by kernel_rfl) (by kernel_rfl) (fun _ _ _ h => h) (Or.inl ⟨by kernel_rfl, ?_⟩) (by assumption) ?_
    rotate_left
    · intro w hSw; (try dsimp only at hSw); go_simp; (try with_reducible rfl)
    (try simp only [Act.put, List.getElem_toArray, List.getElem_cons_zero, List.getElem_cons_succ, List.setIfInBounds_toArray, List.set_cons_zero, List.set_cons_succ])
    refine wpAnyH_take (i := 23) (v := ?_) rfl (by kernel_rfl) (by kernel_rfl) (by kernel_rfl) (fun _ _ _ h => h) (Or.inl ⟨by kernel_rfl, ?_⟩) (by assumption) ?_
    rotate_left
    · intro w hSw; (try dsimp only at hSw); go_simp; (try with_reducible rfl)
    (try simp only [Act.put, List.getElem_toArray, List.getElem_cons_zero, List.getElem_cons_succ, List.setIfInBounds_toArray, List.set_cons_zero, List.set_cons_succ])
    refine wpAnyH_take (i := 24) (v := ?_) rfl (by kernel_rfl) (by kernel_rfl) (by kernel_rfl) (fun _ _ _ h => h) (Or.inl ⟨by kernel_rfl, ?_⟩) (by assumption) ?_
    rotate_left
    · intro w hSw; (try dsimp only at hSw); go_simp; (try with_reducible rfl)
    (try simp only [Act.put, List.getElem_toArray, List.getElem_cons_zero, List.getElem_cons_succ, List.setIfInBounds_toArray, List.set_cons_zero, List.set_cons_succ])
    refine wpAnyH_take (i := 25) (v := ?_) rfl (by kernel_rfl) (by kernel_rfl) (by kernel_rfl) (fun _ _ _ h => h) (Or.inl ⟨by kernel_rfl, ?_⟩) (by assumption) ?_
    rotate_left
    · intro w hSw; (try dsimp only at hSw); go_simp; (try with_reducible rfl)
    (try simp only [Act.put, List.getElem_toArray, List.getElem_cons_zero, List.getElem_cons_succ, List.setIfInBounds_toArray, List.set_cons_zero, List.set_cons_succ])
    refine wpAnyH_take (i := 26) (v := ?_) rfl (by kernel_rfl) (by kernel_rfl) (by kernel_rfl) (fun _ _ _ h => h) (Or.inl ⟨by kernel_rfl, ?_⟩) (by assumption) ?_
    rotate_left
    · intro w hSw; (try dsimp only at hSw); go_simp; (try with_reducible rfl)
    (try simp only [Act.put, List.getElem_toArray, List.getElem_cons_zero, List.getElem_cons_succ, List.setIfInBounds_toArray, List.set_cons_zero, List.set_cons_succ])
    refine wpAnyH_take (i := 27) (v := ?_) rfl (by kernel_rfl) (by kernel_rfl) (by kernel_rfl) (fun _ _ _ h => h) (Or.inl ⟨by kernel_rfl, ?_⟩) (by assumption) ?_
    rotate_left
    · intro w hSw; (try dsimp only at hSw); go_simp; (try with_reducible rfl)
    (try simp only [Act.put, List.getElem_toArray, List.getElem_cons_zero, List.getElem_cons_succ, List.setIfInBounds_toArray, List.set_cons_zero, List.set_cons_succ])
    refine wpAnyH_ready (rs := [28]) (by kernel_rfl) (by simp) ?_
    refine AllReadyH.cons rfl (fun K hK => ?_) AllReadyH.nil
    obtain ⟨w32, hw32, HS28, k32⟩ := prepB [⟨true, ⟨#[67]⟩, 1⟩, ⟨true, ⟨#[68]⟩, 2⟩, ⟨true, ⟨#[67]⟩, 3⟩, ⟨true, ⟨#[67]⟩, 5⟩, ⟨true, ⟨#[68]⟩, 6⟩, ⟨true, ⟨#[67]⟩, 7⟩] (by decide) w31
    have HK := Lib.hid (HK.out.trans k32.out)
    have HKB := Lib.hid (HKB.out.trans k32.out)
    have HSU := Lib.hid (lys_kept HSU.out k32.out)
    have HS3 := Lib.hid (lys_kept HS3.out k32.out)
    have HS6 := Lib.hid (lys_kept HS6.out k32.out)
    go_simp
    rw [show w31.alloc (.cells #[.bool true, .string ⟨#[67]⟩, .int .i64 1, .bool true, .string ⟨#[68]⟩, .int .i64 2, .bool true, .string ⟨#[67]⟩, .int .i64 3, .bool true, .string ⟨#[67]⟩, .int .i64 5, .bool true, .string ⟨#[68]⟩, .int .i64 6, .bool true, .string ⟨#[67]⟩, .int .i64 7] 24) = w32 from hw32]
    clear hw32 k32
    refine hK.out _ _ ⟨⟨HKB.out.cell HTC.out.1, HKB.out.cell HTC.out.2.1, HKB.out.cell HTC.out.2.2.1, HKB.out.cell HTC.out.2.2.2.1, HKB.out.cell HTC.out.2.2.2.2.1, HKB.out.cell HTC.out.2.2.2.2.2.1, HKB.out.cell HTC.out.2.2.2.2.2.2.1, HKB.out.cell HTC.out.2.2.2.2.2.2.2.1, HKB.out.cell HTC.out.2.2.2.2.2.2.2.2.1, HKB.out.cell HTC.out.2.2.2.2.2.2.2.2.2.1, HKB.out.cell HTC.out.2.2.2.2.2.2.2.2.2.2.1, HKB.out.cell HTC.out.2.2.2.2.2.2.2.2.2.2.2.1, HKB.out.cell HTC.out.2.2.2.2.2.2.2.2.2.2.2.2.1, HKB.out.cell HTC.out.2.2.2.2.2.2.2.2.2.2.2.2.2.1, HKB.out.cell HTC.out.2.2.2.2.2.2.2.2.2.2.2.2.2.2.1, HKB.out.cell HTC.out.2.2.2.2.2.2.2.2.2.2.2.2.2.2.2.1, HKB.out.cell HTC.out.2.2.2.2.2.2.2.2.2.2.2.2.2.2.2.2.1, HKB.out.cell HTC.out.2.2.2.2.2.2.2.2.2.2.2.2.2.2.2.2.2⟩, HKB.out⟩ (fun hHeld32 => ?_)
    clear hK K
    (try simp only [Act.put, List.getElem_toArray, List.getElem_cons_zero, List.getElem_cons_succ, List.setIfInBounds_toArray, List.set_cons_zero, List.set_cons_succ])
    refine wpAnyH_ready (rs := [29]) (by kernel_rfl) (by simp) ?_
    refine AllReadyH.cons rfl (fun K hK => ?_) AllReadyH.nil
    have HC := Lib.hid (norms_c [⟨true, ⟨#[67]⟩, 1⟩, ⟨true, ⟨#[68]⟩, 2⟩, ⟨true, ⟨#[67]⟩, 3⟩, ⟨true, ⟨#[68]⟩, 4⟩, ⟨true, ⟨#[67]⟩, 5⟩, ⟨true, ⟨#[68]⟩, 6⟩, ⟨true, ⟨#[67]⟩, 7⟩] [⟨true, ⟨#[67]⟩, 1⟩, ⟨true, ⟨#[68]⟩, 2⟩, ⟨true, ⟨#[67]⟩, 3⟩, ⟨true, ⟨#[67]⟩, 5⟩, ⟨true, ⟨#[68]⟩, 6⟩, ⟨true, ⟨#[67]⟩, 7⟩] _ _ w32 HSU.out HS28.out (by decide))
    rw [show decide (Chn.norm ky [⟨true, ⟨#[67]⟩, 1⟩, ⟨true, ⟨#[68]⟩, 2⟩, ⟨true, ⟨#[67]⟩, 3⟩, ⟨true, ⟨#[68]⟩, 4⟩, ⟨true, ⟨#[67]⟩, 5⟩, ⟨true, ⟨#[68]⟩, 6⟩, ⟨true, ⟨#[67]⟩, 7⟩] = [⟨true, ⟨#[67]⟩, 1⟩, ⟨true, ⟨#[68]⟩, 2⟩, ⟨true, ⟨#[67]⟩, 3⟩, ⟨true, ⟨#[67]⟩, 5⟩, ⟨true, ⟨#[68]⟩, 6⟩, ⟨true, ⟨#[67]⟩, 7⟩]) = true from by kernel_rfl] at HC
    go_simp
    go_at_call 29
    refine HC.out.mono ?_
    rintro e w33 ⟨rfl, k33⟩
    have HK := Lib.hid (HK.out.trans k33)
    have HKB := Lib.hid (HKB.out.trans k33)
    have HSU := Lib.hid (lys_kept HSU.out k33)
    have HS3 := Lib.hid (lys_kept HS3.out k33)
    have HS6 := Lib.hid (lys_kept HS6.out k33)
    have HS28 := Lib.hid (lys_kept HS28.out k33)
    clear k33 HC
    refine hK.out _ _ ⟨⟨HKB.out.cell HTC.out.1, HKB.out.cell HTC.out.2.1, HKB.out.cell HTC.out.2.2.1, HKB.out.cell HTC.out.2.2.2.1, HKB.out.cell HTC.out.2.2.2.2.1, HKB.out.cell HTC.out.2.2.2.2.2.1, HKB.out.cell HTC.out.2.2.2.2.2.2.1, HKB.out.cell HTC.out.2.2.2.2.2.2.2.1, HKB.out.cell HTC.out.2.2.2.2.2.2.2.2.1, HKB.out.cell HTC.out.2.2.2.2.2.2.2.2.2.1, HKB.out.cell HTC.out.2.2.2.2.2.2.2.2.2.2.1, HKB.out.cell HTC.out.2.2.2.2.2.2.2.2.2.2.2.1, HKB.out.cell HTC.out.2.2.2.2.2.2.2.2.2.2.2.2.1, HKB.out.cell HTC.out.2.2.2.2.2.2.2.2.2.2.2.2.2.1, HKB.out.cell HTC.out.2.2.2.2.2.2.2.2.2.2.2.2.2.2.1, HKB.out.cell HTC.out.2.2.2.2.2.2.2.2.2.2.2.2.2.2.2.1, HKB.out.cell HTC.out.2.2.2.2.2.2.2.2.2.2.2.2.2.2.2.2.1, HKB.out.cell HTC.out.2.2.2.2.2.2.2.2.2.2.2.2.2.2.2.2.2⟩, HKB.out⟩ (fun hHeld33 => ?_)
    clear hK K
    (try simp only [Act.put, List.getElem_toArray, List.getElem_cons_zero, List.getElem_cons_succ, List.setIfInBounds_toArray, List.set_cons_zero, List.set_cons_succ])
    refine wpAnyH_take (i := 30) (v := ?_) rfl (by kernel_rfl) (by kernel_rfl) (by kernel_rfl) (fun _ _ _ h => h) (Or.inl ⟨by kernel_rfl, ?_⟩) (by assumption) ?_
    rotate_left
    · intro w hSw; (try dsimp only at hSw); go_simp; (try with_reducible rfl)
    (try simp only [Act.put, List.getElem_toArray, List.getElem_cons_zero, List.getElem_cons_succ, List.setIfInBounds_toArray, List.set_cons_zero, List.set_cons_succ])
    refine wpAnyH_take (i := 31) (v := ?_) rfl (by kernel_rfl) (by kernel_rfl) (by kernel_rfl) (fun _ _ _ h => h) (Or.inl ⟨by kernel_rfl, ?_⟩) (by assumption) ?_
    rotate_left
    · intro w hSw; (try dsimp only at hSw); go_simp; (try with_reducible rfl)
    (try simp only [Act.put, List.getElem_toArray, List.getElem_cons_zero, List.getElem_cons_succ, List.setIfInBounds_toArray, List.set_cons_zero, List.set_cons_succ])
    refine wpAnyH_take (i := 32) (v := ?_) rfl (by kernel_rfl) (by kernel_rfl) (by kernel_rfl) (fun _ _ _ h => h) (Or.inl ⟨by kernel_rfl, ?_⟩) (by assumption) ?_
    rotate_left
    · intro w hSw; (try dsimp only at hSw); go_simp; (try with_reducible rfl)
    (try simp only [Act.put, List.getElem_toArray, List.getElem_cons_zero, List.getElem_cons_succ, List.setIfInBounds_toArray, List.set_cons_zero, List.set_cons_succ])
    refine wpAnyH_take (i := 33) (v := ?_) rfl (by kernel_rfl) (by kernel_rfl) (by kernel_rfl) (fun _ _ _ h => h) (Or.inl ⟨by kernel_rfl, ?_⟩) (by assumption) ?_
    rotate_left
    · intro w hSw; (try dsimp only at hSw); go_simp; (try with_reducible rfl)
    (try simp only [Act.put, List.getElem_toArray, List.getElem_cons_zero, List.getElem_cons_succ, List.setIfInBounds_toArray, List.set_cons_zero, List.set_cons_succ])
    refine wpAnyH_take (i := 34) (v := ?_) rfl (by kernel_rfl) (by kernel_rfl) (by kernel_rfl) (fun _ _ _ h => h) (Or.inl ⟨by kernel_rfl, ?_⟩) (by assumption) ?_
    rotate_left
    · intro w hSw; (try dsimp only at hSw); go_simp; (try with_reducible rfl)
    (try simp only [Act.put, List.getElem_toArray, List.getElem_cons_zero, List.getElem_cons_succ, List.setIfInBounds_toArray, List.set_cons_zero, List.set_cons_succ])
    refine wpAnyH_take (i := 35) (v := ?_) rfl (by kernel_rfl) (by kernel_rfl) (by kernel_rfl) (fun _ _ _ h => h) (Or.inl ⟨by kernel_rfl, ?_⟩) (by assumption) ?_
    rotate_left
    · intro w hSw; (try dsimp only at hSw); go_simp; (try with_reducible rfl)
    (try simp only [Act.put, List.getElem_toArray, List.getElem_cons_zero, List.getElem_cons_succ, List.setIfInBounds_toArray, List.set_cons_zero, List.set_cons_succ])
    refine wpAnyH_take (i := 36) (v := ?_) rfl (by kernel_rfl) (by kernel_rfl) (by kernel_rfl) (fun _ _ _ h => h) (Or.inl ⟨by kernel_rfl, ?_⟩) (by assumption) ?_
    rotate_left
    · intro w hSw; (try dsimp only at hSw); go_simp; (try with_reducible rfl)
    (try simp only [Act.put, List.getElem_toArray, List.getElem_cons_zero, List.getElem_cons_succ, List.setIfInBounds_toArray, List.set_cons_zero, List.set_cons_succ])
    refine wpAnyH_take (i := 37) (v := ?_) rfl (by kernel_rfl) (by kernel_rfl) (by kernel_rfl) (fun _ _ _ h => h) (Or.inl ⟨by kernel_rfl, ?_⟩) (by assumption) ?_
    rotate_left
    · intro w hSw; (try dsimp only at hSw); go_simp; (try with_reducible rfl)
    (try simp only [Act.put, List.getElem_toArray, List.getElem_cons_zero, List.getElem_cons_succ, List.setIfInBounds_toArray, List.set_cons_zero, List.set_cons_succ])
    refine wpAnyH_take (i := 38) (v := ?_) rfl (by kernel_rfl) (by kernel_rfl) (by kernel_rfl) (fun _ _ _ h => h) (Or.inl ⟨by kernel_rfl, ?_⟩) (by assumption) ?_
    rotate_left
    · intro w hSw; (try dsimp only at hSw); go_simp; (try with_reducible rfl)
    (try simp only [Act.put, List.getElem_toArray, List.getElem_cons_zero, List.getElem_cons_succ, List.setIfInBounds_toArray, List.set_cons_zero, List.set_cons_succ])
    refine wpAnyH_take (i := 39) (v := ?_) rfl (by kernel_rfl) (by kernel_rfl) (by kernel_rfl) (fun _ _ _ h => h) (Or.inl ⟨by kernel_rfl, ?_⟩) (by assumption) ?_
    rotate_left
    · intro w hSw; (try dsimp only at hSw); go_simp; (try with_reducible rfl)
    (try simp only [Act.put, List.getElem_toArray, List.getElem_cons_zero, List.getElem_cons_succ, List.setIfInBounds_toArray, List.set_cons_zero, List.set_cons_succ])
    refine wpAnyH_done (by kernel_rfl) ?_ _
    go_wp2_with fail
    go_ret
    exact ⟨rfl, HK.out⟩
  refine AllReadyH.cons rfl (fun K hK => ?_) AllReadyH.nil
  obtain ⟨w34, hw34, HS6, k34⟩ := prepB [⟨true, ⟨#[67]⟩, 1⟩, ⟨true, ⟨#[67]⟩, 3⟩] (by decide) w28
  have HK := Lib.hid (HK.out.trans k34.out)
  have HKB := Lib.hid (HKB.out.trans k34.out)
  have HSU := Lib.hid (lys_kept HSU.out k34.out)
  go_simp
  rw [show w28.alloc (.cells #[.bool true, .string ⟨#[67]⟩, .int .i64 1, .bool true, .string ⟨#[67]⟩, .int .i64 3] 24) = w34 from hw34]
  clear hw34 k34
  refine hK.out _ _ ⟨⟨HKB.out.cell HTC.out.1, HKB.out.cell HTC.out.2.1, HKB.out.cell HTC.out.2.2.1, HKB.out.cell HTC.out.2.2.2.1, HKB.out.cell HTC.out.2.2.2.2.1, HKB.out.cell HTC.out.2.2.2.2.2.1, HKB.out.cell HTC.out.2.2.2.2.2.2.1, HKB.out.cell HTC.out.2.2.2.2.2.2.2.1, HKB.out.cell HTC.out.2.2.2.2.2.2.2.2.1, HKB.out.cell HTC.out.2.2.2.2.2.2.2.2.2.1, HKB.out.cell HTC.out.2.2.2.2.2.2.2.2.2.2.1, HKB.out.cell HTC.out.2.2.2.2.2.2.2.2.2.2.2.1, HKB.out.cell HTC.out.2.2.2.2.2.2.2.2.2.2.2.2.1, HKB.out.cell HTC.out.2.2.2.2.2.2.2.2.2.2.2.2.2.1, HKB.out.cell HTC.out.2.2.2.2.2.2.2.2.2.2.2.2.2.2.1, HKB.out.cell HTC.out.2.2.2.2.2.2.2.2.2.2.2.2.2.2.2.1, HKB.out.cell HTC.out.2.2.2.2.2.2.2.2.2.2.2.2.2.2.2.2.1, HKB.out.cell HTC.out.2.2.2.2.2.2.2.2.2.2.2.2.2.2.2.2.2⟩, HKB.out⟩ (fun hHeld34 => ?_)
  clear hK K
  (try simp only [Act.put, List.getElem_toArray, List.getElem_cons_zero, List.getElem_cons_succ, List.setIfInBounds_toArray, List.set_cons_zero, List.set_cons_succ])
  refine wpAnyH_ready (rs := [3]) (by kernel_rfl) (by simp) ?_
  refine AllReadyH.cons rfl (fun K hK => ?_) AllReadyH.nil
  obtain ⟨w35, hw35, HS3, k35⟩ := prepB [⟨true, ⟨#[67]⟩, 1⟩, ⟨true, ⟨#[67]⟩, 2⟩, ⟨true, ⟨#[67]⟩, 3⟩] (by decide) w34
  have HK := Lib.hid (HK.out.trans k35.out)
  have HKB := Lib.hid (HKB.out.trans k35.out)
  have HSU := Lib.hid (lys_kept HSU.out k35.out)
  have HS6 := Lib.hid (lys_kept HS6.out k35.out)
  go_simp
  rw [show w34.alloc (.cells #[.bool true, .string ⟨#[67]⟩, .int .i64 1, .bool true, .string ⟨#[67]⟩, .int .i64 2, .bool true, .string ⟨#[67]⟩, .int .i64 3] 24) = w35 from hw35]
  clear hw35 k35
  refine hK.out _ _ ⟨⟨HKB.out.cell HTC.out.1, HKB.out.cell HTC.out.2.1, HKB.out.cell HTC.out.2.2.1, HKB.out.cell HTC.out.2.2.2.1, HKB.out.cell HTC.out.2.2.2.2.1, HKB.out.cell HTC.out.2.2.2.2.2.1, HKB.out.cell HTC.out.2.2.2.2.2.2.1, HKB.out.cell HTC.out.2.2.2.2.2.2.2.1, HKB.out.cell HTC.out.2.2.2.2.2.2.2.2.1, HKB.out.cell HTC.out.2.2.2.2.2.2.2.2.2.1, HKB.out.cell HTC.out.2.2.2.2.2.2.2.2.2.2.1, HKB.out.cell HTC.out.2.2.2.2.2.2.2.2.2.2.2.1, HKB.out.cell HTC.out.2.2.2.2.2.2.2.2.2.2.2.2.1, HKB.out.cell HTC.out.2.2.2.2.2.2.2.2.2.2.2.2.2.1, HKB.out.cell HTC.out.2.2.2.2.2.2.2.2.2.2.2.2.2.2.1, HKB.out.cell HTC.out.2.2.2.2.2.2.2.2.2.2.2.2.2.2.2.1, HKB.out.cell HTC.out.2.2.2.2.2.2.2.2.2.2.2.2.2.2.2.2.1, HKB.out.cell HTC.out.2.2.2.2.2.2.2.2.2.2.2.2.2.2.2.2.2⟩, HKB.out⟩ (fun hHeld35 => ?_)
  clear hK K
  (try simp only [Act.put, List.getElem_toArray, List.getElem_cons_zero, List.getElem_cons_succ, List.setIfInBounds_toArray, List.set_cons_zero, List.set_cons_succ])
  refine wpAnyH_ready (rs := [7]) (by kernel_rfl) (by simp) ?_
  refine AllReadyH.cons rfl (fun K hK => ?_) AllReadyH.nil
  have HC := Lib.hid (norms_c [⟨true, ⟨#[67]⟩, 1⟩, ⟨true, ⟨#[67]⟩, 2⟩, ⟨true, ⟨#[67]⟩, 3⟩] [⟨true, ⟨#[67]⟩, 1⟩, ⟨true, ⟨#[67]⟩, 3⟩] _ _ w35 HS3.out HS6.out (by decide))
  rw [show decide (Chn.norm ky [⟨true, ⟨#[67]⟩, 1⟩, ⟨true, ⟨#[67]⟩, 2⟩, ⟨true, ⟨#[67]⟩, 3⟩] = [⟨true, ⟨#[67]⟩, 1⟩, ⟨true, ⟨#[67]⟩, 3⟩]) = true from by kernel_rfl] at HC
  go_simp
  go_at_call 29
  refine HC.out.mono ?_
  rintro e w36 ⟨rfl, k36⟩
  have HK := Lib.hid (HK.out.trans k36)
  have HKB := Lib.hid (HKB.out.trans k36)
  have HSU := Lib.hid (lys_kept HSU.out k36)
  have HS6 := Lib.hid (lys_kept HS6.out k36)
  have HS3 := Lib.hid (lys_kept HS3.out k36)
  clear k36 HC
  refine hK.out _ _ ⟨⟨HKB.out.cell HTC.out.1, HKB.out.cell HTC.out.2.1, HKB.out.cell HTC.out.2.2.1, HKB.out.cell HTC.out.2.2.2.1, HKB.out.cell HTC.out.2.2.2.2.1, HKB.out.cell HTC.out.2.2.2.2.2.1, HKB.out.cell HTC.out.2.2.2.2.2.2.1, HKB.out.cell HTC.out.2.2.2.2.2.2.2.1, HKB.out.cell HTC.out.2.2.2.2.2.2.2.2.1, HKB.out.cell HTC.out.2.2.2.2.2.2.2.2.2.1, HKB.out.cell HTC.out.2.2.2.2.2.2.2.2.2.2.1, HKB.out.cell HTC.out.2.2.2.2.2.2.2.2.2.2.2.1, HKB.out.cell HTC.out.2.2.2.2.2.2.2.2.2.2.2.2.1, HKB.out.cell HTC.out.2.2.2.2.2.2.2.2.2.2.2.2.2.1, HKB.out.cell HTC.out.2.2.2.2.2.2.2.2.2.2.2.2.2.2.1, HKB.out.cell HTC.out.2.2.2.2.2.2.2.2.2.2.2.2.2.2.2.1, HKB.out.cell HTC.out.2.2.2.2.2.2.2.2.2.2.2.2.2.2.2.2.1, HKB.out.cell HTC.out.2.2.2.2.2.2.2.2.2.2.2.2.2.2.2.2.2⟩, HKB.out⟩ (fun hHeld36 => ?_)
  clear hK K
  (try simp only [Act.put, List.getElem_toArray, List.getElem_cons_zero, List.getElem_cons_succ, List.setIfInBounds_toArray, List.set_cons_zero, List.set_cons_succ])
  refine wpAnyH_take (i := 8) (v := ?_) rfl (by kernel_rfl) (by kernel_rfl) (by kernel_rfl) (fun _ _ _ h => h) (Or.inl ⟨by kernel_rfl, ?_⟩) (by assumption) ?_
  rotate_left
  · intro w hSw; (try dsimp only at hSw); go_simp; (try with_reducible rfl)
  (try simp only [Act.put, List.getElem_toArray, List.getElem_cons_zero, List.getElem_cons_succ, List.setIfInBounds_toArray, List.set_cons_zero, List.set_cons_succ])
  refine wpAnyH_take (i := 9) (v := ?_) rfl (by kernel_rfl) (by kernel_rfl) (by kernel_rfl) (fun _ _ _ h => h) (Or.inl ⟨by kernel_rfl, ?_⟩) (by assumption) ?_
  rotate_left
  · intro w hSw; (try dsimp only at hSw); go_simp; (try with_reducible rfl)
  (try simp only [Act.put, List.getElem_toArray, List.getElem_cons_zero, List.getElem_cons_succ, List.setIfInBounds_toArray, List.set_cons_zero, List.set_cons_succ])
  refine wpAnyH_take (i := 10) (v := ?_) rfl (by kernel_rfl) (by kernel_rfl) (by kernel_rfl) (fun _ _ _ h => h) (Or.inl ⟨by kernel_rfl, ?_⟩) (by assumption) ?_
  rotate_left
  · intro w hSw; (try dsimp only at hSw); go_simp; (try with_reducible rfl)
  (try simp only [Act.put, List.getElem_toArray, List.getElem_cons_zero, List.getElem_cons_succ, List.setIfInBounds_toArray, List.set_cons_zero, List.set_cons_succ])
  refine wpAnyH_take (i := 11) (v := ?_) rfl (by kernel_rfl) (by kernel_rfl) (by kernel_rfl) (fun _ _ _ h => h) (Or.inl ⟨by kernel_rfl, ?_⟩) (by assumption) ?_
  rotate_left
  · intro w hSw; (try dsimp only at hSw); go_simp; (try with_reducible rfl)
  (try simp only [Act.put, List.getElem_toArray, List.getElem_cons_zero, List.getElem_cons_succ, List.setIfInBounds_toArray, List.set_cons_zero, List.set_cons_succ])
  refine wpAnyH_take (i := 12) (v := ?_) rfl (by kernel_rfl) (by kernel_rfl) (by kernel_rfl) (fun _ _ _ h => h) (Or.inl ⟨by kernel_rfl, ?_⟩) (by assumption) ?_
  rotate_left
  · intro w hSw; (try dsimp only at hSw); go_simp; (try with_reducible rfl)
  (try simp only [Act.put, List.getElem_toArray, List.getElem_cons_zero, List.getElem_cons_succ, List.setIfInBounds_toArray, List.set_cons_zero, List.set_cons_succ])
  refine wpAnyH_take (i := 13) (v := ?_) rfl (by kernel_rfl) (by kernel_rfl) (by kernel_rfl) (fun _ _ _ h => h) (Or.inl ⟨by kernel_rfl, ?_⟩) (by assumption) ?_
  rotate_left
  · intro w hSw; (try dsimp only at hSw); go_simp; (try with_reducible rfl)
  (try simp only [Act.put, List.getElem_toArray, List.getElem_cons_zero, List.getElem_cons_succ, List.setIfInBounds_toArray, List.set_cons_zero, List.set_cons_succ])
  refine wpAnyH_take (i := 14) (v := ?_) rfl (by kernel_rfl) (by kernel_rfl) (by kernel_rfl) (fun _ _ _ h => h) (Or.inl ⟨by kernel_rfl, ?_⟩) (by assumption) ?_
  rotate_left
  · intro w hSw; (try dsimp only at hSw); go_simp; (try with_reducible rfl)
  (try simp only [Act.put, List.getElem_toArray, List.getElem_cons_zero, List.getElem_cons_succ, List.setIfInBounds_toArray, List.set_cons_zero, List.set_cons_succ])
  refine wpAnyH_take (i := 15) (v := ?_) rfl (by kernel_rfl) (by kernel_rfl) (by kernel_rfl) (fun _ _ _ h => h) (Or.inl ⟨by kernel_rfl, ?_⟩) (by assumption) ?_
  rotate_left
  · intro w hSw; (try dsimp only at hSw); go_simp; (try with_reducible rfl)
  (try simp only [Act.put, List.getElem_toArray, List.getElem_cons_zero, List.getElem_cons_succ, List.setIfInBounds_toArray, List.set_cons_zero, List.set_cons_succ])
  refine wpAnyH_take (i := 16) (v := ?_) rfl (by kernel_rfl) (by kernel_rfl) (by kernel_rfl) (fun _ _ _ h => h) (Or.inl ⟨by kernel_rfl, ?_⟩) (by assumption) ?_
  rotate_left
  · intro w hSw; (try dsimp only at hSw); go_simp; (try with_reducible rfl)
  (try simp only [Act.put, List.getElem_toArray, List.getElem_cons_zero, List.getElem_cons_succ, List.setIfInBounds_toArray, List.set_cons_zero, List.set_cons_succ])
  refine wpAnyH_take (i := 17) (v := ?_) rfl (by kernel_rfl) (by kernel_rfl) (by kernel_rfl) (fun _ _ _ h => h) (Or.inl ⟨by kernel_rfl, ?_⟩) (by assumption) ?_
  rotate_left
  · intro w hSw; (try dsimp only at hSw); go_simp; (try with_reducible rfl)
  (try simp only [Act.put, List.getElem_toArray, List.getElem_cons_zero, List.getElem_cons_succ, List.setIfInBounds_toArray, List.set_cons_zero, List.set_cons_succ])
  refine wpAnyH_take (i := 18) (v := ?_) rfl (by kernel_rfl) (by kernel_rfl) (by kernel_rfl) (fun _ _ _ h => h) (Or.inl ⟨by kernel_rfl, ?_⟩) (by assumption) ?_
  rotate_left
  · intro w hSw; (try dsimp only at hSw); go_simp; (try with_reducible rfl)
  (try simp only [Act.put, List.getElem_toArray, List.getElem_cons_zero, List.getElem_cons_succ, List.setIfInBounds_toArray, List.set_cons_zero, List.set_cons_succ])
  refine wpAnyH_take (i := 19) (v := ?_) rfl (by kernel_rfl) (by kernel_rfl) (by kernel_rfl) (fun _ _ _ h => h) (Or.inl ⟨by kernel_rfl, ?_⟩) (by assumption) ?_
  rotate_left
  · intro w hSw; (try dsimp only at hSw); go_simp; (try with_reducible rfl)
  (try simp only [Act.put, List.getElem_toArray, List.getElem_cons_zero, List.getElem_cons_succ, List.setIfInBounds_toArray, List.set_cons_zero, List.set_cons_succ])
  refine wpAnyH_take (i := 20) (v := ?_) rfl (by kernel_rfl) (by kernel_rfl) (by kernel_rfl) (fun _ _ _ h => h) (Or.inl ⟨by kernel_rfl, ?_⟩) (by assumption) ?_
  rotate_left
  · intro w hSw; (try dsimp only at hSw); go_simp; (try with_reducible rfl)
  (try simp only [Act.put, List.getElem_toArray, List.getElem_cons_zero, List.getElem_cons_succ, List.setIfInBounds_toArray, List.set_cons_zero, List.set_cons_succ])
  refine wpAnyH_take (i := 21) (v := ?_) rfl (by kernel_rfl) (by kernel_rfl) (by kernel_rfl) (fun _ _ _ h => h) (Or.inl ⟨by kernel_rfl, ?_⟩) (by assumption) ?_
  rotate_left
  · intro w hSw; (try dsimp only at hSw); go_simp; (try with_reducible rfl)
  (try simp only [Act.put, List.getElem_toArray, List.getElem_cons_zero, List.getElem_cons_succ, List.setIfInBounds_toArray, List.set_cons_zero, List.set_cons_succ])
  refine wpAnyH_take (i := 22) (v := ?_) rfl (by kernel_rfl) (by kernel_rfl) (by kernel_rfl) (fun _ _ _ h => h) (Or.inl ⟨by kernel_rfl, ?_⟩) (by assumption) ?_
  rotate_left
  · intro w hSw; (try dsimp only at hSw); go_simp; (try with_reducible rfl)
  (try simp only [Act.put, List.getElem_toArray, List.getElem_cons_zero, List.getElem_cons_succ, List.setIfInBounds_toArray, List.set_cons_zero, List.set_cons_succ])
  refine wpAnyH_take (i := 23) (v := ?_) rfl (by kernel_rfl) (by kernel_rfl) (by kernel_rfl) (fun _ _ _ h => h) (Or.inl ⟨by kernel_rfl, ?_⟩) (by assumption) ?_
  rotate_left
  · intro w hSw; (try dsimp only at hSw); go_simp; (try with_reducible rfl)
  (try simp only [Act.put, List.getElem_toArray, List.getElem_cons_zero, List.getElem_cons_succ, List.setIfInBounds_toArray, List.set_cons_zero, List.set_cons_succ])
  refine wpAnyH_take (i := 24) (v := ?_) rfl (by kernel_rfl) (by kernel_rfl) (by kernel_rfl) (fun _ _ _ h => h) (Or.inl ⟨by kernel_rfl, ?_⟩) (by assumption) ?_
  rotate_left
  · intro w hSw; (try dsimp only at hSw); go_simp; (try with_reducible rfl)
  (try simp only [Act.put, List.getElem_toArray, List.getElem_cons_zero, List.getElem_cons_succ, List.setIfInBounds_toArray, List.set_cons_zero, List.set_cons_succ])
  refine wpAnyH_take (i := 25) (v := ?_) rfl (by kernel_rfl) (by kernel_rfl) (by kernel_rfl) (fun _ _ _ h => h) (Or.inl ⟨by kernel_rfl, ?_⟩) (by assumption) ?_
  rotate_left
  · intro w hSw; (try dsimp only at hSw); go_simp; (try with_reducible rfl)
  (try simp only [Act.put, List.getElem_toArray, List.getElem_cons_zero, List.getElem_cons_succ, List.setIfInBounds_toArray, List.set_cons_zero, List.set_cons_succ])
  refine wpAnyH_take (i := 26) (v := ?_) rfl (by kernel_rfl) (by kernel_rfl) (by kernel_rfl) (fun _ _ _ h => h) (Or.inl ⟨by kernel_rfl, ?_⟩) (by assumption) ?_
  rotate_left
  · intro w hSw; (try dsimp only at hSw); go_simp; (try with_reducible rfl)
  (try simp only [Act.put, List.getElem_toArray, List.getElem_cons_zero, List.getElem_cons_succ, List.setIfInBounds_toArray, List.set_cons_zero, List.set_cons_succ])
  refine wpAnyH_take (i := 27) (v := ?_) rfl (by kernel_rfl) (by kernel_rfl) (by kernel_rfl) (fun _ _ _ h => h) (Or.inl ⟨by kernel_rfl, ?_⟩) (by assumption) ?_
  rotate_left
  · intro w hSw; (try dsimp only at hSw); go_simp; (try with_reducible rfl)
  (try simp only [Act.put, List.getElem_toArray, List.getElem_cons_zero, List.getElem_cons_succ, List.setIfInBounds_toArray, List.set_cons_zero, List.set_cons_succ])
  refine wpAnyH_ready (rs := [28]) (by kernel_rfl) (by simp) ?_
  refine AllReadyH.cons rfl (fun K hK => ?_) AllReadyH.nil
  obtain ⟨w37, hw37, HS28, k37⟩ := prepB [⟨true, ⟨#[67]⟩, 1⟩, ⟨true, ⟨#[68]⟩, 2⟩, ⟨true, ⟨#[67]⟩, 3⟩, ⟨true, ⟨#[67]⟩, 5⟩, ⟨true, ⟨#[68]⟩, 6⟩, ⟨true, ⟨#[67]⟩, 7⟩] (by decide) w36
  have HK := Lib.hid (HK.out.trans k37.out)
  have HKB := Lib.hid (HKB.out.trans k37.out)
  have HSU := Lib.hid (lys_kept HSU.out k37.out)
  have HS6 := Lib.hid (lys_kept HS6.out k37.out)
  have HS3 := Lib.hid (lys_kept HS3.out k37.out)
  go_simp
  rw [show w36.alloc (.cells #[.bool true, .string ⟨#[67]⟩, .int .i64 1, .bool true, .string ⟨#[68]⟩, .int .i64 2, .bool true, .string ⟨#[67]⟩, .int .i64 3, .bool true, .string ⟨#[67]⟩, .int .i64 5, .bool true, .string ⟨#[68]⟩, .int .i64 6, .bool true, .string ⟨#[67]⟩, .int .i64 7] 24) = w37 from hw37]
  clear hw37 k37
  refine hK.out _ _ ⟨⟨HKB.out.cell HTC.out.1, HKB.out.cell HTC.out.2.1, HKB.out.cell HTC.out.2.2.1, HKB.out.cell HTC.out.2.2.2.1, HKB.out.cell HTC.out.2.2.2.2.1, HKB.out.cell HTC.out.2.2.2.2.2.1, HKB.out.cell HTC.out.2.2.2.2.2.2.1, HKB.out.cell HTC.out.2.2.2.2.2.2.2.1, HKB.out.cell HTC.out.2.2.2.2.2.2.2.2.1, HKB.out.cell HTC.out.2.2.2.2.2.2.2.2.2.1, HKB.out.cell HTC.out.2.2.2.2.2.2.2.2.2.2.1, HKB.out.cell HTC.out.2.2.2.2.2.2.2.2.2.2.2.1, HKB.out.cell HTC.out.2.2.2.2.2.2.2.2.2.2.2.2.1, HKB.out.cell HTC.out.2.2.2.2.2.2.2.2.2.2.2.2.2.1, HKB.out.cell HTC.out.2.2.2.2.2.2.2.2.2.2.2.2.2.2.1, HKB.out.cell HTC.out.2.2.2.2.2.2.2.2.2.2.2.2.2.2.2.1, HKB.out.cell HTC.out.2.2.2.2.2.2.2.2.2.2.2.2.2.2.2.2.1, HKB.out.cell HTC.out.2.2.2.2.2.2.2.2.2.2.2.2.2.2.2.2.2⟩, HKB.out⟩ (fun hHeld37 => ?_)
  clear hK K
  (try simp only [Act.put, List.getElem_toArray, List.getElem_cons_zero, List.getElem_cons_succ, List.setIfInBounds_toArray, List.set_cons_zero, List.set_cons_succ])
  refine wpAnyH_ready (rs := [29]) (by kernel_rfl) (by simp) ?_
  refine AllReadyH.cons rfl (fun K hK => ?_) AllReadyH.nil
  have HC := Lib.hid (norms_c [⟨true, ⟨#[67]⟩, 1⟩, ⟨true, ⟨#[68]⟩, 2⟩, ⟨true, ⟨#[67]⟩, 3⟩, ⟨true, ⟨#[68]⟩, 4⟩, ⟨true, ⟨#[67]⟩, 5⟩, ⟨true, ⟨#[68]⟩, 6⟩, ⟨true, ⟨#[67]⟩, 7⟩] [⟨true, ⟨#[67]⟩, 1⟩, ⟨true, ⟨#[68]⟩, 2⟩, ⟨true, ⟨#[67]⟩, 3⟩, ⟨true, ⟨#[67]⟩, 5⟩, ⟨true, ⟨#[68]⟩, 6⟩, ⟨true, ⟨#[67]⟩, 7⟩] _ _ w37 HSU.out HS28.out (by decide))
  rw [show decide (Chn.norm ky [⟨true, ⟨#[67]⟩, 1⟩, ⟨true, ⟨#[68]⟩, 2⟩, ⟨true, ⟨#[67]⟩, 3⟩, ⟨true, ⟨#[68]⟩, 4⟩, ⟨true, ⟨#[67]⟩, 5⟩, ⟨true, ⟨#[68]⟩, 6⟩, ⟨true, ⟨#[67]⟩, 7⟩] = [⟨true, ⟨#[67]⟩, 1⟩, ⟨true, ⟨#[68]⟩, 2⟩, ⟨true, ⟨#[67]⟩, 3⟩, ⟨true, ⟨#[67]⟩, 5⟩, ⟨true, ⟨#[68]⟩, 6⟩, ⟨true, ⟨#[67]⟩, 7⟩]) = true from by kernel_rfl] at HC
  go_simp
  go_at_call 29
  refine HC.out.mono ?_
  rintro e w38 ⟨rfl, k38⟩
  have HK := Lib.hid (HK.out.trans k38)
  have HKB := Lib.hid (HKB.out.trans k38)
  have HSU := Lib.hid (lys_kept HSU.out k38)
  have HS6 := Lib.hid (lys_kept HS6.out k38)
  have HS3 := Lib.hid (lys_kept HS3.out k38)
  have HS28 := Lib.hid (lys_kept HS28.out k38)
  clear k38 HC
  refine hK.out _ _ ⟨⟨HKB.out.cell HTC.out.1, HKB.out.cell HTC.out.2.1, HKB.out.cell HTC.out.2.2.1, HKB.out.cell HTC.out.2.2.2.1, HKB.out.cell HTC.out.2.2.2.2.1, HKB.out.cell HTC.out.2.2.2.2.2.1, HKB.out.cell HTC.out.2.2.2.2.2.2.1, HKB.out.cell HTC.out.2.2.2.2.2.2.2.1, HKB.out.cell HTC.out.2.2.2.2.2.2.2.2.1, HKB.out.cell HTC.out.2.2.2.2.2.2.2.2.2.1, HKB.out.cell HTC.out.2.2.2.2.2.2.2.2.2.2.1, HKB.out.cell HTC.out.2.2.2.2.2.2.2.2.2.2.2.1, HKB.out.cell HTC.out.2.2.2.2.2.2.2.2.2.2.2.2.1, HKB.out.cell HTC.out.2.2.2.2.2.2.2.2.2.2.2.2.2.1, HKB.out.cell HTC.out.2.2.2.2.2.2.2.2.2.2.2.2.2.2.1, HKB.out.cell HTC.out.2.2.2.2.2.2.2.2.2.2.2.2.2.2.2.1, HKB.out.cell HTC.out.2.2.2.2.2.2.2.2.2.2.2.2.2.2.2.2.1, HKB.out.cell HTC.out.2.2.2.2.2.2.2.2.2.2.2.2.2.2.2.2.2⟩, HKB.out⟩ (fun hHeld38 => ?_)
  clear hK K
  (try simp only [Act.put, List.getElem_toArray, List.getElem_cons_zero, List.getElem_cons_succ, List.setIfInBounds_toArray, List.set_cons_zero, List.set_cons_succ])
  refine wpAnyH_take (i := 30) (v := ?_) rfl (by kernel_rfl) (by kernel_rfl) (by kernel_rfl) (fun _ _ _ h => h) (Or.inl ⟨by kernel_rfl, ?_⟩) (by assumption) ?_
  rotate_left
  · intro w hSw; (try dsimp only at hSw); go_simp; (try with_reducible rfl)
  (try simp only [Act.put, List.getElem_toArray, List.getElem_cons_zero, List.getElem_cons_succ, List.setIfInBounds_toArray, List.set_cons_zero, List.set_cons_succ])
  refine wpAnyH_take (i := 31) (v := ?_) rfl (by kernel_rfl) (by kernel_rfl) (by kernel_rfl) (fun _ _ _ h => h) (Or.inl ⟨by kernel_rfl, ?_⟩) (by assumption) ?_
  rotate_left
  · intro w hSw; (try dsimp only at hSw); go_simp; (try with_reducible rfl)
  (try simp only [Act.put, List.getElem_toArray, List.getElem_cons_zero, List.getElem_cons_succ, List.setIfInBounds_toArray, List.set_cons_zero, List.set_cons_succ])
  refine wpAnyH_take (i := 32) (v := ?_) rfl (by kernel_rfl) (by kernel_rfl) (by kernel_rfl) (fun _ _ _ h => h) (Or.inl ⟨by kernel_rfl, ?_⟩) (by assumption) ?_
  rotate_left
  · intro w hSw; (try dsimp only at hSw); go_simp; (try with_reducible rfl)
  (try simp only [Act.put, List.getElem_toArray, List.getElem_cons_zero, List.getElem_cons_succ, List.setIfInBounds_toArray, List.set_cons_zero, List.set_cons_succ])
  refine wpAnyH_take (i := 33) (v := ?_) rfl (by kernel_rfl) (by kernel_rfl) (by kernel_rfl) (fun _ _ _ h => h) (Or.inl ⟨by kernel_rfl, ?_⟩) (by assumption) ?_
  rotate_left
  · intro w hSw; (try dsimp only at hSw); go_simp; (try with_reducible rfl)
  (try simp only [Act.put, List.getElem_toArray, List.getElem_cons_zero, List.getElem_cons_succ, List.setIfInBounds_toArray, List.set_cons_zero, List.set_cons_succ])
  refine wpAnyH_take (i := 34) (v := ?_) rfl (by kernel_rfl) (by kernel_rfl) (by kernel_rfl) (fun _ _ _ h => h) (Or.inl ⟨by kernel_rfl, ?_⟩) (by assumption) ?_
  rotate_left
  · intro w hSw; (try dsimp only at hSw); go_simp; (try with_reducible rfl)
  (try simp only [Act.put, List.getElem_toArray, List.getElem_cons_zero, List.getElem_cons_succ, List.setIfInBounds_toArray, List.set_cons_zero, List.set_cons_succ])
  refine wpAnyH_take (i := 35) (v := ?_) rfl (by kernel_rfl) (by kernel_rfl) (by kernel_rfl) (fun _ _ _ h => h) (Or.inl ⟨by kernel_rfl, ?_⟩) (by assumption) ?_
  rotate_left
  · intro w hSw; (try dsimp only at hSw); go_simp; (try with_reducible rfl)
  (try simp only [Act.put, List.getElem_toArray, List.getElem_cons_zero, List.getElem_cons_succ, List.setIfInBounds_toArray, List.set_cons_zero, List.set_cons_succ])
  refine wpAnyH_take (i := 36) (v := ?_) rfl (by kernel_rfl) (by kernel_rfl) (by kernel_rfl) (fun _ _ _ h => h) (Or.inl ⟨by kernel_rfl, ?_⟩) (by assumption) ?_
  rotate_left
  · intro w hSw; (try dsimp only at hSw); go_simp; (try with_reducible rfl)
  (try simp only [Act.put, List.getElem_toArray, List.getElem_cons_zero, List.getElem_cons_succ, List.setIfInBounds_toArray, List.set_cons_zero, List.set_cons_succ])
  refine wpAnyH_take (i := 37) (v := ?_) rfl (by kernel_rfl) (by kernel_rfl) (by kernel_rfl) (fun _ _ _ h => h) (Or.inl ⟨by kernel_rfl, ?_⟩) (by assumption) ?_
  rotate_left
  · intro w hSw; (try dsimp only at hSw); go_simp; (try with_reducible rfl)
  (try simp only [Act.put, List.getElem_toArray, List.getElem_cons_zero, List.getElem_cons_succ, List.setIfInBounds_toArray, List.set_cons_zero, List.set_cons_succ])
  refine wpAnyH_take (i := 38) (v := ?_) rfl (by kernel_rfl) (by kernel_rfl) (by kernel_rfl) (fun _ _ _ h => h) (Or.inl ⟨by kernel_rfl, ?_⟩) (by assumption) ?_
  rotate_left
  · intro w hSw; (try dsimp only at hSw); go_simp; (try with_reducible rfl)
  (try simp only [Act.put, List.getElem_toArray, List.getElem_cons_zero, List.getElem_cons_succ, List.setIfInBounds_toArray, List.set_cons_zero, List.set_cons_succ])
  refine wpAnyH_take (i := 39) (v := ?_) rfl (by kernel_rfl) (by kernel_rfl) (by kernel_rfl) (fun _ _ _ h => h) (Or.inl ⟨by kernel_rfl, ?_⟩) (by assumption) ?_
  rotate_left
  · intro w hSw; (try dsimp only at hSw); go_simp; (try with_reducible rfl)
  (try simp only [Act.put, List.getElem_toArray, List.getElem_cons_zero, List.getElem_cons_succ, List.setIfInBounds_toArray, List.set_cons_zero, List.set_cons_succ])
  refine wpAnyH_done (by kernel_rfl) ?_ _
  go_wp2_with fail
  go_ret
  exact ⟨rfl, HK.out⟩

end Go.Proofs.Ytjfhfalhcmgaaaa
