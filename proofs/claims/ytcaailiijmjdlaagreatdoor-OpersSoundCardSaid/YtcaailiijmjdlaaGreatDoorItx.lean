/- The contract of ints.Text: the text of a number. What was in the world stays as it was. -/
import Derived.Test.YtcaailiijmjdlaaGreatDoorItr
import Derived.Test.YtcaailiijmjdlaaGreatDoorRvb
import Derived.Lib.OwnBridge
set_option linter.unusedSimpArgs false
set_option linter.unusedVariables false
namespace Go.Proofs.YtcaailiijmjdlaaGreatDoor
open Go.ChangeShapes Go.WideShapes Go.ChangeAt Go.RowKit Go.Shelf
attribute [local go_sem] Oper.semAt_some

theorem info_u8 : (Tryz.prog.info? 5).map (fun i => (i.zero, i.size, i.bytes)) = some (some (.int .u8 0), 1, 1) := by kernel_rfl

theorem heap_putRow (W : World) (g m : Nat) (d : Array UInt8) {k : Nat} (h : k ≠ g) : (Sort.putRow encB (Sort.ahead W m) g 0 d).heap[k]? = W.heap[k]? := by
  simp [Sort.putRow, Sort.mapBlock, Sort.ahead, Array.getElem?_modify, Ne.symm h]

/-- Behind the turning round: the variable's box, the block for deferred calls, what lay there, and the text of the row. -/
theorem after_rev {w W : World} {n₀ B g n cap D : Nat} {zs : List UInt8} (m : Nat) (hv : Boxed W B 95 (.slice (some ⟨g, 0, none⟩) n cap)) (hrow : W.ownsRow n₀ 5 1 (.slice (some ⟨g, 0, none⟩) n cap) n (zs.map encB))
    (hK : W.heap[D]? = some (.deferred (some []))) (hB : Below n₀ w W) (hg : n₀ ≤ g) (hn : zs.length = n) {W2 : World} (e : W2 = Sort.putRow encB (Sort.ahead W m) g 0 zs.reverse.toArray) :
    W2.cell? ⟨B, 0, none⟩ = some (.slice (some ⟨g, 0, none⟩) n cap) ∧ W2.heap[D]? = some (.deferred (some [])) ∧ Below n₀ w W2 ∧ (convert 95 9 (.slice (some ⟨g, 0, none⟩) n cap)).run Tryz.prog W2 = .ok (.string ⟨zs.reverse.toArray⟩) W2 := by
  have hBg : B ≠ g := by
    have := hv.not_row (by decide) hrow
    simpa [Value.ownBlock] using this
  have hgc : ∃ cs, W.heap[g]? = some (.cells cs 5 (0, 0)) := by
    rcases hrow.2 with ⟨e, _⟩ | ⟨g', cap', cur, e, _, h, _⟩
    · cases e
    · cases e; exact ⟨_, h⟩
  have hDg : D ≠ g := by
    rintro rfl
    obtain ⟨cs, h⟩ := hgc
    rw [hK] at h; cases h
  have hH : Sort.Holds encB W g 0 zs.toArray := by
    obtain ⟨g', cap', e, _, _, _, _, _, h⟩ := Lib.holds_of_ownsRow hrow (by simp)
    cases e; exact h
  have hH2 : Sort.Holds encB W2 g 0 zs.reverse.toArray := by
    rw [e]; exact Sort.holds_putRow encB _ g 0 zs.toArray zs.reverse.toArray (Sort.holds_ahead encB W m g 0 zs.toArray hH) (by simp)
  have hb2 : W2.heap[B]? = W.heap[B]? := by rw [e]; exact heap_putRow W g m _ hBg
  refine ⟨?_, by rw [e, heap_putRow W g m _ hDg]; exact hK, by rw [e]; exact Lib.below_putRow hB hg, ?_⟩
  · have hv2 : Boxed W2 B 95 (.slice (some ⟨g, 0, none⟩) n cap) := hb2.trans hv
    exact hv2.cell
  · have := run_convert_bytes_back (P := Tryz.prog) W2 95 9 5 ⟨g, 0, none⟩ cap zs.reverse (by kernel_rfl) (by kernel_rfl) (by kernel_rfl) (fun j hj => by
      have := (hH2 j (by simpa using hj)).1
      rw [Nat.zero_add] at this
      rw [add_plain, Nat.zero_add, this]
      simp [encB, getElem!_pos, show j < zs.length by simpa using hj])
    rw [List.length_reverse, hn] at this
    exact this

set_option maxRecDepth 100000 in
set_option maxHeartbeats 2000000 in
theorem textR_in (F : Fence) (n : Nat) (h3 : F.fn 41) (h4 : F.fn 73) (h5 : F.fn 121) (h6 : F.fn 74) (hro : F.round = none) (hn : 3 ≤ n) (hrev : ∀ (blk off cap : Nat) (zs : List UInt8) (w : World), Sort.Holds encB w blk off zs.toArray → zs.length ≤ 9223372036854775807 → CallsIn F (n - 1) Tryz.prog 74 #[.slice (some ⟨blk, off, none⟩) zs.length cap] w fun e w' => e = .returned (.tuple #[]) ∧ ∃ n, w' = Sort.putRow encB (Sort.ahead w n) blk off zs.reverse.toArray) (z : Int) (hz1 : -9223372036854775808 ≤ z) (hz2 : z ≤ 9223372036854775807) (w : World)  :
    CallsIn F n Tryz.prog 41 #[.int .i64 z] w fun e W' => e = .returned (.string ⟨(Dec.txt z).toArray⟩) ∧ Below w.heap.size w W' := by
  have h1 : 1 ≤ n := by omega
  obtain ⟨i0, hi, hz0, hzz1, hzz2⟩ := info_parts info_u8
  have hlen20 := Dec.digs_le20 (m := z.natAbs) (by omega)
  refine callsIn_of_wp_marks Tryz.func41 rfl h3 ?_ hro
  simp only [Tryz.ntmps41, List.size_toArray, List.length_cons, List.length_nil, Nat.reduceAdd, Nat.reduceSub, Array.replicate_succ, Array.replicate_zero, List.push_toArray, List.append_toArray, List.nil_append, List.cons_append]
  gi_wp2_with (gi_at_call 73; refine (digits_in F (n - 1) h4 hro _ _).mono ?_; rintro e w' ⟨rfl, rfl⟩)
  have bO := Boxed.new w 95 (.slice none 0 0)
  have bN := Boxed.new (w.alloc (.cells #[.slice none 0 0] 95)) 3 (.int .i64 z)
  rw [World.size_alloc] at bN
  have hB0 : Below w.heap.size w ((w.alloc (.cells #[.slice none 0 0] 95)).alloc (.cells #[.int .i64 z] 3)) := ((Below.refl _ w).alloc (Nat.le_refl _) _).alloc (by simp) _
  refine wpIn_rangeFunc_ownG hro h1 (gf := 121) (lb := #[.pointer (some ⟨w.heap.size + 1, 0, none⟩)]) rfl h5 (enters_of Tryz.func121 (by kernel_rfl) rfl)
    (digits_stops F (n - 1) h5 hro (by omega) (w.heap.size + 1) w.heap.size z hz1 hz2 _ (by simp) bN.cell) belowK_t (belowK_b (by simp; omega)) (Below.refl _ _) (fun _ => rfl)
    (fun pre W => (∃ v, Boxed W w.heap.size 95 v ∧ W.ownsRow w.heap.size 5 1 v pre.length (pre.map encB) ∧ (v = .slice none 0 0 ↔ pre = [])) ∧ Below w.heap.size w W)
    (fun _ _ _ => False)
    (OwnFrom.and (Own.from (holdsRow_own w.heap.size w.heap.size 95 5 1 (fun pre => pre.length) (fun pre => pre.map encB) (fun pre v => v = .slice none 0 0 ↔ pre = [])) _) (ownFrom_below (Nat.le_refl _) (by simp; omega)))
    (fun _ _ _ _ _ hs _ _ => hs)
    ⟨⟨_, bO.alloc _, World.ownsRow_nil _ _ _ _, by simp⟩, hB0⟩
    (fun x => { tmps := #[.int .i64 z, undef, .string ⟨#[]⟩, .pointer (some ⟨w.heap.size, 0, none⟩), .int .u8 x.toNat, .int .i64 z, .func (.func 121) #[] #[.pointer (some ⟨w.heap.size + 1, 0, none⟩)], .int .u8 x.toNat, undef, undef, undef, undef, undef, undef, undef, undef, undef, undef, undef, undef, undef], defers := [] }) ?assign ?body ?done ?stop
  case assign =>
    intro l x W K hK
    gi_wp2
    exact hK
  case body =>
    rintro l pre x W ⟨⟨v, hv, hrow, hnil⟩, hB⟩ hlt
    have hc := hv.cell
    have hpl : pre.length < 20 := by omega
    gi_wp2_with (gi_at_builtin; refine wpListIn_append_own _ rfl _ _ 95 rfl w.heap.size 5 i0 (.int .u8 0) 1 1 Tryz.underlying95 hi hz0 hzz1 hzz2 rfl (by decide) _ _ _ rfl (hrow.alloc _) ⟨W.heap.size, 0, none⟩ 1 1 [encB x] rfl rfl (cell_one_new _ _ _) (by simp [Value.oneCell']) (by unfold maxLen; omega) (by omega) (by have := hB.size; simp; omega) ?_; intro v' w1 hown' hgrow _; obtain ⟨g', cap', rfl⟩ := ownsRow_succ hown'; obtain ⟨hv1, hv2, hr2, hk2, hb2⟩ := hv.appended (by decide) hrow hB.size (Nat.le_refl _) hown' hgrow; have hc1 := hv1.cell; have hf1 := hv1.frozen)
    exact ⟨hk2.from _, hb2, ⟨_, hv2, by simpa using hr2, by simp⟩, hB.trans hb2⟩
  case done =>
    rintro D ys W hD hys ⟨⟨v, hv, hrow, hnil⟩, hB⟩ hK
    have hc := hv.cell
    have hne : ys ≠ [] := by rintro rfl; exact Dec.digs_ne _ hys.symm
    have hvn : v ≠ .slice none 0 0 := fun e => hne (hnil.1 e)
    have hyl : ys.length ≤ 20 := by rw [← List.length_reverse, hys]; exact hlen20
    simp at hD
    clear hnil
    by_cases hz : z < 0
    · have HT := Lib.hid (show (ys ++ [45]).reverse = Dec.txt z by rw [List.reverse_append, hys]; unfold Dec.txt; rw [if_pos hz]; rfl)
      clear hys hvn
      gi_wp2_with (gi_at_builtin; refine wpListIn_append_own _ rfl _ _ 95 rfl w.heap.size 5 i0 (.int .u8 0) 1 1 Tryz.underlying95 hi hz0 hzz1 hzz2 rfl (by decide) _ _ _ rfl (hrow.alloc _) ⟨W.heap.size, 0, none⟩ 1 1 [encB 45] rfl rfl (cell_one_new _ _ _) (by simp [Value.oneCell']) (by unfold maxLen; omega) (by omega) (by have := hB.size; simp; omega) ?_; intro v' w1 hown' hgrow _; obtain ⟨g', cap', rfl⟩ := ownsRow_succ hown'; obtain ⟨hv1, hv2, hr2, hk2, hb2⟩ := hv.appended (by decide) hrow hB.size (Nat.le_refl _) hown' hgrow; have hc1 := hv1.cell; have hf1 := hv1.frozen)
      obtain ⟨g2, cap2, e2, hg1, _, _, _, hl2, hH⟩ := Lib.holds_of_ownsRow (zs := ys ++ [45]) (by simpa using hr2) (by simp)
      cases e2
      have hr := hrev g' 0 cap' (ys ++ [45]) _ hH (by simp; omega)
      simp only [List.length_append, List.length_singleton] at hr
      refine hr.mono ?_
      rintro e w2 ⟨rfl, m, hw2⟩
      obtain ⟨hc2, hK2, hB2, hcv⟩ := after_rev m hv2 (by simpa using hr2) (hk2.same D _ hK rfl) (hB.trans hb2) hg1 hl2 hw2
      rw [HT.out] at hcv
      clear hw2 hr hH hc1 hf1 hc hv hv1 hv2 hr2 hrow
      gi_wp2
      refine ⟨by simp, .inl ⟨_, _, rfl, run_takeDeferred hK2, ?_⟩⟩
      exact ⟨_, results_tmp rfl _ _ _, rfl, hB2.trans (belowK_b (w := w) (Nat.le_refl _) w2 D _ _ (by omega) hK2 rfl rfl)⟩
    · have HT := Lib.hid (show ys.reverse = Dec.txt z by rw [hys]; unfold Dec.txt; rw [if_neg hz])
      obtain ⟨g, cap, rfl, hg1, hg2, hg3, hg4, hg5, hH⟩ := Lib.holds_of_ownsRow hrow hvn
      clear hys hvn
      gi_wp2_with fail
      have hr := hrev g 0 cap ys _ hH (by omega)
      refine hr.mono ?_
      rintro e w2 ⟨rfl, m, hw2⟩
      obtain ⟨hc2, hK2, hB2, hcv⟩ := after_rev m hv hrow hK hB hg1 rfl hw2
      rw [HT.out] at hcv
      clear hw2 hr hH hc hv hrow
      gi_wp2
      refine ⟨by simp, .inl ⟨_, _, rfl, run_takeDeferred hK2, ?_⟩⟩
      exact ⟨_, results_tmp rfl _ _ _, rfl, hB2.trans (belowK_b (w := w) (Nat.le_refl _) w2 D _ _ (by omega) hK2 rfl rfl)⟩
  case stop =>
    rintro D c pre W _ _ h _
    exact h.elim

theorem itextR_c (z : Int) (hz1 : -9223372036854775808 ≤ z) (hz2 : z ≤ 9223372036854775807) (w : World) :
    Calls Tryz.prog 41 #[.int .i64 z] w fun e w' => e = .returned (.string ⟨(Dec.txt z).toArray⟩) ∧ Kept w w' :=
  (callsIn_wide.1 (textR_in Fence.wide 3 trivial trivial trivial trivial rfl (Nat.le_refl _) (fun blk off cap zs w h1 h2 => callsIn_wide.2 (reverse_c blk off cap zs w h1 h2)) z hz1 hz2 w)).mono fun _ _ ⟨h, k⟩ => ⟨h, Kept.of_below k⟩
end Go.Proofs.YtcaailiijmjdlaaGreatDoor
