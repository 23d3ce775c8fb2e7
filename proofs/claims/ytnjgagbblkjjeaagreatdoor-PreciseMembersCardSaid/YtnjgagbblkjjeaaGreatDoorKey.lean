/- Contracts of words.Key: is a text reserved? What was in the world stays as it was. -/
import Derived.Test.YtnjgagbblkjjeaaGreatDoorFsq
set_option linter.unusedSimpArgs false
set_option linter.unusedVariables false
namespace Go.Proofs.YtnjgagbblkjjeaaGreatDoor
open Go.ChangeShapes Go.WideShapes Go.ChangeAt Go.RowKit Go.Shelf
attribute [local go_sem] Oper.semAt_some

/-- Within the loop: the texts so far are other ones. -/
def KeyI (w : World) (s : ByteArray) (pre : List ByteArray) (W : World) : Prop :=
  Blk W w.heap.size 9 #[.string s] ∧ Blk W (w.heap.size + 1) 4 #[.bool false] ∧ Below w.heap.size w W ∧ s ∉ pre

/-- It was found. -/
def KeyX (w : World) (s : ByteArray) (c : Code) (pre : List ByteArray) (W : World) : Prop :=
  c = .ret ∧ Blk W (w.heap.size + 1) 4 #[.bool true] ∧ Below w.heap.size w W ∧ s ∈ pre

theorem Blk.grown {W W' : World} {g : Nat} {t : TypeId} {cs : Array Value} {row : Option Nat} (h : Blk W g t cs) (hg : W.grownBy W' row) (hr : ∀ r, row = some r → ∃ o : Obj, W.heap[r]? = some o ∧ o.isCells = false) : Blk W' g t cs := by
  refine (hg.block g h.lt fun e => ?_).trans h
  obtain ⟨o, ho, hc⟩ := hr g e.symm
  unfold Blk at h
  rw [h] at ho; cases ho; cases hc

theorem keyI_from (w : World) (s : ByteArray) (B : Nat) (hB : w.heap.size ≤ B) : OwnFrom B (KeyI w s) := by
  rintro pre X Y row ⟨h1, h2, h3, h4⟩ hg hr
  exact ⟨h1.grown hg fun r e => (hr r e).2, h2.grown hg fun r e => (hr r e).2, h3.grown hg h3.size (fun k e => Nat.le_trans hB (hr k e).1), h4⟩
theorem keyX_from (w : World) (s : ByteArray) (c : Code) (B : Nat) (hB : w.heap.size ≤ B) : OwnFrom B (KeyX w s c) := by
  rintro pre X Y row ⟨h0, h2, h3, h4⟩ hg hr
  exact ⟨h0, h2.grown hg fun r e => (hr r e).2, h3.grown hg h3.size (fun k e => Nat.le_trans hB (hr k e).1), h4⟩

/-- Texts compared, as the walk spells it. -/
theorem beq_no {x s : ByteArray} (h : ¬ x = s) : (x.toList == s.toList) = false := by
  cases e : x.toList == s.toList with
  | false => rfl
  | true =>
    have e' := eq_of_beq e
    rw [ByteArray.toList_eq, ByteArray.toList_eq] at e'
    exact absurd (ByteArray.ext (Array.toList_inj.1 e')) h

set_option maxRecDepth 100000 in
set_option maxHeartbeats 2000000 in
theorem key_b (s : ByteArray) (w : World) (hT : Tb w) :
    Calls Tryz.prog 189 #[.string s] w fun e w' => e = .returned (.bool (Wrd.key s)) ∧ Below w.heap.size w w' := by
  refine (callsIn_wide (n := 3)).1 (callsIn_of_wp_marks Tryz.func189 rfl trivial (wpIn_wide.2 ?_) rfl)
  simp only [Tryz.ntmps189, List.size_toArray, List.length_cons, List.length_nil, Nat.reduceAdd, Nat.reduceSub, Array.replicate_succ, Array.replicate_zero, List.push_toArray, List.append_toArray, List.nil_append, List.cons_append]
  go_wp2_with fail
  refine ((callsIn_wide (n := 1)).1 (fseq_in Fence.wide 1 trivial rfl Wrd.rs _)).mono ?_
  rintro e w' ⟨rfl, rfl⟩
  go_wp2_with fail
  have hK0 : Kept w (((w.alloc (.cells #[.string s] 9)).alloc (.cells #[.bool false] 4)).alloc (.cells #[.string Wrd.rs] 9)) := (((Kept.refl w).alloc _).alloc _).alloc _
  have hB0 : Below w.heap.size w (((w.alloc (.cells #[.string s] 9)).alloc (.cells #[.bool false] 4)).alloc (.cells #[.string Wrd.rs] 9)) := (((Below.refl _ w).alloc (Nat.le_refl _) _).alloc (by simp) _).alloc (by simp; omega) _
  have b1 := ((Blk.new w 9 #[.string s]).alloc (.cells #[.bool false] 4)).alloc (.cells #[.string Wrd.rs] 9)
  have b2 := (Blk.new (w.alloc (.cells #[.string s] 9)) 4 #[.bool false]).alloc (.cells #[.string Wrd.rs] 9)
  have b3 := Blk.new ((w.alloc (.cells #[.string s] 9)).alloc (.cells #[.bool false] 4)) 9 #[.string Wrd.rs]
  simp only [World.size_alloc] at b2 b3
  have hT0 := hT.kept hK0
  have hlt := hT.lt
  refine wpIn_wide.1 (wpIn_rangeFunc_ownG (F := Fence.wide) (n := 3) rfl (by omega) (gf := 225) (lb := #[.pointer (some ⟨w.heap.size + 1 + 1, 0, none⟩)]) rfl trivial (enters_of Tryz.func225 (by kernel_rfl) rfl)
    (fseq_stops Fence.wide (3 - 1) trivial rfl (by omega) (w.heap.size + 1 + 1) Wrd.rs Wrd.size_rs Wrd.ascii_rs _ hT0 (by simp) (b3.cell 0)) kp3_t (kp3_b hT0 (by simp)) (Below.refl _ _) (fun _ => rfl)
    (KeyI w s) (KeyX w s) (keyI_from w s _ (by simp; omega)) (fun c => keyX_from w s c _ (by simp; omega))
    ⟨b1, b2, hB0, by simp⟩
    (fun x => { tmps := #[.string s, .pointer (some ⟨w.heap.size, 0, none⟩), .pointer (some ⟨w.heap.size + 1, 0, none⟩), .string x, .func (.func 225) #[] #[.pointer (some ⟨w.heap.size + 1 + 1, 0, none⟩)], .string x, undef, undef, undef], defers := [] }) ?assign ?body ?done ?stop)
  case assign =>
    intro l x W K hK
    gi_wp2
    exact hK
  case body =>
    rintro l pre x W ⟨h1, h2, h3, h4⟩ hlt'
    have c1 := h1.cell 0
    have c2 := h2.cell 0
    have f2 := h2.frozen 0
    simp at c1 c2
    by_cases hx : x = s
    · subst hx
      have HX := Lib.hid (show KeyX w x .ret (pre ++ [x]) (W.setCell ⟨w.heap.size + 1, 0, none⟩ (.bool true)) from
        ⟨rfl, h2.put 0 _, h3.setCell (by simp) _, by simp⟩)
      clear h1 h2 h3 h4 hT hT0 hK0 hB0 b1 b2 b3
      gi_wp2
      exact ⟨(KeepsOthers.setCell _ _ _).from _, HX.out⟩
    · have HI := Lib.hid (show KeyI w s (pre ++ [x]) W from ⟨h1, h2, h3, by simp [h4]; exact fun e => hx e.symm⟩)
      clear h1 h2 h3 h4 hT hT0 hK0 hB0 b1 b2 b3
      have hne := beq_no hx
      clear hx
      gi_wp2
      exact ⟨KeepsFrom.refl _ _, ⟨Nat.le_refl _, fun _ _ => rfl⟩, HI.out⟩
  case done =>
    rintro D ys W hD hys ⟨h1, h2, h3, h4⟩ hK
    subst hys
    rw [Wrd.flds_rs] at h4
    have hkey : Wrd.key s = false := Wrd.has_no h4
    have c2 := h2.cell 0
    have f2 := h2.frozen 0
    simp at c2
    go_wp2
    have hK2 : (W.setCell ⟨w.heap.size + 1, 0, none⟩ (.bool false)).heap[D]? = some (.deferred (some [])) := (Below.heap_setCell W _ _ D (by simp at hD; simp; omega)).trans hK
    have h2' := h2.put 0 (.bool false)
    have h3' : Below w.heap.size w (W.setCell ⟨w.heap.size + 1, 0, none⟩ (.bool false)) := h3.setCell (by simp) _
    refine ⟨by simp, .inl ⟨_, _, rfl, run_takeDeferred hK2, ?_⟩⟩
    have c3 := (h2'.grown (grownBy_putObj' _ D (.deferred none)) (fun r e => by cases e; exact ⟨_, hK2, rfl⟩)).cell 0
    simp at c3
    exact ⟨_, by simp [results, Tryz.results189, go_sem, c3]; rfl, by rw [hkey], h3'.trans (belowK_b (w := w) (Nat.le_refl _) _ D _ _ (by simp at hD; omega) hK2 rfl rfl)⟩
  case stop =>
    rintro D c pre W hD hpre ⟨rfl, h2, h3, h4⟩ hK
    have hkey : Wrd.key s = true := Wrd.has_iff.2 (by rw [← Wrd.flds_rs]; exact hpre.subset h4)
    have c3 := (h2.grown (grownBy_putObj' _ D (.deferred none)) (fun r e => by cases e; exact ⟨_, hK, rfl⟩)).cell 0
    simp at c3
    gi_wp2
    refine ⟨by simp, .inl ⟨_, _, rfl, run_takeDeferred hK, ?_⟩⟩
    exact ⟨_, by simp [results, Tryz.results189, go_sem, c3]; rfl, by rw [hkey], h3.trans (belowK_b (w := w) (Nat.le_refl _) _ D _ _ (by simp at hD; omega) hK rfl rfl)⟩

theorem key_c (s : ByteArray) (w : World) (hT : Tb w) :
    Calls Tryz.prog 189 #[.string s] w fun e w' => e = .returned (.bool (Wrd.key s)) ∧ Kept w w' :=
  (key_b s w hT).mono fun _ _ ⟨h, k⟩ => ⟨h, Kept.of_below k⟩

end Go.Proofs.YtnjgagbblkjjeaaGreatDoor
