/- The contract of slices.Backward at a row of addresses: whatever body a loop over it has. -/
import Derived.Test.YtnjgagbblkjjeaaGreatDoorLnr
set_option linter.unusedSimpArgs false
set_option linter.unusedVariables false
set_option maxRecDepth 100000
namespace Go.Proofs.YtnjgagbblkjjeaaGreatDoor
open Go.RowKit Go.Shelf
attribute [local go_sem] Oper.semAt_some

/-- The things from place m on, the last one first, each with its place. -/
def bk {α : Type} (L : List α) (m : Nat) : List (α × Nat) := (L.zipIdx.drop m).reverse
theorem bk_all {α : Type} (L : List α) : bk L L.length = [] := by unfold bk; simp
theorem bk_next {α : Type} {L : List α} {m : Nat} {x : α} (h : L[m]? = some x) : bk L (m + 1) ++ [(x, m)] = bk L m := by
  unfold bk
  obtain ⟨hlt, rfl⟩ := List.getElem?_eq_some_iff.1 h
  rw [show L.zipIdx.drop m = (L[m], m) :: L.zipIdx.drop (m + 1) from by
    rw [List.drop_eq_getElem_cons (by simpa using hlt)]
    simp]
  simp
theorem bk_pre {α : Type} (L : List α) (m : Nat) : bk L m <+: bk L 0 := by
  unfold bk
  rw [List.reverse_prefix, List.drop_zero]
  exact List.drop_suffix _ _
theorem bk_fst {α : Type} (L : List α) : (bk L 0).map Prod.fst = L.reverse := by
  unfold bk
  simp [List.map_reverse, List.zipIdx_map_fst]
theorem bk_mem {α : Type} {L : List α} {x : α} {k : Nat} (h : (x, k) ∈ bk L 0) : L[k]? = some x := by
  unfold bk at h
  rw [List.drop_zero, List.mem_reverse] at h
  simpa using (List.mem_zipIdx_iff_getElem?.1 h)

theorem back_lineC (v : Value) (w : World) : (∃ a n c, v = .slice a n c) →
    Calls Tryz.prog 100 #[v] w fun e w' => e = .returned (.func (.func 143) #[] #[.pointer (some ⟨w.heap.size, 0, none⟩)]) ∧
      w' = w.alloc (.cells #[v] 121) := by
  rintro ⟨a, n, c, rfl⟩
  go_enter Tryz.func100, Tryz.ntmps100
  go_wp2_with fail
  go_ret
  exact ⟨rfl, rfl⟩

set_option maxHeartbeats 4000000 in
theorem back1_own {α : Type} (n : Nat) (hn : 1 ≤ n) (L : List α) (ev : α → Option Addr) (a : Option Addr) (c B : Nat) (U : Nat → Prop) (M : World → Prop) (W1 : World) (hlen : L.length ≤ 1000001)
    (hM : ∀ l A B', l + 1 = W1.heap.size → M A → Only (fun k => U k ∨ k = l) A B' → M B') (hMB : ∀ W, M W → W.cell? ⟨B, 0, none⟩ = some (.slice a L.length c))
    (hMe : ∀ W, M W → ∀ k x, L[k]? = some x → ∃ b o, a = some ⟨b, o, none⟩ ∧ W.cell? ⟨b, o + k, none⟩ = some (.pointer (ev x))) (hM1 : M W1) :
    SeqOwn Fence.wide n Tryz.prog 143 #[.pointer (some ⟨B, 0, none⟩)] (fun y : α × Nat => #[.int .i64 y.2, .pointer (ev y.1)]) (fun _ => False) U (· = bk L 0) (· <+: bk L 0) (· <+: bk L 0) 0 W1 := by
  intro l J Jx hl abJ abX hY h0
  have c0 := hMB W1 hM1
  refine callsIn_of_wp Tryz.func143 rfl trivial ?_ rfl
  simp only [Tryz.ntmps143, List.size_toArray, List.length_cons, List.length_nil, Nat.reduceAdd, Nat.reduceSub, Array.replicate_succ, Array.replicate_zero, List.push_toArray, List.append_toArray, List.nil_append, List.cons_append]
  gi_wp2
  clear c0
  gi_loopw [3] (fun i wr => ∃ m : Nat, i = .int .i64 ((m : Int) - 1) ∧ m ≤ L.length ∧ J (bk L m) wr ∧ M wr ∧ W1.heap.size ≤ wr.heap.size) (fun i wr => (intOf i + 1).toNat)
  case atStart => exact ⟨L.length, by go_num, Nat.le_refl _, by rw [bk_all]; exact h0, hM1, Nat.le_refl _⟩
  case round =>
    obtain ⟨m, rfl, hm, hJ, hMr, hsz⟩ := hrel
    have c0 := hMB wr hMr
    by_cases h0m : m = 0
    · subst h0m
      have HJ := Lib.hid hJ
      clear hJ h0 hY hMr hM1
      gi_wp2
      refine bodyPost_end (results_none rfl _ _ _) rfl ?_
      exact ⟨⟨_, rfl⟩, .inl ⟨_, rfl, HJ.out⟩⟩
    · obtain ⟨k, rfl⟩ : ∃ k, m = k + 1 := ⟨m - 1, by omega⟩
      have hk : k < L.length := by omega
      have hx : L[k]? = some L[k] := List.getElem?_eq_getElem hk
      generalize L[k] = x at hx
      obtain ⟨b, o, rfl, hc⟩ := hMe wr hMr k x hx
      have hge : (0 : Int) ≤ (k : Int) := by omega
      have hkl : (k : Int) < (L.length : Int) := by omega
      have hki : (((k + 1 : Nat) : Int)) - 1 = (k : Int) := by omega
      obtain ⟨fn, tmps, assign, body, hy, hR⟩ := hY (bk L (k + 1)) (x, k) wr hJ (by rw [bk_next hx]; exact bk_pre L k) (by omega)
      have HB := Lib.hid (bk_next hx)
      have HM := Lib.hid hMr
      have HP := Lib.hid (bk_pre L k)
      dsimp only at hy
      rw [hki]
      clear hJ h0 hY hMr hM1 hx hMB hMe hki h0m
      gi_wp2
      refine hR.mono ?_
      rintro e W3 (⟨rfl, hJ3, hk3⟩ | ⟨rfl, hJx3⟩)
      · have HJ := Lib.hid hJ3
        have HK := Lib.hid hk3
        clear hJ3 hk3
        gi_wp2
        go_roundw
        case rel => exact ⟨k, by go_num, by omega, by rw [← HB.out]; exact HJ.out, hM _ _ _ hl HM.out HK.out, by have := HK.out.size; omega⟩
        case measure => simp [intOf]
      · gi_wp2
        refine bodyPost_ret (results_none rfl _ _ _) rfl ?_
        exact ⟨⟨_, rfl⟩, .inr ⟨_, by rw [HB.out]; exact HP.out, hJx3⟩⟩

end Go.Proofs.YtnjgagbblkjjeaaGreatDoor
