/- The contract of slices.Backward at a row of methods: whatever body a loop over it has, in a loop's round too. -/
import Derived.Test.YtbjomddjbfgclaaDoorFld
import Derived.Test.YtbjomddjbfgclaaDoorCpy
set_option linter.unusedSimpArgs false
set_option linter.unusedVariables false
set_option maxRecDepth 100000
namespace Go.Proofs.YtbjomddjbfgclaaDoor
open Go.RowKit Go.Shelf
attribute [local go_sem] Oper.semAt_some

/-- A method as it lies in memory: with the slice of its parameters. -/
abbrev MV := { x : Tab.M × Value // ∃ a c, x.2 = .slice a x.1.params.length c }
def MV.val (x : MV) : Value := .agg #[.string x.1.1.name, x.1.2, .string x.1.1.res]

/-- Which methods a slice has. -/
def MvAt (w : World) (a : Option Addr) (L : List MV) : Prop :=
  ∀ (k : Nat) (x : MV), L[k]? = some x → ∃ b o, a = some ⟨b, o, none⟩ ∧ w.cell? ⟨b, o + k * 3, none⟩ = some (.string x.1.1.name) ∧ w.cell? ⟨b, o + k * 3 + 1, none⟩ = some x.1.2 ∧ w.cell? ⟨b, o + k * 3 + 2, none⟩ = some (.string x.1.1.res)

theorem mv_of_row {w : World} {v : Value} {l : List Tab.M} (h : Row 3 SigAt w v l) : ∃ (a : Option Addr) (c : Nat) (L : List MV), v = .slice a l.length c ∧ L.map (fun x => x.1.1) = l ∧ MvAt w a L := by
  obtain ⟨a, c, rfl, h1, h2, h3⟩ := h
  have each : ∀ i : Fin l.length, ∃ y : MV, y.1.1 = l[i] ∧ ∃ b o, a = some ⟨b, o, none⟩ ∧ w.cell? ⟨b, o + i.1 * 3, none⟩ = some (.string y.1.1.name) ∧ w.cell? ⟨b, o + i.1 * 3 + 1, none⟩ = some y.1.2 ∧ w.cell? ⟨b, o + i.1 * 3 + 2, none⟩ = some (.string y.1.1.res) := fun i => by
    obtain ⟨b, o, e, c0, ⟨p, c1, hp⟩, c2, _⟩ := h3 i.1 l[i] (List.getElem?_eq_getElem i.2)
    obtain ⟨pa, pc, rfl, _⟩ := hp
    exact ⟨⟨(l[i], .slice pa l[i].params.length pc), pa, pc, rfl⟩, rfl, b, o, e, c0, c1, c2⟩
  let g : Fin l.length → MV := fun i => Classical.choose (each i)
  have gs := fun i : Fin l.length => Classical.choose_spec (each i)
  refine ⟨a, c, List.ofFn g, rfl, ?_, fun k x hx => ?_⟩
  · refine List.ext_getElem (by simp) fun k h1 h2 => ?_
    rw [List.getElem_map, List.getElem_ofFn]
    exact (gs ⟨k, h2⟩).1
  · obtain ⟨hk, hy⟩ := List.getElem?_eq_some_iff.1 hx
    have hk' : k < l.length := by simpa using hk
    have hxg : x = g ⟨k, hk'⟩ := by rw [← hy]; simp
    rw [hxg]
    exact (gs ⟨k, hk'⟩).2

theorem MvAt.kept {w w' : World} {a : Option Addr} {L : List MV} (h : MvAt w a L) (k : Kept w w') : MvAt w' a L := fun j x hx => by
  obtain ⟨b, o, e, c0, c1, c2⟩ := h j x hx
  exact ⟨b, o, e, k.cell c0, k.cell c1, k.cell c2⟩

theorem back_sigC (v : Value) (w : World) : (∃ a n c, v = .slice a n c) →
    Calls Tryd.prog 44 #[v] w fun e w' => e = .returned (.func (.func 71) #[] #[.pointer (some ⟨w.heap.size, 0, none⟩)]) ∧
      w' = w.alloc (.cells #[v] 43) := by
  rintro ⟨a, n, c, rfl⟩
  go_enter Tryd.func44, Tryd.ntmps44
  go_wp2_with fail
  go_ret
  exact ⟨rfl, rfl⟩

/-- What lay ahead of w0's end, and the iterator's box, are as they were. -/
def Kpn (n₀ B : Nat) (W W' : World) : Prop := W'.os = W.os ∧ W'.output = W.output ∧ W.heap.size ≤ W'.heap.size ∧ ∀ k, k < n₀ ∨ k = B → W'.heap[k]? = W.heap[k]?
theorem kpn_t {n₀ B : Nat} {X Y Z : World} (h : Kpn n₀ B X Y) (k : Kpn n₀ B Y Z) : Kpn n₀ B X Z := ⟨k.1.trans h.1, k.2.1.trans h.2.1, Nat.le_trans h.2.2.1 k.2.2.1, fun i hi => (k.2.2.2 i hi).trans (h.2.2.2 i hi)⟩
theorem Kpn.of_only {n₀ B : Nat} {S : Nat → Prop} {W W' : World} (h : Only S W W') (hn : n₀ ≤ W.heap.size) (hB : B < W.heap.size) (hs : ∀ k, S k → n₀ ≤ k ∧ k ≠ B) : Kpn n₀ B W W' :=
  ⟨h.os, h.output, h.size, fun k hk => h.block k (by rcases hk with hk | hk <;> omega) fun e => by have := hs k e; omega⟩

set_option maxHeartbeats 4000000 in
theorem backs_stops (n : Nat) (L : List MV) (a : Option Addr) (c B : Nat) (w0 w : World) (hlen : L.length ≤ 1000) (hM : MvAt w0 a L) (hk : Kept w0 w) (hB : Blk w B 43 #[.slice a L.length c]) :
    SeqStopsK Fence.wide n Tryd.prog 71 #[.pointer (some ⟨B, 0, none⟩)] (fun y : MV × Nat => #[.int .i64 y.2, y.1.val]) (Kpn w0.heap.size B) (· = bk L 0) (· <+: bk L 0) L.length w := by
  intro l J Jx W hW abJ abX hY h0
  have hkW : Kept w0 W := hk.trans (Kept.of_below hW)
  have hBW : Blk W B 43 #[.slice a L.length c] := hB.kept (Kept.of_below hW)
  have c0 := hBW.cell 0
  simp at c0
  refine callsIn_of_wp Tryd.func71 rfl trivial ?_ rfl
  simp only [Tryd.ntmps71, List.size_toArray, List.length_cons, List.length_nil, Nat.reduceAdd, Nat.reduceSub, Array.replicate_succ, Array.replicate_zero, List.push_toArray, List.append_toArray, List.nil_append, List.cons_append]
  gi_wp2
  clear c0
  gi_loopw [3] (fun i wr => ∃ m : Nat, i = .int .i64 ((m : Int) - 1) ∧ m ≤ L.length ∧ J (bk L m) wr ∧ Kept w0 wr ∧ Blk wr B 43 #[.slice a L.length c]) (fun i wr => (intOf i + 1).toNat)
  case atStart => exact ⟨L.length, by go_num, Nat.le_refl _, by rw [bk_all]; exact h0, hkW, hBW⟩
  case round =>
    obtain ⟨m, rfl, hm, hJ, hKr, hBr⟩ := hrel
    have c0 := hBr.cell 0
    simp at c0
    by_cases h0m : m = 0
    · subst h0m
      have HJ := Lib.hid hJ
      clear hJ h0 hY hKr hBr hkW hBW hk hB
      gi_wp2
      refine bodyPost_end (results_none rfl _ _ _) rfl ?_
      exact ⟨⟨_, rfl⟩, .inl ⟨_, rfl, HJ.out⟩⟩
    · obtain ⟨k, rfl⟩ : ∃ k, m = k + 1 := ⟨m - 1, by omega⟩
      have hk' : k < L.length := by omega
      have hx : L[k]? = some L[k] := List.getElem?_eq_getElem hk'
      generalize L[k] = x at hx
      obtain ⟨b, o, rfl, e0, e1, e2⟩ := hM.kept hKr k x hx
      have hge : (0 : Int) ≤ (k : Int) := by omega
      have hkl : (k : Int) < (L.length : Int) := by omega
      have hki : (((k + 1 : Nat) : Int)) - 1 = (k : Int) := by omega
      have hbl : (bk L (k + 1)).length < L.length := by unfold bk; simp; omega
      obtain ⟨fn, tmps, assign, body, hy, hR⟩ := hY (bk L (k + 1)) (x, k) wr hJ hbl
      have HB := Lib.hid (bk_next hx)
      have HK := Lib.hid hKr
      have HBB := Lib.hid hBr
      have HP := Lib.hid (bk_pre L k)
      dsimp only [MV.val] at hy e0 e1 e2
      rw [hki]
      clear hJ h0 hY hx hM hki h0m hKr hBr hkW hBW hk hB
      gi_wp2
      refine ⟨fun h => (by cases h), hR.mono ?_⟩
      rintro e W3 (⟨rfl, hJ3, hk3⟩ | ⟨rfl, hJx3⟩)
      · have HJ := Lib.hid hJ3
        have HK3 := Lib.hid (show Kept w0 W3 from ⟨hk3.1.trans HK.out.os, hk3.2.1.trans HK.out.output, Nat.le_trans HK.out.size hk3.2.2.1, fun j hj => (hk3.2.2.2 j (.inl hj)).trans (HK.out.block j hj)⟩)
        have HB3 := Lib.hid (show Blk W3 B 43 #[.slice (some ⟨b, o, none⟩) L.length c] from (hk3.2.2.2 B (.inr rfl)).trans HBB.out)
        clear hJ3 hk3
        gi_wp2
        go_roundw
        case rel => exact ⟨k, by go_num, by omega, by rw [← HB.out]; exact HJ.out, HK3.out, HB3.out⟩
        case measure => simp [intOf]
      · gi_wp2
        refine bodyPost_ret (results_none rfl _ _ _) rfl ?_
        exact ⟨⟨_, rfl⟩, .inr ⟨_, by rw [HB.out]; exact HP.out, hJx3⟩⟩

end Go.Proofs.YtbjomddjbfgclaaDoor
