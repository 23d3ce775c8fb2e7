/- Contracts of octet's reader. -/
import Derived.Test.YtfbbhkhingfdeaaApp
import Derived.Test.YtfbbhkhingfdeaaOct
import Derived.Test.YtfbbhkhingfdeaaRgn
import Derived.WalkKit
import Derived.Defers
import Derived.Recover
import Derived.Deep.LoopGhost
import Derived.Deep.QuietTactic
import Derived.BigQuiet
import Derived.Outline
set_option linter.unusedSimpArgs false
set_option linter.unusedVariables false
namespace Go.Proofs.Ytfbbhkhingfdeaa
open Go.ChangeShapes Go.WideShapes Go.ChangeAt Go.RowKit

theorem newR_c (v : Value) (s : ByteArray) (w : World) (hc : (convert 36 9 v).run Try.prog w = .ok (.string s) w) :
    Calls Try.prog 27 #[v] w fun e w' => e = .returned (.pointer (some ⟨w.heap.size, 0, none⟩)) ∧ Kept w w' ∧ Blk w' w.heap.size 49 #[.pointer (some ⟨w.heap.size, 0, none⟩), .string s, .int .i64 0, .int .i64 0, .int .i64 0] := by
  go_enter Try.func27, Try.ntmps27
  go_wp2
  go_ret
  exact ⟨rfl, (Kept.refl w).alloc _, Blk.new _ _ _⟩

theorem keep_none (b : Nat) (w : World) : Calls Try.prog 47 #[.pointer (some ⟨b, 0, none⟩), .nilIface] w fun e w' => e = .returned (.tuple #[]) ∧ Kept w w' := by
  have hta : ∀ w, (Instr.typeAssert .nilIface 20 73 true).run Try.prog w = .ok (.tuple #[.agg #[.int .i64 0, .int .i64 0], .bool false]) w := fun _ => by kernel_rfl
  go_enter Try.func47, Try.ntmps47
  go_wp2
  go_end0
  exact ⟨rfl, (Kept.refl w).alloc _⟩

theorem keep_some (b : Nat) (e a : Int) (p0 s p : Value) (w : World) (hb : Blk w b 49 #[p0, s, p, .int .i64 0, .int .i64 0]) :
    Calls Try.prog 47 #[.pointer (some ⟨b, 0, none⟩), .iface 73 (.agg #[.int .i64 e, .int .i64 a])] w fun r w' => r = .returned (.tuple #[]) ∧ Only (· = b) w w' ∧ Blk w' b 49 #[p0, s, p, .int .i64 e, .int .i64 a] := by
  have hta : ∀ w, (Instr.typeAssert (.iface 73 (.agg #[.int .i64 e, .int .i64 a])) 20 73 true).run Try.prog w = .ok (.tuple #[.agg #[.int .i64 e, .int .i64 a], .bool true]) w := fun _ => by kernel_rfl
  have hlt := hb.lt
  have c3 := hb.cell 3
  have c4 := hb.cell 4
  have f3 := hb.frozen 3
  have f4 := hb.frozen 4
  simp at c3 c4
  have hne : ¬ b = w.heap.size := by omega
  go_enter Try.func47, Try.ntmps47
  go_wp2
  go_end0
  exact ⟨rfl, (((Only.refl _ w).put _ _).put _ _).alloc _, ((hb.put 3 _).put 4 _).alloc _⟩

/-- The orders in which the deferred function's three operations may come. -/
theorem orders3 {P : Program} {ops : Array Oper} (h0 : Region.ready .any ops #[false, false, false] = [0, 1]) (hs : ops.size = 3) (h1 : Region.ready .any ops #[true, false, false] = [1]) (h2 : Region.ready .any ops #[false, true, false] = [0])
    (h3 : Region.ready .any ops #[true, true, false] = [2]) (t : Nat) : Region.linearise .any ops t = [0, 1, 2] ∨ Region.linearise .any ops t = [1, 0, 2] := by
  unfold Region.linearise
  rw [hs]
  obtain ⟨t1, e1⟩ := lin_two (md := .any) (fuel := 2) (t := t) (acc := []) h0
  rcases e1 with e1 | e1
  · obtain ⟨t2, e2⟩ := lin_one (md := .any) (fuel := 1) (t := t1) (acc := [0]) (listed := #[true, false, false]) h1
    obtain ⟨t3, e3⟩ := lin_one (md := .any) (fuel := 0) (t := t2) (acc := [1, 0]) (listed := #[true, true, false]) h3
    exact .inl ((e1.trans (e2.trans e3)).trans rfl)
  · obtain ⟨t2, e2⟩ := lin_one (md := .any) (fuel := 1) (t := t1) (acc := [1]) (listed := #[false, true, false]) h2
    obtain ⟨t3, e3⟩ := lin_one (md := .any) (fuel := 0) (t := t2) (acc := [0, 1]) (listed := #[true, true, false]) h3
    exact .inr ((e1.trans (e2.trans e3)).trans rfl)

theorem wpS_region3 {P : Program} {ops : Array Oper} {id : Nat} {Q : Exit → Act → List Frame → World → Prop} {a : Act} {cs : List Frame} {w : World} (hm : P.follows .mixedOrders = true)
    (hs : ops.size = 3) (h0 : Region.ready .any ops #[false, false, false] = [0, 1]) (h1 : Region.ready .any ops #[true, false, false] = [1]) (h2 : Region.ready .any ops #[false, true, false] = [0])
    (h3 : Region.ready .any ops #[true, true, false] = [2]) (k : ∀ l, l = [0, 1, 2] ∨ l = [1, 0, 2] → wpOpsS P ops Q l a cs w.drew) : (Code.region id ops true).wpS P Q a cs w :=
  wpS_region_draw hm fun t => k _ (orders3 (P := P) h0 hs h1 h2 h3 t)

theorem catchI_none (c b : Nat) (w : World) (hc : w.cell? ⟨c, 0, none⟩ = some (.pointer (some ⟨b, 0, none⟩))) :
    CallsD Try.prog 46 #[.pointer (some ⟨c, 0, none⟩)] .returning w fun e u' w' => e = .returned (.tuple #[]) ∧ u' = .returning ∧ Kept w w' := by
  refine callsD_of_wpS Try.func46 rfl fun c₀ cs hu => ?_
  refine wpS_region3 (by kernel_rfl) rfl (by kernel_rfl) (by kernel_rfl) (by kernel_rfl) (by kernel_rfl) fun l hl => ?_
  rcases hl with rfl | rfl
  all_goals
    simp [wpOpsS, go_sem, recoverD, hu, hc, Try.ntmps46, Exit.thenS]
    refine (keep_none b _).mono ?_
    rintro e w' ⟨rfl, hk⟩
    refine ⟨rfl, .returning, (by cases c₀; simp_all), .tuple #[], results_none rfl _ _ _, rfl, rfl, (Kept.refl w).drew.trans hk⟩

theorem catchI_some (c b : Nat) (e a : Int) (p0 s p : Value) (w : World) (hc : w.cell? ⟨c, 0, none⟩ = some (.pointer (some ⟨b, 0, none⟩))) (hb : Blk w b 49 #[p0, s, p, .int .i64 0, .int .i64 0]) :
    CallsD Try.prog 46 #[.pointer (some ⟨c, 0, none⟩)] (.panicking [{ v := .iface 73 (.agg #[.int .i64 e, .int .i64 a]), recovered := false }]) w fun r u' w' =>
      r = .returned (.tuple #[]) ∧ settle u' = .returning ∧ Only (· = b) w w' ∧ Blk w' b 49 #[p0, s, p, .int .i64 e, .int .i64 a] := by
  refine callsD_of_wpS Try.func46 rfl fun c₀ cs hu => ?_
  refine wpS_region3 (by kernel_rfl) rfl (by kernel_rfl) (by kernel_rfl) (by kernel_rfl) (by kernel_rfl) fun l hl => ?_
  rcases hl with rfl | rfl
  all_goals
    simp [wpOpsS, go_sem, recoverD, hu, hc, Try.ntmps46, Exit.thenS]
    refine (keep_some b e a p0 s p _ hb.drew).mono ?_
    rintro r w' ⟨rfl, ho, hb'⟩
    refine ⟨rfl, _, rfl, .tuple #[], results_none rfl _ _ _, rfl, rfl, (Only.refl _ w).drew.trans ho, hb'⟩

theorem catchS_none (c b : Nat) (w : World) (hc : w.cell? ⟨c, 0, none⟩ = some (.pointer (some ⟨b, 0, none⟩))) :
    CallsD Try.prog 48 #[.pointer (some ⟨c, 0, none⟩)] .returning w fun e u' w' => e = .returned (.tuple #[]) ∧ u' = .returning ∧ Kept w w' := by
  refine callsD_of_wpS Try.func48 rfl fun c₀ cs hu => ?_
  refine wpS_region3 (by kernel_rfl) rfl (by kernel_rfl) (by kernel_rfl) (by kernel_rfl) (by kernel_rfl) fun l hl => ?_
  rcases hl with rfl | rfl
  all_goals
    simp [wpOpsS, go_sem, recoverD, hu, hc, Try.ntmps48, Exit.thenS]
    refine (keep_none b _).mono ?_
    rintro e w' ⟨rfl, hk⟩
    refine ⟨rfl, .returning, (by cases c₀; simp_all), .tuple #[], results_none rfl _ _ _, rfl, rfl, (Kept.refl w).drew.trans hk⟩

theorem catchS_some (c b : Nat) (e a : Int) (p0 s p : Value) (w : World) (hc : w.cell? ⟨c, 0, none⟩ = some (.pointer (some ⟨b, 0, none⟩))) (hb : Blk w b 49 #[p0, s, p, .int .i64 0, .int .i64 0]) :
    CallsD Try.prog 48 #[.pointer (some ⟨c, 0, none⟩)] (.panicking [{ v := .iface 73 (.agg #[.int .i64 e, .int .i64 a]), recovered := false }]) w fun r u' w' =>
      r = .returned (.tuple #[]) ∧ settle u' = .returning ∧ Only (· = b) w w' ∧ Blk w' b 49 #[p0, s, p, .int .i64 e, .int .i64 a] := by
  refine callsD_of_wpS Try.func48 rfl fun c₀ cs hu => ?_
  refine wpS_region3 (by kernel_rfl) rfl (by kernel_rfl) (by kernel_rfl) (by kernel_rfl) (by kernel_rfl) fun l hl => ?_
  rcases hl with rfl | rfl
  all_goals
    simp [wpOpsS, go_sem, recoverD, hu, hc, Try.ntmps48, Exit.thenS]
    refine (keep_some b e a p0 s p _ hb.drew).mono ?_
    rintro r w' ⟨rfl, ho, hb'⟩
    refine ⟨rfl, _, rfl, .tuple #[], results_none rfl _ _ _, rfl, rfl, (Only.refl _ w).drew.trans ho, hb'⟩

end Go.Proofs.Ytfbbhkhingfdeaa
