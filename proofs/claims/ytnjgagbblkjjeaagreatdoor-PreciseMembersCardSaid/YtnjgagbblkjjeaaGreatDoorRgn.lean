/- A region that draws its order inside a deferred function that recovers; a region that draws within a round of a loop over an iterator, where nothing is fenced. -/
import Derived.Test.YtnjgagbblkjjeaaGreatDoorRows
import Derived.WalkKit
import Derived.Recover
import Derived.OrdersIn
import Derived.Orders
set_option linter.unusedVariables false
namespace Go.Proofs.YtnjgagbblkjjeaaGreatDoor

section
variable {P : Program} {ops : Array Oper} {md : Region.Mode}

theorem lin_one {fuel t i : Nat} {listed : Array Bool} {acc : List Nat} (hr : Region.ready md ops listed = [i]) :
    ∃ t', Region.linearise.go md ops (fuel + 1) t listed acc = Region.linearise.go md ops fuel t' (listed.setIfInBounds i true) (i :: acc) := by
  refine ⟨t / 1, ?_⟩
  simp only [Region.linearise.go]
  change (match (Region.ready md ops listed)[t % (Region.ready md ops listed).length]? with
      | some i => Region.linearise.go md ops fuel (t / (Region.ready md ops listed).length) (listed.setIfInBounds i true) (i :: acc)
      | none => acc.reverse) = _
  rw [hr]
  have : t % ([i] : List Nat).length = 0 := Nat.mod_one t
  rw [this]
  rfl

theorem lin_two {fuel t i j : Nat} {listed : Array Bool} {acc : List Nat} (hr : Region.ready md ops listed = [i, j]) :
    ∃ t', Region.linearise.go md ops (fuel + 1) t listed acc = Region.linearise.go md ops fuel t' (listed.setIfInBounds i true) (i :: acc) ∨
      Region.linearise.go md ops (fuel + 1) t listed acc = Region.linearise.go md ops fuel t' (listed.setIfInBounds j true) (j :: acc) := by
  refine ⟨t / 2, ?_⟩
  simp only [Region.linearise.go]
  change (match (Region.ready md ops listed)[t % (Region.ready md ops listed).length]? with
      | some i => Region.linearise.go md ops fuel (t / (Region.ready md ops listed).length) (listed.setIfInBounds i true) (i :: acc)
      | none => acc.reverse) = _ ∨ (match (Region.ready md ops listed)[t % (Region.ready md ops listed).length]? with
      | some i => Region.linearise.go md ops fuel (t / (Region.ready md ops listed).length) (listed.setIfInBounds i true) (i :: acc)
      | none => acc.reverse) = _
  rw [hr]
  rcases Nat.mod_two_eq_zero_or_one t with h | h
  · have : t % ([i, j] : List Nat).length = 0 := h
    rw [this]
    exact .inl rfl
  · have : t % ([i, j] : List Nat).length = 1 := h
    rw [this]
    exact .inr rfl

/-- The one region of a deferred function that draws its order. -/
theorem wpS_region_draw {id : Nat} {Q : Exit → Act → List Frame → World → Prop} {a : Act} {cs : List Frame} {w : World} (hm : P.follows .mixedOrders = true)
    (h : ∀ t, wpOpsS P ops Q (Region.linearise .any ops t) a cs w.drew) : (Code.region id ops true).wpS P Q a cs w :=
  fun b k hb hr => by
    obtain ⟨e, a', cs', w', q, r⟩ := wp_opsS _ a cs _ (h (w.tape w.drawn (.order b.fn id))) b k hb hr
    refine ⟨e, a', cs', w', q, .of_steps (.one step_region_draw) ?_⟩
    have r' := r
    simp only [Region.schedule, hm, Bool.true_or, if_true] at r' ⊢
    exact r'
end

section
variable {P : Program} {ops : Array Oper} {Q : Exit → Act → World → Prop} {md : Region.Mode} {l n : Nat}

theorem oper_wpIn_of_wp {o : Oper} {a : Act} {w : World} {K : Act → World → Prop} (hd : ∀ c, o.op ≠ .defer c) (h : o.wp P a w K Q) : o.wpIn (Fence.wide.inRound l) n P a w K Q := by
  refine ⟨fun _ _ => trivial, ?_⟩
  rw [Oper.semAt_eq _ _ _ hd]
  unfold Oper.wp at h
  generalize (execOp a.eval o).run P w = r at *
  cases r with
  | ok x w' =>
    cases x <;> simp only [Oper.upon, Oper.uponIn] at h ⊢
    case value => exact h
    case skip => exact h
    case defer => exact h
    case enter =>
      refine ⟨fun e => (by cases e), trivial, fun cs _ => ?_⟩
      obtain ⟨e, w'', fr, r, s, x⟩ := h cs
      exact ⟨e, w'', fr, (by cases e <;> exact r), comesIn_wide.2 s, x⟩
    case row =>
      refine ⟨fun e => (by cases e), fun c cs _ => ?_⟩
      obtain ⟨v, w'', hR, hs⟩ := h c cs
      exact ⟨v, w'', hR, stepsIn_wide.2 hs⟩
  | halt x w' => cases x <;> simp only [Oper.upon, Oper.uponIn] at h ⊢ <;> exact h

theorem wpOpIn_of_wpOp {i : Nat} {a : Act} {w : World} {K K' : Act → World → Prop} (hd : ∀ (i : Nat) (o : Oper), ops[i]? = some o → ∀ c, o.op ≠ .defer c) (hq : ¬ LetsOut Q)
    (hk : ∀ a w, K a w → K' a w) (h : wpOp P ops Q i K a w) : wpOpIn (Fence.wide.inRound l) n P ops Q i K' a w := by
  unfold wpOp wpOpIn at *
  split
  · simp only [*] at h; exact hk _ _ h
  · rename_i o ho
    simp only [ho] at h
    split
    · rename_i hw
      simp only [hw, if_true] at h
      rcases h with h | ⟨_, h⟩
      · exact oper_wpIn_of_wp (hd i o ho) (Oper.wp_mono hk h)
      · exact absurd h hq
    · rename_i hw
      simp only [hw] at h
      exact ⟨fun _ _ => trivial, hk _ _ h⟩

theorem wpAnyIn_of_wpAny (hd : ∀ (i : Nat) (o : Oper), ops[i]? = some o → ∀ c, o.op ≠ .defer c) (hq : ¬ LetsOut Q) : ∀ (fuel : Nat) (listed : Array Bool) (a : Act) (w : World),
    wpAny P md ops Q fuel listed a w → wpAnyIn (Fence.wide.inRound l) n P md ops Q fuel listed a w
  | 0, _, _, _, h => h
  | fuel + 1, listed, a, w, h => ⟨h.1, fun i hi => wpOpIn_of_wpOp hd hq (fun a w => wpAnyIn_of_wpAny hd hq fuel _ a w) (h.2 i hi)⟩

/-- None of them defers. -/
def noDefer (ops : Array Oper) : Bool := ops.all fun o => match o.op with
  | .defer _ => false
  | _ => true
theorem noDefer_spec (h : noDefer ops = true) : ∀ (i : Nat) (o : Oper), ops[i]? = some o → ∀ c, o.op ≠ .defer c := by
  intro i o ho c hc
  have hm := Array.all_eq_true_iff_forall_mem.1 h o (Array.mem_of_getElem? ho)
  rw [hc] at hm
  cases hm

/-- A region that draws, walked by the plain walk's words within a round: from 'wpAny' on. -/
theorem wpIn_region_of_any {id : Nat} {a : Act} {w : World} (hm : P.follows .mixedOrders = true) (hd : noDefer ops = true) (hq : ¬ LetsOut Q)
    (h : wpAny P .any ops Q ops.size (Array.replicate ops.size false) a w.drew) : (Code.region id ops true).wpIn (Fence.wide.inRound l) n P Q a w :=
  wpIn_region_any hm (wpAnyIn_of_wpAny (noDefer_spec hd) hq _ _ _ _ h)
end
end Go.Proofs.YtnjgagbblkjjeaaGreatDoor
