/- A relation of worlds: whatever block lay there lies there as it was, and nothing was put out. It follows from 'Grown' and from 'Below', and is enough for a row's last step. Worlds in which nothing but certain blocks has turned, and blocks that are known whole. -/
import Derived.Test.YtfkmnpgpfmkjaaaGreatDoorRows
import Derived.WalkKit
import Derived.ProofKit
import Derived.WalkLawsBesides
import Derived.WalkSpells
import Derived.Outline
import Derived.Lib.Hide
import Derived.Below
import Derived.ChangeSame
import Derived.OwnWalk
import Derived.Deep.Draws
import Derived.Recover
import Derived.OrdersIn
import Derived.Orders
import Derived.Deep.AppendSrc
import Derived.Deep.AppendLies
import Derived.Maps.OwnSet
import Derived.Maps.OwnIn
import Derived.OrdersHeld
import Derived.Deep.RegionHeld3
import Derived.Shelf.Abstract
import Derived.Deep.LoopGhost
import Derived.Deep.QuietTactic
import Derived.Laws.BytesString
set_option linter.unusedSimpArgs false
set_option linter.unusedVariables false
set_option maxRecDepth 100000
namespace Go.Proofs.YtfkmnpgpfmkjaaaGreatDoor
open Go.ChangeShapes Go.WideShapes Go.ChangeAt Go.RowKit

structure Kept (w w' : World) : Prop where
  os : w'.os = w.os
  output : w'.output = w.output
  size : w.heap.size ≤ w'.heap.size
  block : ∀ k, k < w.heap.size → w'.heap[k]? = w.heap[k]?

theorem Kept.refl (w : World) : Kept w w := ⟨rfl, rfl, Nat.le_refl _, fun _ _ => rfl⟩
theorem Kept.trans {a b c : World} (h : Kept a b) (k : Kept b c) : Kept a c :=
  ⟨k.os.trans h.os, k.output.trans h.output, Nat.le_trans h.size k.size, fun i hi => (k.block i (Nat.lt_of_lt_of_le hi h.size)).trans (h.block i hi)⟩
theorem Kept.of_below {w w' : World} (h : Below w.heap.size w w') : Kept w w' := ⟨h.os, h.output, h.size, h.block⟩
theorem Kept.of_grown {w w' : World} (h : Grown w w') : Kept w w' := by
  obtain ⟨⟨h1, h2, h3⟩, _, h5⟩ := h
  refine ⟨h1, h2, h5, fun k hk => ?_⟩
  have := h3 k hk
  split at this
  · rename_i c t fr c' t' fr' e e'
    obtain ⟨rfl, rfl, hs, hc⟩ := this
    rw [e, e']
    have : c' = c := Array.ext hs (fun i hi hj => by
      have := hc i (fun f => f)
      rw [Array.getElem?_eq_getElem hi, Array.getElem?_eq_getElem hj] at this
      exact Option.some.inj this)
    rw [this]
  · rename_i es cl es' cl' e e'
    rcases this with f | ⟨rfl, rfl⟩
    · exact f.elim
    · rw [e, e']
  · exact this

theorem Kept.cell {w w' : World} (h : Kept w w') {b o : Nat} {v : Value} (hc : w.cell? ⟨b, o, none⟩ = some v) : w'.cell? ⟨b, o, none⟩ = some v := by
  have hb : b < w.heap.size := by
    rcases Nat.lt_or_ge b w.heap.size with k | k
    · exact k
    · rw [World.cell?] at hc
      simp [Array.getElem?_eq_none k] at hc
  rw [← hc]
  exact World.cell?_of_block (w := w) (h.block b hb)

theorem Kept.frame {w w' : World} (h : Kept w w') (may : MemPlace → Prop) : w.keptBut w' may := by
  refine ⟨h.os, h.output, fun i hi => ?_⟩
  rw [h.block i hi]
  cases w.heap[i]? with
  | none => rfl
  | some o => cases o <;> first | exact ⟨rfl, rfl, rfl, fun _ _ => rfl⟩ | exact Or.inr ⟨rfl, rfl⟩ | rfl

/-- A row's last step where nothing that was there has turned. -/
theorem post_of_kept {H : Type} {enc : TypeId × Value → H} {P : Program} {f : Func} {s : ChangeSpec} {fresh handsOn again : Bool} {W W' : World} {args : Array Value} {v : Value} {ds gs : List (DataW H)} {before pa pv : List MemPlace}
    (hW : DataW.Whole enc P f.params.toList s.vars false W args.toList ds gs before)
    (hres : ∀ (b : Nat) (sp : Nat → Bool) (hd : Bool), DataW.TrodAll enc P W' b sp hd f.resultTypes.toList (v.resultList f.resultTypes.size) (s.fn H (ds ++ gs)).results [])
    (hargs : ∀ sp : Nat → Bool, (∀ p ∈ before, sp p.block = true) → DataW.TrodAll enc P W' 0 sp true f.params.toList args.toList (s.fn H (ds ++ gs)).args pa)
    (hvars : ∀ sp : Nat → Bool, (∀ p ∈ before, sp p.block = true) → DataW.TrodVars enc P W' sp s.vars (s.fn H (ds ++ gs)).vars pv)
    (hps : before = pa ++ pv) (hk : Kept W W')
    (hok : ∀ (j : Nat) (t : TypeId) (r : Value), f.resultTypes[j]? = some t → (v.resultList f.resultTypes.size)[j]? = some r → Value.okWide P W' .any 0 t r) :
    s.post enc P f false fresh handsOn again W args v W' := by
  have inside : ∀ p ∈ before, decide (p.block < W.heap.size) = true := fun p hp => by simpa using hW.lt p hp
  refine ⟨ds, gs, before, [], pa, pv, hW, hres _ _ _, hargs (fun b => decide (b < W.heap.size)) inside, hvars (fun b => decide (b < W.heap.size)) inside, ?_, fun _ => ?_⟩
  · refine World.keptBut_mono (fun p hp => ⟨hp, ?_⟩) (hk.frame (· ∈ before))
    rw [hps] at hp
    exact Or.inr (List.mem_append.1 hp)
  · obtain ⟨_, _, _, _, _, hz, hn⟩ := id hW
    refine ⟨hok, _, _, ([] ++ pa) ++ pv, ⟨[] ++ pa, pv, trodAll_append (hargs _ (fun _ _ => rfl)) (hres _ _ _), hvars _ (fun _ _ => rfl), rfl, ?_, ?_⟩, ?_⟩
    · intro b off hp
      have hin : MemPlace.cell b off ∈ before := by rw [hps]; simpa using hp
      have hlt : b < W.heap.size := hW.lt _ hin
      rw [World.frozen?_of_block (w := W) (a := ⟨b, off, none⟩) (hk.block b hlt)]
      exact hz b off hin
    · intro ha
      have := hn ha
      rw [hps] at this
      simpa using this
    · intro p hp _
      rw [hps]
      simpa using hp

end Go.Proofs.YtfkmnpgpfmkjaaaGreatDoor

namespace Go.Proofs.YtfkmnpgpfmkjaaaGreatDoor
open Go.RowKit

/-! ### Nothing but certain blocks has turned -/
structure Only (S : Nat → Prop) (w w' : World) : Prop where
  os : w'.os = w.os
  output : w'.output = w.output
  size : w.heap.size ≤ w'.heap.size
  block : ∀ k, k < w.heap.size → ¬ S k → w'.heap[k]? = w.heap[k]?

section
variable {S : Nat → Prop} {a w w' : World}
theorem Only.refl (S : Nat → Prop) (w : World) : Only S w w := ⟨rfl, rfl, Nat.le_refl _, fun _ _ _ => rfl⟩
theorem Only.trans (h : Only S a w) (k : Only S w w') : Only S a w' :=
  ⟨k.os.trans h.os, k.output.trans h.output, Nat.le_trans h.size k.size, fun i hi hs => (k.block i (Nat.lt_of_lt_of_le hi h.size) hs).trans (h.block i hi hs)⟩
theorem Only.mono {T : Nat → Prop} (h : Only S a w) (hs : ∀ k, k < a.heap.size → S k → T k) : Only T a w := ⟨h.os, h.output, h.size, fun k hk ht => h.block k hk fun s => ht (hs k hk s)⟩
theorem Only.of_kept (h : Kept w w') : Only S w w' := ⟨h.os, h.output, h.size, fun k hk _ => h.block k hk⟩
theorem Only.kept (h : Only S w w') (hs : ∀ k, k < w.heap.size → ¬ S k) : Kept w w' := ⟨h.os, h.output, h.size, fun k hk => h.block k hk (hs k hk)⟩
theorem Only.drew (h : Only S a w) : Only S a w.drew := ⟨h.os, h.output, h.size, h.block⟩
theorem Only.alloc (h : Only S a w) (o : Obj) : Only S a (w.alloc o) :=
  ⟨h.os, h.output, by have := h.size; simp; omega, fun k hk hs => (Below.heap_alloc w o k (Nat.lt_of_lt_of_le hk h.size)).trans (h.block k hk hs)⟩
theorem Only.setCell (h : Only S a w) {p : Addr} (hp : S p.block ∨ a.heap.size ≤ p.block) (u : Value) : Only S a (w.setCell p u) :=
  ⟨h.os, h.output, by simpa using h.size, fun k hk hs => (Below.heap_setCell w p u k (fun e => by subst e; exact hp.elim hs (fun h => by omega))).trans (h.block k hk hs)⟩
theorem Only.put {b : Nat} (h : Only (· = b) a w) (i : Nat) (u : Value) : Only (· = b) a (w.setCell ⟨b, i, none⟩ u) := h.setCell (.inl rfl) u
theorem Only.grown (h : Only S a w) {row : Option Nat} (hg : w.grownBy w' row) (hr : ∀ k, row = some k → S k ∨ a.heap.size ≤ k) : Only S a w' :=
  ⟨hg.os.trans h.os, hg.output.trans h.output, Nat.le_trans h.size hg.size, fun k hk hs => (hg.block k (Nat.lt_of_lt_of_le hk h.size) (fun e => (hr k e.symm).elim hs (fun h => by omega))).trans (h.block k hk hs)⟩
theorem Kept.only {n₀ : Nat} (h : Kept a w) (k : Only S w w') (hn : n₀ = a.heap.size) (hs : ∀ k, S k → n₀ ≤ k) : Kept a w' :=
  ⟨k.os.trans h.os, k.output.trans h.output, Nat.le_trans h.size k.size, fun i hi => (k.block i (Nat.lt_of_lt_of_le hi h.size) (fun s => by have := hs i s; omega)).trans (h.block i hi)⟩
theorem Kept.drew (h : Kept a w) : Kept a w.drew := ⟨h.os, h.output, h.size, h.block⟩
theorem Kept.alloc (h : Kept a w) (o : Obj) : Kept a (w.alloc o) :=
  ⟨h.os, h.output, by have := h.size; simp; omega, fun k hk => (Below.heap_alloc w o k (Nat.lt_of_lt_of_le hk h.size)).trans (h.block k hk)⟩
theorem Kept.setCell (h : Kept a w) {p : Addr} (hp : a.heap.size ≤ p.block) (u : Value) : Kept a (w.setCell p u) :=
  ⟨h.os, h.output, by simpa using h.size, fun k hk => (Below.heap_setCell w p u k (by omega)).trans (h.block k hk)⟩

/-- A block that is known whole. -/
def Blk (w : World) (g : Nat) (t : TypeId) (cs : Array Value) : Prop := w.heap[g]? = some (.cells cs t (0, 0))
theorem Blk.lt {g : Nat} {t : TypeId} {cs : Array Value} (h : Blk w g t cs) : g < w.heap.size := (Array.getElem?_eq_some_iff.1 h).1
theorem Blk.cell {g : Nat} {t : TypeId} {cs : Array Value} (h : Blk w g t cs) (i : Nat) : w.cell? ⟨g, i, none⟩ = cs[i]? := cell_of_row w g i cs t (0, 0) h
theorem Blk.frozen {g : Nat} {t : TypeId} {cs : Array Value} (h : Blk w g t cs) (i : Nat) : w.frozen? ⟨g, i, none⟩ = false := by
  unfold Blk at h
  simp [World.frozen?, h]
theorem Blk.new (w : World) (t : TypeId) (cs : Array Value) : Blk (w.alloc (.cells cs t)) w.heap.size t cs := heap_alloc_new w _
theorem Blk.only {g : Nat} {t : TypeId} {cs : Array Value} (h : Blk w g t cs) (k : Only S w w') (hs : ¬ S g) : Blk w' g t cs := (k.block g h.lt hs).trans h
theorem Blk.kept {g : Nat} {t : TypeId} {cs : Array Value} (h : Blk w g t cs) (k : Kept w w') : Blk w' g t cs := (k.block g h.lt).trans h
theorem Blk.alloc {g : Nat} {t : TypeId} {cs : Array Value} (h : Blk w g t cs) (o : Obj) : Blk (w.alloc o) g t cs := h.kept ((Kept.refl w).alloc o)
theorem Blk.drew {g : Nat} {t : TypeId} {cs : Array Value} (h : Blk w g t cs) : Blk w.drew g t cs := h
theorem Blk.put {g : Nat} {t : TypeId} {cs : Array Value} (h : Blk w g t cs) (i : Nat) (u : Value) : Blk (w.setCell ⟨g, i, none⟩ u) g t (cs.setIfInBounds i u) := by
  unfold Blk at h ⊢
  simp [World.setCell, Array.getElem?_modify, h]
end
theorem Kept.drewN {a w : World} (h : Kept a w) (n : Nat) : Kept a (w.drewN n) := ⟨h.os, h.output, h.size, h.block⟩
theorem Only.drewN {S : Nat → Prop} {a w : World} (h : Only S a w) (n : Nat) : Only S a (w.drewN n) := ⟨h.os, h.output, h.size, h.block⟩
theorem Blk.drewN {w : World} {g : Nat} {t : TypeId} {cs : Array Value} (h : Blk w g t cs) (n : Nat) : Blk (w.drewN n) g t cs := h
theorem Kept.grown {a w w' : World} (h : Kept a w) {row : Option Nat} (hg : w.grownBy w' row) (hr : ∀ k, row = some k → a.heap.size ≤ k) : Kept a w' :=
  ⟨hg.os.trans h.os, hg.output.trans h.output, Nat.le_trans h.size hg.size, fun k hk => (hg.block k (Nat.lt_of_lt_of_le hk h.size) (fun e => by have := hr k e.symm; omega)).trans (h.block k hk)⟩

end Go.Proofs.YtfkmnpgpfmkjaaaGreatDoor
namespace Go.Proofs.YtfkmnpgpfmkjaaaGreatDoor
open Go.ChangeShapes Go.WideShapes Go.ChangeAt Go.RowKit

/-- A list whose things lie one behind the other, k cells each. -/
def Row {α : Type} (k : Nat) (R : World → Nat → Nat → α → Prop) (w : World) (v : Value) (l : List α) : Prop :=
  ∃ a c, v = .slice a l.length c ∧ l.length ≤ c ∧ c ≤ maxLen ∧ ∀ i x, l[i]? = some x → ∃ b o, a = some ⟨b, o, none⟩ ∧ R w b (o + i * k) x

theorem Row.mono {α : Type} {k : Nat} {R : World → Nat → Nat → α → Prop} {w w' : World} {v : Value} {l : List α} (h : Row k R w v l) (hR : ∀ b o x, R w b o x → R w' b o x) : Row k R w' v l := by
  obtain ⟨a, c, e, h1, h2, h3⟩ := h
  exact ⟨a, c, e, h1, h2, fun i x hx => by obtain ⟨b, o, e, r⟩ := h3 i x hx; exact ⟨b, o, e, hR _ _ _ r⟩⟩
theorem Row.take {α : Type} {k : Nat} {R : World → Nat → Nat → α → Prop} {w : World} {a : Option Addr} {c : Nat} {l : List α} (h : Row k R w (.slice a l.length c) l) {i : Nat} (hi : i ≤ l.length) : Row k R w (.slice a i c) (l.take i) := by
  obtain ⟨a', c', e, h1, h2, h3⟩ := h
  injection e with e1 e2 e3
  subst e1 e3
  refine ⟨a, c, by simp [Nat.min_eq_left hi], by simp; omega, h2, fun j x hx => h3 j x ?_⟩
  rw [List.getElem?_take] at hx
  split at hx
  · exact hx
  · cases hx
theorem Row.nil {α : Type} {k : Nat} {R : World → Nat → Nat → α → Prop} {w : World} : Row k R w (.slice none 0 0) [] := ⟨none, 0, rfl, Nat.le_refl _, Nat.zero_le _, fun i x h => by simp at h⟩
theorem Row.len {α : Type} {k : Nat} {R : World → Nat → Nat → α → Prop} {w : World} {v : Value} {l : List α} (h : Row k R w v l) : l.length ≤ maxLen := by
  obtain ⟨a, c, _, h1, h2, _⟩ := h
  omega


section
variable {P : Program} {ops : Array Oper} {md : Region.Mode}

theorem lin_one {fuel t i : Nat} {listed : Array Bool} {acc : List Nat} (hr : Region.ready md ops listed = [i]) :
    ∃ t', Region.linearise.go md ops (fuel + 1) t listed acc = Region.linearise.go md ops fuel t' (listed.setIfInBounds i true) (i :: acc) := by
  refine ⟨t / 1, ?_⟩
  simp only [Region.linearise.go]
  change (match (Region.ready md ops listed)[t % (Region.ready md ops listed).length]? with
      | some i => Region.linearise.go md ops fuel (t / (Region.ready md ops listed).length) (listed.setIfInBounds i true) (i :: acc)
      | none => acc.reverse) = _
  rw [hr]
  have : t % ([i] : List Nat).length = 0 := Nat.mod_one t
  rw [this]
  rfl

theorem lin_two {fuel t i j : Nat} {listed : Array Bool} {acc : List Nat} (hr : Region.ready md ops listed = [i, j]) :
    ∃ t', Region.linearise.go md ops (fuel + 1) t listed acc = Region.linearise.go md ops fuel t' (listed.setIfInBounds i true) (i :: acc) ∨
      Region.linearise.go md ops (fuel + 1) t listed acc = Region.linearise.go md ops fuel t' (listed.setIfInBounds j true) (j :: acc) := by
  refine ⟨t / 2, ?_⟩
  simp only [Region.linearise.go]
  change (match (Region.ready md ops listed)[t % (Region.ready md ops listed).length]? with
      | some i => Region.linearise.go md ops fuel (t / (Region.ready md ops listed).length) (listed.setIfInBounds i true) (i :: acc)
      | none => acc.reverse) = _ ∨ (match (Region.ready md ops listed)[t % (Region.ready md ops listed).length]? with
      | some i => Region.linearise.go md ops fuel (t / (Region.ready md ops listed).length) (listed.setIfInBounds i true) (i :: acc)
      | none => acc.reverse) = _
  rw [hr]
  rcases Nat.mod_two_eq_zero_or_one t with h | h
  · have : t % ([i, j] : List Nat).length = 0 := h
    rw [this]
    exact .inl rfl
  · have : t % ([i, j] : List Nat).length = 1 := h
    rw [this]
    exact .inr rfl

/-- The one region of a deferred function that draws its order. -/
theorem wpS_region_draw {id : Nat} {Q : Exit → Act → List Frame → World → Prop} {a : Act} {cs : List Frame} {w : World} (hm : P.follows .mixedOrders = true)
    (h : ∀ t, wpOpsS P ops Q (Region.linearise .any ops t) a cs w.drew) : (Code.region id ops true).wpS P Q a cs w :=
  fun b k hb hr => by
    obtain ⟨e, a', cs', w', q, r⟩ := wp_opsS _ a cs _ (h (w.tape w.drawn (.order b.fn id))) b k hb hr
    refine ⟨e, a', cs', w', q, .of_steps (.one step_region_draw) ?_⟩
    have r' := r
    simp only [Region.schedule, hm, Bool.true_or, if_true] at r' ⊢
    exact r'
end

section
variable {P : Program} {ops : Array Oper} {Q : Exit → Act → World → Prop} {md : Region.Mode} {l n : Nat}

theorem oper_wpIn_of_wp {o : Oper} {a : Act} {w : World} {K : Act → World → Prop} (hd : ∀ c, o.op ≠ .defer c) (h : o.wp P a w K Q) : o.wpIn (Fence.wide.inRound l) n P a w K Q := by
  refine ⟨fun _ _ => trivial, ?_⟩
  rw [Oper.semAt_eq _ _ _ hd]
  unfold Oper.wp at h
  generalize (execOp a.eval o).run P w = r at *
  cases r with
  | ok x w' =>
    cases x <;> simp only [Oper.upon, Oper.uponIn] at h ⊢
    case value => exact h
    case skip => exact h
    case defer => exact h
    case enter =>
      refine ⟨fun e => (by cases e), trivial, fun cs _ => ?_⟩
      obtain ⟨e, w'', fr, r, s, x⟩ := h cs
      exact ⟨e, w'', fr, (by cases e <;> exact r), comesIn_wide.2 s, x⟩
    case row =>
      refine ⟨fun e => (by cases e), fun c cs _ => ?_⟩
      obtain ⟨v, w'', hR, hs⟩ := h c cs
      exact ⟨v, w'', hR, stepsIn_wide.2 hs⟩
  | halt x w' => cases x <;> simp only [Oper.upon, Oper.uponIn] at h ⊢ <;> exact h

theorem wpOpIn_of_wpOp {i : Nat} {a : Act} {w : World} {K K' : Act → World → Prop} (hd : ∀ (i : Nat) (o : Oper), ops[i]? = some o → ∀ c, o.op ≠ .defer c) (hq : ¬ LetsOut Q)
    (hk : ∀ a w, K a w → K' a w) (h : wpOp P ops Q i K a w) : wpOpIn (Fence.wide.inRound l) n P ops Q i K' a w := by
  unfold wpOp wpOpIn at *
  split
  · simp only [*] at h; exact hk _ _ h
  · rename_i o ho
    simp only [ho] at h
    split
    · rename_i hw
      simp only [hw, if_true] at h
      rcases h with h | ⟨_, h⟩
      · exact oper_wpIn_of_wp (hd i o ho) (Oper.wp_mono hk h)
      · exact absurd h hq
    · rename_i hw
      simp only [hw] at h
      exact ⟨fun _ _ => trivial, hk _ _ h⟩

theorem wpAnyIn_of_wpAny (hd : ∀ (i : Nat) (o : Oper), ops[i]? = some o → ∀ c, o.op ≠ .defer c) (hq : ¬ LetsOut Q) : ∀ (fuel : Nat) (listed : Array Bool) (a : Act) (w : World),
    wpAny P md ops Q fuel listed a w → wpAnyIn (Fence.wide.inRound l) n P md ops Q fuel listed a w
  | 0, _, _, _, h => h
  | fuel + 1, listed, a, w, h => ⟨h.1, fun i hi => wpOpIn_of_wpOp hd hq (fun a w => wpAnyIn_of_wpAny hd hq fuel _ a w) (h.2 i hi)⟩

/-- None of them defers. -/
def noDefer (ops : Array Oper) : Bool := ops.all fun o => match o.op with
  | .defer _ => false
  | _ => true
theorem noDefer_spec (h : noDefer ops = true) : ∀ (i : Nat) (o : Oper), ops[i]? = some o → ∀ c, o.op ≠ .defer c := by
  intro i o ho c hc
  have hm := Array.all_eq_true_iff_forall_mem.1 h o (Array.mem_of_getElem? ho)
  rw [hc] at hm
  cases hm

/-- A region that draws, walked by the plain walk's words within a round: from 'wpAny' on. -/
theorem wpIn_region_of_any {id : Nat} {a : Act} {w : World} (hm : P.follows .mixedOrders = true) (hd : noDefer ops = true) (hq : ¬ LetsOut Q)
    (h : wpAny P .any ops Q ops.size (Array.replicate ops.size false) a w.drew) : (Code.region id ops true).wpIn (Fence.wide.inRound l) n P Q a w :=
  wpIn_region_any hm (wpAnyIn_of_wpAny (noDefer_spec hd) hq _ _ _ _ h)
end
end Go.Proofs.YtfkmnpgpfmkjaaaGreatDoor

namespace Go.Proofs.YtfkmnpgpfmkjaaaGreatDoor
open Go.RowKit

section
variable {P : Program} (w : World)

theorem run_apk (base k : Nat) (t tx ty e : TypeId) (i : TypeInfo) (z : Value) (bytes : Nat) (ht : P.underlying t = some (.slice e)) (hi : P.info? e = some i) (hz : i.zero = some z)
    (hsize : i.size = k) (hby : i.bytes = bytes) (hzs : z.cells.size = k)
    (v : Value) (n : Nat) (xs : List Value) (hown : w.ownsRow base e k v n xs)
    (x : Value) (m : Nat) (news : List Value) (hs : Src P k tx x m news w)
    (h63 : n + m ≤ maxLen) (hbytes : (n + m) * bytes ≤ 140737488355328) (hbase : base ≤ w.heap.size) :
    ∃ v' w', (Builtin.append_ #[t, tx] ty #[v, x]).run P w = .ok v' w' ∧ w'.ownsRow base e k v' (n + m) (xs ++ news) ∧ w.grownBy w' v.ownBlock ∧
      (v' = .slice none 0 0 ↔ v = .slice none 0 0 ∧ m = 0) ∧ (v'.ownBlock = v.ownBlock ∨ v'.ownBlock = some w.heap.size) := by
  subst hby
  have hsmall : n + m ≤ 9223372036854775807 := by simp only [maxLen] at h63; omega
  have hnl : news.length = m * k := hs.newsLen
  have hxl : xs.length = n * k := hown.1
  have hmul : (n + m) * k = n * k + m * k := Nat.add_mul n m k
  have hlen : (xs ++ news).length = (n + m) * k := by rw [List.length_append, hxl, hnl, hmul]
  have hs' : Src P i.size tx x m news w := by rw [hsize]; exact hs
  have grown : ∀ (old : Nat), old < n + m → ∀ (row : Option Nat),
      (w.drew.alloc (.cells ((xs ++ news).toArray ++ Builtin.zeroCells z.cells (grownCap w (n + m) old e - (n + m))) e)).ownsRow base e k
        (.slice (some ⟨w.heap.size, 0, none⟩) (n + m) (grownCap w (n + m) old e)) (n + m) (xs ++ news) ∧
      w.grownBy (w.drew.alloc (.cells ((xs ++ news).toArray ++ Builtin.zeroCells z.cells (grownCap w (n + m) old e - (n + m))) e)) row := by
    intro old ho row
    have hge := grownCap_ge w (n + m) old e
    have hcm : grownCap w (n + m) old e ≤ maxLen := grownCap_le_maxLen w (n + m) old e h63
    refine ⟨⟨hlen, .inr ⟨w.heap.size, _, _, rfl, hbase, heap_alloc_new w.drew _, hge, hcm, ?_, ?_⟩⟩, ⟨rfl, rfl, rfl, by simp, fun k hk _ => Below.heap_alloc w.drew _ k hk⟩⟩
    · rw [Array.size_append, List.size_toArray, size_zeroCells, hzs, hlen, ← Nat.add_mul, Nat.add_sub_cancel' hge]
    · simp only [Array.toList_append]
      rw [← hlen]
      exact List.take_left
  rcases hown.2 with ⟨rfl, rfl⟩ | ⟨g, cap, cur, rfl, hbg, hg, hnc, hcm, hcs, htake⟩
  · have hx : xs = [] := List.eq_nil_of_length_eq_zero (by rw [hxl, Nat.zero_mul])
    subst hx
    by_cases hm : m = 0
    · subst hm
      have hn : news = [] := List.eq_nil_of_length_eq_zero (by rw [hnl, Nat.zero_mul])
      subst hn
      refine ⟨.slice none 0 0, w, ?_, World.ownsRow_nil w base e k, ⟨rfl, rfl, rfl, Nat.le_refl _, fun _ _ _ => rfl⟩, by simp, Or.inl rfl⟩
      have hce := hs'.cells
      rcases hs.kind with ⟨e', hk⟩ | hk <;> simp [Builtin.append_, run_underlying ht, run_underlying hk, sizeOf, typeInfo, hi, hs.len, hce]
    · have hgr := grown 0 (by omega) none
      simp only [Nat.zero_add, List.nil_append] at hgr hsmall hbytes ⊢
      have hr := run_append_grow_src (P := P) w t tx ty e i z ht hi hz none 0 0 [] (by simp [Builtin.firstCells]) x m news hs' (by omega) (by omega)
        (by rw [Nat.zero_add]; exact growslice_fits (by omega) hbytes)
      simp only [Nat.zero_add, List.nil_append] at hr
      exact ⟨_, _, hr, hgr.1, hgr.2, by simp [hm], Or.inr rfl⟩
  · by_cases hroom : n + m ≤ cap
    · have hcap : (n + m) * k ≤ cap * k := Nat.mul_le_mul_right k hroom
      have hfit : n * k + news.length ≤ cur.size := by rw [hnl, hcs]; omega
      have hst := run_storeCells_at P g (n * k) e news 0 cur w hg (by simpa using hfit) hs.one
      simp only [Nat.add_zero] at hst
      have hce := hs'.cells
      have hr : (Builtin.append_ #[t, tx] ty #[.slice (some ⟨g, 0, none⟩) n cap, x]).run P w = .ok (.slice (some ⟨g, 0, none⟩) (n + m) cap) (w.setRow g (cur.toList.take (n * k) ++ news ++ cur.toList.drop (n * k + news.length)).toArray) := by
        subst hsize
        rcases hs.kind with ⟨e', hk⟩ | hk <;> simp [Builtin.append_, run_underlying ht, run_underlying hk, sizeOf, typeInfo, hi, hs.len, hroom, hce, Addr.add_lit] at hst ⊢ <;> simp [hst]
      refine ⟨_, _, hr, ⟨hlen, .inr ⟨g, cap, _, rfl, hbg, setRow_heap w g cur _ e _ hg, hroom, hcm, ?_, ?_⟩⟩, ⟨rfl, rfl, rfl, by simp, fun k _ hk => setRow_other w g k _ (fun e => hk (by simp [Value.ownBlock, e]))⟩, by simp, Or.inl rfl⟩
      · have := hfit
        simp only [List.size_toArray, List.length_append, List.length_take, List.length_drop, Array.length_toList]
        omega
      · rw [htake, ← hlen]
        exact List.take_left
    · have hgr := grown cap (by omega) (Value.ownBlock (.slice (some ⟨g, 0, none⟩) n cap))
      have hcl : ∀ j u, xs[j]? = some u → w.drew.cell? ((⟨g, 0, none⟩ : Addr).add j) = some u := fun j u hu => by
        have := hown.cells (g := g) rfl j u hu
        simpa using this
      have hr := run_append_grow_src (P := P) w t tx ty e i z ht hi hz (some ⟨g, 0, none⟩) n cap xs (run_firstCells_some w.drew i.size n ⟨g, 0, none⟩ n cap xs (by rw [hsize]; exact hown.1) hcl) x m news hs' (by omega) (by omega)
        (growslice_fits (by omega) hbytes)
      exact ⟨_, _, hr, hgr.1, hgr.2, by simp, Or.inr rfl⟩
end

theorem step_apk {P : Program} {ops : Array Oper} {o : Oper} {a : Act} {K : Act → World → Prop} {Q : Exit → Act → World → Prop} {E : Prop} {w : World} (hgd : o.guard = none) (s x : Operand) (t tx : TypeId)
    (ho : o.op = .call { callee := .builtin .append, args := #[s, x], argTypes := #[t, tx] }) (base k : Nat) (e : TypeId) (i : TypeInfo) (z : Value) (bytes : Nat) (ht : P.underlying t = some (.slice e)) (hi : P.info? e = some i) (hz : i.zero = some z)
    (hsize : i.size = k) (hby : i.bytes = bytes) (hzs : z.cells.size = k)
    {v vx : Value} {n m : Nat} {xs news : List Value} (hs : a.eval s = v) (hown : w.ownsRow base e k v n xs) (hx : a.eval x = vx) (hsrc : Src P k tx vx m news w)
    (h63 : n + m ≤ maxLen) (hbytes : (n + m) * bytes ≤ 140737488355328) (hbase : base ≤ w.heap.size)
    (hK : ∀ v' w', w'.ownsRow base e k v' (n + m) (xs ++ news) → w.grownBy w' v.ownBlock → (v' = .slice none 0 0 ↔ v = .slice none 0 0 ∧ m = 0) → (v'.ownBlock = v.ownBlock ∨ v'.ownBlock = some w.heap.size) → K (a.put o.dst v') w') :
    if Region.wanted o (yielded ops a.tmps) = true then Oper.wp P o a w K Q else E := by
  have hw : Region.wanted o (yielded ops a.tmps) = true := by simp [Region.wanted, hgd]
  rw [if_pos hw]
  obtain ⟨v', w', hr, h2, h3, h4, h5⟩ := run_apk (P := P) w base k t tx o.type e i z bytes ht hi hz hsize hby hzs v n xs hown vx m news hsrc h63 hbytes hbase
  unfold Oper.wp execOp
  simp only [ho, resolve, invoke, builtin, Sem.run_bind, Sem.run_pure, Result.andThen_ok, List.map_toArray, List.map_cons, List.map_nil, hs, hx, hr]
  exact hK v' w' h2 h3 h4 h5

theorem wpList_apk {P : Program} {ops : Array Oper} {rest : List Oper} {o : Oper} {a : Act} {Q : Exit → Act → World → Prop} {w : World} (hgd : o.guard = none) (s x : Operand) (t tx : TypeId)
    (ho : o.op = .call { callee := .builtin .append, args := #[s, x], argTypes := #[t, tx] }) (base k : Nat) (e : TypeId) (i : TypeInfo) (z : Value) (bytes : Nat) (ht : P.underlying t = some (.slice e)) (hi : P.info? e = some i) (hz : i.zero = some z)
    (hsize : i.size = k) (hby : i.bytes = bytes) (hzs : z.cells.size = k)
    {v vx : Value} {n m : Nat} {xs news : List Value} (hs : a.eval s = v) (hown : w.ownsRow base e k v n xs) (hx : a.eval x = vx) (hsrc : Src P k tx vx m news w)
    (h63 : n + m ≤ maxLen) (hbytes : (n + m) * bytes ≤ 140737488355328) (hbase : base ≤ w.heap.size)
    (hK : ∀ v' w', w'.ownsRow base e k v' (n + m) (xs ++ news) → w.grownBy w' v.ownBlock → (v'.ownBlock = v.ownBlock ∨ v'.ownBlock = some w.heap.size) → wpList P ops Q rest (a.put o.dst v') w') : wpList P ops Q (o :: rest) a w :=
  wpList_plain hgd fun K' hk => by
    obtain ⟨v', w', hr, h2, h3, h4, h5⟩ := run_apk (P := P) w base k t tx o.type e i z bytes ht hi hz hsize hby hzs v n xs hown vx m news hsrc h63 hbytes hbase
    unfold Oper.wp execOp
    simp only [ho, resolve, invoke, builtin, Sem.run_bind, Sem.run_pure, Result.andThen_ok, List.map_toArray, List.map_cons, List.map_nil, hs, hx, hr]
    exact hk _ _ (hK v' w' h2 h3 h5)

/-- One more behind a row that a box holds, as what a round may turn. -/
theorem app_only {w W w1 : World} {n₁ B : Nat} {v : Value} {k m : Nat} {e : TypeId} {xs : List Value} (hk : Only (fun k => k = B ∨ n₁ ≤ k) w W) (hrow : W.ownsRow n₁ e m v k xs) (hgrow : W.grownBy w1 v.ownBlock) (hn : n₁ ≤ w.heap.size) : Only (fun k => k = B ∨ n₁ ≤ k) w w1 := by
  refine hk.grown hgrow fun j ej => ?_
  rcases hrow.2 with ⟨rfl, _⟩ | ⟨g, cap, cur, rfl, hb, _, _⟩
  · simp [Value.ownBlock] at ej
  · obtain rfl : g = j := by simpa [Value.ownBlock] using ej
    exact .inl (.inr hb)

/-- A block with no row's type of elements is no row's block. -/
theorem ne_row_blk {w : World} {g : Nat} {t e : TypeId} {cs : Array Value} (h : Blk w g t cs) (ht : t ≠ e) {base k n : Nat} {v : Value} {xs : List Value} (hr : w.ownsRow base e k v n xs) : v.ownBlock ≠ some g := by
  rcases hr.2 with ⟨rfl, _⟩ | ⟨g', cap, cur, rfl, _, hh, _⟩
  · simp [Value.ownBlock]
  · intro he
    have : g' = g := by simpa [Value.ownBlock] using he
    subst this
    unfold Blk at h
    rw [hh] at h
    injection h with h
    injection h with _ h2
    exact ht h2.symm

theorem Blk.grownBy {W W' : World} {g : Nat} {t : TypeId} {cs : Array Value} {row : Option Nat} (h : Blk W g t cs) (hg : W.grownBy W' row) (hne : row ≠ some g) : Blk W' g t cs := (hg.block g h.lt hne.symm).trans h

/-- Things of k cells each, one behind the other. -/
theorem flat_at {α : Type} {k : Nat} (f : α → List Value) (hf : ∀ x, (f x).length = k) : ∀ (l : List α) (i j : Nat) (x : α), l[i]? = some x → j < k → (l.flatMap f)[i * k + j]? = (f x)[j]?
  | [], i, j, x, h, _ => by simp at h
  | y :: r, 0, j, x, h, hj => by
    simp at h
    subst h
    rw [List.flatMap_cons, List.getElem?_append_left (by rw [hf]; omega)]
    simp
  | y :: r, i + 1, j, x, h, hj => by
    rw [List.flatMap_cons, List.getElem?_append_right (by rw [hf, Nat.add_mul]; omega), hf]
    have : (i + 1) * k + j - k = i * k + j := by rw [Nat.add_mul]; omega
    rw [this]
    exact flat_at f hf r i j x (by simpa using h) hj
theorem flat_len {α : Type} {k : Nat} (f : α → List Value) (hf : ∀ x, (f x).length = k) : ∀ (l : List α), (l.flatMap f).length = l.length * k
  | [] => by simp
  | y :: r => by rw [List.flatMap_cons, List.length_append, hf, flat_len f hf r, List.length_cons, Nat.add_mul]; omega
end Go.Proofs.YtfkmnpgpfmkjaaaGreatDoor
namespace Go.Proofs.YtfkmnpgpfmkjaaaGreatDoor
open Go.ChangeShapes Go.WideShapes Go.ChangeAt Go.RowKit

inductive Nd where
  | mk (kind : Int) (text typ frm : ByteArray) (n : Int) (kids : List Nd)

namespace Nd
def kind : Nd → Int | mk k _ _ _ _ _ => k
def text : Nd → ByteArray | mk _ t _ _ _ _ => t
def typ : Nd → ByteArray | mk _ _ y _ _ _ => y
def frm : Nd → ByteArray | mk _ _ _ f _ _ => f
def n : Nd → Int | mk _ _ _ _ n _ => n
def kids : Nd → List Nd | mk _ _ _ _ _ ks => ks
theorem eta (x : Nd) : mk x.kind x.text x.typ x.frm x.n x.kids = x := by cases x; rfl

/-- What holds of a node where it holds of its kids. -/
theorem ind {P : Nd → Prop} (h : ∀ x : Nd, (∀ y ∈ x.kids, P y) → P x) (x : Nd) : P x :=
  Nd.rec (motive_1 := P) (motive_2 := fun l => ∀ y ∈ l, P y) (fun k t y f n ks ih => h _ ih) (fun y hy => by cases hy)
    (fun a l h1 h2 y hy => by rcases List.mem_cons.1 hy with rfl | hy; exact h1; exact h2 y hy) x

mutual
/-- All nodes of a tree, each with how many are above it, in the order of their places. -/
def all : Nd → Nat → List (Nat × Nd)
  | mk k t y f n ks, a => (a, mk k t y f n ks) :: allL ks (a + 1)
def allL : List Nd → Nat → List (Nat × Nd)
  | [], _ => []
  | x :: r, a => all x a ++ allL r a
end
theorem all_eq (x : Nd) (a : Nat) : x.all a = (a, x) :: allL x.kids (a + 1) := by cases x; rw [all]; rfl
theorem allL_nil (a : Nat) : allL [] a = [] := by rw [allL]
theorem allL_cons (x : Nd) (r : List Nd) (a : Nat) : allL (x :: r) a = x.all a ++ allL r a := by rw [allL]
theorem allL_app (l m : List Nd) (a : Nat) : allL (l ++ m) a = allL l a ++ allL m a := by
  induction l with
  | nil => rw [allL_nil]; rfl
  | cons x r ih => rw [List.cons_append, allL_cons, allL_cons, ih, List.append_assoc]

def count (x : Nd) : Nat := (x.all 0).length
def countL (l : List Nd) : Nat := (allL l 0).length
theorem len_all (x : Nd) : ∀ a b, (x.all a).length = (x.all b).length := by
  refine ind (P := fun x => ∀ a b, (x.all a).length = (x.all b).length) (fun x ih a b => ?_) x
  rw [all_eq, all_eq, List.length_cons, List.length_cons]
  congr 1
  have : ∀ (l : List Nd) (a b : Nat), (∀ y ∈ l, ∀ a b, (y.all a).length = (y.all b).length) → (allL l a).length = (allL l b).length := by
    intro l
    induction l with
    | nil => intros; simp [allL_nil]
    | cons y r ihr =>
      intro a b h
      rw [allL_cons, allL_cons, List.length_append, List.length_append, h y (by simp) a b, ihr a b (fun z hz => h z (List.mem_cons_of_mem _ hz))]
  exact this _ _ _ ih
theorem len_allL : ∀ (l : List Nd) (a : Nat), (allL l a).length = countL l
  | [], a => by simp [countL, allL_nil]
  | x :: r, a => by unfold countL; rw [allL_cons, allL_cons, List.length_append, List.length_append, len_all x a 0, len_allL r a, countL]
theorem count_eq (x : Nd) : x.count = 1 + countL x.kids := by unfold count; rw [all_eq, List.length_cons, len_allL]; omega
theorem count_pos (x : Nd) : 0 < x.count := by rw [count_eq]; omega
theorem countL_nil : countL [] = 0 := by simp [countL, allL_nil]
theorem countL_cons (x : Nd) (r : List Nd) : countL (x :: r) = x.count + countL r := by
  unfold countL count; rw [allL_cons, List.length_append]
theorem countL_app (l m : List Nd) : countL (l ++ m) = countL l + countL m := by unfold countL; rw [allL_app, List.length_append]
theorem len_le_countL : ∀ l : List Nd, l.length ≤ countL l
  | [] => by simp
  | x :: r => by rw [countL_cons, List.length_cons]; have := count_pos x; have := len_le_countL r; omega
theorem count_all (x : Nd) (a : Nat) : (x.all a).length = x.count := len_all x a 0
theorem count_kid {x y : Nd} (h : y ∈ x.kids) : y.count < x.count := by
  rw [count_eq x]
  obtain ⟨l, m, e⟩ := List.append_of_mem h
  rw [e, countL_app, countL_cons]; omega

/-- The fields of a node are such as Go has them. -/
def ok1 (x : Nd) : Prop := (-9223372036854775808 ≤ x.kind ∧ x.kind ≤ 9223372036854775807) ∧ (-9223372036854775808 ≤ x.n ∧ x.n ≤ 9223372036854775807) ∧ x.text.size ≤ maxLen ∧ x.typ.size ≤ maxLen ∧ x.frm.size ≤ maxLen
end Nd

abbrev ndV (x : Nd) (s : Value) : Value := .agg #[.int .i64 x.kind, .string x.text, .string x.typ, .string x.frm, .int .i64 x.n, s]
def ndC (x : Nd) (s : Value) : List Value := [.int .i64 x.kind, .string x.text, .string x.typ, .string x.frm, .int .i64 x.n, s]

/-- A tree's node in memory: six cells; all its blocks are such as D says. -/
inductive NdD (D : Nat → Prop) (w : World) : Nat → Nat → Nd → Prop
  | mk (b o : Nat) (x : Nd) (b' o' c : Nat) (ad : Option Addr) (hD : D b)
    (hc : ∀ j v, (ndC x (.slice ad x.kids.length c))[j]? = some v → w.cell? ⟨b, o + j, none⟩ = some v)
    (hok : x.ok1) (hl : x.kids.length ≤ c) (hm : c ≤ maxLen) (ha : x.kids = [] ∨ ad = some ⟨b', o', none⟩)
    (hs : ∀ i y, x.kids[i]? = some y → NdD D w b' (o' + i * 6) y) : NdD D w b o x
abbrev NdAt : World → Nat → Nat → Nd → Prop := NdD (fun _ => True)

/-- A slice of nodes. -/
abbrev KidsD (D : Nat → Prop) (w : World) (v : Value) (l : List Nd) : Prop := Row 6 (NdD D) w v l
abbrev KidsAt (w : World) (v : Value) (l : List Nd) : Prop := KidsD (fun _ => True) w v l

section
variable {D : Nat → Prop} {w w' : World} {b o : Nat} {x : Nd}
theorem NdD.open (h : NdD D w b o x) : ∃ ad c, (∀ j v, (ndC x (.slice ad x.kids.length c))[j]? = some v → w.cell? ⟨b, o + j, none⟩ = some v) ∧ x.ok1 ∧ KidsD D w (.slice ad x.kids.length c) x.kids ∧ D b := by
  cases h with
  | mk _ _ _ b' o' c ad hD hc hok hl hm ha hs =>
    refine ⟨ad, c, hc, hok, ⟨ad, c, rfl, hl, hm, fun i y hy => ?_⟩, hD⟩
    rcases ha with e | e
    · rw [e] at hy; simp at hy
    · exact ⟨b', o', e, hs i y hy⟩
theorem NdD.shut {ad : Option Addr} {c : Nat} (hc : ∀ j v, (ndC x (.slice ad x.kids.length c))[j]? = some v → w.cell? ⟨b, o + j, none⟩ = some v) (hok : x.ok1) (hk : KidsD D w (.slice ad x.kids.length c) x.kids) (hD : D b) : NdD D w b o x := by
  obtain ⟨a', c', e, hl, hm, hs⟩ := hk
  injection e with e1 e2 e3
  subst e1 e3
  cases hks : x.kids with
  | nil => exact .mk b o x 0 0 c ad hD hc hok hl hm (.inl hks) (fun i y hy => by rw [hks] at hy; simp at hy)
  | cons y r =>
    obtain ⟨b', o', e, _⟩ := hs 0 y (by rw [hks]; rfl)
    refine .mk b o x b' o' c ad hD hc hok hl hm (.inr e) (fun i y hy => ?_)
    obtain ⟨b2, o2, e2, h2⟩ := hs i y hy
    rw [e] at e2
    injection e2 with e2
    injection e2 with e3 e4
    subst e3 e4
    exact h2
theorem NdD.lt (h : NdD D w b o x) : b < w.heap.size := by
  cases h with
  | mk _ _ _ b' o' c ad hD hc hok hl hm ha hs => exact World.block_lt_of_cell? w ⟨b, o + 0, none⟩ (hc 0 _ rfl)
/-- What lies in blocks that are as they were. -/
theorem NdD.via (h : NdD D w b o x) (hw : ∀ k, k < w.heap.size → D k → w'.heap[k]? = w.heap[k]?) : NdD D w' b o x := by
  induction h with
  | mk b o x b' o' c ad hD hc hok hl hm ha hk ih =>
    have hb : b < w.heap.size := World.block_lt_of_cell? w ⟨b, o + 0, none⟩ (hc 0 _ rfl)
    refine .mk b o x b' o' c ad hD (fun j v hv => ?_) hok hl hm ha ih
    rw [World.cell?_of_block (w := w) (a := ⟨b, o + j, none⟩) (hw b hb hD)]
    exact hc j v hv
theorem NdD.kept (h : NdD D w b o x) (k : Kept w w') : NdD D w' b o x := h.via fun b hb _ => k.block b hb
theorem NdD.only {S : Nat → Prop} (h : NdD D w b o x) (k : Only S w w') (hs : ∀ k, D k → ¬ S k) : NdD D w' b o x := h.via fun b hb hd => k.block b hb (hs b hd)
theorem NdD.mono {E : Nat → Prop} (h : NdD D w b o x) (hd : ∀ k, k < w.heap.size → D k → E k) : NdD E w b o x := by
  induction h with
  | mk b o x b' o' c ad hD hc hok hl hm ha hk ih => exact .mk b o x b' o' c ad (hd b (World.block_lt_of_cell? w ⟨b, o + 0, none⟩ (hc 0 _ rfl)) hD) hc hok hl hm ha ih
theorem NdD.at (h : NdD D w b o x) : NdAt w b o x := h.mono fun _ _ _ => trivial
theorem NdD.low (h : NdD D w b o x) : NdD (fun k => k < w.heap.size) w b o x := h.mono fun _ h _ => h
theorem KidsD.kept {v : Value} {l : List Nd} (h : KidsD D w v l) (k : Kept w w') : KidsD D w' v l := Row.mono h fun _ _ _ h => h.kept k
theorem KidsD.only {S : Nat → Prop} {v : Value} {l : List Nd} (h : KidsD D w v l) (k : Only S w w') (hs : ∀ k, D k → ¬ S k) : KidsD D w' v l := Row.mono h fun _ _ _ h => h.only k hs
theorem KidsD.mono {E : Nat → Prop} {v : Value} {l : List Nd} (h : KidsD D w v l) (hd : ∀ k, k < w.heap.size → D k → E k) : KidsD E w v l := by
  obtain ⟨a, c, e, h1, h2, h3⟩ := h
  exact ⟨a, c, e, h1, h2, fun i x hx => by obtain ⟨b, o, e, r⟩ := h3 i x hx; exact ⟨b, o, e, r.mono hd⟩⟩
theorem KidsD.at {v : Value} {l : List Nd} (h : KidsD D w v l) : KidsAt w v l := h.mono fun _ _ _ => trivial
theorem KidsD.low {v : Value} {l : List Nd} (h : KidsD D w v l) : KidsD (fun k => k < w.heap.size) w v l := h.mono fun _ h _ => h
/-- The first node, and the others. -/
theorem KidsD.head {ad : Option Addr} {n c : Nat} {r : List Nd} (h : KidsD D w (.slice ad n c) (x :: r)) : ∃ b o, ad = some ⟨b, o, none⟩ ∧ n = r.length + 1 ∧ n ≤ c ∧ c ≤ maxLen ∧ NdD D w b o x ∧ KidsD D w (.slice (some ⟨b, o + 6, none⟩) r.length (c - 1)) r := by
  obtain ⟨a', c', e, hl, hm, hs⟩ := h
  injection e with e1 e2 e3
  subst e1 e3
  obtain ⟨b, o, rfl, h0⟩ := hs 0 x rfl
  rw [List.length_cons] at e2 hl
  refine ⟨b, o, rfl, e2, by omega, hm, by simpa using h0, some ⟨b, o + 6, none⟩, c - 1, rfl, by omega, by omega, fun i y hy => ?_⟩
  obtain ⟨b2, o2, e2', h2⟩ := hs (i + 1) y (by simpa using hy)
  injection e2' with e2'
  injection e2' with e3 e4
  subst e3 e4
  exact ⟨b, o + 6, rfl, by rw [show o + 6 + i * 6 = o + (i + 1) * 6 by omega]; exact h2⟩
theorem KidsD.one {g c : Nat} (h : NdD D w g 0 x) (hc : 1 ≤ c) (hm : c ≤ maxLen) : KidsD D w (.slice (some ⟨g, 0, none⟩) 1 c) [x] := by
  refine ⟨some ⟨g, 0, none⟩, c, rfl, hc, hm, fun i y hy => ?_⟩
  have hi : i = 0 := by have := (List.getElem?_eq_some_iff.1 hy).1; simp at this; exact this
  subst hi
  simp at hy
  subst hy
  exact ⟨g, 0, rfl, by simpa using h⟩

/-- What a node's cells are, one by one. -/
theorem NdD.cells (h : NdD D w b o x) : ∃ ad c, (w.cell? ⟨b, o, none⟩ = some (.int .i64 x.kind) ∧ w.cell? ⟨b, o + 1, none⟩ = some (.string x.text) ∧ w.cell? ⟨b, o + 2, none⟩ = some (.string x.typ) ∧
    w.cell? ⟨b, o + 3, none⟩ = some (.string x.frm) ∧ w.cell? ⟨b, o + 4, none⟩ = some (.int .i64 x.n) ∧ w.cell? ⟨b, o + 5, none⟩ = some (.slice ad x.kids.length c)) ∧ x.ok1 ∧ KidsD D w (.slice ad x.kids.length c) x.kids ∧ D b := by
  obtain ⟨ad, c, hc, hok, hk, hd⟩ := h.open
  exact ⟨ad, c, ⟨hc 0 _ rfl, hc 1 _ rfl, hc 2 _ rfl, hc 3 _ rfl, hc 4 _ rfl, hc 5 _ rfl⟩, hok, hk, hd⟩
end

/-- A node as a value. -/
def NdV (w : World) (v : Value) (x : Nd) : Prop := ∃ ad c, v = ndV x (.slice ad x.kids.length c) ∧ x.ok1 ∧ KidsAt w (.slice ad x.kids.length c) x.kids
theorem NdV.kept {w w' : World} {v : Value} {x : Nd} (h : NdV w v x) (k : Kept w w') : NdV w' v x := by
  obtain ⟨ad, c, e, hok, hk⟩ := h
  exact ⟨ad, c, e, hok, KidsD.kept hk k⟩
/-- A node's cells, in a block of its own. -/
theorem blk_node {D : Nat → Prop} {w : World} {x : Nd} {ad : Option Addr} {c : Nat} (hok : x.ok1) (hk : KidsD D w (.slice ad x.kids.length c) x.kids) {g : Nat} {t : TypeId} (hb : Blk w g t (ndC x (.slice ad x.kids.length c)).toArray) (hD : D g) : NdD D w g 0 x := by
  refine NdD.shut (fun j v hv => ?_) hok hk hD
  rw [Nat.zero_add, hb.cell j]
  simpa using hv

end Go.Proofs.YtfkmnpgpfmkjaaaGreatDoor
namespace Go.Proofs.YtfkmnpgpfmkjaaaGreatDoor.Wrd

/-- The reserved words, in their order; the base types, in the order of their tags. -/
def ws : List ByteArray := [⟨#[99, 108, 97, 115, 115]⟩, ⟨#[100, 101, 102]⟩, ⟨#[118, 97, 114]⟩, ⟨#[109, 97, 105, 110]⟩, ⟨#[108, 101, 116]⟩, ⟨#[105, 102]⟩, ⟨#[101, 108, 115, 101]⟩, ⟨#[119, 104, 105, 108, 101]⟩, ⟨#[110, 101, 119]⟩, ⟨#[110, 111, 110, 101]⟩, ⟨#[116, 104, 105, 115]⟩, ⟨#[115, 117, 112, 101, 114]⟩, ⟨#[114, 101, 97, 100]⟩, ⟨#[112, 114, 105, 110, 116]⟩, ⟨#[116, 114, 117, 101]⟩, ⟨#[102, 97, 108, 115, 101]⟩, ⟨#[110, 97, 110]⟩, ⟨#[105, 110, 102]⟩, ⟨#[105, 110, 116]⟩, ⟨#[114, 101, 97, 108]⟩, ⟨#[98, 111, 111, 108]⟩, ⟨#[115, 116, 114]⟩, ⟨#[117, 110, 105, 116]⟩, ⟨#[108, 101, 110]⟩]
def bs : List ByteArray := [⟨#[105, 110, 116]⟩, ⟨#[114, 101, 97, 108]⟩, ⟨#[98, 111, 111, 108]⟩, ⟨#[115, 116, 114]⟩, ⟨#[117, 110, 105, 116]⟩]

/-- The reserved words as one text, blanks between. -/
def rs : ByteArray := ⟨#[99, 108, 97, 115, 115, 32, 100, 101, 102, 32, 118, 97, 114, 32, 109, 97, 105, 110, 32, 108, 101, 116, 32, 105, 102, 32, 101, 108, 115, 101, 32, 119, 104, 105, 108, 101, 32, 110, 101, 119, 32, 110, 111, 110, 101, 32, 116, 104, 105, 115, 32, 115, 117, 112, 101, 114, 32, 114, 101, 97, 100, 32, 112, 114, 105, 110, 116, 32, 116, 114, 117, 101, 32, 102, 97, 108, 115, 101, 32, 110, 97, 110, 32, 105, 110, 102, 32, 105, 110, 116, 32, 114, 101, 97, 108, 32, 98, 111, 111, 108, 32, 115, 116, 114, 32, 117, 110, 105, 116, 32, 108, 101, 110]⟩

/-- Blanks among ASCII. -/
def spB (c : UInt8) : Bool := c == 32 || (9 ≤ c && c ≤ 13)

/-- The kind of a letter: 0 small, 1 capital, 2 a digit, 3 none. -/
def smB (n : Nat) : Bool := decide (97 ≤ n) && decide (n ≤ 122)
def caB (n : Nat) : Bool := decide (65 ≤ n) && decide (n ≤ 90)
def diB (n : Nat) : Bool := decide (48 ≤ n) && decide (n ≤ 57)
def kd (c : UInt8) : Nat := if smB c.toNat then 0 else if caB c.toNat then 1 else if diB c.toNat then 2 else 3

/-- Has a text the length and the letters of a name, the first of them of kind k? -/
def spelt (s : ByteArray) (k : Nat) : Bool := decide (1 ≤ s.size) && decide (s.size ≤ 20) && s.data.toList.all (fun c => kd c != 3) && (kd (s.data.toList.headD 0) == k)

def has (l : List ByteArray) (s : ByteArray) : Bool := l.any fun x => decide (x = s)
def key (s : ByteArray) : Bool := has ws s
def base (s : ByteArray) : Bool := has bs s
def tagF : List ByteArray → Nat → ByteArray → Nat
  | [], _, _ => 0
  | b :: r, k, s => if b = s then k else tagF r (k + 1) s
def tag (s : ByteArray) : Nat := tagF bs 1 s
def tagE (s : ByteArray) : Int := if base s then 0 else 7
def ofF : List ByteArray → Int → Int → ByteArray × Int
  | [], _, _ => (⟨#[]⟩, 7)
  | b :: r, k, n => if k = n then (b, 0) else ofF r (k + 1) n
def ofT (n : Int) : ByteArray := (ofF bs 1 n).1
def ofE (n : Int) : Int := (ofF bs 1 n).2
def name (s : ByteArray) : Bool := spelt s 0 && !key s
def cls (s : ByteArray) : Bool := spelt s 1
def kind (s : ByteArray) : Int := if base s then 1 else if s = ⟨#[63]⟩ then 2 else if cls s then 3 else 0
def typ (s : ByteArray) : Bool := decide (kind s ≠ 0)

theorem mem_at {s : ByteArray} {c : UInt8} (h : c ∈ s.data.toList) : ∃ k, ∃ hk : k < s.size, s[k] = c := by
  obtain ⟨k, hk, e⟩ := List.getElem_of_mem h
  exact ⟨k, by simpa using hk, e⟩
theorem at_mem {s : ByteArray} {k : Nat} (hk : k < s.size) : s[k] ∈ s.data.toList := by
  have : s[k] = s.data.toList[k]'(by simpa using hk) := rfl
  rw [this]; exact List.getElem_mem _
theorem headD_at : ∀ (l : List UInt8) (h : 0 < l.length), l.headD 0 = l[0]
  | a :: r, _ => rfl
theorem head_at {s : ByteArray} (hk : 0 < s.size) : s.data.toList.headD 0 = s[0] :=
  headD_at s.data.toList (by simpa using hk)
theorem spelt_len {s : ByteArray} {f : Nat} (h : s.size < 1 ∨ 20 < s.size) : spelt s f = false := by
  unfold spelt
  rcases h with h | h
  · have : decide (1 ≤ s.size) = false := decide_eq_false (by omega)
    rw [this]; rfl
  · have : decide (s.size ≤ 20) = false := decide_eq_false (by omega)
    rw [this]; simp
theorem spelt_at {s : ByteArray} {f k : Nat} (hk : k < s.size) (h : kd s[k] = 3) : spelt s f = false := by
  have : s.data.toList.all (fun c => kd c != 3) = false := by
    rw [List.all_eq_false]
    exact ⟨s[k], at_mem hk, by rw [h]; decide⟩
  unfold spelt
  rw [this]; simp
theorem spelt_first {s : ByteArray} {f : Nat} (hk : 0 < s.size) (h : kd s[0] ≠ f) : spelt s f = false := by
  unfold spelt
  rw [head_at hk]
  have : (kd s[0] == f) = false := by simpa using h
  rw [this]; simp
theorem spelt_all {s : ByteArray} {f : Nat} (h1 : 0 < s.size) (h2 : s.size ≤ 20) (ha : ∀ k (hk : k < s.size), kd s[k] ≠ 3) (h0 : kd s[0] = f) : spelt s f = true := by
  unfold spelt
  rw [head_at h1, h0]
  have e1 : decide (1 ≤ s.size) = true := decide_eq_true h1
  have e2 : decide (s.size ≤ 20) = true := decide_eq_true h2
  have e3 : s.data.toList.all (fun c => kd c != 3) = true := by
    rw [List.all_eq_true]
    intro c hc
    obtain ⟨k, hk, rfl⟩ := mem_at hc
    simpa using ha k hk
  rw [e1, e2, e3]; simp

/-! ### Fields -/
/-- Behind the first k bytes: where a field began, and the fields so far. -/
def st (s : ByteArray) : Nat → Option Nat × List ByteArray
  | 0 => (none, [])
  | k + 1 => match st s k with
    | (none, pre) => if spB (s.data.toList.getD k 0) then (none, pre) else (some k, pre)
    | (some b, pre) => if spB (s.data.toList.getD k 0) then (none, pre ++ [s.extract b k]) else (some b, pre)
def flds (s : ByteArray) : List ByteArray := match st s s.size with
  | (none, pre) => pre
  | (some b, pre) => pre ++ [s.extract b s.size]

theorem st_lt (s : ByteArray) : ∀ (k b : Nat) (pre : List ByteArray), st s k = (some b, pre) → b < k
  | 0, _, _, h => by cases h
  | k + 1, b, pre, h => by
    unfold st at h
    split at h
    · split at h
      · cases h
      · cases h; omega
    · rename_i b' pre' h'
      have := st_lt s k b' pre' h'
      split at h
      · cases h
      · cases h; omega

theorem st_next (s : ByteArray) (k : Nat) : (st s k).2 <+: (st s (k + 1)).2 := by
  conv => rhs; unfold st
  split
  · rename_i h; rw [h]; split <;> exact List.prefix_refl _
  · rename_i h; rw [h]; split
    · exact List.prefix_append _ _
    · exact List.prefix_refl _
theorem st_mono (s : ByteArray) (k : Nat) : ∀ d, (st s k).2 <+: (st s (k + d)).2
  | 0 => List.prefix_refl _
  | d + 1 => (st_mono s k d).trans (st_next s (k + d))
theorem st_flds (s : ByteArray) {k : Nat} (h : k ≤ s.size) : (st s k).2 <+: flds s := by
  have h1 := st_mono s k (s.size - k)
  rw [show k + (s.size - k) = s.size by omega] at h1
  refine h1.trans ?_
  unfold flds
  split
  · rename_i h; rw [h]; exact List.prefix_refl _
  · rename_i h; rw [h]; exact List.prefix_append _ _

theorem has_iff {l : List ByteArray} {s : ByteArray} : has l s = true ↔ s ∈ l := by
  unfold has; rw [List.any_eq_true]
  constructor
  · rintro ⟨x, hx, h⟩; rw [← of_decide_eq_true h]; exact hx
  · intro h; exact ⟨s, h, decide_eq_true rfl⟩
theorem has_no {l : List ByteArray} {s : ByteArray} (h : s ∉ l) : has l s = false := by
  cases e : has l s with
  | false => rfl
  | true => exact absurd (has_iff.1 e) h

theorem flds_rs : flds rs = ws := by kernel_rfl
theorem ascii_rs : ∀ c ∈ rs.data.toList, c.toNat < 128 := by decide +kernel
theorem size_rs : rs.size ≤ 9223372036854775807 := by decide +kernel
theorem len_ws : ws.length = 24 := by decide +kernel

end Go.Proofs.YtfkmnpgpfmkjaaaGreatDoor.Wrd

namespace Go.Proofs.YtfkmnpgpfmkjaaaGreatDoor.Tab

structure V where
  name : ByteArray
  typ : ByteArray
structure M where
  name : ByteArray
  params : List V
  res : ByteArray
structure C where
  name : ByteArray
  super : ByteArray
  fields : List V
  methods : List M
instance : Inhabited C := ⟨⟨ByteArray.empty, ByteArray.empty, [], []⟩⟩

/-- The place of the first thing with that name. -/
def ix {α : Type} (nm : α → ByteArray) (l : List α) (s : ByteArray) : Option Nat := l.findIdx? fun x => decide (nm x = s)
def num : Option Nat → Int
  | some k => k
  | none => 0

theorem ix_some {α : Type} {nm : α → ByteArray} {l : List α} {s : ByteArray} {k : Nat} {x : α} (hk : l[k]? = some x) (hx : nm x = s) (h : ∀ y ∈ l.take k, ¬ nm y = s) : ix nm l s = some k := by
  obtain ⟨hlt, rfl⟩ := List.getElem?_eq_some_iff.1 hk
  unfold ix
  rw [List.findIdx?_eq_some_iff_getElem]
  refine ⟨hlt, by simpa using hx, fun j hj => ?_⟩
  have := h l[j] (List.mem_take_iff_getElem.2 ⟨j, by omega, rfl⟩)
  simpa using this
theorem ix_none {α : Type} {nm : α → ByteArray} {l : List α} {s : ByteArray} (h : ∀ y ∈ l, ¬ nm y = s) : ix nm l s = none := by
  unfold ix
  rw [List.findIdx?_eq_none_iff]
  intro x hx
  simpa using h x hx
theorem ix_lt {α : Type} {nm : α → ByteArray} {l : List α} {s : ByteArray} {k : Nat} (h : ix nm l s = some k) : ∃ hk : k < l.length, nm l[k] = s := by
  unfold ix at h
  rw [List.findIdx?_eq_some_iff_getElem] at h
  obtain ⟨hk, h1, _⟩ := h
  exact ⟨hk, by simpa using h1⟩
theorem ix_isNone {α : Type} {nm : α → ByteArray} {l : List α} {s : ByteArray} : ix nm l s = none ↔ ∀ y ∈ l, ¬ nm y = s := by
  unfold ix
  rw [List.findIdx?_eq_none_iff]
  simp

/-- The place of a class. -/
def at' (t : List C) (s : ByteArray) : Option Nat := ix C.name t s
def nth (t : List C) (i : Nat) : C := t.getD i default

theorem nth_of {t : List C} {i : Nat} {c : C} (h : t[i]? = some c) : nth t i = c := by
  unfold nth
  rw [List.getD_eq_getElem?_getD, h]; rfl
theorem of_nth {t : List C} {i : Nat} (h : i < t.length) : t[i]? = some (nth t i) := by
  unfold nth
  rw [List.getD_eq_getElem?_getD, List.getElem?_eq_getElem h]; rfl

/-- The line, from a name on, where the classes at some places have been passed. -/
def lineF (t : List C) : Nat → List Nat → ByteArray → List Nat
  | 0, _, _ => []
  | n + 1, ps, s => match at' t s with
    | none => []
    | some i => if i ∈ ps then [] else i :: lineF t n (ps ++ [i]) (nth t i).super
def line (t : List C) (s : ByteArray) : List Nat := lineF t (t.length + 1) [] s

theorem lineF_none {t : List C} {n : Nat} {ps : List Nat} {s : ByteArray} (h : at' t s = none) : lineF t n ps s = [] := by
  cases n with
  | zero => rfl
  | succ n => unfold lineF; rw [h]
theorem lineF_passed {t : List C} {n : Nat} {ps : List Nat} {s : ByteArray} {i : Nat} (h : at' t s = some i) (hp : i ∈ ps) : lineF t n ps s = [] := by
  cases n with
  | zero => rfl
  | succ n => unfold lineF; rw [h]; exact if_pos hp
theorem lineF_goes {t : List C} {n : Nat} {ps : List Nat} {s : ByteArray} {i : Nat} (h : at' t s = some i) (hp : i ∉ ps) : lineF t (n + 1) ps s = i :: lineF t n (ps ++ [i]) (nth t i).super := by
  conv => lhs; unfold lineF
  rw [h]; exact if_neg hp

theorem lineF_lt (t : List C) : ∀ n ps s i, i ∈ lineF t n ps s → i < t.length
  | 0, _, _, _, h => by cases h
  | n + 1, ps, s, i, h => by
    unfold lineF at h
    split at h
    · cases h
    · rename_i k hk
      split at h
      · cases h
      · rcases List.mem_cons.1 h with rfl | h
        · exact (ix_lt hk).1
        · exact lineF_lt t n _ _ i h
theorem line_lt {t : List C} {s : ByteArray} {i : Nat} (h : i ∈ line t s) : i < t.length := lineF_lt t _ _ _ i h

/-- Places that differ are no more than there are. -/
theorem places_le : ∀ (n : Nat) (ps : List Nat), ps.Nodup → (∀ i ∈ ps, i < n) → ps.length ≤ n
  | 0, ps, _, hl => by
    cases ps with
    | nil => exact Nat.le_refl _
    | cons a r => exact absurd (hl a (List.mem_cons_self ..)) (by omega)
  | n + 1, ps, h, hl => by
    by_cases hn : n ∈ ps
    · have h1 := places_le n (ps.erase n) (h.erase n) fun i hi => by
        have := (h.mem_erase_iff).1 hi
        have := hl i this.2
        omega
      rw [List.length_erase_of_mem hn] at h1
      omega
    · have h1 := places_le n ps h fun i hi => by
        have := hl i hi
        have : i ≠ n := fun e => hn (e ▸ hi)
        omega
      omega

theorem lineF_len (t : List C) : ∀ n ps s, (lineF t n ps s).length ≤ n
  | 0, _, _ => Nat.le_refl _
  | n + 1, ps, s => by
    unfold lineF
    split
    · exact Nat.zero_le _
    · split
      · exact Nat.zero_le _
      · exact Nat.succ_le_succ (lineF_len t n _ _)
theorem line_len (t : List C) (s : ByteArray) : (line t s).length ≤ t.length + 1 := lineF_len t _ _ _

def supers (t : List C) (s : ByteArray) : List ByteArray := (line t s).map fun i => (nth t i).name
def fields (t : List C) (s : ByteArray) : List V := (line t s).reverse.flatMap fun i => (nth t i).fields
def addM (l : List M) (m : M) : List M := match ix M.name l m.name with
  | some k => l.set k m
  | none => l ++ [m]
def methods (t : List C) (s : ByteArray) : List M := ((line t s).reverse.flatMap fun i => (nth t i).methods).foldl addM []
def fieldOf (nm : ByteArray) (c : C) : Option ByteArray := (ix V.name c.fields nm).bind fun k => (c.fields[k]?).map (·.typ)
def field (t : List C) (s nm : ByteArray) : Option ByteArray := (line t s).foldl (fun a i => (fieldOf nm (nth t i)).or a) none
def methodOf (nm : ByteArray) (c : C) : Option M := (ix M.name c.methods nm).bind fun k => c.methods[k]?
def method (t : List C) (s nm : ByteArray) : Option (M × ByteArray) := (line t s).findSome? fun i => (methodOf nm (nth t i)).map fun m => (m, (nth t i).name)
def members (t : List C) (s : ByteArray) : List (ByteArray × Int) := (fields t s).map (fun x => (x.name, (-1 : Int))) ++ (methods t s).map fun m => (m.name, (m.params.length : Int))
def lastOf (nm : ByteArray) (l : List M) : Option M := l.reverse.find? fun m => decide (m.name = nm)
def arity (t : List C) (s nm : ByteArray) : Option Int := if (field t s nm).isSome then some (-1) else (line t s).findSome? fun i => (lastOf nm (nth t i).methods).map fun m => (m.params.length : Int)


def chkType (t : List C) (s : ByteArray) : Int := if Wrd.kind s = 0 then 5 else if Wrd.kind s = 3 then (if (ix C.name t s).isSome then 0 else 6) else 0
def chkVar (t : List C) (x : V) : Int := if Wrd.name x.name then chkType t x.typ else 5
def chkPs (t : List C) : List V → List V → Int
  | _, [] => 0
  | pre, p :: r => if chkVar t p = 0 then (if (ix V.name pre p.name).isSome then 8 else chkPs t (pre ++ [p]) r) else chkVar t p
def chkSig (t : List C) (m : M) : Int := if Wrd.name m.name then (if chkPs t [] m.params = 0 then chkType t m.res else chkPs t [] m.params) else 5
def sameTys (a b : List V) : Bool := decide (a.length = b.length) && (a.zip b).all fun x => decide (x.1.typ = x.2.typ)
def sameSig (a b : M) : Bool := decide (a.res = b.res) && sameTys a.params b.params

def chkHead (t : List C) (i : Nat) : Int :=
  if Wrd.cls (nth t i).name then (if (ix C.name (t.take i) (nth t i).name).isSome then 8 else if 20 < (nth t i).fields.length then 12 else if 20 < (nth t i).methods.length then 12 else
    if (nth t i).methods.any (fun m => decide (8 < m.params.length)) then 12 else 0) else 5
def chkSuper (t : List C) (i : Nat) : Int :=
  if (nth t i).super = ⟨#[]⟩ then 0 else if (ix C.name t (nth t i).super).isSome then (if (line t (nth t i).super).any (fun j => decide ((nth t j).name = (nth t i).name)) then 9 else 0) else 6

/-- What a class has by a name: a method, one's own or not; or a field. -/
abbrev Held := ByteArray → Option (Option M × Bool)
def Held.put (h : Held) (s : ByteArray) (x : Option M × Bool) : Held := fun y => if y = s then some x else h y
def inhC (h : Held) (c : C) : Held := c.methods.foldl (fun h m => if (h m.name).isSome then h else h.put m.name (some m, false)) (c.fields.foldl (fun h f => h.put f.name (none, false)) h)
def inh (t : List C) (s : ByteArray) : Held := (line t s).foldl (fun h i => inhC h (nth t i)) fun _ => none
def chkFs (t : List C) : Held → List V → Int × Held
  | h, [] => (0, h)
  | h, f :: r => if chkVar t f = 0 then (if (h f.name).isSome then (8, h) else chkFs t (h.put f.name (none, false)) r) else (chkVar t f, h)
def chkM1 (h : Held) (m : M) : Int := match h m.name with
  | none => 0
  | some (o, own) => if own then 8 else match o with
    | none => 8
    | some x => if sameSig x m then 0 else 10
def chkMs (t : List C) : Held → List M → Int
  | _, [] => 0
  | h, m :: r => if chkSig t m = 0 then (if chkM1 h m = 0 then chkMs t (h.put m.name (some m, true)) r else chkM1 h m) else chkSig t m
def chkMembers (t : List C) (i : Nat) : Int :=
  if (chkFs t (inh t (nth t i).super) (nth t i).fields).1 = 0 then chkMs t (chkFs t (inh t (nth t i).super) (nth t i).fields).2 (nth t i).methods else (chkFs t (inh t (nth t i).super) (nth t i).fields).1

/-- The first fault of a round. -/
def chkRound (f : Nat → Int) : Nat → Nat → Int × Int
  | _, 0 => (0, 0)
  | i, n + 1 => if f i = 0 then chkRound f (i + 1) n else (f i, i)
def check (t : List C) : Int × Int :=
  if 40 < t.length then (12, 40) else
  if (chkRound (chkHead t) 0 t.length).1 = 0 then
    (if (chkRound (chkSuper t) 0 t.length).1 = 0 then chkRound (chkMembers t) 0 t.length else chkRound (chkSuper t) 0 t.length)
  else chkRound (chkHead t) 0 t.length

theorem kind_cases (s : ByteArray) : Wrd.kind s = 0 ∨ Wrd.kind s = 1 ∨ Wrd.kind s = 2 ∨ Wrd.kind s = 3 := by
  unfold Wrd.kind
  split
  · exact .inr (.inl rfl)
  · split
    · exact .inr (.inr (.inl rfl))
    · split
      · exact .inr (.inr (.inr rfl))
      · exact .inl rfl
end Go.Proofs.YtfkmnpgpfmkjaaaGreatDoor.Tab
namespace Go.Proofs.YtfkmnpgpfmkjaaaGreatDoor
namespace Lx

structure T where
  kind : Int
  text : ByteArray
  n : Int
  pos : Int

/-- Of what kind a byte is: 1 blank, 2 letter, 3 digit, 4 quotation mark, 0 another one. -/
def kd (c : UInt8) : Nat :=
  if c.toNat = 32 ∨ c.toNat = 9 ∨ c.toNat = 10 ∨ c.toNat = 13 then 1
  else if (97 ≤ c.toNat ∧ c.toNat ≤ 122) ∨ (65 ≤ c.toNat ∧ c.toNat ≤ 90) then 2
  else if 48 ≤ c.toNat ∧ c.toNat ≤ 57 then 3
  else if c.toNat = 34 then 4 else 0
def dg (c : UInt8) : Bool := kd c == 3
def an (c : UInt8) : Bool := kd c == 3 || kd c == 2
def nl (c : UInt8) : Bool := !(c.toNat == 10)
def pr (c : UInt8) : Bool := decide (32 ≤ c.toNat) && decide (c.toNat ≤ 126)
def meant (c : UInt8) : Option UInt8 := if c.toNat = 34 then some 34 else if c.toNat = 92 then some 92 else if c.toNat = 110 then some 10 else none
def spelt (c : UInt8) : List UInt8 := if c.toNat = 34 then [92, 34] else if c.toNat = 92 then [92, 92] else if c.toNat = 10 then [92, 110] else [c]

/-- How many at the beginning are such. -/
def run (f : UInt8 → Bool) : List UInt8 → Nat
  | [] => 0
  | c :: r => if f c then run f r + 1 else 0

theorem run_le (f : UInt8 → Bool) : ∀ l, run f l ≤ l.length
  | [] => Nat.le_refl _
  | c :: r => by
    rw [run]; have := run_le f r
    split <;> simp <;> omega

/-- Blanks at the beginning; within a comment, or not. -/
def skip : Bool → List UInt8 → Nat
  | _, [] => 0
  | true, c :: r => skip (nl c) r + 1
  | false, c :: r => if kd c = 1 then skip false r + 1 else if c.toNat = 47 ∧ (r.headD 0).toNat = 47 then skip true r + 1 else 0

theorem skip_le : ∀ (b : Bool) (l : List UInt8), skip b l ≤ l.length
  | b, [] => by cases b <;> exact Nat.le_refl _
  | true, c :: r => by rw [skip]; have := skip_le (nl c) r; simp; omega
  | false, c :: r => by
    rw [skip]; have := skip_le false r; have := skip_le true r
    split
    · simp; omega
    · split <;> simp <;> omega

/-- A comment goes to the end of its line. -/
theorem skip_line : ∀ (l : List UInt8), skip true l = run nl l + skip false (l.drop (run nl l))
  | [] => rfl
  | c :: r => by
    rw [skip, run]
    cases h : nl c with
    | true => simp only [if_pos]; rw [skip_line r]; simp; omega
    | false =>
      simp only [Bool.false_eq_true, if_false, List.drop_zero, Nat.zero_add]
      rw [skip, if_pos]
      unfold nl at h; simp at h
      unfold kd; rw [if_pos (by omega)]

def val (l : List UInt8) : Nat := l.foldl (fun a c => 10 * a + (c.toNat - 48)) 0

/-- What is read of a text behind its first mark: its bytes; how many are gone through; why it stops (0 at its mark, 1 at a byte that may not be, 2 at the end). -/
def txt : Bool → List UInt8 → List UInt8 × Nat × Nat
  | _, [] => ([], 0, 2)
  | true, c :: r => match meant c with
    | some m => (m :: (txt false r).1, (txt false r).2.1 + 1, (txt false r).2.2)
    | none => ([], 0, 1)
  | false, c :: r =>
    if c.toNat = 92 then ((txt true r).1, (txt true r).2.1 + 1, (txt true r).2.2)
    else if c.toNat = 34 then ([], 0, 0)
    else if pr c then (c :: (txt false r).1, (txt false r).2.1 + 1, (txt false r).2.2)
    else ([], 0, 1)

/-- What is cut off: a token, and how long it is; or why none is, and how far on. -/
inductive R where
  | tok (kind : Int) (text : ByteArray) (n : Int) (len : Nat)
  | bad (e : Int) (off : Nat)

def wordR (w : ByteArray) : R :=
  if 20 < w.size then .bad 4 0 else .tok (if Wrd.key w then 3 else if Wrd.name w then 1 else 2) w 0 w.size
def word (s : List UInt8) : R := wordR ⟨(s.take (run an s)).toArray⟩

def wrong (s : List UInt8) (k : Nat) : Bool := decide (9223372036854775807 < val (s.take k)) || (decide ((s.headD 0).toNat = 48) && decide (1 < k))
def numR (s : List UInt8) (k : Nat) (isR : Bool) : R :=
  if isR then
    if wrong s k || decide (9007199254740992 < val (s.take k)) then .bad 3 0 else if 0 < run an (s.drop (k + 1)) then .bad 5 (k + 1) else .tok 5 ⟨#[]⟩ (val (s.take k)) (k + 1)
  else if wrong s k then .bad 3 0 else if 0 < run an (s.drop k) then .bad 5 k else .tok 4 ⟨#[]⟩ (val (s.take k)) k
def number (s : List UInt8) : R := numR s (run dg s) (decide (((s.drop (run dg s)).headD 0).toNat = 114))

def textR (r : List UInt8 × Nat × Nat) : R :=
  if r.2.2 = 1 then .bad 5 (r.2.1 + 1) else if 1000 < r.1.length then .bad 4 0 else if r.2.2 = 2 then .bad 5 0 else .tok 6 ⟨r.1.toArray⟩ 0 (r.2.1 + 2)
def text (s : List UInt8) : R := textR (txt false s.tail)

def sgs : ByteArray := ⟨#[38, 38, 32, 124, 124, 32, 61, 61, 32, 33, 61, 32, 60, 61, 32, 123, 32, 125, 32, 40, 32, 41, 32, 58, 32, 59, 32, 44, 32, 46, 32, 61, 32, 60, 32, 43, 32, 45, 32, 42, 32, 47, 32, 37, 32, 33, 32, 63]⟩
def sw : List ByteArray := [⟨#[38, 38]⟩, ⟨#[124, 124]⟩, ⟨#[61, 61]⟩, ⟨#[33, 61]⟩, ⟨#[60, 61]⟩, ⟨#[123]⟩, ⟨#[125]⟩, ⟨#[40]⟩, ⟨#[41]⟩, ⟨#[58]⟩, ⟨#[59]⟩, ⟨#[44]⟩, ⟨#[46]⟩, ⟨#[61]⟩, ⟨#[60]⟩, ⟨#[43]⟩, ⟨#[45]⟩, ⟨#[42]⟩, ⟨#[47]⟩, ⟨#[37]⟩, ⟨#[33]⟩, ⟨#[63]⟩]
theorem flds_sgs : Wrd.flds sgs = sw := by kernel_rfl
theorem ascii_sgs : ∀ c ∈ sgs.data.toList, c.toNat < 128 := by decide +kernel
theorem size_sgs : sgs.size ≤ 9223372036854775807 := by decide +kernel
theorem len_sw : sw.length = 22 := rfl

def has (s : List UInt8) (x : ByteArray) : Bool := x.data.toList.isPrefixOf s
def sign (s : List UInt8) : R := match sw.find? (has s) with
  | some x => .tok 7 x 0 x.size
  | none => .bad 5 0

def tokK (q : Nat) (s : List UInt8) : R := if q = 2 then word s else if q = 3 then number s else if q = 4 then text s else sign s
def tok (s : List UInt8) : R := tokK (kd (s.headD 0)) s

abbrev Q := T × Int × Int
def zeroT : T := ⟨0, ⟨#[]⟩, 0, 0⟩

/-- What the iterator tells from a place on; s: what is left there. -/
def seqF : Nat → Nat → List UInt8 → List Q
  | 0, _, _ => []
  | n + 1, p, s =>
    if (s.drop (skip false s)).length = 0 then [] else
    match tok (s.drop (skip false s)) with
    | .bad e o => [(zeroT, e, ((p + skip false s + o : Nat) : Int))]
    | .tok k x v len => (⟨k, x, v, ((p + skip false s : Nat) : Int)⟩, 0, 0) :: seqF n (p + skip false s + len) ((s.drop (skip false s)).drop len)
def seq (l : List UInt8) : List Q := seqF (l.length + 1) 0 l

/-- What is made of what the iterator tells. -/
def resOf : List Q → List T × Int × Int
  | [] => ([], 0, 0)
  | (x, e, a) :: q => if e = 0 then (if (resOf q).2.1 = 0 then (x :: (resOf q).1, 0, 0) else resOf q) else ([], e, a)
def lex (l : List UInt8) : List T × Int × Int := if 20000 < l.length then ([], 4, 20000) else resOf (seq l)

/-- A token is at least one byte long, and lies within what is left. -/
theorem txt_len : ∀ (b : Bool) (l : List UInt8), (txt b l).2.1 ≤ l.length ∧ ((txt b l).2.2 = 0 → (txt b l).2.1 < l.length) ∧ (txt b l).1.length ≤ (txt b l).2.1 ∧ ((txt b l).2.2 = 1 → (txt b l).2.1 < l.length) ∧ (txt b l).2.2 ≤ 2
  | b, [] => by cases b <;> simp [txt]
  | true, c :: r => by
    have h := txt_len false r
    rw [txt]
    cases meant c with
    | none => simp
    | some m => simp; omega
  | false, c :: r => by
    have h := txt_len false r
    have h' := txt_len true r
    rw [txt]
    split
    · simp; omega
    · split
      · simp
      · split
        · simp; omega
        · simp

theorem has_take {s : List UInt8} {x : ByteArray} (h : has s x = true) : x.size ≤ s.length ∧ s.take x.size = x.data.toList := by
  unfold has at h
  rw [List.isPrefixOf_iff_prefix] at h
  obtain ⟨t, rfl⟩ := h
  have e : x.size = x.data.toList.length := by rw [Array.length_toList]; rfl
  constructor
  · rw [e]; simp
  · rw [e]; simp

theorem take_size (s : List UInt8) (k : Nat) (h : k ≤ s.length) : (⟨(s.take k).toArray⟩ : ByteArray).size = k := by
  show (s.take k).toArray.size = k
  simp; omega

theorem run_pos {f : UInt8 → Bool} {c : UInt8} {r : List UInt8} (h : f c = true) : 0 < run f (c :: r) := by rw [run, if_pos h]; omega

theorem sw_pos : ∀ x ∈ sw, 0 < x.size := by decide +kernel

theorem word_len {s : List UInt8} {k : Int} {x : ByteArray} {v : Int} {len : Nat} (hp : 0 < run an s) (h : word s = .tok k x v len) : 0 < len ∧ len ≤ s.length := by
  have hl := run_le an s
  unfold word wordR at h
  rw [take_size _ _ hl] at h
  by_cases h1 : 20 < run an s
  · rw [if_pos h1] at h; cases h
  · rw [if_neg h1] at h; injection h; omega

theorem number_len {s : List UInt8} {k : Int} {x : ByteArray} {v : Int} {len : Nat} (hp : 0 < run dg s) (h : number s = .tok k x v len) : 0 < len ∧ len ≤ s.length := by
  have hl := run_le dg s
  unfold number numR at h
  by_cases hr : ((s.drop (run dg s)).headD 0).toNat = 114
  · have hlt : run dg s < s.length := by
      rcases Nat.lt_or_ge (run dg s) s.length with h | h
      · exact h
      · rw [List.drop_of_length_le h] at hr; simp at hr
    rw [if_pos (by simpa using hr)] at h
    by_cases h1 : (wrong s (run dg s) || decide (9007199254740992 < val (s.take (run dg s)))) = true
    · rw [if_pos h1] at h; cases h
    · rw [if_neg h1] at h
      by_cases h2 : 0 < run an (s.drop (run dg s + 1))
      · rw [if_pos h2] at h; cases h
      · rw [if_neg h2] at h; injection h; omega
  · rw [if_neg (by simpa using hr)] at h
    by_cases h1 : wrong s (run dg s) = true
    · rw [if_pos h1] at h; cases h
    · rw [if_neg h1] at h
      by_cases h2 : 0 < run an (s.drop (run dg s))
      · rw [if_pos h2] at h; cases h
      · rw [if_neg h2] at h; injection h; omega

theorem text_len {s : List UInt8} {k : Int} {x : ByteArray} {v : Int} {len : Nat} (hs : s.length ≠ 0) (h : text s = .tok k x v len) : 0 < len ∧ len ≤ s.length := by
  have ht := txt_len false s.tail
  rw [List.length_tail] at ht
  unfold text textR at h
  by_cases h1 : (txt false s.tail).2.2 = 1
  · rw [if_pos h1] at h; cases h
  · rw [if_neg h1] at h
    by_cases h2 : 1000 < (txt false s.tail).1.length
    · rw [if_pos h2] at h; cases h
    · rw [if_neg h2] at h
      by_cases h3 : (txt false s.tail).2.2 = 2
      · rw [if_pos h3] at h; cases h
      · rw [if_neg h3] at h
        injection h
        have := ht.2.1 (by omega)
        omega

theorem sign_len {s : List UInt8} {k : Int} {x : ByteArray} {v : Int} {len : Nat} (h : sign s = .tok k x v len) : 0 < len ∧ len ≤ s.length := by
  unfold sign at h
  cases hy : sw.find? (has s) with
  | none => rw [hy] at h; cases h
  | some y =>
    rw [hy] at h
    injection h with _ _ _ h4
    have h1 := has_take (List.find?_some hy)
    have h2 := sw_pos _ (List.mem_of_find?_eq_some hy)
    omega

theorem tok_len {s : List UInt8} {k : Int} {x : ByteArray} {v : Int} {len : Nat} (hs : s.length ≠ 0) (h : tok s = .tok k x v len) : 0 < len ∧ len ≤ s.length := by
  obtain ⟨c, r, rfl⟩ : ∃ c r, s = c :: r := by cases s with
    | nil => simp at hs
    | cons c r => exact ⟨c, r, rfl⟩
  have h : tokK (kd c) (c :: r) = .tok k x v len := h
  unfold tokK at h
  by_cases h2 : kd c = 2
  · rw [if_pos h2] at h; exact word_len (run_pos (by unfold an; simp [h2])) h
  · rw [if_neg h2] at h
    by_cases h3 : kd c = 3
    · rw [if_pos h3] at h; exact number_len (run_pos (by unfold dg; simp [h3])) h
    · rw [if_neg h3] at h
      by_cases h4 : kd c = 4
      · rw [if_pos h4] at h; exact text_len hs h
      · rw [if_neg h4] at h; exact sign_len h

theorem seqF_len : ∀ (n p : Nat) (s : List UInt8), (seqF n p s).length ≤ n
  | 0, _, _ => Nat.le_refl _
  | n + 1, p, s => by
    rw [seqF]
    by_cases h : (s.drop (skip false s)).length = 0
    · rw [if_pos h]; exact Nat.zero_le _
    · rw [if_neg h]
      cases tok (s.drop (skip false s)) with
      | bad e o => simp
      | tok k x v len => simp; exact seqF_len n _ _

end Lx
namespace Ps
abbrev T := Lx.T

inductive O (α : Type) where
  | ok (a : α) (r : List T)
  | bad (p : Int)

def O.bind {α β : Type} : O α → (α → List T → O β) → O β
  | .ok a r, f => f a r
  | .bad p, _ => .bad p
theorem O.bind_ok {α β : Type} (a : α) (r : List T) (f : α → List T → O β) : O.bind (.ok a r) f = f a r := rfl
theorem O.bind_bad {α β : Type} (p : Int) (f : α → List T → O β) : O.bind (.bad p) f = .bad p := rfl

abbrev e0 : ByteArray := ⟨#[]⟩
abbrev theEnd : ByteArray := ⟨#[116, 104, 101, 32, 101, 110, 100]⟩
abbrev aName : ByteArray := ⟨#[97, 32, 110, 97, 109, 101]⟩
abbrev aClass : ByteArray := ⟨#[97, 32, 99, 108, 97, 115, 115]⟩
abbrev anInt : ByteArray := ⟨#[97, 110, 32, 105, 110, 116]⟩
abbrev aReal : ByteArray := ⟨#[97, 32, 114, 101, 97, 108]⟩
abbrev aStr : ByteArray := ⟨#[97, 32, 115, 116, 114, 105, 110, 103]⟩
abbrev kComma : ByteArray := ⟨#[44]⟩
abbrev kOpen : ByteArray := ⟨#[40]⟩
abbrev kShut : ByteArray := ⟨#[41]⟩
abbrev kLeft : ByteArray := ⟨#[123]⟩
abbrev kRight : ByteArray := ⟨#[125]⟩
abbrev kColon : ByteArray := ⟨#[58]⟩
abbrev kSemi : ByteArray := ⟨#[59]⟩
abbrev kDot : ByteArray := ⟨#[46]⟩
abbrev kEq : ByteArray := ⟨#[61]⟩
abbrev kMinus : ByteArray := ⟨#[45]⟩
abbrev kBang : ByteArray := ⟨#[33]⟩
abbrev kAny : ByteArray := ⟨#[63]⟩

/-- What the grammar calls tokens of a kind, and a token. -/
def srtK (k : Int) : ByteArray := if k = 0 then theEnd else if k = 1 then aName else if k = 2 then aClass else if k = 4 then anInt else if k = 5 then aReal else if k = 6 then aStr else e0
def srt (t : T) : ByteArray := if t.kind = 3 then t.text else if t.kind = 7 then t.text else srtK t.kind
def hd : List T → ByteArray
  | [] => e0
  | t :: _ => srt t
def at0 : List T → Int
  | [] => 0
  | t :: _ => t.pos
def mem (ss : List ByteArray) (x : ByteArray) : Bool := ss.any fun s => decide (s = x)
def is (ss : List ByteArray) (l : List T) : Bool := mem ss (hd l)
def take (ss : List ByteArray) : List T → O T
  | [] => .bad 0
  | t :: r => if mem ss (srt t) then .ok t r else .bad t.pos

def nd (k : Int) (t y : ByteArray) (n : Int) (ks : List Nd) : Nd := .mk k t y e0 n ks

inductive W where
  | expr
  | oper (i : Nat)
  | unary
  | block
abbrev Fam := W → List T → O Nd

def levels : Nat → List ByteArray
  | 0 => [⟨#[124, 124]⟩]
  | 1 => [⟨#[38, 38]⟩]
  | 2 => [⟨#[61, 61]⟩, ⟨#[33, 61]⟩]
  | 3 => [⟨#[60]⟩, ⟨#[60, 61]⟩]
  | 4 => [⟨#[43]⟩, ⟨#[45]⟩]
  | 5 => [⟨#[42]⟩, ⟨#[47]⟩, ⟨#[37]⟩]
  | _ => []

def typs : List ByteArray := [⟨#[105, 110, 116]⟩, ⟨#[114, 101, 97, 108]⟩, ⟨#[98, 111, 111, 108]⟩, ⟨#[115, 116, 114]⟩, ⟨#[117, 110, 105, 116]⟩, kAny, aClass]
def typ (l : List T) : O ByteArray := (take typs l).bind fun t r => .ok t.text r
def annot (l : List T) : O ByteArray := if is [kColon] l then typ l.tail else .ok kAny l
def param (l : List T) : O Nd := (take [aName] l).bind fun t r => (annot r).bind fun y r => .ok (nd 5 t.text y 0 []) r
def field (l : List T) : O Nd := (take [⟨#[118, 97, 114]⟩] l).bind fun _ r => (take [aName] r).bind fun t r => (annot r).bind fun y r => (take [kSemi] r).bind fun _ r => .ok (nd 3 t.text y 0 []) r

def listLoop (part : List T → O Nd) : Nat → List Nd → List T → O (List Nd)
  | 0, _, _ => .bad 0
  | k + 1, acc, l => if is [kComma] l then (part l.tail).bind fun x r => listLoop part k (acc ++ [x]) r else (take [kShut] l).bind fun _ r => .ok acc r
def list (part : List T → O Nd) (l : List T) : O (List Nd) :=
  (take [kOpen] l).bind fun _ r => if is [kShut] r then .ok [] r.tail else (part r).bind fun x r => listLoop part (r.length + 1) [x] r

section
variable (F : Fam)
def args (l : List T) : O (List Nd) := list (F .expr) l
def operand (l : List T) : O (List Nd) := (take [kOpen] l).bind fun _ r => (F .expr r).bind fun x r => (take [kShut] r).bind fun _ r => .ok [x] r

/-- The ways of a prim, each told the prim's first token. -/
def wWhole (t : T) (l : List T) : O Nd := .ok (nd 7 e0 e0 t.n []) l
def wReal (t : T) (l : List T) : O Nd := .ok (nd 8 e0 e0 t.n []) l
def wNoNumber (t : T) (l : List T) : O Nd := .ok (nd 8 t.text e0 0 []) l
def wYes (_ : T) (l : List T) : O Nd := .ok (nd 9 e0 e0 1 []) l
def wNo (_ : T) (l : List T) : O Nd := .ok (nd 9 e0 e0 0 []) l
def wText (t : T) (l : List T) : O Nd := .ok (nd 10 t.text e0 0 []) l
def wBrackets (_ : T) (l : List T) : O Nd :=
  if is [kShut] l then .ok (nd 11 e0 e0 0 []) l.tail else (F .expr l).bind fun x r => if is [kColon] r then (typ r.tail).bind fun y r => (take [kShut] r).bind fun _ r => .ok (nd 28 e0 y 0 [x]) r else (take [kShut] r).bind fun _ r => .ok x r
def wNone (_ : T) (l : List T) : O Nd := (take [aClass] l).bind fun t r => .ok (nd 12 e0 t.text 0 []) r
def wThis (_ : T) (l : List T) : O Nd := .ok (nd 13 e0 e0 0 []) l
def wVar (t : T) (l : List T) : O Nd := .ok (nd 14 t.text e0 0 []) l
def wSuper (_ : T) (l : List T) : O Nd := (take [kDot] l).bind fun _ r => (take [aName] r).bind fun t r => (args F r).bind fun av r => .ok (nd 20 t.text e0 0 av) r
def wObject (_ : T) (l : List T) : O Nd := (take [aClass] l).bind fun t r => (args F r).bind fun av r => .ok (nd 21 e0 t.text 0 av) r
def wChoice (_ : T) (l : List T) : O Nd := (F .expr l).bind fun c r => (F .block r).bind fun a r => (take [⟨#[101, 108, 115, 101]⟩] r).bind fun _ r => (F .block r).bind fun b r => .ok (nd 22 e0 e0 0 [c, a, b]) r
def wLoop (_ : T) (l : List T) : O Nd := (F .expr l).bind fun c r => (F .block r).bind fun a r => .ok (nd 23 e0 e0 0 [c, a]) r
def wRead (_ : T) (l : List T) : O Nd := (take [kOpen] l).bind fun _ r => (take [kShut] r).bind fun _ r => .ok (nd 26 e0 e0 0 []) r
def wPrint (_ : T) (l : List T) : O Nd := (operand F l).bind fun av r => .ok (nd 27 e0 e0 0 av) r
def wConv (t : T) (l : List T) : O Nd := (operand F l).bind fun av r => .ok (nd 29 t.text e0 0 av) r

def prim : List T → O Nd
  | [] => .bad 0
  | t :: r =>
    if srt t = anInt then wWhole t r else if srt t = aReal then wReal t r
    else if srt t = ⟨#[110, 97, 110]⟩ then wNoNumber t r else if srt t = ⟨#[105, 110, 102]⟩ then wNoNumber t r
    else if srt t = ⟨#[116, 114, 117, 101]⟩ then wYes t r else if srt t = ⟨#[102, 97, 108, 115, 101]⟩ then wNo t r
    else if srt t = aStr then wText t r else if srt t = kOpen then wBrackets F t r
    else if srt t = ⟨#[110, 111, 110, 101]⟩ then wNone t r else if srt t = ⟨#[116, 104, 105, 115]⟩ then wThis t r
    else if srt t = aName then wVar t r else if srt t = ⟨#[115, 117, 112, 101, 114]⟩ then wSuper F t r
    else if srt t = ⟨#[110, 101, 119]⟩ then wObject F t r else if srt t = ⟨#[105, 102]⟩ then wChoice F t r
    else if srt t = ⟨#[119, 104, 105, 108, 101]⟩ then wLoop F t r else if srt t = ⟨#[114, 101, 97, 100]⟩ then wRead t r
    else if srt t = ⟨#[112, 114, 105, 110, 116]⟩ then wPrint F t r else if srt t = ⟨#[114, 101, 97, 108]⟩ then wConv F t r
    else if srt t = ⟨#[105, 110, 116]⟩ then wConv F t r else if srt t = ⟨#[108, 101, 110]⟩ then wConv F t r
    else .bad t.pos

def postLoop : Nat → Nd → List T → O Nd
  | 0, n, l => .ok n l
  | k + 1, n, l => if is [kDot] l then (take [aName] l.tail).bind fun t r => if is [kOpen] r then (args F r).bind fun av r => postLoop k (nd 19 t.text e0 0 (n :: av)) r else postLoop k (nd 17 t.text e0 0 [n]) r else .ok n l
def post (l : List T) : O Nd := (prim F l).bind fun n r => postLoop F r.length n r

def unary : List T → O Nd
  | [] => post F []
  | t :: r => if mem [kMinus, kBang] (srt t) then (F .unary r).bind fun m r' => .ok (nd 24 t.text e0 0 [m]) r' else post F (t :: r)

def lvl (j : Nat) : Nat → Nd → List T → O Nd
  | 0, n, l => .ok n l
  | _ + 1, n, [] => .ok n []
  | k + 1, n, t :: r => if mem (levels j) (srt t) then (F (.oper (j + 1)) r).bind fun m r' => lvl j k (nd 25 t.text e0 0 [n, m]) r' else .ok n (t :: r)
def levs (least : Nat) : Nat → Nd → List T → O Nd
  | 0, n, l => .ok n l
  | j + 1, n, l => if least ≤ j then (lvl F j l.length n l).bind (levs least j) else .ok n l
def oper (i : Nat) (l : List T) : O Nd := (unary F l).bind fun n r => levs F i 6 n r

/-- What may have a = behind it, and what it is with it. -/
def setK (k : Int) : Int := if k = 14 then 16 else if k = 17 then 18 else 0
def expr (l : List T) : O Nd := (oper F 0 l).bind fun n r => if is [kEq] r then (if setK n.kind = 0 then .bad (at0 r) else (F .expr r.tail).bind fun m r => .ok (.mk (setK n.kind) n.text n.typ n.frm n.n (n.kids ++ [m])) r) else .ok n r

def entry (l : List T) : O Nd := if is [⟨#[108, 101, 116]⟩] l then (take [aName] l.tail).bind fun t r => (annot r).bind fun y r => (take [kEq] r).bind fun _ r => (F .expr r).bind fun m r => .ok (nd 15 t.text y 0 [m]) r else F .expr l
def blockLoop : Nat → List Nd → List T → O Nd
  | 0, _, _ => .bad 0
  | k + 1, acc, l => if is [kRight] l then .ok (nd 6 e0 e0 0 acc) l.tail else (entry F l).bind fun x r => if is [kSemi] r then blockLoop k (acc ++ [x]) r.tail else (take [kRight] r).bind fun _ r => .ok (nd 6 e0 e0 0 (acc ++ [x])) r
def block (l : List T) : O Nd := (take [kLeft] l).bind fun _ r => blockLoop F (r.length + 1) [] r

def method (l : List T) : O Nd := (take [⟨#[100, 101, 102]⟩] l).bind fun _ r => (take [aName] r).bind fun t r => (list param r).bind fun av r => (annot r).bind fun y r => (F .block r).bind fun b r => .ok (nd 4 t.text y 0 (av ++ [b])) r
def many (s : ByteArray) (part : List T → O Nd) : Nat → List Nd → List T → O (List Nd)
  | 0, acc, l => .ok acc l
  | k + 1, acc, l => if is [s] l then (part l).bind fun x r => many s part k (acc ++ [x]) r else .ok acc l
def class1 (l : List T) : O Nd := (take [⟨#[99, 108, 97, 115, 115]⟩] l).bind fun _ r => (take [aClass] r).bind fun t r =>
  (if is [kColon] r then (take [aClass] r.tail).bind fun y r => .ok y.text r else .ok e0 r).bind fun y r => (take [kLeft] r).bind fun _ r =>
  (many ⟨#[118, 97, 114]⟩ field r.length [] r).bind fun ks r => (many ⟨#[100, 101, 102]⟩ (method F) r.length ks r).bind fun ks r => (take [kRight] r).bind fun _ r => .ok (nd 2 t.text y 0 ks) r
def program (l : List T) : O Nd := (many ⟨#[99, 108, 97, 115, 115]⟩ (class1 F) l.length [] l).bind fun ks r => (take [⟨#[109, 97, 105, 110]⟩] r).bind fun _ r => (F .block r).bind fun b r => .ok (nd 1 e0 e0 0 (ks ++ [b])) r
end

/-- All parts, to a depth of k. -/
def run : Nat → Fam
  | 0, _, _ => .bad 0
  | k + 1, .expr, l => expr (run k) l
  | k + 1, .oper i, l => oper (run k) i l
  | k + 1, .unary, l => unary (run k) l
  | k + 1, .block, l => block (run k) l

def whole (l : List T) : O Nd := (program (run l.length) l).bind fun n r => (take [theEnd] r).bind fun _ _ => .ok n []
def theEndT (n : Int) : T := { kind := 0, text := e0, n := 0, pos := n }
end Ps
end Go.Proofs.YtfkmnpgpfmkjaaaGreatDoor
namespace Go.Proofs.YtfkmnpgpfmkjaaaGreatDoor
open Go.ChangeShapes Go.WideShapes Go.ChangeAt Go.RowKit

def tCells (x : Lx.T) : List Value := [.int .i64 x.kind, .string x.text, .int .i64 x.n, .int .i64 x.pos]
theorem tCells_len (x : Lx.T) : (tCells x).length = 4 := rfl
theorem info_tok : (Tryz.prog.info? 48).map (fun i => (i.zero, i.size, i.bytes)) = some (some (.agg #[.int .i64 0, .string ⟨#[]⟩, .int .i64 0, .int .i64 0]), 4, 40) := by kernel_rfl

/-- A token in memory; a list of them. -/
def TokR (w : World) (b o : Nat) (x : Lx.T) : Prop := w.cell? ⟨b, o, none⟩ = some (.int .i64 x.kind) ∧ w.cell? ⟨b, o + 1, none⟩ = some (.string x.text) ∧ w.cell? ⟨b, o + 2, none⟩ = some (.int .i64 x.n) ∧ w.cell? ⟨b, o + 3, none⟩ = some (.int .i64 x.pos)
abbrev TksAt (w : World) (v : Value) (l : List Lx.T) : Prop := Row 4 TokR w v l
theorem tks_kept {w w' : World} {v : Value} {l : List Lx.T} (h : TksAt w v l) (k : Kept w w') : TksAt w' v l := h.mono fun _ _ _ r => ⟨k.cell r.1, k.cell r.2.1, k.cell r.2.2.1, k.cell r.2.2.2⟩
open Go.Maps (Keyed)

/-- An element reads as itself. -/
def selfElem : Value → Option (DataW Value × List MemPlace) := fun v => some (.held v, [])

theorem selfElem_inv {v x : Value} {ps : List MemPlace} (h : selfElem v = some (.held x, ps)) : v = x := by
  unfold selfElem at h; cases h; rfl

/-- 'm[k] = v' in a map's literal. -/
theorem wpList_insert_own {P : Program} (w : World) {ops : Array Oper} {rest : List Oper} {o : Oper} {a : Act} {Q : Exit → Act → World → Prop}
    (hg : o.guard = none) (m x v : Operand) (t : TypeId) (hop : o.op = Op.insert t m x v)
    (k e : TypeId) (K : Keyed P k) (ht : P.underlying t = some (.map k e)) (b n : Nat) (D : DataW Value)
    (hm : a.eval m = .map (some b)) (hown : w.ownsMap P k selfElem b n D) (hn : n < maxLen) (key val : Value) (kl : Lit) (hx : a.eval x = key) (hv : a.eval v = val) (hkey : keyOf P k key = some kl)
    (hK : ∀ w', w'.ownsMap P k selfElem b (n + 1) (D.put kl (.held val)) → w.grownBy w' (some b) → wpList P ops Q rest (a.put o.dst undef) w') :
    wpList P ops Q (o :: rest) a w := by
  refine wpList_plain hg fun K' hK' => ?_
  obtain ⟨w', hrun, r1, r2⟩ := hown.update K ht hn hkey (show selfElem val = some (.held val, []) from rfl)
  unfold Oper.wp
  simp [execOp, hop, hm, hx, hv, hrun, Result.andThen]
  exact hK' _ _ (hK w' r1 r2)

end Go.Proofs.YtfkmnpgpfmkjaaaGreatDoor

namespace Go.Proofs.YtfkmnpgpfmkjaaaGreatDoor
open Go.ChangeShapes Go.WideShapes Go.ChangeAt Go.RowKit
open Go.Maps (Keyed)

/-- Block b holds a map that tells f. -/
def MapF (P : Program) (k : TypeId) (b n : Nat) (f : ByteArray → Option Value) (W : World) : Prop :=
  ∃ D : DataW Value, W.ownsMap P k selfElem b n D ∧ Maps.IsMap D ∧ ∀ s, Maps.has D (.string s.data.toList) = (f s).isSome ∧ ∀ v, f s = some v → ∀ z, D.atKey (.string s.data.toList) z = .held v

section
variable {P : Program} {k e t : TypeId} {b n : Nat} {f : ByteArray → Option Value} {W : World}

theorem MapF.made (W : World) (P : Program) (k : TypeId) : MapF P k W.heap.size 0 (fun _ => none) (W.alloc (.map #[] 0)) :=
  ⟨.map [], World.ownsMap_made W P k selfElem, Maps.isMap_empty, fun s => ⟨rfl, fun v h => by cases h⟩⟩

theorem MapF.lt (h : MapF P k b n f W) : b < W.heap.size := by obtain ⟨D, h1, _⟩ := h; exact h1.lt
theorem MapF.mono (h : MapF P k b n f W) {m : Nat} (hm : n ≤ m) : MapF P k b m f W := by obtain ⟨D, h1, h2⟩ := h; exact ⟨D, h1.mono hm, h2⟩

theorem MapF.only {S : Nat → Prop} {W' : World} (h : MapF P k b n f W) (ho : Only S W W') (hs : ¬ S b) : MapF P k b n f W' := by
  obtain ⟨D, ⟨es, clock, hb, rest⟩, h2⟩ := h
  exact ⟨D, ⟨es, clock, (ho.block b (Array.getElem?_eq_some_iff.1 hb).1 hs).trans hb, rest⟩, h2⟩

theorem MapF.look (h : MapF P k b n f W) (K : Keyed P k) (ht : P.underlying t = some (.map k e)) {z : Value} (hz : (zeroValue e).run P W = .ok z W) (s : ByteArray) (hkey : keyOf P k (.string s) = some (.string s.data.toList)) :
    (Instr.lookup t (.map (some b)) (.string s) true).run P W = .ok (.tuple #[(f s).getD z, .bool (f s).isSome]) W := by
  obtain ⟨D, h1, h2, h3⟩ := h
  obtain ⟨v, ps, hr, hv⟩ := h1.look_ok K ht hz (zd := .held z) (zp := []) rfl hkey
  rw [hr, (h3 s).1]
  cases e : f s with
  | none =>
    rw [Maps.atKey_of_not_has (by rw [(h3 s).1, e]; rfl)] at hv
    rw [selfElem_inv hv]
    rfl
  | some x =>
    rw [(h3 s).2 x e] at hv
    rw [selfElem_inv hv]
    rfl

theorem str_ne {a b : ByteArray} (h : ¬ a = b) : (Lit.string a.data.toList) ≠ .string b.data.toList := by
  intro e
  injection e with e
  exact h (ByteArray.ext (Array.toList_inj.1 e))

theorem MapF.store (h : MapF P k b n f W) (K : Keyed P k) (ht : P.underlying t = some (.map k e)) (hn : n < maxLen) (s : ByteArray) (v : Value) (hkey : keyOf P k (.string s) = some (.string s.data.toList)) :
    ∃ W', (Instr.mapUpdate t (.map (some b)) (.string s) v).run P W = .ok () W' ∧ MapF P k b (n + 1) (fun x => if x = s then some v else f x) W' ∧ W.grownBy W' (some b) := by
  obtain ⟨D, h1, h2, h3⟩ := h
  obtain ⟨W', hr, ho, hg⟩ := h1.update K ht hn hkey (show selfElem v = some (.held v, []) from rfl)
  refine ⟨W', hr, ⟨_, ho, h2.put _ _, fun x => ?_⟩, hg⟩
  by_cases hx : x = s
  · subst hx
    refine ⟨by rw [Maps.has_put_same (k := Lit.string x.data.toList) h2 trivial]; simp, fun u hu z => ?_⟩
    rw [Maps.atKey_put_same (k := Lit.string x.data.toList) h2 trivial]
    simp at hu
    rw [hu]
  · refine ⟨by rw [Maps.has_put_other (str_ne hx)]; simp [hx, (h3 x).1], fun u hu z => ?_⟩
    rw [Maps.atKey_put_other (str_ne hx)]
    simp [hx] at hu
    exact (h3 x).2 u hu z
end

section
variable {P : Program} {ops : Array Oper} {Q : Exit → Act → World → Prop} {md : Region.Mode} {S : World → Prop} {lst : Nat}

def wpAnyT (P : Program) (md : Region.Mode) (ops : Array Oper) (Q : Exit → Act → World → Prop) (S : World → Prop) (lst : Nat) : Nat → Array Bool → Act → World → Prop
  | 0, listed, a, w => Region.ready md ops listed = [] ∧ Q .normal a w
  | fuel + 1, listed, a, w =>
    (Region.ready md ops listed = [] → Q .normal a w) ∧
    ∀ i ∈ Region.ready md ops listed, wpOp P ops Q i (fun a' w' => (i = lst ∨ S w') ∧ wpAnyT P md ops Q S lst fuel (listed.setIfInBounds i true) a' w') a w

theorem wpAny_of_T : ∀ (fuel : Nat) (listed : Array Bool) (a : Act) (w : World), wpAnyT P md ops Q S lst fuel listed a w → wpAny P md ops Q fuel listed a w
  | 0, _, _, _, h => h
  | fuel + 1, _, _, _, h => ⟨h.1, fun i hi => wpOp_mono (fun a' w' h' => wpAny_of_T fuel _ a' w' h'.2) (h.2 i hi)⟩

/-- Whatever has come up, all that it waits for has too. -/
def ClosedL (md : Region.Mode) (ops : Array Oper) (listed : Array Bool) : Prop :=
  ∀ k o, ops[k]? = some o → listed.getD k true = true → ∀ e ∈ o.after, Region.binds md e = true → listed.getD e.on false = true
theorem closed_set {listed : Array Bool} {j : Nat} (hc : ClosedL md ops listed) (hj : j ∈ Region.ready md ops listed) : ClosedL md ops (listed.setIfInBounds j true) := by
  intro k o ho hk e he hb
  by_cases hjk : j = k
  · subst hjk
    obtain ⟨_, o', ho', hall⟩ := mem_ready.1 hj
    obtain rfl := Option.some.inj (ho.symm.trans ho')
    exact getD_set_true (hall e he hb)
  · rw [getD_set_ne true hjk] at hk
    exact getD_set_true (hc k o ho hk e he hb)
def closedB (md : Region.Mode) (ops : Array Oper) (listed : Array Bool) : Bool :=
  (List.range ops.size).all fun k => !listed.getD k true || (((ops[k]?).map fun o => o.after.all fun e => !Region.binds md e || listed.getD e.on false).getD true)
/-- Does k wait for i, whatever lies between them? -/
def waitsB (md : Region.Mode) (ops : Array Oper) (i : Nat) : Nat → Nat → Bool
  | 0, _ => false
  | f + 1, k => match ops[k]? with
    | some o => o.after.any fun e => Region.binds md e && (e.on == i || waitsB md ops i f e.on)
    | none => false
theorem waits_listed {listed : Array Bool} {i : Nat} (hc : ClosedL md ops listed) (hi : listed.getD i true = false) : ∀ f k, k < ops.size → waitsB md ops i f k = true → listed.getD k true = true → False := by
  intro f
  induction f with
  | zero => intro k _ h; cases h
  | succ f ih =>
    intro k hk h hl
    unfold waitsB at h
    rw [Array.getElem?_eq_getElem hk] at h
    obtain ⟨e, he, hb⟩ := Array.any_eq_true'.1 h
    simp only [Bool.and_eq_true, Bool.or_eq_true, beq_iff_eq] at hb
    have h1 := hc k _ (Array.getElem?_eq_getElem hk) hl e he hb.1
    rcases hb.2 with rfl | h2
    · rcases Nat.lt_or_ge e.on listed.size with h' | h'
      · simp [h'] at hi h1; rw [hi] at h1; cases h1
      · simp [Array.getElem?_eq_none h'] at h1
    · have hlt : e.on < ops.size := by
        cases f with
        | zero => cases h2
        | succ f =>
          unfold waitsB at h2
          rcases Nat.lt_or_ge e.on ops.size with h' | h'
          · exact h'
          · rw [Array.getElem?_eq_none h'] at h2; cases h2
      refine ih e.on hlt h2 ?_
      rcases Nat.lt_or_ge e.on listed.size with h' | h'
      · simp [h'] at h1 ⊢; exact h1
      · simp [Array.getElem?_eq_none h'] at h1

theorem wpAnyT_first {i : Nat} {oi : Oper} {v : Value} (hi : ops[i]? = some oi) (hsel : ∀ (j : Nat) (o : Oper) cs b, ops[j]? = some o → o.op ≠ .select cs b)
    (hQ : ∀ c a w, Q (.panic c) (a.put oi.dst v) w → Q (.panic c) a w) (hw : ∃ f, waitsB md ops i f lst = true) (hlt : lst < ops.size) :
    ∀ (fuel : Nat) (listed : Array Bool) (a : Act) (w : World), ClosedL md ops listed →
      (∀ j oj, ops[j]? = some oj → j ≠ i → listed.getD j true = false → (∀ e ∈ oj.after, Region.binds md e = true → e.on ≠ i) → oi.apart ops oj = true) →
      i ∈ Region.ready md ops listed → YieldsIf P ops S oi v a → S w →
      wpAnyT P md ops Q S lst fuel (listed.setIfInBounds i true) (a.put oi.dst v) w → wpAnyT P md ops Q S lst (fuel + 1) listed a w := by
  obtain ⟨f, hf⟩ := hw
  intro fuel
  induction fuel with
  | zero =>
    intro listed a w _ _ hr hy hS H
    refine ⟨fun h => (by rw [h] at hr; cases hr), fun j hj => ?_⟩
    by_cases hji : j = i
    · subst hji; exact hy.wpOp hi hS ⟨.inr hS, H⟩
    · have := ready_mono hj hji
      rw [H.1] at this
      cases this
  | succ fuel ih =>
    intro listed a w hc hfree hr hy hS H
    refine ⟨fun h => (by rw [h] at hr; cases hr), fun j hj => ?_⟩
    by_cases hji : j = i
    · subst hji; exact hy.wpOp hi hS ⟨.inr hS, H⟩
    · have h1 := H.2 j (ready_mono hj hji)
      obtain ⟨hjun, oj, hoj, hall⟩ := mem_ready.1 hj
      have hi0 := (mem_ready.1 hr).1
      have hjl : j ≠ lst := fun e => by
        subst e
        have hc' := closed_set hc hj
        refine waits_listed hc' (i := i) (by rw [getD_set_ne true hji]; exact hi0) f j hlt hf ?_
        rcases Nat.lt_or_ge j listed.size with h' | h'
        · simp [h']
        · simp [Array.getElem?_eq_none h']
      have hnot : ∀ e ∈ oj.after, Region.binds md e = true → e.on ≠ i := fun e he hb heq => by
        have h1 := hall e he hb
        rw [heq] at h1
        rcases Nat.lt_or_ge i listed.size with h' | h'
        · simp [h'] at hi0 h1; rw [hi0] at h1; cases h1
        · simp [Array.getElem?_eq_none h'] at h1
      have h2 := wpOp_putIf hoj (hfree j oj hoj hji hjun hnot) (fun cs b => hsel i oi cs b hi) (fun cs b => hsel j oj cs b hoj) hQ hy h1
      have hfree' : ∀ k ok, ops[k]? = some ok → k ≠ i → (listed.setIfInBounds j true).getD k true = false →
          (∀ e ∈ ok.after, Region.binds md e = true → e.on ≠ i) → oi.apart ops ok = true := fun k ok hk hki hun hno => by
        refine hfree k ok hk hki ?_ hno
        by_cases hjk : j = k
        · subst hjk; exact hjun
        · rw [getD_set_ne true hjk] at hun; exact hun
      refine wpOp_mono (fun a' w' h3 => ?_) h2
      have hS' : S w' := h3.2.1.resolve_left hjl
      refine ⟨.inr hS', ih (listed.setIfInBounds j true) a' w' (closed_set hc hj) hfree' (ready_mono hr (Ne.symm hji)) h3.1 hS' ?_⟩
      rw [Array.setIfInBounds_comm _ _ hji]
      exact h3.2.2

theorem closedB_spec {listed : Array Bool} (h : closedB md ops listed = true) : ClosedL md ops listed := by
  intro k o ho hk e he hb
  simp only [closedB, List.all_eq_true, List.mem_range] at h
  have h1 := h k (Array.getElem?_eq_some_iff.1 ho).1
  rw [hk, ho] at h1
  simp only [Bool.not_true, Bool.false_or, Option.map_some, Option.getD_some, Array.all_eq_true_iff_forall_mem, Bool.or_eq_true, Bool.not_eq_true'] at h1
  rcases h1 e he with h2 | h2
  · rw [hb] at h2; cases h2
  · exact h2

theorem wpAnyT_take {i : Nat} {oi : Oper} {v : Value} {fuel : Nat} {listed : Array Bool} {a : Act} {w : World} (hi : ops[i]? = some oi)
    (hs : (Region.noSelect ops && (closedB md ops listed && waitsB md ops i ops.size lst && decide (lst < ops.size))) = true) (hf : Region.free md ops listed i = true) (hr : (Region.ready md ops listed).contains i = true)
    (hQ : ∀ c a w, Q (.panic c) (a.put oi.dst v) w → Q (.panic c) a w) (hy : YieldsIf P ops S oi v a) (hS : S w)
    (h : wpAnyT P md ops Q S lst fuel (listed.setIfInBounds i true) (a.put oi.dst v) w) : wpAnyT P md ops Q S lst (fuel + 1) listed a w := by
  simp only [Bool.and_eq_true, decide_eq_true_eq] at hs
  exact wpAnyT_first hi (Region.noSelect_spec hs.1) hQ ⟨_, hs.2.1.2⟩ hs.2.2 fuel listed a w (closedB_spec hs.2.1.1) (Region.free_spec hi hf) (by simpa using hr) hy hS h

/-- Each of the operations 'rs' comes up next. -/
def AllReadyT (P : Program) (md : Region.Mode) (ops : Array Oper) (Q : Exit → Act → World → Prop) (S : World → Prop) (lst : Nat) (fuel : Nat) (listed : Array Bool) (a : Act) (w : World) (rs : List Nat) : Prop :=
  ∀ i ∈ rs, wpOp P ops Q i (fun a' w' => (i = lst ∨ S w') ∧ wpAnyT P md ops Q S lst fuel (listed.setIfInBounds i true) a' w') a w
theorem AllReadyT.nil {fuel : Nat} {listed : Array Bool} {a : Act} {w : World} : AllReadyT P md ops Q S lst fuel listed a w [] := fun _ h => by cases h
theorem AllReadyT.cons {fuel : Nat} {listed : Array Bool} {a : Act} {w : World} {i : Nat} {o : Oper} {rs : List Nat} (ho : ops[i]? = some o)
    (h : ∀ K' : Act → World → Prop, Shut (∀ a w, S w → (S w → wpAnyT P md ops Q S lst fuel (listed.setIfInBounds i true) a w) → K' a w) → if Region.wanted o (yielded ops a.tmps) = true then Oper.wp P o a w K' Q else K' (a.put o.dst undef) w)
    (hs : AllReadyT P md ops Q S lst fuel listed a w rs) : AllReadyT P md ops Q S lst fuel listed a w (i :: rs) := fun j hj => by
  rcases List.mem_cons.1 hj with rfl | hj
  · exact wpOp_step ho (fun K' hK => h K' (fun a w hS hW => hK a w ⟨.inr hS, hW hS⟩))
  · exact hs j hj
/-- The last one. -/
theorem AllReadyT.fin {fuel : Nat} {listed : Array Bool} {a : Act} {w : World} {o : Oper} (ho : ops[lst]? = some o)
    (h : ∀ K' : Act → World → Prop, Shut (∀ a w, wpAnyT P md ops Q S lst fuel (listed.setIfInBounds lst true) a w → K' a w) → if Region.wanted o (yielded ops a.tmps) = true then Oper.wp P o a w K' Q else K' (a.put o.dst undef) w) :
    AllReadyT P md ops Q S lst fuel listed a w [lst] := fun j hj => by
  obtain rfl := List.mem_singleton.1 hj
  exact wpOp_step ho (fun K' hK => h K' (fun a w hW => hK a w ⟨.inl rfl, hW⟩))
theorem wpAnyT_ready {rs : List Nat} {fuel : Nat} {listed : Array Bool} {a : Act} {w : World} (hr : Region.ready md ops listed = rs) (hne : rs ≠ [])
    (h : AllReadyT P md ops Q S lst fuel listed a w rs) : wpAnyT P md ops Q S lst (fuel + 1) listed a w := ⟨fun h0 => absurd (hr ▸ h0) hne, hr ▸ h⟩
theorem wpAnyT_done {listed : Array Bool} {a : Act} {w : World} (hr : Region.ready md ops listed = []) (h : Q .normal a w) : ∀ fuel, wpAnyT P md ops Q S lst fuel listed a w
  | 0 => ⟨hr, h⟩
  | _ + 1 => ⟨fun _ => h, by rw [hr]; simp⟩
theorem wp_region_till {id : Nat} {a : Act} {w : World} (lst : Nat) (hm : P.follows .mixedOrders = true) (hS : S w.drew)
    (h : S w.drew → wpAnyT P .any ops Q S lst ops.size (Array.replicate ops.size false) a w.drew) : (Code.region id ops true).wp P Q a w :=
  wp_region_any hm (wpAny_of_T _ _ _ _ (h hS))
end
end Go.Proofs.YtfkmnpgpfmkjaaaGreatDoor
namespace Go.Proofs.YtfkmnpgpfmkjaaaGreatDoor
open Go.ChangeShapes Go.WideShapes Go.ChangeAt Go.RowKit
open Ps (O W)

/-- A parser: its block, its map, all that it reads lies below N; its levels; which ways it has. -/
structure PP where
  B : Nat
  m : Nat
  N : Nat
  L : Nat
  s : Nat → Value
  f : ByteArray → Option Value
/-- Blocks that stay as they are while it goes on. -/
def PP.far (p : PP) (b : Nat) : Prop := b ≠ p.B ∧ b < p.N ∧ (p.L ≤ b ∨ b = 0)

/-- A text in memory; a list of them. -/
def StrB (D : Nat → Prop) (w : World) (b o : Nat) (x : ByteArray) : Prop := D b ∧ w.cell? ⟨b, o, none⟩ = some (.string x)
abbrev LvR (D : Nat → Prop) (w : World) (v : Value) (l : List ByteArray) : Prop := Row 1 (StrB D) w v l
theorem slice_of_owns0 {w : World} {base k : Nat} {e : TypeId} {v : Value} {n : Nat} {xs : List Value} (h : w.ownsRow base e k v n xs) : ∃ a c, v = .slice a n c := by
  rcases h.2 with ⟨rfl, rfl⟩ | ⟨g, cap, cur, rfl, _⟩
  · exact ⟨none, 0, rfl⟩
  · exact ⟨_, _, rfl⟩
theorem owns_only0 {S : Nat → Prop} {w w' : World} {base k : Nat} {e : TypeId} {v : Value} {n : Nat} {xs : List Value} (h : w.ownsRow base e k v n xs) (hk : Only S w w') (hs : ∀ g, v.ownBlock = some g → ¬ S g) : w'.ownsRow base e k v n xs := by
  refine ⟨h.1, h.2.imp id ?_⟩
  rintro ⟨g, cap, cur, e1, h1, h2, h3⟩
  exact ⟨g, cap, cur, e1, h1, (hk.block g (Array.getElem?_eq_some_iff.1 h2).1 (hs g (by rw [e1]; rfl))).trans h2, h3⟩
theorem owns_block0 {w : World} {base : Nat} {e : TypeId} {size : Nat} {v : Value} {n : Nat} {xs : List Value} (h : w.ownsRow base e size v n xs) {g : Nat} (hg : v.ownBlock = some g) : base ≤ g := by
  rcases h.2 with ⟨rfl, _⟩ | ⟨g', cap, cur, rfl, hb, _⟩
  · cases hg
  · obtain rfl : g' = g := Option.some.inj hg
    exact hb
theorem owns_base0 {w : World} {base base' k n : Nat} {e : TypeId} {v : Value} {xs : List Value} (h : w.ownsRow base e k v n xs) (hb : base' ≤ base) : w.ownsRow base' e k v n xs := by
  refine ⟨h.1, h.2.imp id ?_⟩
  rintro ⟨g, cap, cur, e1, h1, h2⟩
  exact ⟨g, cap, cur, e1, Nat.le_trans hb h1, h2⟩
theorem cell_only {S : Nat → Prop} {w w' : World} (k : Only S w w') {b o : Nat} (hb : ¬ S b) {v : Value} (hc : w.cell? ⟨b, o, none⟩ = some v) : w'.cell? ⟨b, o, none⟩ = some v := by
  have hlt : b < w.heap.size := World.block_lt_of_cell? w ⟨b, o, none⟩ hc
  rw [← hc]
  exact World.cell?_of_block (w := w) (k.block b hlt hb)
theorem LvR.only {S D : Nat → Prop} {w w' : World} {v : Value} {l : List ByteArray} (h : LvR D w v l) (k : Only S w w') (hs : ∀ b, D b → ¬ S b) : LvR D w' v l := Row.mono h fun b o x h => ⟨h.1, cell_only k (hs _ h.1) h.2⟩
theorem LvR.kept {D : Nat → Prop} {w w' : World} {v : Value} {l : List ByteArray} (h : LvR D w v l) (k : Kept w w') : LvR D w' v l := h.only (S := fun _ => False) (Only.of_kept k) (fun _ _ h => h)
/-- A row made at once. -/
theorem LvR.lit {w : World} {g : Nat} {t : TypeId} (l : List ByteArray) (hb : Blk w g t (l.map Value.string).toArray) (hm : l.length ≤ maxLen) : LvR (fun _ => True) w (.slice (some ⟨g, 0, none⟩) l.length l.length) l :=
  ⟨_, _, rfl, Nat.le_refl _, hm, fun i x hx => ⟨g, 0, rfl, trivial, by rw [hb.cell]; simp [hx]⟩⟩

/-- A token in blocks such as D. -/
def TokB (D : Nat → Prop) (w : World) (b o : Nat) (x : Lx.T) : Prop := D b ∧ TokR w b o x
theorem toks_only {S D : Nat → Prop} {w w' : World} {v : Value} {l : List Lx.T} (h : Row 4 (TokB D) w v l) (k : Only S w w') (hs : ∀ b, D b → ¬ S b) : Row 4 (TokB D) w' v l :=
  Row.mono h fun b o x h => ⟨h.1, cell_only k (hs _ h.1) h.2.1, cell_only k (hs _ h.1) h.2.2.1, cell_only k (hs _ h.1) h.2.2.2.1, cell_only k (hs _ h.1) h.2.2.2.2⟩
/-- All but the first one. -/
theorem row_tail {α : Type} {k : Nat} {R : World → Nat → Nat → α → Prop} {w : World} {b o c n : Nat} {x : α} {l : List α} (h : Row k R w (.slice (some ⟨b, o, none⟩) n c) (x :: l)) : Row k R w (.slice (some ⟨b, o + k, none⟩) l.length (c - 1)) l := by
  obtain ⟨a, c', e, h1, h2, h3⟩ := h
  injection e with e1 e2 e3
  subst e1 e3
  rw [List.length_cons] at h1
  refine ⟨_, _, rfl, by omega, by omega, fun i y hy => ?_⟩
  obtain ⟨b', o', e, r⟩ := h3 (i + 1) y (by simpa using hy)
  injection e with e
  injection e with e1 e2
  subst e1 e2
  exact ⟨b, o + k, rfl, by rw [show o + k + i * k = o + (i + 1) * k by rw [Nat.add_mul]; omega]; exact r⟩
theorem row_head {α : Type} {k : Nat} {R : World → Nat → Nat → α → Prop} {w : World} {a : Option Addr} {c n : Nat} {x : α} {l : List α} (h : Row k R w (.slice a n c) (x :: l)) : ∃ b o, a = some ⟨b, o, none⟩ ∧ n = l.length + 1 ∧ n ≤ c ∧ c ≤ maxLen ∧ R w b o x := by
  obtain ⟨a', c', e, h1, h2, h3⟩ := h
  injection e with e1 e2 e3
  subst e1 e3
  obtain ⟨b, o, e, r⟩ := h3 0 x rfl
  exact ⟨b, o, e, by rw [e2]; rfl, by omega, h2, by simpa using r⟩

namespace Ps
/-- A token such as Go has it. -/
def tokOk (t : T) : Prop := (0 ≤ t.kind ∧ t.kind ≤ 7) ∧ t.text.size ≤ maxLen ∧ -9223372036854775808 ≤ t.n ∧ t.n ≤ 9223372036854775807
/-- Tokens, with the end behind them. -/
def Ends (l : List T) : Prop := ∃ pre n, l = pre ++ [theEndT n]
structure Good (l : List T) : Prop where
  ok : ∀ t ∈ l, tokOk t
  len : l.length ≤ 30000
  ends : Ends l
theorem srt_end (n : Int) : srt (theEndT n) = theEnd := rfl
theorem Ends.tail {t : T} {r : List T} (h : Ends (t :: r)) (hn : srt t ≠ theEnd) : Ends r := by
  obtain ⟨pre, n, e⟩ := h
  cases pre with
  | nil => injection e with e1 e2; subst e1; exact absurd (srt_end n) hn
  | cons p q => injection e with e1 e2; exact ⟨q, n, e2⟩
theorem Good.tail {t : T} {r : List T} (h : Good (t :: r)) (hn : srt t ≠ theEnd) : Good r :=
  ⟨fun x hx => h.ok x (List.mem_cons_of_mem _ hx), by have := h.len; rw [List.length_cons] at this; omega, h.ends.tail hn⟩
theorem Good.ne {l : List T} (h : Good l) : l ≠ [] := by
  obtain ⟨pre, n, e⟩ := h.ends
  rw [e]; simp
theorem Good.cons {l : List T} (h : Good l) : ∃ t r, l = t :: r ∧ tokOk t := by
  cases l with
  | nil => exact absurd rfl h.ne
  | cons t r => exact ⟨t, r, rfl, h.ok t (by simp)⟩
theorem mem_iff {ss : List ByteArray} {x : ByteArray} : mem ss x = true ↔ x ∈ ss := by
  unfold mem
  simp only [List.any_eq_true, decide_eq_true_eq]
  exact ⟨fun ⟨y, hy, e⟩ => e ▸ hy, fun h => ⟨x, h, rfl⟩⟩
theorem mem_f {ss : List ByteArray} {x : ByteArray} : mem ss x = false ↔ x ∉ ss := by
  rw [← mem_iff]; cases mem ss x <;> simp
end Ps

abbrev pT : TypeId := 89
abbrev nT : TypeId := 25
def pC (v : Value) (p : PP) : Array Value := #[v, .map (some p.m), p.s 0, p.s 1, p.s 2, p.s 3, p.s 4, p.s 5]

/-- The table of what the grammar calls tokens of each kind. -/
def Sorts (w : World) : Prop := ∃ t fr, w.heap[0]? = some (.cells #[.string Ps.theEnd, .string Ps.aName, .string Ps.aClass, .string ⟨#[]⟩, .string Ps.anInt, .string Ps.aReal, .string Ps.aStr] t fr)
theorem Sorts.only {S : Nat → Prop} {w w' : World} (h : Sorts w) (k : Only S w w') (hs : ¬ S 0) : Sorts w' := by
  obtain ⟨t, fr, h⟩ := h
  exact ⟨t, fr, (k.block _ (Array.getElem?_eq_some_iff.1 h).1 hs).trans h⟩

/-- What stays as it is while a parser goes on: the map of ways, the levels, the table. -/
structure Sta (p : PP) (w : World) : Prop where
  map : MapF Tryz.prog 9 p.m 20 p.f w
  m : p.far p.m
  so : Sorts w ∧ p.far 0
  lv : ∀ j, j < 6 → LvR p.far w (p.s j) (Ps.levels j)
theorem Sta.only {S : Nat → Prop} {p : PP} {w w' : World} (h : Sta p w) (k : Only S w w') (hs : ∀ b, p.far b → ¬ S b) : Sta p w' :=
  ⟨h.map.only k (hs _ h.m), h.m, ⟨h.so.1.only k (hs _ h.so.2), h.so.2⟩, fun j hj => (h.lv j hj).only k hs⟩

/-- A parser ahead of tokens. -/
structure Pst (p : PP) (l : List Lx.T) (w : World) : Prop where
  blk : ∃ ad c, Blk w p.B pT (pC (.slice ad l.length c) p) ∧ Row 4 (TokB p.far) w (.slice ad l.length c) l
  good : Ps.Good l
  sta : Sta p w
  lt : p.B < p.N ∧ p.N ≤ w.heap.size

section
variable {p : PP} {l r : List Lx.T} {w w' : World}
theorem Pst.hi (h : Pst p l w) : p.B < w.heap.size := Nat.lt_of_lt_of_le h.lt.1 h.lt.2
theorem Pst.onlyF {S : Nat → Prop} (h : Pst p l w) (k : Only S w w') (hB : ¬ S p.B) (hs : ∀ b, p.far b → ¬ S b) : Pst p l w' := by
  obtain ⟨⟨ad, c, hb, hr⟩, h2, h3, h4⟩ := h
  exact ⟨⟨ad, c, hb.only k hB, toks_only hr k hs⟩, h2, h3.only k hs, h4.1, Nat.le_trans h4.2 k.size⟩
theorem Pst.only {S : Nat → Prop} (h : Pst p l w) (k : Only S w w') (hs : ∀ b, b < p.N → ¬ S b) : Pst p l w' := h.onlyF k (hs _ h.lt.1) (fun b hb => hs b hb.2.1)
theorem Pst.kept (h : Pst p l w) (k : Kept w w') : Pst p l w' := h.only (S := fun _ => False) (Only.of_kept k) (fun _ _ h => h)
theorem Pst.alloc (h : Pst p l w) (o : Obj) : Pst p l (w.alloc o) := h.kept ((Kept.refl w).alloc o)
theorem Pst.drew (h : Pst p l w) : Pst p l w.drew := h.kept (Kept.refl w).drew
/-- The parser one token on. -/
theorem Pst.next {ad : Option Addr} {c : Nat} (hg : Ps.Good r) (hs : Sta p w) (hl : p.B < p.N ∧ p.N ≤ w.heap.size) (hr : Row 4 (TokB p.far) w (.slice ad r.length c) r)
    (ho : Only (· = p.B) w w') (hb : Blk w' p.B pT (pC (.slice ad r.length c) p)) : Pst p r w' := ⟨⟨_, _, hb, toks_only hr ho (fun b h => h.1)⟩, hg, hs.only ho (fun b h => h.1), hl.1, Nat.le_trans hl.2 ho.size⟩
end

/-- A node's kids in a row of one's own; all that belongs to them lies behind base. -/
def KRowD (D : Nat → Prop) (base : Nat) (w : World) (v : Value) (ks : List (Nd × Value)) : Prop :=
  w.ownsRow base nT 6 v ks.length (ks.flatMap fun p => ndC p.1 p.2) ∧ ∀ p ∈ ks, p.1.ok1 ∧ KidsD (fun k => D k ∧ v.ownBlock ≠ some k) w p.2 p.1.kids
def KRow (base : Nat) (w : World) (v : Value) (ks : List (Nd × Value)) : Prop := KRowD (fun k => base ≤ k) base w v ks
theorem KRowD.only {S D : Nat → Prop} {base : Nat} {w w' : World} {v : Value} {ks : List (Nd × Value)} (h : KRowD D base w v ks) (k : Only S w w') (h1 : ∀ k, v.ownBlock = some k → ¬ S k) (h2 : ∀ k, D k → ¬ S k) : KRowD D base w' v ks :=
  ⟨owns_only0 h.1 k h1, fun p hp => ⟨(h.2 p hp).1, (h.2 p hp).2.only k (fun k hk => h2 k hk.1)⟩⟩
theorem KRowD.mono {D E : Nat → Prop} {base : Nat} {w : World} {v : Value} {ks : List (Nd × Value)} (h : KRowD D base w v ks) (hd : ∀ k, k < w.heap.size → D k → E k) : KRowD E base w v ks :=
  ⟨h.1, fun p hp => ⟨(h.2 p hp).1, (h.2 p hp).2.mono fun k hk hd' => ⟨hd k hk hd'.1, hd'.2⟩⟩⟩

theorem ndC_len (p : Nd × Value) : (ndC p.1 p.2).length = 6 := rfl

section
variable {base : Nat} {w w' : World} {v : Value} {ks : List (Nd × Value)}
theorem KRow.nil (base : Nat) (w : World) : KRow base w (.slice none 0 0) [] := ⟨World.ownsRow_nil w base nT 6, fun p hp => by cases hp⟩
theorem KRow.slice (h : KRow base w v ks) : ∃ a c, v = .slice a ks.length c := slice_of_owns0 h.1
theorem KRow.only {S : Nat → Prop} (h : KRow base w v ks) (k : Only S w w') (hs : ∀ k, base ≤ k → ¬ S k) : KRow base w' v ks :=
  ⟨owns_only0 h.1 k (fun g hg => hs g (owns_block0 h.1 hg)), fun p hp => ⟨(h.2 p hp).1, (h.2 p hp).2.only k (fun k hk => hs k hk.1)⟩⟩
theorem KRow.kept (h : KRow base w v ks) (k : Kept w w') : KRow base w' v ks := h.only (S := fun _ => False) (Only.of_kept k) (fun _ _ h => h)
theorem KRow.lower {b' : Nat} (h : KRow base w v ks) (hb : b' ≤ base) : KRow b' w v ks :=
  ⟨owns_base0 h.1 hb, fun p hp => ⟨(h.2 p hp).1, (h.2 p hp).2.mono fun k _ hk => ⟨Nat.le_trans hb hk.1, hk.2⟩⟩⟩
/-- The kids themselves. -/
theorem KRow.kids (h : KRow base w v ks) : KidsD (fun k => base ≤ k) w v (ks.map (·.1)) := by
  rcases h.1.2 with ⟨rfl, hl0⟩ | ⟨g, cap, cur, rfl, hg1, hg2, hg3, hg4, hg5, hg6⟩
  · obtain rfl : ks = [] := List.eq_nil_of_length_eq_zero hl0
    exact Row.nil
  · refine ⟨_, cap, by rw [List.length_map], by rw [List.length_map]; exact hg3, hg4, fun i x hx => ⟨g, 0, rfl, ?_⟩⟩
    rw [List.getElem?_map] at hx
    obtain ⟨p, hp, rfl⟩ := Option.map_eq_some_iff.1 hx
    obtain ⟨hok, hk⟩ := h.2 p (List.mem_of_getElem? hp)
    obtain ⟨a, c, e, h1, h2, h3⟩ := hk
    have hk' : KidsD (fun k => base ≤ k) w (.slice a p.1.kids.length c) p.1.kids := ⟨a, c, rfl, h1, h2, fun i x hx => by obtain ⟨b, o, e, r⟩ := h3 i x hx; exact ⟨b, o, e, r.mono fun k _ hk => hk.1⟩⟩
    refine NdD.shut (ad := a) (c := c) (fun j u hu => ?_) hok hk' hg1
    rw [← e] at hu
    have hj : j < 6 := by
      rcases Nat.lt_or_ge j 6 with h | h
      · exact h
      · rw [List.getElem?_eq_none (by rw [ndC_len]; exact h)] at hu; cases hu
    have c0 := h.1.cells (g := g) rfl _ _ ((flat_at (fun p : Nd × Value => ndC p.1 p.2) ndC_len ks i j p hp hj).trans hu)
    rw [Addr.add_lit] at c0
    simpa [Nat.add_assoc] using c0
end

theorem cell_size {w w' : World} {S : Nat → Prop} (h : Only S w w') : w.heap.size ≤ w'.heap.size := h.size

/-- A result's cells, written one by one. -/
def put4t (W : World) (g : Nat) (t : Lx.T) : World := (((W.setCell ⟨g, 0, none⟩ (.int .i64 t.kind)).setCell ⟨g, 1, none⟩ (.string t.text)).setCell ⟨g, 2, none⟩ (.int .i64 t.n)).setCell ⟨g, 3, none⟩ (.int .i64 t.pos)
theorem put4t_blk {W : World} {g : Nat} {a b c d : Value} (h : Blk W g 48 #[a, b, c, d]) (t : Lx.T) : Blk (put4t W g t) g 48 #[.int .i64 t.kind, .string t.text, .int .i64 t.n, .int .i64 t.pos] := by
  have := (((h.put 0 (.int .i64 t.kind)).put 1 (.string t.text)).put 2 (.int .i64 t.n)).put 3 (.int .i64 t.pos)
  simpa [put4t] using this
theorem put4t_only (W : World) (g : Nat) (t : Lx.T) : Only (· = g) W (put4t W g t) := ((((Only.refl _ W).put 0 _).put 1 _).put 2 _).put 3 _
def put6n (W : World) (g : Nat) (x : Nd) (v : Value) : World := (((((W.setCell ⟨g, 0, none⟩ (.int .i64 x.kind)).setCell ⟨g, 1, none⟩ (.string x.text)).setCell ⟨g, 2, none⟩ (.string x.typ)).setCell ⟨g, 3, none⟩ (.string x.frm)).setCell ⟨g, 4, none⟩ (.int .i64 x.n)).setCell ⟨g, 5, none⟩ v
theorem put6n_blk {W : World} {g : Nat} {a b c d e h : Value} (hb : Blk W g nT #[a, b, c, d, e, h]) (x : Nd) (v : Value) : Blk (put6n W g x v) g nT (ndC x v).toArray := by
  have := (((((hb.put 0 (.int .i64 x.kind)).put 1 (.string x.text)).put 2 (.string x.typ)).put 3 (.string x.frm)).put 4 (.int .i64 x.n)).put 5 v
  simpa [put6n, ndC] using this
theorem put6n_only (W : World) (g : Nat) (x : Nd) (v : Value) : Only (· = g) W (put6n W g x v) := ((((((Only.refl _ W).put 0 _).put 1 _).put 2 _).put 3 _).put 4 _).put 5 _

theorem tok_results {fn : Func} {p : Tmp} (h : fn.results = #[.cell p 48]) (tmps : Array Value) (W : World) {g : Nat} {x0 x1 x2 x3 : Value}
    (hp : tmps.getD p undef = .pointer (some ⟨g, 0, none⟩)) (hg : Blk W g 48 #[x0, x1, x2, x3]) : (results fn tmps).run Tryz.prog W = .ok (.agg #[x0, x1, x2, x3]) W :=
  results_cell_row (P := Tryz.prog) h tmps W g 48 #[x0, x1, x2, x3] (0, 0) _ hp hg Tryz.underlying48 (by rfl) (by kernel_rfl)
theorem nd_results {fn : Func} {p : Tmp} (h : fn.results = #[.cell p 25]) (tmps : Array Value) (W : World) {g : Nat} {x : Nd} {v : Value}
    (hp : tmps.getD p undef = .pointer (some ⟨g, 0, none⟩)) (hg : Blk W g nT (ndC x v).toArray) : (results fn tmps).run Tryz.prog W = .ok (ndV x v) W :=
  results_cell_row (P := Tryz.prog) h tmps W g 25 (ndC x v).toArray (0, 0) _ hp hg Tryz.underlying25 (by rfl) (by kernel_rfl)

/-- A token as a value; the panic of a source that has no tree. -/
abbrev tAgg (t : Lx.T) : Value := .agg #[.int .i64 t.kind, .string t.text, .int .i64 t.n, .int .i64 t.pos]
abbrev refV (e q : Int) : List PanicEntry := [{ v := .iface 53 (.agg #[.int .i64 e, .int .i64 q]), recovered := false }]
theorem field_tok0 (t : Lx.T) (w : World) : (Instr.field 48 (tAgg t) 0).run Tryz.prog w = .ok (.int .i64 t.kind) w := by kernel_rfl
theorem field_tok1 (t : Lx.T) (w : World) : (Instr.field 48 (tAgg t) 1).run Tryz.prog w = .ok (.string t.text) w := by kernel_rfl
theorem field_tok2 (t : Lx.T) (w : World) : (Instr.field 48 (tAgg t) 2).run Tryz.prog w = .ok (.int .i64 t.n) w := by kernel_rfl

/-- How a part ends: with what it is, ahead of the tokens behind it; or with a panic. -/
def TakePost (p : PP) (ss : List ByteArray) (l : List Lx.T) (w : World) (e : Ending) (w' : World) : Prop :=
  (∃ t r, Ps.take ss l = .ok t r ∧ l = t :: r ∧ e = .returned (tAgg t) ∧ Pst p r w' ∧ Only (· = p.B) w w' ∧ Ps.tokOk t) ∨ (∃ q, Ps.take ss l = .bad q ∧ e = .panicked (refV 5 q) ∧ Only (· = p.B) w w')
def StrPost (p : PP) (l : List Lx.T) (o : O ByteArray) (w : World) (e : Ending) (w' : World) : Prop :=
  (∃ y r, o = .ok y r ∧ e = .returned (.string y) ∧ Pst p r w' ∧ Only (· = p.B) w w' ∧ y.size ≤ maxLen ∧ r.length ≤ l.length) ∨ (∃ q, o = .bad q ∧ e = .panicked (refV 5 q) ∧ Only (· = p.B) w w')
def NodePost (p : PP) (l : List Lx.T) (o : O Nd) (w : World) (e : Ending) (w' : World) : Prop :=
  (∃ x ks r v, o = .ok x r ∧ e = .returned (ndV x v) ∧ x.kids = ks.map (·.1) ∧ KRow w.heap.size w' v ks ∧ Pst p r w' ∧ Only (· = p.B) w w' ∧ x.ok1 ∧ x.count + r.length ≤ l.length) ∨ (∃ q, o = .bad q ∧ e = .panicked (refV 5 q) ∧ Only (· = p.B) w w')
def ListPost (p : PP) (l : List Lx.T) (o : O (List Nd)) (w : World) (e : Ending) (w' : World) : Prop :=
  (∃ ks r v, o = .ok (ks.map (·.1)) r ∧ e = .returned v ∧ KRow w.heap.size w' v ks ∧ Pst p r w' ∧ Only (· = p.B) w w' ∧ Nd.countL (ks.map (·.1)) + r.length < l.length) ∨ (∃ q, o = .bad q ∧ e = .panicked (refV 5 q) ∧ Only (· = p.B) w w')

/-- A node's result, at the end. -/
theorem node_end {p : PP} {l r : List Lx.T} {o : O Nd} {fn : Func} {q : Tmp} {a : Act} {w W : World} {a0 a1 a2 a3 a4 a5 v : Value} {x : Nd} {ks : List (Nd × Value)} (hf : fn.results = #[.cell q nT]) (hd : a.defers = []) (hp : a.tmps.getD q undef = .pointer (some ⟨w.heap.size, 0, none⟩))
    (hb : Blk W w.heap.size nT #[a0, a1, a2, a3, a4, a5]) (ho : o = .ok x r) (hx : x.kids = ks.map (·.1)) (hk : KRow (w.heap.size + 1) W v ks) (hP : Pst p r W) (hN : p.N ≤ w.heap.size) (hO : Only (· = p.B) w W) (hok : x.ok1) (hc : x.count + r.length ≤ l.length) :
    bodyPost Tryz.prog fn (NodePost p l o w) .ret a (put6n W w.heap.size x v) := by
  have h1 := put6n_only W w.heap.size x v
  refine bodyPost_ret (nd_results hf _ _ hp (put6n_blk hb x v)) hd (.inl ⟨x, ks, r, v, ho, rfl, hx, ?_, ?_, ?_, hok, hc⟩)
  · exact (hk.only h1 (fun k hk => by omega)).lower (by omega)
  · exact hP.only h1 (fun b hb => by omega)
  · exact ⟨h1.os.trans hO.os, h1.output.trans hO.output, Nat.le_trans hO.size h1.size, fun k hk hB => (h1.block k (Nat.lt_of_lt_of_le hk hO.size) (by omega)).trans (hO.block k hk hB)⟩
theorem nd_ok1 (k : Int) (t y : ByteArray) (n : Int) (ks : List Nd) (hk : 0 ≤ k ∧ k ≤ 40) (ht : t.size ≤ maxLen) (hy : y.size ≤ maxLen) (hn : -9223372036854775808 ≤ n ∧ n ≤ 9223372036854775807) : (Ps.nd k t y n ks).ok1 := ⟨⟨by show _ ≤ k; omega, by show k ≤ _; omega⟩, hn, ht, hy, Nat.zero_le _⟩
theorem e0_size : Ps.e0.size ≤ maxLen := Nat.zero_le _

section
variable {base : Nat} {w w' : World} {v : Value} {ks : List (Nd × Value)}
theorem KRow.onB {p : PP} (h : KRow base w v ks) (k : Only (· = p.B) w w') (hb : p.B < base) : KRow base w' v ks := h.only k (fun k hk => by omega)
/-- A row made at once. -/
theorem KRow.lit (ks : List (Nd × Value)) {X : World} {cs : Array Value} {g n : Nat} (hg : g = X.heap.size) (hn : n = ks.length) (hcs : cs = (ks.flatMap fun p => ndC p.1 p.2).toArray) (hb : base ≤ X.heap.size) (hm : ks.length ≤ 100)
    (h : ∀ p ∈ ks, p.1.ok1 ∧ ∃ k2, p.1.kids = k2.map (·.1) ∧ KRow base X p.2 k2) : KRow base (X.alloc (.cells cs nT)) (.slice (some ⟨g, 0, none⟩) n n) ks := by
  subst hg hn hcs
  have hl := flat_len (fun p : Nd × Value => ndC p.1 p.2) ndC_len ks
  refine ⟨⟨hl, .inr ⟨X.heap.size, ks.length, _, rfl, hb, Blk.new X nT _, Nat.le_refl _, by unfold maxLen; omega, by simpa using hl, by rw [List.take_of_length_le (by simpa using Nat.le_of_eq hl)]⟩⟩, fun q hq => ?_⟩
  obtain ⟨h1, k2, e, h2⟩ := h q hq
  refine ⟨h1, ?_⟩
  have h3 : KidsD (fun k => base ≤ k) X q.2 q.1.kids := e ▸ h2.kids
  refine (h3.mono (E := fun k => base ≤ k ∧ (Value.slice (some ⟨X.heap.size, 0, none⟩) ks.length ks.length).ownBlock ≠ some k) fun k hk hd => ⟨hd, fun e => ?_⟩).kept ((Kept.refl X).alloc _)
  have : X.heap.size = k := by simpa [Value.ownBlock] using e
  omega
/-- One row behind another one. -/
theorem KRowD.app {D : Nat → Prop} {k2 : List (Nd × Value)} {v' : Value} {n : Nat} (h : KRowD D base w v ks) (h2 : ∀ q ∈ k2, q.1.ok1 ∧ KidsD (fun k => D k ∧ v.ownBlock ≠ some k) w q.2 q.1.kids)
    (hn : n = ks.length + k2.length) (ho : w'.ownsRow base nT 6 v' n ((ks.flatMap fun p => ndC p.1 p.2) ++ (k2.flatMap fun p => ndC p.1 p.2))) (hg : w.grownBy w' v.ownBlock) (hl : v'.ownBlock = v.ownBlock ∨ v'.ownBlock = some w.heap.size) :
    KRowD D base w' v' (ks ++ k2) := by
  subst hn
  refine ⟨by rw [List.length_append, List.flatMap_append]; exact ho, fun q hq => ?_⟩
  have hq' : q.1.ok1 ∧ KidsD (fun k => D k ∧ v.ownBlock ≠ some k) w q.2 q.1.kids := by
    rcases List.mem_append.1 hq with hq | hq
    · exact h.2 q hq
    · exact h2 q hq
  refine ⟨hq'.1, ?_⟩
  have h3 : KidsD (fun k => k < w.heap.size ∧ (D k ∧ v.ownBlock ≠ some k)) w q.2 q.1.kids := hq'.2.mono fun k hk hd => ⟨hk, hd⟩
  have ho' : Only (fun k => v.ownBlock = some k ∨ w.heap.size ≤ k) w w' := (Only.refl _ w).grown hg fun k hk => .inl (.inl hk)
  refine (h3.only ho' (fun k hk hd => ?_)).mono fun k _ hd => ⟨hd.2.1, fun e => ?_⟩
  · rcases hd with e | e
    · exact hk.2.2 e
    · omega
  · rcases hl with e2 | e2
    · exact hd.2.2 (e2 ▸ e)
    · rw [e2] at e; injection e with e; omega
/-- A row that is made behind another one has nothing in its block. -/
theorem KRowD.behind {D : Nat → Prop} {k2 : List (Nd × Value)} {vx : Value} {b2 : Nat} (h : KRowD D base w v ks) (h2 : KRow b2 w' vx k2) (hk : w.heap.size ≤ b2) (hD : ∀ k, b2 ≤ k → D k) : ∀ q ∈ k2, q.1.ok1 ∧ KidsD (fun k => D k ∧ v.ownBlock ≠ some k) w' q.2 q.1.kids := fun q hq => by
  refine ⟨(h2.2 q hq).1, (h2.2 q hq).2.mono fun k _ hd => ⟨hD k hd.1, fun e => ?_⟩⟩
  have hd1 := hd.1
  rcases h.1.2 with ⟨rfl, _⟩ | ⟨g, cap, cur, rfl, hg1, hg2, _⟩
  · cases e
  · obtain rfl : g = k := by simpa [Value.ownBlock] using e
    have := (Array.getElem?_eq_some_iff.1 hg2).1
    omega
theorem KRow.src (h : KRow base w v ks) : ∃ a n c, v = .slice a n c ∧ Src Tryz.prog 6 23 v ks.length (ks.flatMap fun p => ndC p.1 p.2) w := by
  rcases h.1.2 with ⟨rfl, hl0⟩ | ⟨g, cap, cur, rfl, hg1, hg2, hg3, hg4, hg5, hg6⟩
  · obtain rfl : ks = [] := List.eq_nil_of_length_eq_zero hl0
    exact ⟨_, _, _, rfl, Src.ofNil w Tryz.underlying23 0⟩
  · refine ⟨_, _, _, rfl, Src.ofSlice w Tryz.underlying23 ⟨g, 0, none⟩ ks.length cap _ (flat_len _ ndC_len ks) (fun j u hu => h.1.cells (g := g) rfl j u hu) (fun u hu => ?_)⟩
    obtain ⟨q, hq, hu⟩ := List.mem_flatMap.1 hu
    simp only [ndC, List.mem_cons, List.not_mem_nil, or_false] at hu
    obtain ⟨a, c, e, _⟩ := (h.2 q hq).2
    rcases hu with rfl | rfl | rfl | rfl | rfl | rfl
    · rfl
    · rfl
    · rfl
    · rfl
    · rfl
    · rw [e]; rfl
end

/-- The parts within, as far as k tokens. -/
structure FamC (p : PP) (F : Ps.Fam) (k : Nat) : Prop where
  expr : ∀ l w, l.length ≤ k → Pst p l w → Calls Tryz.prog 95 #[.pointer (some ⟨p.B, 0, none⟩)] w (NodePost p l (F .expr l) w)
  oper : ∀ (i : Nat) l w, i ≤ 6 → l.length ≤ k → Pst p l w → Calls Tryz.prog 116 #[.pointer (some ⟨p.B, 0, none⟩), .int .i64 (i : Int)] w (NodePost p l (F (.oper i) l) w)
  unary : ∀ l w, l.length ≤ k → Pst p l w → Calls Tryz.prog 126 #[.pointer (some ⟨p.B, 0, none⟩)] w (NodePost p l (F .unary l) w)
  block : ∀ l w, l.length ≤ k → Pst p l w → Calls Tryz.prog 39 #[.pointer (some ⟨p.B, 0, none⟩)] w (NodePost p l (F .block l) w)
/-- A way of a prim. -/
def WayC (p : PP) (k : Nat) (g : Nat) (way : Lx.T → List Lx.T → O Nd) : Prop :=
  ∀ t r w, r.length ≤ k → Pst p (t :: r) w → Ps.srt t ≠ Ps.theEnd → Calls Tryz.prog g #[.pointer (some ⟨p.B, 0, none⟩)] w (NodePost p (t :: r) (way t r) w)
theorem nd_six {W : World} {g : Nat} {a b c d e f : Value} (h : Blk W g nT #[a, b, c, d, e, f]) : (W.cell? ⟨g, 0, none⟩ = some a ∧ W.cell? ⟨g, 1, none⟩ = some b ∧ W.cell? ⟨g, 2, none⟩ = some c ∧ W.cell? ⟨g, 3, none⟩ = some d ∧ W.cell? ⟨g, 4, none⟩ = some e ∧ W.cell? ⟨g, 5, none⟩ = some f) ∧
    (W.frozen? ⟨g, 0, none⟩ = false ∧ W.frozen? ⟨g, 1, none⟩ = false ∧ W.frozen? ⟨g, 2, none⟩ = false ∧ W.frozen? ⟨g, 3, none⟩ = false ∧ W.frozen? ⟨g, 4, none⟩ = false ∧ W.frozen? ⟨g, 5, none⟩ = false) :=
  ⟨⟨h.cell 0, h.cell 1, h.cell 2, h.cell 3, h.cell 4, h.cell 5⟩, h.frozen 0, h.frozen 1, h.frozen 2, h.frozen 3, h.frozen 4, h.frozen 5⟩
abbrev pzN : Array Value := #[.int .i64 0, .string ⟨#[]⟩, .string ⟨#[]⟩, .string ⟨#[]⟩, .int .i64 0, .slice none 0 0]
theorem count_nd (k : Int) (t y : ByteArray) (n : Int) (ks : List Nd) : (Ps.nd k t y n ks).count = 1 + Nd.countL ks := Nd.count_eq _

end Go.Proofs.YtfkmnpgpfmkjaaaGreatDoor
namespace Go.Proofs.YtfkmnpgpfmkjaaaGreatDoor
open Go.ChangeShapes Go.WideShapes Go.ChangeAt Go.RowKit
attribute [local go_sem] Oper.semAt_some
open Ps (O W)

theorem eqb_yes {x s : ByteArray} (h : x = s) : (x.toList == s.toList) = true := by rw [h]; exact beq_self_eq_true _
theorem eqb_no {x s : ByteArray} (h : ¬ x = s) : (x.toList == s.toList) = false := by
  rw [beq_eq_false_iff_ne]
  intro e
  rw [ByteArray.toList_eq, ByteArray.toList_eq] at e
  exact h (ByteArray.ext (Array.toList_inj.1 e))

/-- Whether a place that was told is one. -/
def IdxT (k : Int) (x : ByteArray) (l : List ByteArray) : Prop := decide (0 ≤ k) = Ps.mem l x
theorem indexT_c (D : Nat → Prop) (a : Option Addr) (c : Nat) (l : List ByteArray) (x : ByteArray) (w : World) (h : LvR D w (.slice a l.length c) l) :
    Calls Tryz.prog 99 #[.slice a l.length c, .string x] w fun e w' => ∃ k : Int, e = .returned (.int .i64 k) ∧ IdxT k x l ∧ w' = w := by
  have hcap : l.length ≤ maxLen := Row.len h
  obtain ⟨_, _, e0, _, _, hat⟩ := h
  injection e0 with e1 e2 e3
  subst e1 e3
  clear e2
  have HAT := Lib.hid hat
  clear hat
  unfold maxLen at hcap
  go_enter Tryz.func99, Tryz.ntmps99
  go_wp2_with fail
  go_loopw [8] (fun i wr => ∃ k : Nat, i = .int .i64 k ∧ k ≤ l.length ∧ Hid (x ∉ l.take k) ∧ wr = w) (fun i wr => l.length - (intOf i).toNat)
  case atStart => exact ⟨0, rfl, Nat.zero_le _, Lib.hid (by simp), rfl⟩
  case round =>
    obtain ⟨k, rfl, hk, HN, rfl⟩ := hrel
    by_cases hlt : k < l.length
    · have hltI : (k : Int) < (l.length : Int) := by omega
      have hx : l[k]? = some l[k] := List.getElem?_eq_getElem hlt
      generalize hy : l[k] = y at hx
      obtain ⟨b, o, rfl, _, hc⟩ := HAT.out k y hx
      rw [Nat.mul_one] at hc
      have HX := Lib.hid hx
      clear hx hy
      by_cases hxy : x = y
      · have hb := eqb_yes hxy
        have HD := Lib.hid (show IdxT (k : Int) x l by unfold IdxT; rw [decide_eq_true (by omega : (0 : Int) ≤ (k : Int)), Ps.mem_iff.2 (by rw [hxy]; exact List.mem_of_getElem? HX.out)])
        clear hxy
        go_wp2_with fail
        go_ret
        exact ⟨k, rfl, HD.out, rfl⟩
      · have hb := eqb_no hxy
        have HN2 := Lib.hid (show x ∉ l.take (k + 1) by
          rw [List.take_add_one, HX.out]
          simp only [Option.toList_some, List.mem_append, List.mem_singleton, not_or]
          exact ⟨HN.out, hxy⟩)
        clear hxy
        go_wp2_with fail
        go_roundw
        case rel => exact ⟨k + 1, by go_num, by omega, HN2, by first | trivial | rfl⟩
        case measure => simp [intOf]; omega
    · obtain rfl : k = l.length := by omega
      have HD := Lib.hid (show IdxT (-1) x l by
        unfold IdxT
        have := HN.out
        rw [List.take_length] at this
        rw [Ps.mem_f.2 this]; rfl)
      go_wp2_with fail
      go_ret
      exact ⟨-1, rfl, HD.out, rfl⟩
theorem containsT_c (D : Nat → Prop) (a : Option Addr) (c : Nat) (l : List ByteArray) (x : ByteArray) (w : World) (h : LvR D w (.slice a l.length c) l) :
    Calls Tryz.prog 74 #[.slice a l.length c, .string x] w fun e w' => e = .returned (.bool (Ps.mem l x)) ∧ w' = w := by
  have HI := Lib.hid (indexT_c D a c l x w h)
  clear h
  go_enter Tryz.func74, Tryz.ntmps74
  go_wp2_with fail
  refine HI.out.mono ?_
  rintro e w' ⟨k, rfl, HD, rfl⟩
  go_wp2_with fail
  go_ret
  exact ⟨by have := HD; unfold IdxT at this; rw [← this]; rfl, rfl⟩

section
variable {p : PP} {t : Lx.T} {r : List Lx.T}
set_option maxHeartbeats 1000000 in
theorem psort_c (w : World) (hp : Pst p (t :: r) w) : Calls Tryz.prog 75 #[.pointer (some ⟨p.B, 0, none⟩)] w fun e w' => e = .returned (.string (Ps.srt t)) ∧ Kept w w' := by
  obtain ⟨⟨ad, c, hb, hr⟩, hg, hs, _⟩ := hp
  obtain ⟨b, o, rfl, hn, hnc, hcm, ⟨hbB, hbN⟩, h0, h1, h2, h3⟩ := row_head hr
  obtain ⟨⟨hk0, hk7⟩, _, _, _⟩ := hg.ok t (by simp)
  obtain ⟨⟨ty, fr, hso⟩, _⟩ := hs.so
  have cB := hb.cell 0
  simp only [pC] at cB
  simp at cB
  have g0 := cell_of_row w _ 0 _ ty fr hso
  have g1 := cell_of_row w _ 1 _ ty fr hso
  have g2 := cell_of_row w _ 2 _ ty fr hso
  have g4 := cell_of_row w _ 4 _ ty fr hso
  have g5 := cell_of_row w _ 5 _ ty fr hso
  have g6 := cell_of_row w _ 6 _ ty fr hso
  simp at g0 g1 g2 g4 g5 g6
  clear hb hr hg hs hso hn hnc hcm
  have hsrt : Ps.srt t = if t.kind = 3 then t.text else if t.kind = 7 then t.text else Ps.srtK t.kind := rfl
  obtain ⟨kd, hkd⟩ : ∃ kd, t.kind = kd := ⟨_, rfl⟩
  rw [hkd] at h0 hk0 hk7 hsrt
  have hcs : kd = 0 ∨ kd = 1 ∨ kd = 2 ∨ kd = 3 ∨ kd = 4 ∨ kd = 5 ∨ kd = 6 ∨ kd = 7 := by omega
  clear hk0 hk7
  rcases hcs with rfl | rfl | rfl | rfl | rfl | rfl | rfl | rfl
  all_goals
    simp [Ps.srtK] at hsrt
    rw [hsrt]
    clear hsrt hkd
    have gg : ∀ o v, w.cell? ⟨0, o, none⟩ = some v → ∀ ob, (w.alloc ob).cell? ⟨0, o, none⟩ = some v := fun o v h ob => ((Kept.refl w).alloc ob).cell h
    have g0 := gg _ _ g0
    have g1 := gg _ _ g1
    have g2 := gg _ _ g2
    have g4 := gg _ _ g4
    have g5 := gg _ _ g5
    have g6 := gg _ _ g6
    clear gg
    go_enter Tryz.func75, Tryz.ntmps75
    go_wp2_with fail
    go_ret
    exact ⟨rfl, (Kept.refl w).alloc _⟩

theorem is_c (D : Nat → Prop) (ss : List ByteArray) (a : Option Addr) (n c : Nat) (w : World) (hp : Pst p (t :: r) w) (hn : n = ss.length) (hs : LvR D w (.slice a n c) ss) :
    Calls Tryz.prog 37 #[.pointer (some ⟨p.B, 0, none⟩), .slice a n c] w fun e w' => e = .returned (.bool (Ps.mem ss (Ps.srt t))) ∧ Kept w w' := by
  subst hn
  have HS := Lib.hid (psort_c w hp)
  have HL := Lib.hid hs
  clear hp hs
  go_enter Tryz.func37, Tryz.ntmps37
  go_wp2_with fail
  refine HS.out.mono ?_
  rintro e w1 ⟨rfl, k1⟩
  have HC := Lib.hid (containsT_c D a c ss (Ps.srt t) w1 (HL.out.kept k1))
  have HK := Lib.hid k1
  clear k1
  go_wp2_with fail
  refine HC.out.mono ?_
  rintro e w2 ⟨rfl, rfl⟩
  go_wp2_with fail
  go_ret
  exact ⟨rfl, HK.out⟩

set_option maxHeartbeats 1000000 in
theorem pnext_c (w : World) (hp : Pst p (t :: r) w) (hr : Ps.srt t ≠ Ps.theEnd) : Calls Tryz.prog 41 #[.pointer (some ⟨p.B, 0, none⟩)] w fun e w' => e = .returned (tAgg t) ∧ Pst p r w' ∧ Only (· = p.B) w w' := by
  have hgr := hp.good.tail hr
  have hlt := hp.hi
  obtain ⟨W0, hW0⟩ : ∃ W0, w.alloc (.cells #[.int .i64 0, .string ⟨#[]⟩, .int .i64 0, .int .i64 0] 48) = W0 := ⟨_, rfl⟩
  have k0 : Kept w W0 := by rw [← hW0]; exact (Kept.refl w).alloc _
  have z0 : W0.heap.size = w.heap.size + 1 := by rw [← hW0]; simp
  have b0 : Blk W0 w.heap.size 48 #[.int .i64 0, .string ⟨#[]⟩, .int .i64 0, .int .i64 0] := by rw [← hW0]; exact Blk.new _ _ _
  obtain ⟨W1, hW1⟩ : ∃ W1, W0.alloc (.cells #[.int .i64 t.kind, .string t.text, .int .i64 t.n, .int .i64 t.pos] 48) = W1 := ⟨_, rfl⟩
  have k1 : Kept W0 W1 := by rw [← hW1]; exact (Kept.refl W0).alloc _
  have b1 : Blk W1 (w.heap.size + 1) 48 #[.int .i64 t.kind, .string t.text, .int .i64 t.n, .int .i64 t.pos] := by rw [← hW1, ← z0]; exact Blk.new _ _ _
  obtain ⟨⟨ad, c, hbw, hrow⟩, hg, hs, hlN⟩ := hp
  have hb := hbw.kept k0
  obtain ⟨b, o, rfl, hn, hnc, hcm, ⟨hbB, hbN⟩, h0, h1, h2, h3⟩ := row_head (toks_only (S := fun _ => False) hrow (Only.of_kept k0) (fun _ _ h => h))
  obtain ⟨W2, hW2⟩ : ∃ W2, W1.setCell ⟨p.B, 0, none⟩ (.slice (some ⟨b, o + 4, none⟩) r.length (c - 1)) = W2 := ⟨_, rfl⟩
  have o2 : Only (· = p.B) W1 W2 := by rw [← hW2]; exact (Only.refl _ _).put 0 _
  have B2 : Blk W2 p.B pT (pC (.slice (some ⟨b, o + 4, none⟩) r.length (c - 1)) p) := by rw [← hW2]; exact (hb.kept k1).put 0 _
  have cB0 := hb.cell 0
  have cB1 := (hb.kept k1).cell 0
  have fB1 := (hb.kept k1).frozen 0
  simp only [pC] at cB0 cB1
  simp at cB0 cB1
  have b2 : Blk W2 (w.heap.size + 1) 48 #[.int .i64 t.kind, .string t.text, .int .i64 t.n, .int .i64 t.pos] := b1.only o2 (by omega)
  have e2 : Blk W2 w.heap.size 48 #[.int .i64 0, .string ⟨#[]⟩, .int .i64 0, .int .i64 0] := (b0.kept k1).only o2 (by omega)
  have x0 := b2.cell 0
  have x1 := b2.cell 1
  have x2 := b2.cell 2
  have x3 := b2.cell 3
  have y0 := e2.cell 0
  have y1 := e2.cell 1
  have y2 := e2.cell 2
  have y3 := e2.cell 3
  have f0 := e2.frozen 0
  have f1 := e2.frozen 1
  have f2 := e2.frozen 2
  have f3 := e2.frozen 3
  simp at x0 x1 x2 x3 y0 y1 y2 y3
  have hrl : 0 < r.length := List.length_pos_iff.2 hgr.ne
  rw [List.length_cons] at hnc
  have hc1 : (1 : Int) < (c : Int) := by omega
  have hc2 : ¬ c = 1 := by omega
  have hrlI : (1 : Int) ≤ (r.length : Int) := by omega
  have HP := Lib.hid (fun W' (ho : Only (· = w.heap.size) W2 W') => show Pst p r W' ∧ Only (· = p.B) w W' from by
    have ho' : Only (· = p.B) w W' := by
      refine ⟨ho.os.trans (o2.os.trans (k1.os.trans k0.os)), ho.output.trans (o2.output.trans (k1.output.trans k0.output)), Nat.le_trans k0.size (Nat.le_trans k1.size (Nat.le_trans o2.size ho.size)), fun k hk hkB => ?_⟩
      have := k0.size
      have := k1.size
      have := o2.size
      exact (ho.block k (by omega) (by omega)).trans ((o2.block k (by omega) hkB).trans ((k1.block k (by omega)).trans (k0.block k hk)))
    exact ⟨Pst.next hgr hs hlN (row_tail hrow) ho' (B2.only ho (by omega)), ho'⟩)
  have HE2 := Lib.hid e2
  have HW0 := Lib.hid hW0
  have HW1 := Lib.hid hW1
  have HW2 := Lib.hid hW2
  have HB := Lib.hid hlt
  clear hgr hr hbw hlN hbN k0 b0 k1 b1 hb hrow hg hs hn hnc hcm hbB o2 B2 b2 e2 hW0 hW1 hW2 hlt hrl
  go_enter Tryz.func41, Tryz.ntmps41
  go_wp2_with (first | rw [HW0.out] | rw [HW1.out] | rw [HW2.out])
  obtain ⟨p1, p2⟩ := HP.out _ (put4t_only W2 w.heap.size t)
  exact bodyPost_ret (tok_results (by rfl) _ _ rfl (put4t_blk HE2.out t)) rfl ⟨rfl, p1, p2⟩

theorem prefuse_c (w : World) (hp : Pst p (t :: r) w) : Calls Tryz.prog 40 #[.pointer (some ⟨p.B, 0, none⟩)] w fun e w' => e = .panicked (refV 5 t.pos) ∧ Kept w w' := by
  obtain ⟨⟨ad, c, hb, hr⟩, hg, hs, _⟩ := hp
  obtain ⟨b, o, rfl, hn, hnc, hcm, hbB, h0, h1, h2, h3⟩ := row_head hr
  have cB := hb.cell 0
  simp only [pC] at cB
  simp at cB
  clear hb hr hg hs hn hnc hcm
  go_enter Tryz.func40, Tryz.ntmps40
  go_wp2_with fail
  exact ⟨rfl, rfl, Kept.refl w⟩

theorem take_c (D : Nat → Prop) (ss : List ByteArray) (a : Option Addr) (n c : Nat) (l : List Lx.T) (w : World) (hp : Pst p l w) (hn : n = ss.length) (hs : LvR D w (.slice a n c) ss) (he : Ps.theEnd ∉ ss) :
    Calls Tryz.prog 25 #[.pointer (some ⟨p.B, 0, none⟩), .slice a n c] w (TakePost p ss l w) := by
  subst hn
  obtain ⟨t, r, rfl, htok⟩ := hp.good.cons
  obtain ⟨W0, hW0⟩ : ∃ W0, w.alloc (.cells #[.int .i64 0, .string ⟨#[]⟩, .int .i64 0, .int .i64 0] 48) = W0 := ⟨_, rfl⟩
  have k0 : Kept w W0 := by rw [← hW0]; exact (Kept.refl w).alloc _
  have b0 : Blk W0 w.heap.size 48 #[.int .i64 0, .string ⟨#[]⟩, .int .i64 0, .int .i64 0] := by rw [← hW0]; exact Blk.new _ _ _
  have hlN := hp.lt
  have HI := Lib.hid (is_c D ss a ss.length c W0 (hp.kept k0) rfl (hs.kept k0))
  have HP0 := Lib.hid (hp.kept k0)
  have HK0 := Lib.hid k0
  have HB0 := Lib.hid b0
  have HW0 := Lib.hid hW0
  cases hm : Ps.mem ss (Ps.srt t) with
  | false =>
    rw [hm] at HI
    have HE := Lib.hid (show Ps.take ss (t :: r) = .bad t.pos by rw [Ps.take, hm]; rfl)
    clear hp hs k0 b0 hW0 htok hm
    go_enter Tryz.func25, Tryz.ntmps25
    go_wp2_with (rw [HW0.out])
    refine HI.out.mono ?_
    rintro e w1 ⟨rfl, k1⟩
    have HR := Lib.hid (prefuse_c w1 (HP0.out.kept k1))
    have HK1 := Lib.hid k1
    clear k1
    go_wp2_with fail
    refine HR.out.mono ?_
    rintro e w2 ⟨rfl, k2⟩
    go_wp2_with fail
    exact ⟨rfl, .inr ⟨_, HE.out, rfl, Only.of_kept ((HK0.out.trans HK1.out).trans k2)⟩⟩
  | true =>
    rw [hm] at HI
    have hsr : Ps.srt t ≠ Ps.theEnd := fun e => he (e ▸ Ps.mem_iff.1 hm)
    have HE := Lib.hid (show Ps.take ss (t :: r) = .ok t r by rw [Ps.take, hm]; rfl)
    have HT := Lib.hid htok
    have HSR := Lib.hid hsr
    clear hp hs k0 b0 hW0 htok hm hsr
    go_enter Tryz.func25, Tryz.ntmps25
    go_wp2_with (rw [HW0.out])
    refine HI.out.mono ?_
    rintro e w1 ⟨rfl, k1⟩
    have HR := Lib.hid (pnext_c w1 (HP0.out.kept k1) HSR.out)
    have HK1 := Lib.hid k1
    clear k1
    go_wp2_with fail
    refine HR.out.mono ?_
    rintro e w2 ⟨rfl, hp2, o2⟩
    have b2 := (HB0.out.kept HK1.out).only o2 (by omega)
    have f0 := b2.frozen 0
    have f1 := b2.frozen 1
    have f2 := b2.frozen 2
    have f3 := b2.frozen 3
    have y0 := b2.cell 0
    have y1 := b2.cell 1
    have y2 := b2.cell 2
    have y3 := b2.cell 3
    simp at y0 y1 y2 y3
    have HB2 := Lib.hid b2
    have HP2 := Lib.hid hp2
    have HO2 := Lib.hid o2
    clear b2 hp2 o2
    go_wp2_with fail
    have h1 := put4t_only w2 w.heap.size t
    refine bodyPost_ret (tok_results (by rfl) _ _ rfl (put4t_blk HB2.out t)) rfl (.inl ⟨t, r, HE.out, rfl, rfl, HP2.out.only h1 (fun b hb => by omega), ?_, HT.out⟩)
    have hO : Only (· = p.B) w w2 := (Only.of_kept (HK0.out.trans HK1.out)).trans HO2.out
    exact ⟨h1.os.trans hO.os, h1.output.trans hO.output, Nat.le_trans hO.size h1.size, fun k hk hB => (h1.block k (Nat.lt_of_lt_of_le hk hO.size) (by omega)).trans (hO.block k hk hB)⟩

theorem short_len {n : Nat} (h : n ≤ 100) : n ≤ maxLen := by unfold maxLen; omega
/-- One of these texts, as a slice made at once. -/
theorem take_l (ks : List ByteArray) {l : List Lx.T} {X : World} {g n : Nat} {cs : Array Value} {ty : TypeId} (hp : Pst p l X) (hg : g = X.heap.size) (hn : n = ks.length) (hcs : cs = (ks.map Value.string).toArray) (hm : ks.length ≤ 100) (he : Ps.mem ks Ps.theEnd = false) :
    Calls Tryz.prog 25 #[.pointer (some ⟨p.B, 0, none⟩), .slice (some ⟨g, 0, none⟩) n n] (X.alloc (.cells cs ty)) (TakePost p ks l X) := by
  subst hg hn hcs
  refine (take_c (fun _ => True) ks _ _ _ l _ (hp.alloc _) rfl (LvR.lit ks (Blk.new _ _ _) (short_len hm)) (Ps.mem_f.1 he)).mono ?_
  intro e w' h
  have hk : Only (· = p.B) X (X.alloc (.cells (ks.map Value.string).toArray ty)) := Only.of_kept ((Kept.refl X).alloc _)
  rcases h with ⟨t, r, h1, h2, h3, h4, h5, h6⟩ | ⟨q, h1, h2, h3⟩
  · exact .inl ⟨t, r, h1, h2, h3, h4, hk.trans h5, h6⟩
  · exact .inr ⟨q, h1, h2, hk.trans h3⟩
theorem is_l (ks : List ByteArray) {l : List Lx.T} {X : World} {g n : Nat} {cs : Array Value} {ty : TypeId} (hp : Pst p l X) (hg : g = X.heap.size) (hn : n = ks.length) (hcs : cs = (ks.map Value.string).toArray) (hm : ks.length ≤ 100) :
    Calls Tryz.prog 37 #[.pointer (some ⟨p.B, 0, none⟩), .slice (some ⟨g, 0, none⟩) n n] (X.alloc (.cells cs ty)) (fun e w' => e = .returned (.bool (Ps.is ks l)) ∧ Kept X w') := by
  subst hg hn hcs
  obtain ⟨t, r, rfl, htok⟩ := hp.good.cons
  refine (is_c (fun _ => True) ks _ _ _ _ (hp.alloc _) rfl (LvR.lit ks (Blk.new _ _ _) (short_len hm))).mono ?_
  rintro e w' ⟨rfl, k⟩
  exact ⟨rfl, ((Kept.refl X).alloc _).trans k⟩

theorem pskip_c (k : ByteArray) (l : List Lx.T) (w : World) (hp : Pst p l w) (he : Ps.theEnd ≠ k) :
    Calls Tryz.prog 76 #[.pointer (some ⟨p.B, 0, none⟩), .string k] w fun e w' =>
      (Ps.is [k] l = true ∧ e = .returned (.bool true) ∧ Pst p l.tail w' ∧ Only (· = p.B) w w' ∧ l.tail.length + 1 = l.length) ∨ (Ps.is [k] l = false ∧ e = .returned (.bool false) ∧ Pst p l w' ∧ Only (· = p.B) w w') := by
  have HP := Lib.hid hp
  obtain ⟨t, r, rfl, htok⟩ := hp.good.cons
  cases hm : Ps.is [k] (t :: r) with
  | false =>
    have HE := Lib.hid hm
    clear hp htok hm
    go_enter Tryz.func76, Tryz.ntmps76
    go_wp2_with fail
    refine (is_l [k] (ty := 9) HP.out rfl rfl rfl (by simp)).mono ?_
    rintro e w1 ⟨he1, k1⟩
    rw [HE.out] at he1
    subst he1
    have HP1 := Lib.hid (HP.out.kept k1)
    have HK1 := Lib.hid k1
    clear k1
    go_wp2_with fail
    go_ret
    exact .inr ⟨trivial, rfl, HP1.out, Only.of_kept HK1.out⟩
  | true =>
    have HE := Lib.hid hm
    have hsr : Ps.srt t ≠ Ps.theEnd := fun e => by
      have := Ps.mem_iff.1 (show Ps.mem [k] (Ps.srt t) = true from hm)
      rw [List.mem_singleton] at this
      exact he (e.symm.trans this)
    have HSR := Lib.hid hsr
    clear hp htok hm hsr
    go_enter Tryz.func76, Tryz.ntmps76
    go_wp2_with fail
    refine (is_l [k] (ty := 9) HP.out rfl rfl rfl (by simp)).mono ?_
    rintro e w1 ⟨he1, k1⟩
    rw [HE.out] at he1
    subst he1
    have HN := Lib.hid (pnext_c w1 (HP.out.kept k1) HSR.out)
    have HK1 := Lib.hid k1
    clear k1
    go_wp2_with fail
    refine HN.out.mono ?_
    rintro e w2 ⟨rfl, hp2, o2⟩
    have HP2 := Lib.hid hp2
    have HO2 := Lib.hid o2
    clear hp2 o2
    go_wp2_with fail
    go_ret
    exact .inl ⟨trivial, rfl, HP2.out, (Only.of_kept HK1.out).trans HO2.out, rfl⟩

theorem ptyp_c (l : List Lx.T) (w : World) (hp : Pst p l w) : Calls Tryz.prog 96 #[.pointer (some ⟨p.B, 0, none⟩)] w (StrPost p l (Ps.typ l) w) := by
  have HP := Lib.hid hp
  clear hp
  have hf1 := field_tok1
  go_enter Tryz.func96, Tryz.ntmps96
  go_wp2_with fail
  refine (take_l Ps.typs (ty := 9) HP.out rfl rfl rfl (by decide) (by decide +kernel)).mono ?_
  rintro e w1 (⟨t, r, h1, h2, rfl, h4, h5, h6⟩ | ⟨q, h1, rfl, h3⟩)
  · have HH := Lib.hid (show Ps.typ l = .ok t.text r ∧ Pst p r w1 ∧ Only (· = p.B) w w1 ∧ t.text.size ≤ maxLen ∧ r.length ≤ l.length from ⟨by rw [Ps.typ, h1]; rfl, h4, h5, h6.2.1, by rw [h2, List.length_cons]; omega⟩)
    clear h1 h2 h4 h5 h6
    go_wp2_with fail
    go_ret
    exact .inl ⟨_, _, HH.out.1, rfl, HH.out.2⟩
  · have HH := Lib.hid (show Ps.typ l = .bad q ∧ Only (· = p.B) w w1 from ⟨by rw [Ps.typ, h1]; rfl, h3⟩)
    clear h1 h3
    go_wp2_with fail
    exact ⟨rfl, .inr ⟨_, HH.out.1, rfl, HH.out.2⟩⟩

theorem annot_c (l : List Lx.T) (w : World) (hp : Pst p l w) : Calls Tryz.prog 100 #[.pointer (some ⟨p.B, 0, none⟩)] w (StrPost p l (Ps.annot l) w) := by
  have HP := Lib.hid hp
  clear hp
  go_enter Tryz.func100, Tryz.ntmps100
  go_wp2_with fail
  refine (pskip_c Ps.kColon l _ HP.out (by decide +kernel)).mono ?_
  rintro e w1 (⟨h1, rfl, h2, h3, h4⟩ | ⟨h1, rfl, h2, h3⟩)
  · have HT := Lib.hid (ptyp_c l.tail w1 h2)
    have HA := Lib.hid (show Ps.annot l = Ps.typ l.tail by rw [Ps.annot, if_pos h1])
    have HO := Lib.hid h3
    have HL := Lib.hid h4
    clear h1 h2 h3 h4
    go_wp2_with fail
    refine HT.out.mono ?_
    rintro e w2 (⟨y, r, h1, rfl, h2, h3, h4, h5⟩ | ⟨q, h1, rfl, h2⟩)
    · have HH := Lib.hid (show Ps.annot l = .ok y r ∧ Pst p r w2 ∧ Only (· = p.B) w w2 ∧ y.size ≤ maxLen ∧ r.length ≤ l.length from ⟨HA.out.trans h1, h2, HO.out.trans h3, h4, by have := HL.out; omega⟩)
      clear h1 h2 h3 h4 h5
      go_wp2_with fail
      go_ret
      exact .inl ⟨_, _, HH.out.1, rfl, HH.out.2⟩
    · have HH := Lib.hid (show Ps.annot l = .bad q ∧ Only (· = p.B) w w2 from ⟨HA.out.trans h1, HO.out.trans h2⟩)
      clear h1 h2
      go_wp2_with fail
      exact ⟨rfl, .inr ⟨_, HH.out.1, rfl, HH.out.2⟩⟩
  · have HH := Lib.hid (show Ps.annot l = .ok Ps.kAny l ∧ Pst p l w1 ∧ Only (· = p.B) w w1 ∧ Ps.kAny.size ≤ maxLen ∧ l.length ≤ l.length from ⟨by rw [Ps.annot, h1]; rfl, h2, h3, by decide, Nat.le_refl _⟩)
    clear h1 h2 h3
    go_wp2_with fail
    go_ret
    exact .inl ⟨_, _, HH.out.1, rfl, HH.out.2⟩

end

end Go.Proofs.YtfkmnpgpfmkjaaaGreatDoor
namespace Go.Proofs.YtfkmnpgpfmkjaaaGreatDoor
open Go.ChangeShapes Go.WideShapes Go.ChangeAt Go.RowKit
attribute [local go_sem] Oper.semAt_some
open Ps (O W)

section
variable {p : PP} {F : Ps.Fam} {k : Nat}

set_option maxHeartbeats 1000000 in
theorem whole_c : WayC p k 56 (Ps.wWhole) := by
  intro t0 r0 w hk hp hsr
  obtain ⟨W0, hW0⟩ : ∃ W0, w.alloc (.cells pzN nT) = W0 := ⟨_, rfl⟩
  have k0 : Kept w W0 := by rw [← hW0]; exact (Kept.refl w).alloc _
  have HZ0 := Lib.hid (show w.heap.size + 1 ≤ W0.heap.size by rw [← hW0]; simp)
  have HB0 := Lib.hid (show Blk W0 w.heap.size nT pzN by rw [← hW0]; exact Blk.new _ _ _)
  have HP0 := Lib.hid (hp.kept k0)
  have HN := Lib.hid hp.lt
  have HO0 := Lib.hid (show Only (· = p.B) w W0 from Only.of_kept k0)
  have HW0 := Lib.hid hW0
  have HSR := Lib.hid hsr
  have HTK := Lib.hid (hp.good.ok t0 (by simp))
  clear hp k0 hW0 hsr hk
  have hf1 := field_tok1
  have hf2 := field_tok2
  go_enter Tryz.func56, Tryz.ntmps56
  go_wp2_with (rw [HW0.out])
  refine (pnext_c _ HP0.out HSR.out).mono ?_
  rintro e w1 ⟨rfl, h4, h5⟩
  have HP1 := Lib.hid h4
  have HO1 := Lib.hid (HO0.out.trans h5)
  have HZ1 := Lib.hid (Nat.le_trans HZ0.out (Only.size h5))
  have HB1 := Lib.hid (HB0.out.only h5 (by have := HN.out; omega))
  clear h4 h5
  obtain ⟨⟨y0, y1, y2, y3, y4, y5⟩, f0, f1, f2, f3, f4, f5⟩ := nd_six HB1.out
  go_wp2_with fail
  refine node_end (x := Ps.nd 7 Ps.e0 Ps.e0 (t0.n) []) (ks := []) (by rfl) rfl rfl HB1.out (by simp only [Ps.wWhole, Ps.O.bind_ok, Ps.O.bind_bad, eq_self, if_true, Bool.false_eq_true, if_false]) rfl (KRow.nil _ _) HP1.out HN.out.2 HO1.out (nd_ok1 _ _ _ _ _ (by decide) e0_size e0_size HTK.out.2.2) ?_
  have := HN.out; skip; rw [count_nd, Nd.countL_nil, List.length_cons]; omega

set_option maxHeartbeats 1000000 in
theorem real_c : WayC p k 57 (Ps.wReal) := by
  intro t0 r0 w hk hp hsr
  obtain ⟨W0, hW0⟩ : ∃ W0, w.alloc (.cells pzN nT) = W0 := ⟨_, rfl⟩
  have k0 : Kept w W0 := by rw [← hW0]; exact (Kept.refl w).alloc _
  have HZ0 := Lib.hid (show w.heap.size + 1 ≤ W0.heap.size by rw [← hW0]; simp)
  have HB0 := Lib.hid (show Blk W0 w.heap.size nT pzN by rw [← hW0]; exact Blk.new _ _ _)
  have HP0 := Lib.hid (hp.kept k0)
  have HN := Lib.hid hp.lt
  have HO0 := Lib.hid (show Only (· = p.B) w W0 from Only.of_kept k0)
  have HW0 := Lib.hid hW0
  have HSR := Lib.hid hsr
  have HTK := Lib.hid (hp.good.ok t0 (by simp))
  clear hp k0 hW0 hsr hk
  have hf1 := field_tok1
  have hf2 := field_tok2
  go_enter Tryz.func57, Tryz.ntmps57
  go_wp2_with (rw [HW0.out])
  refine (pnext_c _ HP0.out HSR.out).mono ?_
  rintro e w1 ⟨rfl, h4, h5⟩
  have HP1 := Lib.hid h4
  have HO1 := Lib.hid (HO0.out.trans h5)
  have HZ1 := Lib.hid (Nat.le_trans HZ0.out (Only.size h5))
  have HB1 := Lib.hid (HB0.out.only h5 (by have := HN.out; omega))
  clear h4 h5
  obtain ⟨⟨y0, y1, y2, y3, y4, y5⟩, f0, f1, f2, f3, f4, f5⟩ := nd_six HB1.out
  go_wp2_with fail
  refine node_end (x := Ps.nd 8 Ps.e0 Ps.e0 (t0.n) []) (ks := []) (by rfl) rfl rfl HB1.out (by simp only [Ps.wReal, Ps.O.bind_ok, Ps.O.bind_bad, eq_self, if_true, Bool.false_eq_true, if_false]) rfl (KRow.nil _ _) HP1.out HN.out.2 HO1.out (nd_ok1 _ _ _ _ _ (by decide) e0_size e0_size HTK.out.2.2) ?_
  have := HN.out; skip; rw [count_nd, Nd.countL_nil, List.length_cons]; omega

set_option maxHeartbeats 1000000 in
theorem noNumber_c : WayC p k 58 (Ps.wNoNumber) := by
  intro t0 r0 w hk hp hsr
  obtain ⟨W0, hW0⟩ : ∃ W0, w.alloc (.cells pzN nT) = W0 := ⟨_, rfl⟩
  have k0 : Kept w W0 := by rw [← hW0]; exact (Kept.refl w).alloc _
  have HZ0 := Lib.hid (show w.heap.size + 1 ≤ W0.heap.size by rw [← hW0]; simp)
  have HB0 := Lib.hid (show Blk W0 w.heap.size nT pzN by rw [← hW0]; exact Blk.new _ _ _)
  have HP0 := Lib.hid (hp.kept k0)
  have HN := Lib.hid hp.lt
  have HO0 := Lib.hid (show Only (· = p.B) w W0 from Only.of_kept k0)
  have HW0 := Lib.hid hW0
  have HSR := Lib.hid hsr
  have HTK := Lib.hid (hp.good.ok t0 (by simp))
  clear hp k0 hW0 hsr hk
  have hf1 := field_tok1
  have hf2 := field_tok2
  go_enter Tryz.func58, Tryz.ntmps58
  go_wp2_with (rw [HW0.out])
  refine (pnext_c _ HP0.out HSR.out).mono ?_
  rintro e w1 ⟨rfl, h4, h5⟩
  have HP1 := Lib.hid h4
  have HO1 := Lib.hid (HO0.out.trans h5)
  have HZ1 := Lib.hid (Nat.le_trans HZ0.out (Only.size h5))
  have HB1 := Lib.hid (HB0.out.only h5 (by have := HN.out; omega))
  clear h4 h5
  obtain ⟨⟨y0, y1, y2, y3, y4, y5⟩, f0, f1, f2, f3, f4, f5⟩ := nd_six HB1.out
  go_wp2_with fail
  refine node_end (x := Ps.nd 8 t0.text Ps.e0 (0) []) (ks := []) (by rfl) rfl rfl HB1.out (by simp only [Ps.wNoNumber, Ps.O.bind_ok, Ps.O.bind_bad, eq_self, if_true, Bool.false_eq_true, if_false]) rfl (KRow.nil _ _) HP1.out HN.out.2 HO1.out (nd_ok1 _ _ _ _ _ (by decide) HTK.out.2.1 e0_size (by decide)) ?_
  have := HN.out; skip; rw [count_nd, Nd.countL_nil, List.length_cons]; omega

set_option maxHeartbeats 1000000 in
theorem yes_c : WayC p k 59 (Ps.wYes) := by
  intro t0 r0 w hk hp hsr
  obtain ⟨W0, hW0⟩ : ∃ W0, w.alloc (.cells pzN nT) = W0 := ⟨_, rfl⟩
  have k0 : Kept w W0 := by rw [← hW0]; exact (Kept.refl w).alloc _
  have HZ0 := Lib.hid (show w.heap.size + 1 ≤ W0.heap.size by rw [← hW0]; simp)
  have HB0 := Lib.hid (show Blk W0 w.heap.size nT pzN by rw [← hW0]; exact Blk.new _ _ _)
  have HP0 := Lib.hid (hp.kept k0)
  have HN := Lib.hid hp.lt
  have HO0 := Lib.hid (show Only (· = p.B) w W0 from Only.of_kept k0)
  have HW0 := Lib.hid hW0
  have HSR := Lib.hid hsr
  have HTK := Lib.hid (hp.good.ok t0 (by simp))
  clear hp k0 hW0 hsr hk
  have hf1 := field_tok1
  have hf2 := field_tok2
  go_enter Tryz.func59, Tryz.ntmps59
  go_wp2_with (rw [HW0.out])
  refine (pnext_c _ HP0.out HSR.out).mono ?_
  rintro e w1 ⟨rfl, h4, h5⟩
  have HP1 := Lib.hid h4
  have HO1 := Lib.hid (HO0.out.trans h5)
  have HZ1 := Lib.hid (Nat.le_trans HZ0.out (Only.size h5))
  have HB1 := Lib.hid (HB0.out.only h5 (by have := HN.out; omega))
  clear h4 h5
  obtain ⟨⟨y0, y1, y2, y3, y4, y5⟩, f0, f1, f2, f3, f4, f5⟩ := nd_six HB1.out
  go_wp2_with fail
  refine node_end (x := Ps.nd 9 Ps.e0 Ps.e0 (1) []) (ks := []) (by rfl) rfl rfl HB1.out (by simp only [Ps.wYes, Ps.O.bind_ok, Ps.O.bind_bad, eq_self, if_true, Bool.false_eq_true, if_false]) rfl (KRow.nil _ _) HP1.out HN.out.2 HO1.out (nd_ok1 _ _ _ _ _ (by decide) e0_size e0_size (by decide)) ?_
  have := HN.out; skip; rw [count_nd, Nd.countL_nil, List.length_cons]; omega

set_option maxHeartbeats 1000000 in
theorem no_c : WayC p k 60 (Ps.wNo) := by
  intro t0 r0 w hk hp hsr
  obtain ⟨W0, hW0⟩ : ∃ W0, w.alloc (.cells pzN nT) = W0 := ⟨_, rfl⟩
  have k0 : Kept w W0 := by rw [← hW0]; exact (Kept.refl w).alloc _
  have HZ0 := Lib.hid (show w.heap.size + 1 ≤ W0.heap.size by rw [← hW0]; simp)
  have HB0 := Lib.hid (show Blk W0 w.heap.size nT pzN by rw [← hW0]; exact Blk.new _ _ _)
  have HP0 := Lib.hid (hp.kept k0)
  have HN := Lib.hid hp.lt
  have HO0 := Lib.hid (show Only (· = p.B) w W0 from Only.of_kept k0)
  have HW0 := Lib.hid hW0
  have HSR := Lib.hid hsr
  have HTK := Lib.hid (hp.good.ok t0 (by simp))
  clear hp k0 hW0 hsr hk
  have hf1 := field_tok1
  have hf2 := field_tok2
  go_enter Tryz.func60, Tryz.ntmps60
  go_wp2_with (rw [HW0.out])
  refine (pnext_c _ HP0.out HSR.out).mono ?_
  rintro e w1 ⟨rfl, h4, h5⟩
  have HP1 := Lib.hid h4
  have HO1 := Lib.hid (HO0.out.trans h5)
  have HZ1 := Lib.hid (Nat.le_trans HZ0.out (Only.size h5))
  have HB1 := Lib.hid (HB0.out.only h5 (by have := HN.out; omega))
  clear h4 h5
  obtain ⟨⟨y0, y1, y2, y3, y4, y5⟩, f0, f1, f2, f3, f4, f5⟩ := nd_six HB1.out
  go_wp2_with fail
  refine node_end (x := Ps.nd 9 Ps.e0 Ps.e0 (0) []) (ks := []) (by rfl) rfl rfl HB1.out (by simp only [Ps.wNo, Ps.O.bind_ok, Ps.O.bind_bad, eq_self, if_true, Bool.false_eq_true, if_false]) rfl (KRow.nil _ _) HP1.out HN.out.2 HO1.out (nd_ok1 _ _ _ _ _ (by decide) e0_size e0_size (by decide)) ?_
  have := HN.out; skip; rw [count_nd, Nd.countL_nil, List.length_cons]; omega

set_option maxHeartbeats 1000000 in
theorem text1_c : WayC p k 61 (Ps.wText) := by
  intro t0 r0 w hk hp hsr
  obtain ⟨W0, hW0⟩ : ∃ W0, w.alloc (.cells pzN nT) = W0 := ⟨_, rfl⟩
  have k0 : Kept w W0 := by rw [← hW0]; exact (Kept.refl w).alloc _
  have HZ0 := Lib.hid (show w.heap.size + 1 ≤ W0.heap.size by rw [← hW0]; simp)
  have HB0 := Lib.hid (show Blk W0 w.heap.size nT pzN by rw [← hW0]; exact Blk.new _ _ _)
  have HP0 := Lib.hid (hp.kept k0)
  have HN := Lib.hid hp.lt
  have HO0 := Lib.hid (show Only (· = p.B) w W0 from Only.of_kept k0)
  have HW0 := Lib.hid hW0
  have HSR := Lib.hid hsr
  have HTK := Lib.hid (hp.good.ok t0 (by simp))
  clear hp k0 hW0 hsr hk
  have hf1 := field_tok1
  have hf2 := field_tok2
  go_enter Tryz.func61, Tryz.ntmps61
  go_wp2_with (rw [HW0.out])
  refine (pnext_c _ HP0.out HSR.out).mono ?_
  rintro e w1 ⟨rfl, h4, h5⟩
  have HP1 := Lib.hid h4
  have HO1 := Lib.hid (HO0.out.trans h5)
  have HZ1 := Lib.hid (Nat.le_trans HZ0.out (Only.size h5))
  have HB1 := Lib.hid (HB0.out.only h5 (by have := HN.out; omega))
  clear h4 h5
  obtain ⟨⟨y0, y1, y2, y3, y4, y5⟩, f0, f1, f2, f3, f4, f5⟩ := nd_six HB1.out
  go_wp2_with fail
  refine node_end (x := Ps.nd 10 t0.text Ps.e0 (0) []) (ks := []) (by rfl) rfl rfl HB1.out (by simp only [Ps.wText, Ps.O.bind_ok, Ps.O.bind_bad, eq_self, if_true, Bool.false_eq_true, if_false]) rfl (KRow.nil _ _) HP1.out HN.out.2 HO1.out (nd_ok1 _ _ _ _ _ (by decide) HTK.out.2.1 e0_size (by decide)) ?_
  have := HN.out; skip; rw [count_nd, Nd.countL_nil, List.length_cons]; omega

set_option maxHeartbeats 1000000 in
theorem this_c : WayC p k 64 (Ps.wThis) := by
  intro t0 r0 w hk hp hsr
  obtain ⟨W0, hW0⟩ : ∃ W0, w.alloc (.cells pzN nT) = W0 := ⟨_, rfl⟩
  have k0 : Kept w W0 := by rw [← hW0]; exact (Kept.refl w).alloc _
  have HZ0 := Lib.hid (show w.heap.size + 1 ≤ W0.heap.size by rw [← hW0]; simp)
  have HB0 := Lib.hid (show Blk W0 w.heap.size nT pzN by rw [← hW0]; exact Blk.new _ _ _)
  have HP0 := Lib.hid (hp.kept k0)
  have HN := Lib.hid hp.lt
  have HO0 := Lib.hid (show Only (· = p.B) w W0 from Only.of_kept k0)
  have HW0 := Lib.hid hW0
  have HSR := Lib.hid hsr
  have HTK := Lib.hid (hp.good.ok t0 (by simp))
  clear hp k0 hW0 hsr hk
  have hf1 := field_tok1
  have hf2 := field_tok2
  go_enter Tryz.func64, Tryz.ntmps64
  go_wp2_with (rw [HW0.out])
  refine (pnext_c _ HP0.out HSR.out).mono ?_
  rintro e w1 ⟨rfl, h4, h5⟩
  have HP1 := Lib.hid h4
  have HO1 := Lib.hid (HO0.out.trans h5)
  have HZ1 := Lib.hid (Nat.le_trans HZ0.out (Only.size h5))
  have HB1 := Lib.hid (HB0.out.only h5 (by have := HN.out; omega))
  clear h4 h5
  obtain ⟨⟨y0, y1, y2, y3, y4, y5⟩, f0, f1, f2, f3, f4, f5⟩ := nd_six HB1.out
  go_wp2_with fail
  refine node_end (x := Ps.nd 13 Ps.e0 Ps.e0 (0) []) (ks := []) (by rfl) rfl rfl HB1.out (by simp only [Ps.wThis, Ps.O.bind_ok, Ps.O.bind_bad, eq_self, if_true, Bool.false_eq_true, if_false]) rfl (KRow.nil _ _) HP1.out HN.out.2 HO1.out (nd_ok1 _ _ _ _ _ (by decide) e0_size e0_size (by decide)) ?_
  have := HN.out; skip; rw [count_nd, Nd.countL_nil, List.length_cons]; omega

set_option maxHeartbeats 1000000 in
theorem variable_c : WayC p k 65 (Ps.wVar) := by
  intro t0 r0 w hk hp hsr
  obtain ⟨W0, hW0⟩ : ∃ W0, w.alloc (.cells pzN nT) = W0 := ⟨_, rfl⟩
  have k0 : Kept w W0 := by rw [← hW0]; exact (Kept.refl w).alloc _
  have HZ0 := Lib.hid (show w.heap.size + 1 ≤ W0.heap.size by rw [← hW0]; simp)
  have HB0 := Lib.hid (show Blk W0 w.heap.size nT pzN by rw [← hW0]; exact Blk.new _ _ _)
  have HP0 := Lib.hid (hp.kept k0)
  have HN := Lib.hid hp.lt
  have HO0 := Lib.hid (show Only (· = p.B) w W0 from Only.of_kept k0)
  have HW0 := Lib.hid hW0
  have HSR := Lib.hid hsr
  have HTK := Lib.hid (hp.good.ok t0 (by simp))
  clear hp k0 hW0 hsr hk
  have hf1 := field_tok1
  have hf2 := field_tok2
  go_enter Tryz.func65, Tryz.ntmps65
  go_wp2_with (rw [HW0.out])
  refine (pnext_c _ HP0.out HSR.out).mono ?_
  rintro e w1 ⟨rfl, h4, h5⟩
  have HP1 := Lib.hid h4
  have HO1 := Lib.hid (HO0.out.trans h5)
  have HZ1 := Lib.hid (Nat.le_trans HZ0.out (Only.size h5))
  have HB1 := Lib.hid (HB0.out.only h5 (by have := HN.out; omega))
  clear h4 h5
  obtain ⟨⟨y0, y1, y2, y3, y4, y5⟩, f0, f1, f2, f3, f4, f5⟩ := nd_six HB1.out
  go_wp2_with fail
  refine node_end (x := Ps.nd 14 t0.text Ps.e0 (0) []) (ks := []) (by rfl) rfl rfl HB1.out (by simp only [Ps.wVar, Ps.O.bind_ok, Ps.O.bind_bad, eq_self, if_true, Bool.false_eq_true, if_false]) rfl (KRow.nil _ _) HP1.out HN.out.2 HO1.out (nd_ok1 _ _ _ _ _ (by decide) HTK.out.2.1 e0_size (by decide)) ?_
  have := HN.out; skip; rw [count_nd, Nd.countL_nil, List.length_cons]; omega

set_option maxHeartbeats 1000000 in
theorem pnone_c : WayC p k 63 (Ps.wNone) := by
  intro t0 r0 w hk hp hsr
  obtain ⟨W0, hW0⟩ : ∃ W0, w.alloc (.cells pzN nT) = W0 := ⟨_, rfl⟩
  have k0 : Kept w W0 := by rw [← hW0]; exact (Kept.refl w).alloc _
  have HZ0 := Lib.hid (show w.heap.size + 1 ≤ W0.heap.size by rw [← hW0]; simp)
  have HB0 := Lib.hid (show Blk W0 w.heap.size nT pzN by rw [← hW0]; exact Blk.new _ _ _)
  have HP0 := Lib.hid (hp.kept k0)
  have HN := Lib.hid hp.lt
  have HO0 := Lib.hid (show Only (· = p.B) w W0 from Only.of_kept k0)
  have HW0 := Lib.hid hW0
  have HSR := Lib.hid hsr
  have HTK := Lib.hid (hp.good.ok t0 (by simp))
  clear hp k0 hW0 hsr hk
  have hf1 := field_tok1
  have hf2 := field_tok2
  go_enter Tryz.func63, Tryz.ntmps63
  go_wp2_with (rw [HW0.out])
  refine (pnext_c _ HP0.out HSR.out).mono ?_
  rintro e w1 ⟨rfl, h4, h5⟩
  have HP1 := Lib.hid h4
  have HO1 := Lib.hid (HO0.out.trans h5)
  have HZ1 := Lib.hid (Nat.le_trans HZ0.out (Only.size h5))
  have HB1 := Lib.hid (HB0.out.only h5 (by have := HN.out; omega))
  clear h4 h5
  go_wp2_with fail
  refine (take_l [⟨#[97, 32, 99, 108, 97, 115, 115]⟩] (ty := 9) HP1.out (by first | rfl | simp) rfl rfl (by decide) (by decide +kernel)).mono ?_
  rintro e w2 (⟨t2, r2, h1, h2, rfl, h4, h5, h6⟩ | ⟨q, hb, rfl, ho⟩)
  rotate_left
  · have HH := Lib.hid (show (Ps.wNone) t0 r0 = .bad q ∧ Only (· = p.B) w w2 from ⟨by simp only [Ps.wNone, hb, Ps.O.bind_ok, Ps.O.bind_bad, eq_self, if_true, Bool.false_eq_true, if_false], HO1.out.trans ho⟩)
    clear hb ho
    go_wp2_with fail
    exact ⟨rfl, .inr ⟨_, HH.out.1, rfl, HH.out.2⟩⟩
  have HE2 := Lib.hid h1
  have HT2 := Lib.hid h6
  have HL2 := Lib.hid (show r2.length + 1 = (r0).length by rw [h2]; rfl)
  have HP2 := Lib.hid h4
  have HO2 := Lib.hid (HO1.out.trans h5)
  have HZ2 := Lib.hid (Nat.le_trans HZ1.out (Only.size h5))
  have HB2 := Lib.hid (HB1.out.only h5 (by have := HN.out; omega))
  clear h1 h2 h4 h5 h6
  obtain ⟨⟨y0, y1, y2, y3, y4, y5⟩, f0, f1, f2, f3, f4, f5⟩ := nd_six HB2.out
  go_wp2_with fail
  refine node_end (x := Ps.nd 12 Ps.e0 t2.text 0 []) (ks := []) (by rfl) rfl rfl HB2.out (by simp only [Ps.wNone, HE2.out, Ps.O.bind_ok, Ps.O.bind_bad, eq_self, if_true, Bool.false_eq_true, if_false]) rfl (KRow.nil _ _) HP2.out HN.out.2 HO2.out (nd_ok1 _ _ _ _ _ (by decide) e0_size HT2.out.2.1 (by decide)) ?_
  have := HN.out; have := HL2.out; rw [count_nd, Nd.countL_nil, List.length_cons]; omega

set_option maxHeartbeats 1000000 in
theorem read_c : WayC p k 70 (Ps.wRead) := by
  intro t0 r0 w hk hp hsr
  obtain ⟨W0, hW0⟩ : ∃ W0, w.alloc (.cells pzN nT) = W0 := ⟨_, rfl⟩
  have k0 : Kept w W0 := by rw [← hW0]; exact (Kept.refl w).alloc _
  have HZ0 := Lib.hid (show w.heap.size + 1 ≤ W0.heap.size by rw [← hW0]; simp)
  have HB0 := Lib.hid (show Blk W0 w.heap.size nT pzN by rw [← hW0]; exact Blk.new _ _ _)
  have HP0 := Lib.hid (hp.kept k0)
  have HN := Lib.hid hp.lt
  have HO0 := Lib.hid (show Only (· = p.B) w W0 from Only.of_kept k0)
  have HW0 := Lib.hid hW0
  have HSR := Lib.hid hsr
  have HTK := Lib.hid (hp.good.ok t0 (by simp))
  clear hp k0 hW0 hsr hk
  have hf1 := field_tok1
  have hf2 := field_tok2
  go_enter Tryz.func70, Tryz.ntmps70
  go_wp2_with (rw [HW0.out])
  refine (pnext_c _ HP0.out HSR.out).mono ?_
  rintro e w1 ⟨rfl, h4, h5⟩
  have HP1 := Lib.hid h4
  have HO1 := Lib.hid (HO0.out.trans h5)
  have HZ1 := Lib.hid (Nat.le_trans HZ0.out (Only.size h5))
  have HB1 := Lib.hid (HB0.out.only h5 (by have := HN.out; omega))
  clear h4 h5
  go_wp2_with fail
  refine (take_l [⟨#[40]⟩] (ty := 9) HP1.out (by first | rfl | simp) rfl rfl (by decide) (by decide +kernel)).mono ?_
  rintro e w2 (⟨t2, r2, h1, h2, rfl, h4, h5, h6⟩ | ⟨q, hb, rfl, ho⟩)
  rotate_left
  · have HH := Lib.hid (show (Ps.wRead) t0 r0 = .bad q ∧ Only (· = p.B) w w2 from ⟨by simp only [Ps.wRead, hb, Ps.O.bind_ok, Ps.O.bind_bad, eq_self, if_true, Bool.false_eq_true, if_false], HO1.out.trans ho⟩)
    clear hb ho
    go_wp2_with fail
    exact ⟨rfl, .inr ⟨_, HH.out.1, rfl, HH.out.2⟩⟩
  have HE2 := Lib.hid h1
  have HT2 := Lib.hid h6
  have HL2 := Lib.hid (show r2.length + 1 = (r0).length by rw [h2]; rfl)
  have HP2 := Lib.hid h4
  have HO2 := Lib.hid (HO1.out.trans h5)
  have HZ2 := Lib.hid (Nat.le_trans HZ1.out (Only.size h5))
  have HB2 := Lib.hid (HB1.out.only h5 (by have := HN.out; omega))
  clear h1 h2 h4 h5 h6
  go_wp2_with fail
  refine (take_l [⟨#[41]⟩] (ty := 9) HP2.out (by first | rfl | simp) rfl rfl (by decide) (by decide +kernel)).mono ?_
  rintro e w3 (⟨t3, r3, h1, h2, rfl, h4, h5, h6⟩ | ⟨q, hb, rfl, ho⟩)
  rotate_left
  · have HH := Lib.hid (show (Ps.wRead) t0 r0 = .bad q ∧ Only (· = p.B) w w3 from ⟨by simp only [Ps.wRead, HE2.out, hb, Ps.O.bind_ok, Ps.O.bind_bad, eq_self, if_true, Bool.false_eq_true, if_false], HO2.out.trans ho⟩)
    clear hb ho
    go_wp2_with fail
    exact ⟨rfl, .inr ⟨_, HH.out.1, rfl, HH.out.2⟩⟩
  have HE3 := Lib.hid h1
  have HT3 := Lib.hid h6
  have HL3 := Lib.hid (show r3.length + 1 = (r2).length by rw [h2]; rfl)
  have HP3 := Lib.hid h4
  have HO3 := Lib.hid (HO2.out.trans h5)
  have HZ3 := Lib.hid (Nat.le_trans HZ2.out (Only.size h5))
  have HB3 := Lib.hid (HB2.out.only h5 (by have := HN.out; omega))
  clear h1 h2 h4 h5 h6
  obtain ⟨⟨y0, y1, y2, y3, y4, y5⟩, f0, f1, f2, f3, f4, f5⟩ := nd_six HB3.out
  go_wp2_with fail
  refine node_end (x := Ps.nd 26 Ps.e0 Ps.e0 0 []) (ks := []) (by rfl) rfl rfl HB3.out (by simp only [Ps.wRead, HE2.out, HE3.out, Ps.O.bind_ok, Ps.O.bind_bad, eq_self, if_true, Bool.false_eq_true, if_false]) rfl (KRow.nil _ _) HP3.out HN.out.2 HO3.out (nd_ok1 _ _ _ _ _ (by decide) e0_size e0_size (by decide)) ?_
  have := HN.out; have := HL2.out; have := HL3.out; rw [count_nd, Nd.countL_nil, List.length_cons]; omega

set_option maxHeartbeats 1000000 in
theorem param_c (l : List Lx.T) (w : World) (hp : Pst p l w) : Calls Tryz.prog 102 #[.pointer (some ⟨p.B, 0, none⟩)] w (NodePost p l (Ps.param l) w) := by
  obtain ⟨W0, hW0⟩ : ∃ W0, w.alloc (.cells pzN nT) = W0 := ⟨_, rfl⟩
  have k0 : Kept w W0 := by rw [← hW0]; exact (Kept.refl w).alloc _
  have HZ0 := Lib.hid (show w.heap.size + 1 ≤ W0.heap.size by rw [← hW0]; simp)
  have HB0 := Lib.hid (show Blk W0 w.heap.size nT pzN by rw [← hW0]; exact Blk.new _ _ _)
  have HP0 := Lib.hid (hp.kept k0)
  have HN := Lib.hid hp.lt
  have HO0 := Lib.hid (show Only (· = p.B) w W0 from Only.of_kept k0)
  have HW0 := Lib.hid hW0
  clear hp k0 hW0
  have hf1 := field_tok1
  have hf2 := field_tok2
  go_enter Tryz.func102, Tryz.ntmps102
  go_wp2_with (rw [HW0.out])
  refine (take_l [⟨#[97, 32, 110, 97, 109, 101]⟩] (ty := 9) HP0.out (by first | rfl | simp) rfl rfl (by decide) (by decide +kernel)).mono ?_
  rintro e w1 (⟨t1, r1, h1, h2, rfl, h4, h5, h6⟩ | ⟨q, hb, rfl, ho⟩)
  rotate_left
  · have HH := Lib.hid (show Ps.param l = .bad q ∧ Only (· = p.B) w w1 from ⟨by simp only [Ps.param, hb, Ps.O.bind_ok, Ps.O.bind_bad, eq_self, if_true, Bool.false_eq_true, if_false], HO0.out.trans ho⟩)
    clear hb ho
    go_wp2_with fail
    exact ⟨rfl, .inr ⟨_, HH.out.1, rfl, HH.out.2⟩⟩
  have HE1 := Lib.hid h1
  have HT1 := Lib.hid h6
  have HL1 := Lib.hid (show r1.length + 1 = (l).length by rw [h2]; rfl)
  have HP1 := Lib.hid h4
  have HO1 := Lib.hid (HO0.out.trans h5)
  have HZ1 := Lib.hid (Nat.le_trans HZ0.out (Only.size h5))
  have HB1 := Lib.hid (HB0.out.only h5 (by have := HN.out; omega))
  clear h1 h2 h4 h5 h6
  go_wp2_with fail
  refine (annot_c _ _ HP1.out).mono ?_
  rintro e w2 (⟨yy2, r2, h1, rfl, h4, h5, h6, h7⟩ | ⟨q, hb, rfl, ho⟩)
  rotate_left
  · have HH := Lib.hid (show Ps.param l = .bad q ∧ Only (· = p.B) w w2 from ⟨by simp only [Ps.param, HE1.out, hb, Ps.O.bind_ok, Ps.O.bind_bad, eq_self, if_true, Bool.false_eq_true, if_false], HO1.out.trans ho⟩)
    clear hb ho
    go_wp2_with fail
    exact ⟨rfl, .inr ⟨_, HH.out.1, rfl, HH.out.2⟩⟩
  have HE2 := Lib.hid h1
  have HT2 := Lib.hid h6
  have HL2 := Lib.hid h7
  have HP2 := Lib.hid h4
  have HO2 := Lib.hid (HO1.out.trans h5)
  have HZ2 := Lib.hid (Nat.le_trans HZ1.out (Only.size h5))
  have HB2 := Lib.hid (HB1.out.only h5 (by have := HN.out; omega))
  clear h1 h4 h5 h6 h7
  obtain ⟨⟨y0, y1, y2, y3, y4, y5⟩, f0, f1, f2, f3, f4, f5⟩ := nd_six HB2.out
  go_wp2_with fail
  refine node_end (x := Ps.nd 5 t1.text yy2 0 []) (ks := []) (by rfl) rfl rfl HB2.out (by simp only [Ps.param, HE1.out, HE2.out, Ps.O.bind_ok, Ps.O.bind_bad, eq_self, if_true, Bool.false_eq_true, if_false]) rfl (KRow.nil _ _) HP2.out HN.out.2 HO2.out (nd_ok1 _ _ _ _ _ (by decide) HT1.out.2.1 HT2.out (by decide)) ?_
  have := HN.out; have := HL1.out; have := HL2.out; rw [count_nd, Nd.countL_nil]; omega
end
end Go.Proofs.YtfkmnpgpfmkjaaaGreatDoor
namespace Go.Proofs.YtfkmnpgpfmkjaaaGreatDoor
open Go.ChangeShapes Go.WideShapes Go.ChangeAt Go.RowKit
attribute [local go_sem] Oper.semAt_some
open Ps (O W)

abbrev ndA (x : Nd) (v : Value) : Array Value := #[.int .i64 x.kind, .string x.text, .string x.typ, .string x.frm, .int .i64 x.n, v]
theorem Only.past {S : Nat → Prop} {a w w' : World} {n : Nat} (h : Only S a w) (k : Only (fun k => n ≤ k) w w') (hn : a.heap.size ≤ n) : Only S a w' :=
  ⟨k.os.trans h.os, k.output.trans h.output, Nat.le_trans h.size k.size, fun i hi hs => (k.block i (Nat.lt_of_lt_of_le hi h.size) (by omega)).trans (h.block i hi hs)⟩
theorem info_ndP : (Tryz.prog.info? nT).map (fun i => (i.zero, i.size, i.bytes)) = some (some (.agg #[.int .i64 0, .string ⟨#[]⟩, .string ⟨#[]⟩, .string ⟨#[]⟩, .int .i64 0, .slice none 0 0]), 6, 88) := by kernel_rfl

theorem wpList_nd {ops : Array Oper} {rest : List Oper} {o : Oper} {a : Act} {Q : Exit → Act → World → Prop} {w : World} (s x : Operand) (hgd : o.guard = none)
    (ho : o.op = .call { callee := .builtin .append, args := #[s, x], argTypes := #[23, 23] }) {D : Nat → Prop} {base : Nat} {v vx : Value} {ks k2 : List (Nd × Value)} (hs : a.eval s = v) (hK : KRowD D base w v ks) (hx : a.eval x = vx)
    (hX : Src Tryz.prog 6 23 vx k2.length (k2.flatMap fun p => ndC p.1 p.2) w) (h2 : ∀ q ∈ k2, q.1.ok1 ∧ KidsD (fun k => D k ∧ v.ownBlock ≠ some k) w q.2 q.1.kids) (hb : base ≤ w.heap.size) (hm : ks.length + k2.length ≤ 60000)
    (hk : ∀ a' c' w', KRowD D base w' (.slice a' (ks.length + k2.length) c') (ks ++ k2) → Only (fun k => base ≤ k) w w' → wpList Tryz.prog ops Q rest (a.put o.dst (.slice a' (ks.length + k2.length) c')) w') : wpList Tryz.prog ops Q (o :: rest) a w := by
  obtain ⟨i0, hi, hi2⟩ := Option.map_eq_some_iff.1 info_ndP
  simp only [Prod.mk.injEq] at hi2
  obtain ⟨hz0, hzz1, hzz2⟩ := hi2
  refine wpList_apk hgd s x 23 23 ho base 6 nT i0 _ 88 Tryz.underlying23 hi hz0 hzz1 hzz2 rfl hs hK.1 hx hX (by unfold maxLen; omega) (by omega) hb ?_
  intro v' w' hown hgrow hlies
  have hnew := hK.app h2 rfl hown hgrow hlies
  obtain ⟨va, vc, rfl⟩ := slice_of_owns0 hown
  refine hk va vc w' hnew ((Only.refl _ w).grown hgrow fun k hk => .inl ?_)
  exact owns_block0 hK.1 hk

theorem step_nd {ops : Array Oper} {o : Oper} {a : Act} {K : Act → World → Prop} {Q : Exit → Act → World → Prop} {E : Prop} {w : World} (s x : Operand) (hgd : o.guard = none)
    (ho : o.op = .call { callee := .builtin .append, args := #[s, x], argTypes := #[23, 23] }) {D : Nat → Prop} {base : Nat} {v vx : Value} {ks k2 : List (Nd × Value)} (hs : a.eval s = v) (hK : KRowD D base w v ks) (hx : a.eval x = vx)
    (hX : Src Tryz.prog 6 23 vx k2.length (k2.flatMap fun p => ndC p.1 p.2) w) (h2 : ∀ q ∈ k2, q.1.ok1 ∧ KidsD (fun k => D k ∧ v.ownBlock ≠ some k) w q.2 q.1.kids) (hb : base ≤ w.heap.size) (hm : ks.length + k2.length ≤ 60000)
    (hk : ∀ a' c' w', KRowD D base w' (.slice a' (ks.length + k2.length) c') (ks ++ k2) → Only (fun k => v.ownBlock = some k ∨ w.heap.size ≤ k) w w' → ((Value.slice a' (ks.length + k2.length) c').ownBlock = v.ownBlock ∨ (Value.slice a' (ks.length + k2.length) c').ownBlock = some w.heap.size) → K (a.put o.dst (.slice a' (ks.length + k2.length) c')) w') :
    if Region.wanted o (yielded ops a.tmps) = true then Oper.wp Tryz.prog o a w K Q else E := by
  obtain ⟨i0, hi, hi2⟩ := Option.map_eq_some_iff.1 info_ndP
  simp only [Prod.mk.injEq] at hi2
  obtain ⟨hz0, hzz1, hzz2⟩ := hi2
  refine step_apk hgd s x 23 23 ho base 6 nT i0 _ 88 Tryz.underlying23 hi hz0 hzz1 hzz2 rfl hs hK.1 hx hX (by unfold maxLen; omega) (by omega) hb ?_
  intro v' w' hown hgrow _ hlies
  have hnew := hK.app h2 rfl hown hgrow hlies
  obtain ⟨va, vc, rfl⟩ := slice_of_owns0 hown
  exact hk va vc w' hnew ((Only.refl _ w).grown hgrow fun k hk => .inl (.inl hk)) hlies

/-- How many tokens lie ahead. -/
def ahead (p : PP) (w : World) : Nat := match w.cell? ⟨p.B, 0, none⟩ with | some (.slice _ n _) => n | _ => 0
theorem Pst.ahead {p : PP} {l : List Lx.T} {w : World} (h : Pst p l w) : ahead p w = l.length := by
  obtain ⟨ad, c, hb, _⟩ := h.blk
  have := hb.cell 0
  unfold Go.Proofs.YtfkmnpgpfmkjaaaGreatDoor.ahead
  rw [this]; rfl
theorem Pst.len {p : PP} {l : List Lx.T} {w : World} (h : Pst p l w) : l.length ≤ 30000 := h.good.len

section
variable {p : PP} {F : Ps.Fam} {k : Nat}

/-- Within a list: what is so ahead of its , or ). -/
structure LstI (p : PP) (part : List Lx.T → O Nd) (l : List Lx.T) (w : World) (v : Value) (wr : World) (ks : List (Nd × Value)) (r : List Lx.T) : Prop where
  eq : ∃ K, r.length + 1 ≤ K ∧ Ps.list part l = Ps.listLoop part K (ks.map (·.1)) r
  row : KRow w.heap.size wr v ks
  pst : Pst p r wr
  only : Only (· = p.B) w wr
  cnt : Nd.countL (ks.map (·.1)) + r.length < l.length
theorem countL_snoc (l : List Nd) (x : Nd) : Nd.countL (l ++ [x]) = Nd.countL l + x.count := by rw [Nd.countL_app, Nd.countL_cons, Nd.countL_nil]; omega
theorem map_fst_len (ks : List (Nd × Value)) : ks.length ≤ Nd.countL (ks.map (·.1)) := by
  have := Nd.len_le_countL (ks.map (·.1))
  rwa [List.length_map] at this

set_option maxHeartbeats 4000000 in
theorem list_c (g : Nat) (eg : ∀ args w, (callFunc g args).run Tryz.prog w = .ok (.enter g args) w) (part : List Lx.T → O Nd) (hg : ∀ l w, l.length ≤ k → Pst p l w → Calls Tryz.prog g #[.pointer (some ⟨p.B, 0, none⟩)] w (NodePost p l (part l) w)) (l : List Lx.T) (w : World) (hk : l.length ≤ k + 1) (hp : Pst p l w) :
    Calls Tryz.prog 101 #[.pointer (some ⟨p.B, 0, none⟩), .func (.func g) #[] #[]] w (ListPost p l (Ps.list part l) w) := by
  have HP := Lib.hid hp
  have HG := Lib.hid hg
  have HKL := Lib.hid hk
  have HN := Lib.hid hp.lt
  clear hp hg hk
  go_enter Tryz.func101, Tryz.ntmps101
  go_wp2_with fail
  refine (take_l [Ps.kOpen] (ty := 9) HP.out rfl rfl rfl (by decide) (by decide +kernel)).mono ?_
  rintro e w1 (⟨t1, r1, h1, h2, rfl, h4, h5, h6⟩ | ⟨q, hb, rfl, ho⟩)
  rotate_left
  · have HH := Lib.hid (show Ps.list part l = .bad q ∧ Only (· = p.B) w w1 from ⟨by simp only [Ps.list, hb, Ps.O.bind_bad], ho⟩)
    clear hb ho
    go_wp2_with fail
    exact ⟨rfl, .inr ⟨_, HH.out.1, rfl, HH.out.2⟩⟩
  have HE1 := Lib.hid (show Ps.list part l = if Ps.is [Ps.kShut] r1 then .ok [] r1.tail else (part r1).bind fun x r => Ps.listLoop part (r.length + 1) [x] r by simp only [Ps.list, h1, Ps.O.bind_ok])
  have HL1 := Lib.hid (show r1.length + 1 = l.length by rw [h2]; rfl)
  have HP1 := Lib.hid h4
  have HO1 := Lib.hid h5
  clear h1 h2 h4 h5 h6
  go_wp2_with fail
  refine (pskip_c Ps.kShut r1 _ HP1.out (by decide +kernel)).mono ?_
  rintro e w2 (⟨h1, rfl, h2, h3, h4⟩ | ⟨h1, rfl, h2, h3⟩)
  · have HH := Lib.hid (show ListPost p l (Ps.list part l) w (.returned (.slice none 0 0)) w2 from .inl ⟨[], _, _, by rw [HE1.out, if_pos h1]; rfl, rfl, KRow.nil _ _, h2, HO1.out.trans h3, by have := HL1.out; show Nd.countL [] + _ < _; rw [Nd.countL_nil]; omega⟩)
    clear h1 h2 h3 h4
    go_wp2_with fail
    go_ret
    exact HH.out
  have HE2 := Lib.hid (show Ps.list part l = (part r1).bind fun x r => Ps.listLoop part (r.length + 1) [x] r by rw [HE1.out, h1]; rfl)
  have HP2 := Lib.hid h2
  have HO2 := Lib.hid (HO1.out.trans h3)
  clear h1 h2 h3
  go_wp2_with fail
  refine (HG.out r1 _ (by have := HL1.out; have := HKL.out; omega) HP2.out).mono ?_
  rintro e w3 (⟨x3, k3, r3, v3, h1, rfl, hx, hk, h4, h5, hok, h7⟩ | ⟨q, hb, rfl, ho⟩)
  rotate_left
  · have HH := Lib.hid (show Ps.list part l = .bad q ∧ Only (· = p.B) w w3 from ⟨by rw [HE2.out, hb]; rfl, HO2.out.trans ho⟩)
    clear hb ho
    go_wp2_with fail
    exact ⟨rfl, .inr ⟨_, HH.out.1, rfl, HH.out.2⟩⟩
  obtain ⟨W4, hW4⟩ : ∃ W4, w3.alloc (.cells (ndA x3 v3) nT) = W4 := ⟨_, rfl⟩
  have hz3 : w.heap.size ≤ w3.heap.size := Nat.le_trans HO2.out.size h5.size
  have HI := Lib.hid (show LstI p part l w (.slice (some ⟨w3.heap.size, 0, none⟩) 1 1) W4 [(x3, v3)] r3 from
    ⟨⟨r3.length + 1, Nat.le_refl _, by rw [HE2.out, h1]; rfl⟩, by
      rw [← hW4]
      exact KRow.lit [(x3, v3)] rfl rfl rfl hz3 (by simp) (fun q hq => by
        rw [List.mem_singleton] at hq; subst hq
        exact ⟨hok, k3, hx, hk.lower HO2.out.size⟩), by rw [← hW4]; exact h4.alloc _, by rw [← hW4]; exact (HO2.out.trans h5).trans (Only.of_kept ((Kept.refl _).alloc _)), by
      show Nd.countL [x3] + _ < _
      rw [Nd.countL_cons, Nd.countL_nil]; have := HL1.out; omega⟩)
  have HW4 := Lib.hid hW4
  clear h1 hx hk h4 h5 hok h7 hW4 hz3
  go_wp2_with (rw [HW4.out])
  go_loopw [5] (fun s wr => ∃ ks r a c, s = .slice a ks.length c ∧ Hid (LstI p part l w (.slice a ks.length c) wr ks r)) (fun s wr => ahead p wr)
  case atStart => exact ⟨[(x3, v3)], r3, _, _, rfl, HI⟩
  case round =>
    obtain ⟨ks, r, a, c, rfl, HR⟩ := hrel
    have hP := HR.out.pst
    have HAH := Lib.hid hP.ahead
    go_wp2_with fail
    refine (pskip_c Ps.kComma r _ hP (by decide +kernel)).mono ?_
    rintro e w5 (⟨h1, rfl, h2, h3, h4⟩ | ⟨h1, rfl, h2, h3⟩)
    · have HR5 := Lib.hid (show (∃ K, r.tail.length + 2 ≤ K ∧ Ps.list part l = Ps.listLoop part K (ks.map (·.1)) r) ∧ KRow w.heap.size w5 (.slice a ks.length c) ks ∧ Only (· = p.B) w w5 from ⟨by
        obtain ⟨K, hK, e⟩ := HR.out.eq
        exact ⟨K, by omega, e⟩, HR.out.row.onB h3 (by have := HN.out; omega), HR.out.only.trans h3⟩)
      have HI1 := Lib.hid h1
      have HL4 := Lib.hid h4
      have HP5 := Lib.hid h2
      clear h1 h2 h3 h4 hP
      go_wp2_with fail
      refine (HG.out r.tail _ (by have := HL4.out; have := HR.out.cnt; have := HKL.out; omega) HP5.out).mono ?_
      rintro e w6 (⟨x6, k6, r6, v6, h1, rfl, hx, hk, h4, h5, hok, h7⟩ | ⟨q, hb, rfl, ho⟩)
      rotate_left
      · have HH := Lib.hid (show Ps.list part l = .bad q ∧ Only (· = p.B) w w6 from ⟨by
          obtain ⟨⟨K, hK, e⟩, _⟩ := HR5.out
          rw [e]
          cases K with
          | zero => omega
          | succ K => rw [Ps.listLoop, if_pos HI1.out, hb]; rfl, HR5.out.2.2.trans ho⟩)
        clear hb ho
        go_wp2_with fail
        exact ⟨rfl, .inr ⟨_, HH.out.1, rfl, HH.out.2⟩⟩
      obtain ⟨W7, hW7⟩ : ∃ W7, w6.alloc (.cells (ndA x6 v6) nT) = W7 := ⟨_, rfl⟩
      have hB6 : p.B < w.heap.size := by have := HN.out; omega
      have hz5 : w.heap.size ≤ w5.heap.size := HR5.out.2.2.size
      have hz6 := h5.size
      have k7 : Kept w6 W7 := by rw [← hW7]; exact (Kept.refl _).alloc _
      have hr7 : KRow w.heap.size W7 (.slice a ks.length c) ks := (HR5.out.2.1.onB h5 hB6).kept k7
      have hl7 : KRow w5.heap.size W7 (.slice (some ⟨w6.heap.size, 0, none⟩) 1 1) [(x6, v6)] := by
        rw [← hW7]
        exact KRow.lit [(x6, v6)] rfl rfl rfl hz6 (by simp) (fun q hq => by
          rw [List.mem_singleton] at hq; subst hq
          exact ⟨hok, k6, hx, hk⟩)
      have HR7 := Lib.hid hr7
      obtain ⟨_, _, _, _, hs7⟩ := hl7.src
      have HS7 := Lib.hid hs7
      have H27 := Lib.hid (KRowD.behind HR5.out.2.1 hl7 (Nat.le_refl _) (fun k hk => Nat.le_trans hz5 hk))
      have HZ7 := Lib.hid (show w.heap.size ≤ W7.heap.size from Nat.le_trans hz5 (Nat.le_trans hz6 k7.size))
      have HM7 := Lib.hid (show ks.length + 1 ≤ 60000 by have := map_fst_len ks; have := HR.out.cnt; have := HP.out.len; omega)
      have HX7 := Lib.hid (show (∃ K, r6.length + 1 ≤ K ∧ Ps.list part l = Ps.listLoop part K ((ks ++ [(x6, v6)]).map (·.1)) r6) ∧ Pst p r6 W7 ∧ Only (· = p.B) w W7 ∧ Nd.countL ((ks ++ [(x6, v6)]).map (·.1)) + r6.length < l.length ∧ r6.length < r.length from ⟨by
          obtain ⟨⟨K, hK, e⟩, _⟩ := HR5.out
          have := Nd.count_pos x6
          cases K with
          | zero => omega
          | succ K => exact ⟨K, by omega, by rw [e, Ps.listLoop, if_pos HI1.out, h1, List.map_append]; rfl⟩, h4.kept k7, (HR5.out.2.2.trans h5).trans (Only.of_kept k7), by
          rw [List.map_append, show List.map (·.1) [(x6, v6)] = [x6] from rfl, countL_snoc]
          have := HR.out.cnt
          have := HL4.out
          omega, by have := Nd.count_pos x6; have := HL4.out; omega⟩)
      have HW7 := Lib.hid hW7
      clear h1 hx hk h4 h5 hok h7 hW7 hB6 hz5 hz6 k7 hr7 hl7 hs7
      go_wp2_with (first | rw [HW7.out] | (at_builtin; refine wpList_nd (k2 := [(x6, v6)]) (.tmp 17) (.tmp 21) rfl rfl rfl HR7.out rfl HS7.out H27.out HZ7.out HM7.out ?_; intro a8 c8 w8 hk8 ho8; have HK8 := Lib.hid hk8; have HO8 := Lib.hid ho8; clear hk8 ho8))
      have HI8 := Lib.hid (show LstI p part l w (.slice a8 (ks.length + 1) c8) w8 (ks ++ [(x6, v6)]) r6 from
        ⟨HX7.out.1, HK8.out, HX7.out.2.1.only HO8.out (fun b hb hc => by have := HN.out; omega), HX7.out.2.2.1.past HO8.out (Nat.le_refl _), HX7.out.2.2.2.1⟩)
      go_roundw
      case rel => exact ⟨ks ++ [(x6, v6)], r6, a8, c8, by simp, by simpa using HI8⟩
      case measure =>
        have h1 := HI8.out.pst.ahead
        have h2 := HAH.out
        have h3 := HX7.out.2.2.2.2
        rw [h1, h2]; exact h3
    · have HR5 := Lib.hid (show (∃ K, r.length + 1 ≤ K ∧ Ps.list part l = Ps.listLoop part K (ks.map (·.1)) r) ∧ KRow w.heap.size w5 (.slice a ks.length c) ks ∧ Only (· = p.B) w w5 from ⟨HR.out.eq, HR.out.row.onB h3 (by have := HN.out; omega), HR.out.only.trans h3⟩)
      have HI1 := Lib.hid h1
      have HP5 := Lib.hid h2
      clear h1 h2 h3 hP
      go_wp2_with fail
      refine (take_l [Ps.kShut] (ty := 9) HP5.out rfl rfl rfl (by decide) (by decide +kernel)).mono ?_
      rintro e w6 (⟨t6, r6, h1, h2, rfl, h4, h5, h6⟩ | ⟨q, hb, rfl, ho⟩)
      rotate_left
      · have HH := Lib.hid (show Ps.list part l = .bad q ∧ Only (· = p.B) w w6 from ⟨by
          obtain ⟨⟨K, hK, e⟩, _⟩ := HR5.out
          rw [e]
          cases K with
          | zero => omega
          | succ K => rw [Ps.listLoop, HI1.out, hb]; rfl, HR5.out.2.2.trans ho⟩)
        clear hb ho
        go_wp2_with fail
        exact ⟨rfl, .inr ⟨_, HH.out.1, rfl, HH.out.2⟩⟩
      have HH := Lib.hid (show ListPost p l (Ps.list part l) w (.returned (.slice a ks.length c)) w6 from .inl ⟨ks, r6, _, by
        obtain ⟨⟨K, hK, e⟩, _⟩ := HR5.out
        rw [e]
        cases K with
        | zero => omega
        | succ K => rw [Ps.listLoop, HI1.out, h1]; rfl, rfl, HR5.out.2.1.onB h5 (by have := HN.out; omega), h4, HR5.out.2.2.trans h5, by have := HR.out.cnt; rw [h2, List.length_cons] at this; omega⟩)
      clear h1 h2 h4 h5 h6
      go_wp2_with fail
      go_ret
      exact HH.out
end
end Go.Proofs.YtfkmnpgpfmkjaaaGreatDoor
namespace Go.Proofs.YtfkmnpgpfmkjaaaGreatDoor
open Go.ChangeShapes Go.WideShapes Go.ChangeAt Go.RowKit
attribute [local go_sem] Oper.semAt_some
open Ps (O W)

section
variable {p : PP} {F : Ps.Fam} {k : Nat}

set_option maxHeartbeats 1000000 in
theorem args_c (hF : FamC p F k) (l : List Lx.T) (w : World) (hk : l.length ≤ k + 1) (hp : Pst p l w) : Calls Tryz.prog 97 #[.pointer (some ⟨p.B, 0, none⟩)] w (ListPost p l (Ps.args F l) w) := by
  have HL := Lib.hid (list_c 95 (enters_of Tryz.func95 (by kernel_rfl) rfl) (F .expr) hF.expr l w hk hp)
  clear hp hk
  go_enter Tryz.func97, Tryz.ntmps97
  go_wp2_with fail
  refine HL.out.mono ?_
  rintro e w1 (⟨ks, r, v, h1, rfl, hk, h4, h5, h7⟩ | ⟨q, hb, rfl, ho⟩)
  · obtain ⟨va, vc, rfl⟩ := hk.slice
    have HH := Lib.hid (show ListPost p l (Ps.args F l) w (.returned (.slice va ks.length vc)) w1 from .inl ⟨ks, r, _, h1, rfl, hk, h4, h5, h7⟩)
    clear h1 hk h4 h5 h7
    go_wp2_with fail
    go_ret
    exact HH.out
  · have HH := Lib.hid (show Ps.args F l = .bad q ∧ Only (· = p.B) w w1 from ⟨hb, ho⟩)
    clear hb ho
    go_wp2_with fail
    exact ⟨rfl, .inr ⟨_, HH.out.1, rfl, HH.out.2⟩⟩

set_option maxHeartbeats 1000000 in
theorem operand_c (hF : FamC p F k) (l : List Lx.T) (w : World) (hk : l.length ≤ k + 1) (hp : Pst p l w) : Calls Tryz.prog 98 #[.pointer (some ⟨p.B, 0, none⟩)] w (ListPost p l (Ps.operand F l) w) := by
  have HP := Lib.hid hp
  have HKL := Lib.hid hk
  have HN := Lib.hid hp.lt
  clear hp hk
  go_enter Tryz.func98, Tryz.ntmps98
  go_wp2_with fail
  refine (take_l [Ps.kOpen] (ty := 9) HP.out rfl rfl rfl (by decide) (by decide +kernel)).mono ?_
  rintro e w1 (⟨t1, r1, h1, h2, rfl, h4, h5, h6⟩ | ⟨q, hb, rfl, ho⟩)
  rotate_left
  · have HH := Lib.hid (show Ps.operand F l = .bad q ∧ Only (· = p.B) w w1 from ⟨by simp only [Ps.operand, hb, Ps.O.bind_bad], ho⟩)
    clear hb ho
    go_wp2_with fail
    exact ⟨rfl, .inr ⟨_, HH.out.1, rfl, HH.out.2⟩⟩
  have HE1 := Lib.hid (show Ps.operand F l = (F .expr r1).bind fun x r => (Ps.take [Ps.kShut] r).bind fun _ r => .ok [x] r by simp only [Ps.operand, h1, Ps.O.bind_ok])
  have HL1 := Lib.hid (show r1.length + 1 = l.length by rw [h2]; rfl)
  have HP1 := Lib.hid h4
  have HO1 := Lib.hid h5
  clear h1 h2 h4 h5 h6
  go_wp2_with fail
  refine (hF.expr r1 _ (by have := HL1.out; have := HKL.out; omega) HP1.out).mono ?_
  rintro e w3 (⟨x3, k3, r3, v3, h1, rfl, hx, hk, h4, h5, hok, h7⟩ | ⟨q, hb, rfl, ho⟩)
  rotate_left
  · have HH := Lib.hid (show Ps.operand F l = .bad q ∧ Only (· = p.B) w w3 from ⟨by rw [HE1.out, hb]; rfl, HO1.out.trans ho⟩)
    clear hb ho
    go_wp2_with fail
    exact ⟨rfl, .inr ⟨_, HH.out.1, rfl, HH.out.2⟩⟩
  obtain ⟨W4, hW4⟩ : ∃ W4, w3.alloc (.cells (ndA x3 v3) nT) = W4 := ⟨_, rfl⟩
  have hz3 : w.heap.size ≤ w3.heap.size := Nat.le_trans HO1.out.size h5.size
  have HK4 := Lib.hid (show KRow w.heap.size W4 (.slice (some ⟨w3.heap.size, 0, none⟩) 1 1) [(x3, v3)] by
    rw [← hW4]
    exact KRow.lit [(x3, v3)] rfl rfl rfl hz3 (by simp) (fun q hq => by
      rw [List.mem_singleton] at hq; subst hq
      exact ⟨hok, k3, hx, hk.lower HO1.out.size⟩))
  have k4 : Kept w3 W4 := by rw [← hW4]; exact (Kept.refl _).alloc _
  have HP4 := Lib.hid (h4.kept k4)
  have HO4 := Lib.hid ((HO1.out.trans h5).trans (Only.of_kept k4))
  have HE4 := Lib.hid h1
  have HL4 := Lib.hid h7
  have HW4 := Lib.hid hW4
  clear h1 hx hk h4 h5 hok h7 hW4 hz3 k4
  go_wp2_with (rw [HW4.out])
  refine (take_l [Ps.kShut] (ty := 9) HP4.out rfl rfl rfl (by decide) (by decide +kernel)).mono ?_
  rintro e w5 (⟨t5, r5, h1, h2, rfl, h4, h5, h6⟩ | ⟨q, hb, rfl, ho⟩)
  rotate_left
  · have HH := Lib.hid (show Ps.operand F l = .bad q ∧ Only (· = p.B) w w5 from ⟨by simp only [HE1.out, HE4.out, hb, Ps.O.bind_ok, Ps.O.bind_bad], HO4.out.trans ho⟩)
    clear hb ho
    go_wp2_with fail
    exact ⟨rfl, .inr ⟨_, HH.out.1, rfl, HH.out.2⟩⟩
  have HH := Lib.hid (show ListPost p l (Ps.operand F l) w (.returned (.slice (some ⟨w3.heap.size, 0, none⟩) 1 1)) w5 from .inl ⟨[(x3, v3)], r5, _, by simp only [HE1.out, HE4.out, h1, Ps.O.bind_ok]; rfl, rfl, HK4.out.onB h5 (by have := HN.out; omega), h4, HO4.out.trans h5, by
    show Nd.countL [x3] + _ < _
    rw [Nd.countL_cons, Nd.countL_nil]
    have h8 := HL4.out
    have := HL1.out
    rw [h2, List.length_cons] at h8
    omega⟩)
  clear h1 h2 h4 h5 h6
  go_wp2_with fail
  go_ret
  exact HH.out

set_option maxHeartbeats 1000000 in
theorem super_c (hF : FamC p F k) : WayC p k 66 (Ps.wSuper F) := by
  intro t0 r0 w hk hp hsr
  obtain ⟨W0, hW0⟩ : ∃ W0, w.alloc (.cells pzN nT) = W0 := ⟨_, rfl⟩
  have k0 : Kept w W0 := by rw [← hW0]; exact (Kept.refl w).alloc _
  have HZ0 := Lib.hid (show w.heap.size + 1 ≤ W0.heap.size by rw [← hW0]; simp)
  have HB0 := Lib.hid (show Blk W0 w.heap.size nT pzN by rw [← hW0]; exact Blk.new _ _ _)
  have HP0 := Lib.hid (hp.kept k0)
  have HN := Lib.hid hp.lt
  have HO0 := Lib.hid (show Only (· = p.B) w W0 from Only.of_kept k0)
  have HW0 := Lib.hid hW0
  have HSR := Lib.hid hsr
  have HTK := Lib.hid (hp.good.ok t0 (by simp))
  have HKL := Lib.hid hk
  clear hp k0 hW0 hsr hk
  have hf1 := field_tok1
  have hf2 := field_tok2
  go_enter Tryz.func66, Tryz.ntmps66
  go_wp2_with (rw [HW0.out])
  refine (pnext_c _ HP0.out HSR.out).mono ?_
  rintro e w1 ⟨rfl, h4, h5⟩
  have HP1 := Lib.hid h4
  have HO1 := Lib.hid (HO0.out.trans h5)
  have HZ1 := Lib.hid (Nat.le_trans HZ0.out (Only.size h5))
  have HB1 := Lib.hid (HB0.out.only h5 (by have := HN.out; omega))
  clear h4 h5
  go_wp2_with fail
  refine (take_l [⟨#[46]⟩] (ty := 9) HP1.out (by first | rfl | simp) rfl rfl (by decide) (by decide +kernel)).mono ?_
  rintro e w2 (⟨t2, r2, h1, h2, rfl, h4, h5, h6⟩ | ⟨q, hb, rfl, ho⟩)
  rotate_left
  · have HH := Lib.hid (show (Ps.wSuper F) t0 r0 = .bad q ∧ Only (· = p.B) w w2 from ⟨by simp only [Ps.wSuper, hb, Ps.O.bind_ok, Ps.O.bind_bad, eq_self, if_true, Bool.false_eq_true, if_false], HO1.out.trans ho⟩)
    clear hb ho
    go_wp2_with fail
    exact ⟨rfl, .inr ⟨_, HH.out.1, rfl, HH.out.2⟩⟩
  have HE2 := Lib.hid h1
  have HT2 := Lib.hid h6
  have HL2 := Lib.hid (show r2.length + 1 = (r0).length by rw [h2]; rfl)
  have HP2 := Lib.hid h4
  have HO2 := Lib.hid (HO1.out.trans h5)
  have HZ2 := Lib.hid (Nat.le_trans HZ1.out (Only.size h5))
  have HB2 := Lib.hid (HB1.out.only h5 (by have := HN.out; omega))
  clear h1 h2 h4 h5 h6
  go_wp2_with fail
  refine (take_l [⟨#[97, 32, 110, 97, 109, 101]⟩] (ty := 9) HP2.out (by first | rfl | simp) rfl rfl (by decide) (by decide +kernel)).mono ?_
  rintro e w3 (⟨t3, r3, h1, h2, rfl, h4, h5, h6⟩ | ⟨q, hb, rfl, ho⟩)
  rotate_left
  · have HH := Lib.hid (show (Ps.wSuper F) t0 r0 = .bad q ∧ Only (· = p.B) w w3 from ⟨by simp only [Ps.wSuper, HE2.out, hb, Ps.O.bind_ok, Ps.O.bind_bad, eq_self, if_true, Bool.false_eq_true, if_false], HO2.out.trans ho⟩)
    clear hb ho
    go_wp2_with fail
    exact ⟨rfl, .inr ⟨_, HH.out.1, rfl, HH.out.2⟩⟩
  have HE3 := Lib.hid h1
  have HT3 := Lib.hid h6
  have HL3 := Lib.hid (show r3.length + 1 = (r2).length by rw [h2]; rfl)
  have HP3 := Lib.hid h4
  have HO3 := Lib.hid (HO2.out.trans h5)
  have HZ3 := Lib.hid (Nat.le_trans HZ2.out (Only.size h5))
  have HB3 := Lib.hid (HB2.out.only h5 (by have := HN.out; omega))
  clear h1 h2 h4 h5 h6
  go_wp2_with fail
  refine (args_c hF _ _ (by have := HKL.out; have := HL2.out; have := HL3.out; omega) HP3.out).mono ?_
  rintro e w4 (⟨ks4, r4, v4, h1, rfl, hk, h4, h5, h7⟩ | ⟨q, hb, rfl, ho⟩)
  rotate_left
  · have HH := Lib.hid (show (Ps.wSuper F) t0 r0 = .bad q ∧ Only (· = p.B) w w4 from ⟨by simp only [Ps.wSuper, HE2.out, HE3.out, hb, Ps.O.bind_ok, Ps.O.bind_bad, eq_self, if_true, Bool.false_eq_true, if_false], HO3.out.trans ho⟩)
    clear hb ho
    go_wp2_with fail
    exact ⟨rfl, .inr ⟨_, HH.out.1, rfl, HH.out.2⟩⟩
  have HE4 := Lib.hid h1
  have HL4 := Lib.hid h7
  have HKx4a4 := Lib.hid (hk.lower HZ3.out)
  obtain ⟨va4, vc4, rfl⟩ := hk.slice
  have HP4 := Lib.hid h4
  have HO4 := Lib.hid (HO3.out.trans h5)
  have HZ4 := Lib.hid (Nat.le_trans HZ3.out (Only.size h5))
  have HB4 := Lib.hid (HB3.out.only h5 (by have := HN.out; omega))
  clear h1 hk h4 h5 h7
  obtain ⟨⟨y0, y1, y2, y3, y4, y5⟩, f0, f1, f2, f3, f4, f5⟩ := nd_six HB4.out
  go_wp2_with fail
  refine node_end (x := Ps.nd 20 t3.text Ps.e0 0 (ks4.map (·.1))) (ks := ks4) (by rfl) rfl rfl HB4.out (by simp only [Ps.wSuper, HE2.out, HE3.out, HE4.out, Ps.O.bind_ok, Ps.O.bind_bad, eq_self, if_true, Bool.false_eq_true, if_false]) rfl HKx4a4.out HP4.out HN.out.2 HO4.out (nd_ok1 _ _ _ _ _ (by decide) HT3.out.2.1 e0_size (by decide)) ?_
  have := HN.out; have := HL2.out; have := HL3.out; have := HL4.out; rw [count_nd, List.length_cons]; omega

set_option maxHeartbeats 1000000 in
theorem object_c (hF : FamC p F k) : WayC p k 67 (Ps.wObject F) := by
  intro t0 r0 w hk hp hsr
  obtain ⟨W0, hW0⟩ : ∃ W0, w.alloc (.cells pzN nT) = W0 := ⟨_, rfl⟩
  have k0 : Kept w W0 := by rw [← hW0]; exact (Kept.refl w).alloc _
  have HZ0 := Lib.hid (show w.heap.size + 1 ≤ W0.heap.size by rw [← hW0]; simp)
  have HB0 := Lib.hid (show Blk W0 w.heap.size nT pzN by rw [← hW0]; exact Blk.new _ _ _)
  have HP0 := Lib.hid (hp.kept k0)
  have HN := Lib.hid hp.lt
  have HO0 := Lib.hid (show Only (· = p.B) w W0 from Only.of_kept k0)
  have HW0 := Lib.hid hW0
  have HSR := Lib.hid hsr
  have HTK := Lib.hid (hp.good.ok t0 (by simp))
  have HKL := Lib.hid hk
  clear hp k0 hW0 hsr hk
  have hf1 := field_tok1
  have hf2 := field_tok2
  go_enter Tryz.func67, Tryz.ntmps67
  go_wp2_with (rw [HW0.out])
  refine (pnext_c _ HP0.out HSR.out).mono ?_
  rintro e w1 ⟨rfl, h4, h5⟩
  have HP1 := Lib.hid h4
  have HO1 := Lib.hid (HO0.out.trans h5)
  have HZ1 := Lib.hid (Nat.le_trans HZ0.out (Only.size h5))
  have HB1 := Lib.hid (HB0.out.only h5 (by have := HN.out; omega))
  clear h4 h5
  go_wp2_with fail
  refine (take_l [⟨#[97, 32, 99, 108, 97, 115, 115]⟩] (ty := 9) HP1.out (by first | rfl | simp) rfl rfl (by decide) (by decide +kernel)).mono ?_
  rintro e w2 (⟨t2, r2, h1, h2, rfl, h4, h5, h6⟩ | ⟨q, hb, rfl, ho⟩)
  rotate_left
  · have HH := Lib.hid (show (Ps.wObject F) t0 r0 = .bad q ∧ Only (· = p.B) w w2 from ⟨by simp only [Ps.wObject, hb, Ps.O.bind_ok, Ps.O.bind_bad, eq_self, if_true, Bool.false_eq_true, if_false], HO1.out.trans ho⟩)
    clear hb ho
    go_wp2_with fail
    exact ⟨rfl, .inr ⟨_, HH.out.1, rfl, HH.out.2⟩⟩
  have HE2 := Lib.hid h1
  have HT2 := Lib.hid h6
  have HL2 := Lib.hid (show r2.length + 1 = (r0).length by rw [h2]; rfl)
  have HP2 := Lib.hid h4
  have HO2 := Lib.hid (HO1.out.trans h5)
  have HZ2 := Lib.hid (Nat.le_trans HZ1.out (Only.size h5))
  have HB2 := Lib.hid (HB1.out.only h5 (by have := HN.out; omega))
  clear h1 h2 h4 h5 h6
  go_wp2_with fail
  refine (args_c hF _ _ (by have := HKL.out; have := HL2.out; omega) HP2.out).mono ?_
  rintro e w3 (⟨ks3, r3, v3, h1, rfl, hk, h4, h5, h7⟩ | ⟨q, hb, rfl, ho⟩)
  rotate_left
  · have HH := Lib.hid (show (Ps.wObject F) t0 r0 = .bad q ∧ Only (· = p.B) w w3 from ⟨by simp only [Ps.wObject, HE2.out, hb, Ps.O.bind_ok, Ps.O.bind_bad, eq_self, if_true, Bool.false_eq_true, if_false], HO2.out.trans ho⟩)
    clear hb ho
    go_wp2_with fail
    exact ⟨rfl, .inr ⟨_, HH.out.1, rfl, HH.out.2⟩⟩
  have HE3 := Lib.hid h1
  have HL3 := Lib.hid h7
  have HKx3a3 := Lib.hid (hk.lower HZ2.out)
  obtain ⟨va3, vc3, rfl⟩ := hk.slice
  have HP3 := Lib.hid h4
  have HO3 := Lib.hid (HO2.out.trans h5)
  have HZ3 := Lib.hid (Nat.le_trans HZ2.out (Only.size h5))
  have HB3 := Lib.hid (HB2.out.only h5 (by have := HN.out; omega))
  clear h1 hk h4 h5 h7
  obtain ⟨⟨y0, y1, y2, y3, y4, y5⟩, f0, f1, f2, f3, f4, f5⟩ := nd_six HB3.out
  go_wp2_with fail
  refine node_end (x := Ps.nd 21 Ps.e0 t2.text 0 (ks3.map (·.1))) (ks := ks3) (by rfl) rfl rfl HB3.out (by simp only [Ps.wObject, HE2.out, HE3.out, Ps.O.bind_ok, Ps.O.bind_bad, eq_self, if_true, Bool.false_eq_true, if_false]) rfl HKx3a3.out HP3.out HN.out.2 HO3.out (nd_ok1 _ _ _ _ _ (by decide) e0_size HT2.out.2.1 (by decide)) ?_
  have := HN.out; have := HL2.out; have := HL3.out; rw [count_nd, List.length_cons]; omega

set_option maxHeartbeats 1000000 in
theorem print_c (hF : FamC p F k) : WayC p k 71 (Ps.wPrint F) := by
  intro t0 r0 w hk hp hsr
  obtain ⟨W0, hW0⟩ : ∃ W0, w.alloc (.cells pzN nT) = W0 := ⟨_, rfl⟩
  have k0 : Kept w W0 := by rw [← hW0]; exact (Kept.refl w).alloc _
  have HZ0 := Lib.hid (show w.heap.size + 1 ≤ W0.heap.size by rw [← hW0]; simp)
  have HB0 := Lib.hid (show Blk W0 w.heap.size nT pzN by rw [← hW0]; exact Blk.new _ _ _)
  have HP0 := Lib.hid (hp.kept k0)
  have HN := Lib.hid hp.lt
  have HO0 := Lib.hid (show Only (· = p.B) w W0 from Only.of_kept k0)
  have HW0 := Lib.hid hW0
  have HSR := Lib.hid hsr
  have HTK := Lib.hid (hp.good.ok t0 (by simp))
  have HKL := Lib.hid hk
  clear hp k0 hW0 hsr hk
  have hf1 := field_tok1
  have hf2 := field_tok2
  go_enter Tryz.func71, Tryz.ntmps71
  go_wp2_with (rw [HW0.out])
  refine (pnext_c _ HP0.out HSR.out).mono ?_
  rintro e w1 ⟨rfl, h4, h5⟩
  have HP1 := Lib.hid h4
  have HO1 := Lib.hid (HO0.out.trans h5)
  have HZ1 := Lib.hid (Nat.le_trans HZ0.out (Only.size h5))
  have HB1 := Lib.hid (HB0.out.only h5 (by have := HN.out; omega))
  clear h4 h5
  go_wp2_with fail
  refine (operand_c hF _ _ (by have := HKL.out; skip; omega) HP1.out).mono ?_
  rintro e w2 (⟨ks2, r2, v2, h1, rfl, hk, h4, h5, h7⟩ | ⟨q, hb, rfl, ho⟩)
  rotate_left
  · have HH := Lib.hid (show (Ps.wPrint F) t0 r0 = .bad q ∧ Only (· = p.B) w w2 from ⟨by simp only [Ps.wPrint, hb, Ps.O.bind_ok, Ps.O.bind_bad, eq_self, if_true, Bool.false_eq_true, if_false], HO1.out.trans ho⟩)
    clear hb ho
    go_wp2_with fail
    exact ⟨rfl, .inr ⟨_, HH.out.1, rfl, HH.out.2⟩⟩
  have HE2 := Lib.hid h1
  have HL2 := Lib.hid h7
  have HKx2a2 := Lib.hid (hk.lower HZ1.out)
  obtain ⟨va2, vc2, rfl⟩ := hk.slice
  have HP2 := Lib.hid h4
  have HO2 := Lib.hid (HO1.out.trans h5)
  have HZ2 := Lib.hid (Nat.le_trans HZ1.out (Only.size h5))
  have HB2 := Lib.hid (HB1.out.only h5 (by have := HN.out; omega))
  clear h1 hk h4 h5 h7
  obtain ⟨⟨y0, y1, y2, y3, y4, y5⟩, f0, f1, f2, f3, f4, f5⟩ := nd_six HB2.out
  go_wp2_with fail
  refine node_end (x := Ps.nd 27 Ps.e0 Ps.e0 0 (ks2.map (·.1))) (ks := ks2) (by rfl) rfl rfl HB2.out (by simp only [Ps.wPrint, HE2.out, Ps.O.bind_ok, Ps.O.bind_bad, eq_self, if_true, Bool.false_eq_true, if_false]) rfl HKx2a2.out HP2.out HN.out.2 HO2.out (nd_ok1 _ _ _ _ _ (by decide) e0_size e0_size (by decide)) ?_
  have := HN.out; have := HL2.out; rw [count_nd, List.length_cons]; omega

set_option maxHeartbeats 1000000 in
theorem conv_c (hF : FamC p F k) : WayC p k 72 (Ps.wConv F) := by
  intro t0 r0 w hk hp hsr
  obtain ⟨W0, hW0⟩ : ∃ W0, w.alloc (.cells pzN nT) = W0 := ⟨_, rfl⟩
  have k0 : Kept w W0 := by rw [← hW0]; exact (Kept.refl w).alloc _
  have HZ0 := Lib.hid (show w.heap.size + 1 ≤ W0.heap.size by rw [← hW0]; simp)
  have HB0 := Lib.hid (show Blk W0 w.heap.size nT pzN by rw [← hW0]; exact Blk.new _ _ _)
  have HP0 := Lib.hid (hp.kept k0)
  have HN := Lib.hid hp.lt
  have HO0 := Lib.hid (show Only (· = p.B) w W0 from Only.of_kept k0)
  have HW0 := Lib.hid hW0
  have HSR := Lib.hid hsr
  have HTK := Lib.hid (hp.good.ok t0 (by simp))
  have HKL := Lib.hid hk
  clear hp k0 hW0 hsr hk
  have hf1 := field_tok1
  have hf2 := field_tok2
  go_enter Tryz.func72, Tryz.ntmps72
  go_wp2_with (rw [HW0.out])
  refine (pnext_c _ HP0.out HSR.out).mono ?_
  rintro e w1 ⟨rfl, h4, h5⟩
  have HP1 := Lib.hid h4
  have HO1 := Lib.hid (HO0.out.trans h5)
  have HZ1 := Lib.hid (Nat.le_trans HZ0.out (Only.size h5))
  have HB1 := Lib.hid (HB0.out.only h5 (by have := HN.out; omega))
  clear h4 h5
  go_wp2_with fail
  refine (operand_c hF _ _ (by have := HKL.out; skip; omega) HP1.out).mono ?_
  rintro e w2 (⟨ks2, r2, v2, h1, rfl, hk, h4, h5, h7⟩ | ⟨q, hb, rfl, ho⟩)
  rotate_left
  · have HH := Lib.hid (show (Ps.wConv F) t0 r0 = .bad q ∧ Only (· = p.B) w w2 from ⟨by simp only [Ps.wConv, hb, Ps.O.bind_ok, Ps.O.bind_bad, eq_self, if_true, Bool.false_eq_true, if_false], HO1.out.trans ho⟩)
    clear hb ho
    go_wp2_with fail
    exact ⟨rfl, .inr ⟨_, HH.out.1, rfl, HH.out.2⟩⟩
  have HE2 := Lib.hid h1
  have HL2 := Lib.hid h7
  have HKx2a2 := Lib.hid (hk.lower HZ1.out)
  obtain ⟨va2, vc2, rfl⟩ := hk.slice
  have HP2 := Lib.hid h4
  have HO2 := Lib.hid (HO1.out.trans h5)
  have HZ2 := Lib.hid (Nat.le_trans HZ1.out (Only.size h5))
  have HB2 := Lib.hid (HB1.out.only h5 (by have := HN.out; omega))
  clear h1 hk h4 h5 h7
  obtain ⟨⟨y0, y1, y2, y3, y4, y5⟩, f0, f1, f2, f3, f4, f5⟩ := nd_six HB2.out
  go_wp2_with fail
  refine node_end (x := Ps.nd 29 t0.text Ps.e0 0 (ks2.map (·.1))) (ks := ks2) (by rfl) rfl rfl HB2.out (by simp only [Ps.wConv, HE2.out, Ps.O.bind_ok, Ps.O.bind_bad, eq_self, if_true, Bool.false_eq_true, if_false]) rfl HKx2a2.out HP2.out HN.out.2 HO2.out (nd_ok1 _ _ _ _ _ (by decide) HTK.out.2.1 e0_size (by decide)) ?_
  have := HN.out; have := HL2.out; rw [count_nd, List.length_cons]; omega
end
end Go.Proofs.YtfkmnpgpfmkjaaaGreatDoor
namespace Go.Proofs.YtfkmnpgpfmkjaaaGreatDoor
open Go.ChangeShapes Go.WideShapes Go.ChangeAt Go.RowKit
attribute [local go_sem] Oper.semAt_some
open Ps (O W)

/-- The node's box at gx (x tells its fields), its kids' row v, the result's box, the parser ahead of r. -/
structure AppI (p : PP) (w : World) (gx : Nat) (x : Nd) (v : Value) (ks : List (Nd × Value)) (r : List Lx.T) (W : World) : Prop where
  box : Blk W gx nT (ndA x v)
  row : KRowD (fun k => w.heap.size + 1 ≤ k ∧ k ≠ gx) (w.heap.size + 1) W v ks
  ne : v.ownBlock ≠ some gx
  res : Blk W w.heap.size nT pzN
  gx : w.heap.size + 1 ≤ gx ∧ p.B < w.heap.size ∧ p.N ≤ w.heap.size
  pst : Pst p r W
  only : Only (· = p.B) w W

section
variable {p : PP} {w W W' : World} {gx : Nat} {x : Nd} {v : Value} {ks : List (Nd × Value)} {r r' : List Lx.T}
theorem AppI.call (h : AppI p w gx x v ks r W) (ho : Only (· = p.B) W W') (hp : Pst p r' W') : AppI p w gx x v ks r' W' :=
  ⟨h.box.only ho (by have := h.gx; omega), h.row.only ho (fun k hk e => by have := owns_block0 h.row.1 hk; have := h.gx; omega) (fun k hk e => by have := h.gx; omega), h.ne, h.res.only ho (by have := h.gx; omega), h.gx, hp, h.only.trans ho⟩
theorem AppI.kept (h : AppI p w gx x v ks r W) (k : Kept W W') : AppI p w gx x v ks r W' := h.call (Only.of_kept k) (h.pst.kept k)
theorem AppI.drew (h : AppI p w gx x v ks r W) : AppI p w gx x v ks r W.drew := h.kept (Kept.refl W).drew
theorem AppI.cell5 (h : AppI p w gx x v ks r W) : W.cell? ⟨gx, 5, none⟩ = some v := h.box.cell 5
theorem AppI.size (h : AppI p w gx x v ks r W) : w.heap.size + 1 ≤ W.heap.size := by have := h.res.lt; omega

/-- What append asks, behind a part's result. -/
theorem AppI.asks {x1 : Nd} {v1 : Value} {k1 : List (Nd × Value)} {W1 : World} (h : AppI p w gx x v ks r W) (ho : Only (· = p.B) W W1) (hp : Pst p r' W1) (hx : x1.kids = k1.map (·.1)) (hk : KRow W.heap.size W1 v1 k1) (hok : x1.ok1) :
    AppI p w gx x v ks r' (W1.alloc (.cells (ndA x1 v1) nT)) ∧ Src Tryz.prog 6 23 (.slice (some ⟨W1.heap.size, 0, none⟩) 1 1) 1 ([(x1, v1)].flatMap fun p => ndC p.1 p.2) (W1.alloc (.cells (ndA x1 v1) nT)) ∧
      (∀ q ∈ [(x1, v1)], q.1.ok1 ∧ KidsD (fun k => (w.heap.size + 1 ≤ k ∧ k ≠ gx) ∧ v.ownBlock ≠ some k) (W1.alloc (.cells (ndA x1 v1) nT)) q.2 q.1.kids) := by
  have h1 := (h.call ho hp).kept ((Kept.refl W1).alloc (.cells (ndA x1 v1) nT))
  have hl : KRow W.heap.size (W1.alloc (.cells (ndA x1 v1) nT)) (.slice (some ⟨W1.heap.size, 0, none⟩) 1 1) [(x1, v1)] :=
    KRow.lit [(x1, v1)] rfl rfl rfl ho.size (by simp) (fun q hq => by
      rw [List.mem_singleton] at hq; subst hq
      exact ⟨hok, k1, hx, hk⟩)
  obtain ⟨_, _, _, _, hs⟩ := hl.src
  exact ⟨h1, hs, h.row.behind hl (Nat.le_refl _) (fun k hk => ⟨Nat.le_trans h.size hk, by have := h.box.lt; omega⟩)⟩
/-- Behind append: the box still holds the row that was; then the new one. -/
theorem AppI.more {v' : Value} {k2 : List (Nd × Value)} {W2 : World} (h : AppI p w gx x v ks r W) (hr : KRowD (fun k => w.heap.size + 1 ≤ k ∧ k ≠ gx) (w.heap.size + 1) W2 v' (ks ++ k2)) (ho : Only (fun k => v.ownBlock = some k ∨ W.heap.size ≤ k) W W2) (hl : v'.ownBlock = v.ownBlock ∨ v'.ownBlock = some W.heap.size) :
    W2.cell? ⟨gx, 5, none⟩ = some v ∧ W2.frozen? ⟨gx, 5, none⟩ = false ∧ AppI p w gx x v' (ks ++ k2) r (W2.setCell ⟨gx, 5, none⟩ v') := by
  have hgx := h.box.lt
  have hge := h.gx
  have b2 : Blk W2 gx nT (ndA x v) := h.box.only ho (fun e => by rcases e with e | e; exact h.ne e; omega)
  have hres : w.heap.size < W.heap.size := h.res.lt
  have hv : ∀ k, v.ownBlock = some k → w.heap.size + 1 ≤ k := fun k hk => owns_block0 h.row.1 hk
  have r2 : Blk W2 w.heap.size nT pzN := h.res.only ho (fun e => by rcases e with e | e; have := hv _ e; omega; omega)
  have o2 : Only (fun k => w.heap.size + 1 ≤ k) W W2 := ho.mono fun k hk hs => by rcases hs with e | e; exact hv _ e; omega
  have hne : v'.ownBlock ≠ some gx := by
    rcases hl with e | e
    · rw [e]; exact h.ne
    · rw [e]; intro c; injection c with c; omega
  have o3 : Only (· = gx) W2 (W2.setCell ⟨gx, 5, none⟩ v') := (Only.refl _ _).put 5 _
  refine ⟨b2.cell 5, b2.frozen 5, ⟨by simpa [ndA] using b2.put 5 v', ?_, hne, r2.only o3 (by omega), h.gx, ?_, ?_⟩⟩
  · exact hr.only o3 (fun g hg e => hne (by rw [hg, e])) (fun k hk e => hk.2 e)
  · exact (h.pst.only o2 (fun b hb e => by omega)).only o3 (fun b hb e => by omega)
  · exact (h.only.past o2 (by omega)).past (o3.mono (T := fun k => w.heap.size + 1 ≤ k) fun k _ e => by omega) (by omega)
/-- A kid alone, as a row made at once. -/
theorem AppI.lit {x1 : Nd} {v1 : Value} {k1 : List (Nd × Value)} {W1 W2 : World} (h : AppI p w gx x v [] r W) (ho : Only (· = p.B) W W1) (hp : Pst p r' W1) (hx : x1.kids = k1.map (·.1)) (hk : KRow W.heap.size W1 v1 k1) (hok : x1.ok1) (hW : W1.alloc (.cells (ndA x1 v1) nT) = W2) :
    W2.cell? ⟨gx, 5, none⟩ = some v ∧ W2.frozen? ⟨gx, 5, none⟩ = false ∧ AppI p w gx x (.slice (some ⟨W1.heap.size, 0, none⟩) 1 1) [(x1, v1)] r' (W2.setCell ⟨gx, 5, none⟩ (.slice (some ⟨W1.heap.size, 0, none⟩) 1 1)) := by
  subst hW
  have hl : KRow W.heap.size (W1.alloc (.cells (ndA x1 v1) nT)) (.slice (some ⟨W1.heap.size, 0, none⟩) 1 1) [(x1, v1)] :=
    KRow.lit [(x1, v1)] rfl rfl rfl ho.size (by simp) (fun q hq => by
      rw [List.mem_singleton] at hq; subst hq
      exact ⟨hok, k1, hx, hk⟩)
  have hgx := h.box.lt
  have hsz := h.size
  have h2 : KRowD (fun k => w.heap.size + 1 ≤ k ∧ k ≠ gx) (w.heap.size + 1) (W1.alloc (.cells (ndA x1 v1) nT)) (.slice (some ⟨W1.heap.size, 0, none⟩) 1 1) ([] ++ [(x1, v1)]) :=
    ⟨owns_base0 hl.1 hsz, fun q hq => ⟨(hl.2 q hq).1, (hl.2 q hq).2.mono fun k _ hd => ⟨⟨by have := hd.1; omega, by have := hd.1; omega⟩, hd.2⟩⟩⟩
  exact (h.call ho hp).more h2 (Only.of_kept ((Kept.refl _).alloc _)) (.inr rfl)
/-- How it begins: the box is the last block. -/
theorem AppI.new {W0 : World} (hk : KRow (w.heap.size + 1) W0 v ks) (hres : Blk W0 w.heap.size nT pzN) (hg : p.B < p.N ∧ p.N ≤ w.heap.size) (hp : Pst p r W0) (ho : Only (· = p.B) w W0) (hgx : gx = W0.heap.size) (hW : W0.alloc (.cells (ndA x v) nT) = W) : AppI p w gx x v ks r W := by
  subst hgx hW
  have hlt := hres.lt
  have ka := (Kept.refl W0).alloc (.cells (ndA x v) nT)
  refine ⟨Blk.new _ _ _, ?_, fun e => ?_, hres.alloc _, ⟨by omega, by omega, hg.2⟩, hp.alloc _, ho.trans (Only.of_kept ka)⟩
  · exact KRowD.only (S := fun _ => False) (KRowD.mono hk (fun k hk hd => ⟨hd, by omega⟩)) (Only.of_kept ka) (fun _ _ h => h) (fun _ _ h => h)
  · rcases hk.1.2 with ⟨rfl, _⟩ | ⟨g', cap, cur, rfl, hg1, hg2, _⟩
    · cases e
    · have : g' = W0.heap.size := by simpa [Value.ownBlock] using e
      have := (Array.getElem?_eq_some_iff.1 hg2).1
      omega
/-- The end: the box's cells as the result. -/
theorem AppI.end {l : List Lx.T} {o : O Nd} {fn : Func} {q : Tmp} {a : Act} (h : AppI p w gx x v ks r W) (hf : fn.results = #[.cell q nT]) (hd : a.defers = []) (hp : a.tmps.getD q undef = .pointer (some ⟨w.heap.size, 0, none⟩)) {y : Nd} (hy : y.kind = x.kind ∧ y.text = x.text ∧ y.typ = x.typ ∧ y.frm = x.frm ∧ y.n = x.n)
    (ho : o = .ok y r) (hx : y.kids = ks.map (·.1)) (hok : y.ok1) (hc : y.count + r.length ≤ l.length) : bodyPost Tryz.prog fn (NodePost p l o w) .ret a (put6n W w.heap.size x v) := by
  have e : put6n W w.heap.size x v = put6n W w.heap.size y v := by unfold put6n; rw [hy.1, hy.2.1, hy.2.2.1, hy.2.2.2.1, hy.2.2.2.2]
  rw [e]
  exact node_end hf hd hp h.res ho hx (KRowD.mono h.row (fun k _ hk => hk.1)) h.pst h.gx.2.2 h.only hok hc
/-- The node's type, told later; its kind. -/
theorem AppI.setTyp (h : AppI p w gx x v ks r W) {x' : Nd} (hx : x'.kind = x.kind ∧ x'.text = x.text ∧ x'.frm = x.frm ∧ x'.n = x.n) : AppI p w gx x' v ks r (W.setCell ⟨gx, 2, none⟩ (.string x'.typ)) := by
  have hge := h.gx
  have o3 : Only (· = gx) W (W.setCell ⟨gx, 2, none⟩ (.string x'.typ)) := (Only.refl _ _).put 2 _
  refine ⟨?_, h.row.only o3 (fun k hk e => h.ne (by rw [hk, e])) (fun k hk e => hk.2 e), h.ne, h.res.only o3 (by omega), h.gx, h.pst.only o3 (fun b hb e => by omega), h.only.past (o3.mono (T := fun k => w.heap.size + 1 ≤ k) fun k _ e => by omega) (by omega)⟩
  have := h.box.put 2 (.string x'.typ)
  unfold ndA
  rw [hx.1, hx.2.1, hx.2.2.1, hx.2.2.2]
  simpa [ndA] using this
theorem AppI.setKind (h : AppI p w gx x v ks r W) {x' : Nd} (hx : x'.text = x.text ∧ x'.typ = x.typ ∧ x'.frm = x.frm ∧ x'.n = x.n) : AppI p w gx x' v ks r (W.setCell ⟨gx, 0, none⟩ (.int .i64 x'.kind)) := by
  have hge := h.gx
  have o3 : Only (· = gx) W (W.setCell ⟨gx, 0, none⟩ (.int .i64 x'.kind)) := (Only.refl _ _).put 0 _
  refine ⟨?_, h.row.only o3 (fun k hk e => h.ne (by rw [hk, e])) (fun k hk e => hk.2 e), h.ne, h.res.only o3 (by omega), h.gx, h.pst.only o3 (fun b hb e => by omega), h.only.past (o3.mono (T := fun k => w.heap.size + 1 ≤ k) fun k _ e => by omega) (by omega)⟩
  have := h.box.put 0 (.int .i64 x'.kind)
  unfold ndA
  rw [hx.1, hx.2.1, hx.2.2.1, hx.2.2.2]
  simpa [ndA] using this
theorem AppI.len (h : AppI p w gx x v ks r W) : r ≠ [] ∧ r.length ≤ 30000 := ⟨h.pst.good.ne, h.pst.len⟩

/-- Within a loop that appends parts as long as they begin with s. -/
structure ManyI (p : PP) (w : World) (gx : Nat) (x : Nd) (s : ByteArray) (part : List Lx.T → O Nd) (o : O Nd) (rest : List Nd → List Lx.T → O Nd) (n : Nat) (va : Option Addr) (vc : Nat) (ks : List (Nd × Value)) (r : List Lx.T) (W : World) : Prop where
  app : AppI p w gx x (.slice va ks.length vc) ks r W
  eq : ∃ K, r.length ≤ K ∧ o = (Ps.many s part K (ks.map (·.1)) r).bind rest
  cnt : Nd.countL (ks.map (·.1)) + r.length ≤ n

variable {s : ByteArray} {part : List Lx.T → O Nd} {o : O Nd} {rest : List Nd → List Lx.T → O Nd} {n : Nat} {va : Option Addr} {vc : Nat}
theorem ManyI.out (h : ManyI p w gx x s part o rest n va vc ks r W) (hi : Ps.is [s] r = false) : o = rest (ks.map (·.1)) r := by
  obtain ⟨K, hK, e⟩ := h.eq
  cases K with
  | zero => exact absurd (List.eq_nil_of_length_eq_zero (by omega)) h.app.len.1
  | succ K => rw [e, Ps.many, hi]; rfl
theorem ManyI.bad (h : ManyI p w gx x s part o rest n va vc ks r W) (hi : Ps.is [s] r = true) {q : Int} (hb : part r = .bad q) : o = .bad q := by
  obtain ⟨K, hK, e⟩ := h.eq
  cases K with
  | zero => exact absurd (List.eq_nil_of_length_eq_zero (by omega)) h.app.len.1
  | succ K => rw [e, Ps.many, if_pos hi, hb]; rfl
theorem ManyI.ok (h : ManyI p w gx x s part o rest n va vc ks r W) (hi : Ps.is [s] r = true) {y : Nd} {r' : List Lx.T} {u : Value} (hb : part r = .ok y r') (hc : y.count + r'.length ≤ r.length) {W' : World} {va' : Option Addr} {m vc' : Nat} (hm : m = ks.length + 1) (ha : AppI p w gx x (.slice va' m vc') (ks ++ [(y, u)]) r' W') :
    ManyI p w gx x s part o rest n va' vc' (ks ++ [(y, u)]) r' W' := by
  subst hm
  refine ⟨by rw [List.length_append]; exact ha, ?_, ?_⟩
  · obtain ⟨K, hK, e⟩ := h.eq
    have := Nd.count_pos y
    cases K with
    | zero => exact absurd (List.eq_nil_of_length_eq_zero (by omega)) h.app.len.1
    | succ K => exact ⟨K, by omega, by rw [e, Ps.many, if_pos hi, hb, List.map_append]; rfl⟩
  · rw [List.map_append, show List.map (·.1) [(y, u)] = [y] from rfl, countL_snoc]
    have := h.cnt
    omega
/-- Within a block. -/
structure BlkI (p : PP) (F : Ps.Fam) (w : World) (gx : Nat) (x : Nd) (o : O Nd) (n : Nat) (va : Option Addr) (vc : Nat) (ks : List (Nd × Value)) (r : List Lx.T) (W : World) : Prop where
  app : AppI p w gx x (.slice va ks.length vc) ks r W
  eq : ∃ K, r.length + 1 ≤ K ∧ o = Ps.blockLoop F K (ks.map (·.1)) r
  cnt : Nd.countL (ks.map (·.1)) + r.length + 1 ≤ n
variable {F : Ps.Fam}
theorem BlkI.out (h : BlkI p F w gx x o n va vc ks r W) (hi : Ps.is [Ps.kRight] r = true) : o = .ok (Ps.nd 6 Ps.e0 Ps.e0 0 (ks.map (·.1))) r.tail := by
  obtain ⟨K, hK, e⟩ := h.eq
  cases K with
  | zero => omega
  | succ K => rw [e, Ps.blockLoop, if_pos hi]
theorem BlkI.bad (h : BlkI p F w gx x o n va vc ks r W) (hi : Ps.is [Ps.kRight] r = false) {q : Int} (hb : Ps.entry F r = .bad q) : o = .bad q := by
  obtain ⟨K, hK, e⟩ := h.eq
  cases K with
  | zero => omega
  | succ K => rw [e, Ps.blockLoop, hi, hb]; rfl
theorem BlkI.ok (h : BlkI p F w gx x o n va vc ks r W) (hi : Ps.is [Ps.kRight] r = false) {y : Nd} {r' : List Lx.T} {u : Value} (hb : Ps.entry F r = .ok y r') (hc : y.count + r'.length ≤ r.length) :
    (Ps.is [Ps.kSemi] r' = true → r'.tail.length + 1 = r'.length → ∀ {W' : World} {va' : Option Addr} {vc' : Nat}, AppI p w gx x (.slice va' (ks.length + 1) vc') (ks ++ [(y, u)]) r'.tail W' → BlkI p F w gx x o n va' vc' (ks ++ [(y, u)]) r'.tail W') ∧
    (Ps.is [Ps.kSemi] r' = false → o = (Ps.take [Ps.kRight] r').bind fun _ r => .ok (Ps.nd 6 Ps.e0 Ps.e0 0 ((ks ++ [(y, u)]).map (·.1))) r) ∧ Nd.countL ((ks ++ [(y, u)]).map (·.1)) + r'.length + 1 ≤ n := by
  have hcnt : Nd.countL ((ks ++ [(y, u)]).map (·.1)) + r'.length + 1 ≤ n := by
    rw [List.map_append, show List.map (·.1) [(y, u)] = [y] from rfl, countL_snoc]
    have := h.cnt
    omega
  have hy := Nd.count_pos y
  obtain ⟨K, hK, e⟩ := h.eq
  cases K with
  | zero => omega
  | succ K =>
    refine ⟨fun hs hl W' va' vc' ha => ⟨by rw [List.length_append]; exact ha, ⟨K, by omega, by rw [e, Ps.blockLoop, hi, hb, List.map_append]; simp only [Ps.O.bind_ok, hs, if_true, Bool.false_eq_true, if_false]; rfl⟩, by omega⟩, fun hs => ?_, hcnt⟩
    rw [e, Ps.blockLoop, hi, hb, List.map_append]
    simp only [Ps.O.bind_ok, hs, Bool.false_eq_true, if_false]
    rfl
theorem take_is {ss : List ByteArray} {l : List Lx.T} (h : Ps.is ss l = true) (hl : l ≠ []) {q : Int} (hb : Ps.take ss l = .bad q) : False := by
  cases l with
  | nil => exact hl rfl
  | cons t r => rw [Ps.take, show Ps.mem ss (Ps.srt t) = true from h] at hb; cases hb
theorem take_ok {ss : List ByteArray} {l : List Lx.T} {t : Lx.T} {r : List Lx.T} (h : Ps.take ss l = .ok t r) : l = t :: r ∧ l.tail = r := by
  cases l with
  | nil => cases h
  | cons t' r' =>
    rw [Ps.take] at h
    split at h
    · injection h with h1 h2; subst h1 h2; exact ⟨rfl, rfl⟩
    · cases h
end
end Go.Proofs.YtfkmnpgpfmkjaaaGreatDoor
namespace Go.Proofs.YtfkmnpgpfmkjaaaGreatDoor
open Go.ChangeShapes Go.WideShapes Go.ChangeAt Go.RowKit
attribute [local go_sem] Oper.semAt_some
open Ps (O W)

section
variable {p : PP} {F : Ps.Fam} {k : Nat}

set_option maxHeartbeats 1000000 in
theorem loop_c (hF : FamC p F k) : WayC p k 69 (Ps.wLoop F) := by
  intro t0 r0 w hk hp hsr
  obtain ⟨W0, hW0⟩ : ∃ W0, w.alloc (.cells pzN nT) = W0 := ⟨_, rfl⟩
  have k0 : Kept w W0 := by rw [← hW0]; exact (Kept.refl w).alloc _
  have HZ0 := Lib.hid (show w.heap.size + 1 ≤ W0.heap.size by rw [← hW0]; simp)
  have HB0 := Lib.hid (show Blk W0 w.heap.size nT pzN by rw [← hW0]; exact Blk.new _ _ _)
  have HP0 := Lib.hid (hp.kept k0)
  have HN := Lib.hid hp.lt
  have HO0 := Lib.hid (show Only (· = p.B) w W0 from Only.of_kept k0)
  have HW0 := Lib.hid hW0
  have HSR := Lib.hid hsr
  have HTK := Lib.hid (hp.good.ok t0 (by simp))
  have HKL := Lib.hid hk
  clear hp k0 hW0 hsr hk
  have hf1 := field_tok1
  have hf2 := field_tok2
  go_enter Tryz.func69, Tryz.ntmps69
  go_wp2_with (rw [HW0.out])
  refine (pnext_c _ HP0.out HSR.out).mono ?_
  rintro e w1 ⟨rfl, h4, h5⟩
  have HP1 := Lib.hid h4
  have HO1 := Lib.hid (HO0.out.trans h5)
  have HZ1 := Lib.hid (Nat.le_trans HZ0.out (Only.size h5))
  have HB1 := Lib.hid (HB0.out.only h5 (by have := HN.out; omega))
  clear h4 h5
  go_wp2_with fail
  refine (hF.expr _ _ (by have := HKL.out; skip; omega) HP1.out).mono ?_
  rintro e w2 (⟨x2, ks2, r2, v2, h1, rfl, hx, hk, h4, h5, hok, h7⟩ | ⟨q, hb, rfl, ho⟩)
  rotate_left
  · have HH := Lib.hid (show (Ps.wLoop F) t0 r0 = .bad q ∧ Only (· = p.B) w w2 from ⟨by simp only [Ps.wLoop, hb, Ps.O.bind_ok, Ps.O.bind_bad, eq_self, if_true, Bool.false_eq_true, if_false], HO1.out.trans ho⟩)
    clear hb ho
    go_wp2_with fail
    exact ⟨rfl, .inr ⟨_, HH.out.1, rfl, HH.out.2⟩⟩
  have HE2 := Lib.hid h1
  have HX2 := Lib.hid (And.intro hx hok)
  have HL2 := Lib.hid h7
  have HKx2a2 := Lib.hid (hk.lower HZ1.out)
  have HP2 := Lib.hid h4
  have HO2 := Lib.hid (HO1.out.trans h5)
  have HZ2 := Lib.hid (Nat.le_trans HZ1.out (Only.size h5))
  have HB2 := Lib.hid (HB1.out.only h5 (by have := HN.out; omega))
  clear h1 hx hk h4 h5 hok h7
  go_wp2_with fail
  refine (hF.block _ _ (by have := HKL.out; have := HL2.out; omega) HP2.out).mono ?_
  rintro e w3 (⟨x3, ks3, r3, v3, h1, rfl, hx, hk, h4, h5, hok, h7⟩ | ⟨q, hb, rfl, ho⟩)
  rotate_left
  · have HH := Lib.hid (show (Ps.wLoop F) t0 r0 = .bad q ∧ Only (· = p.B) w w3 from ⟨by simp only [Ps.wLoop, HE2.out, hb, Ps.O.bind_ok, Ps.O.bind_bad, eq_self, if_true, Bool.false_eq_true, if_false], HO2.out.trans ho⟩)
    clear hb ho
    go_wp2_with fail
    exact ⟨rfl, .inr ⟨_, HH.out.1, rfl, HH.out.2⟩⟩
  have HE3 := Lib.hid h1
  have HX3 := Lib.hid (And.intro hx hok)
  have HL3 := Lib.hid h7
  have HKx3a3 := Lib.hid (hk.lower HZ2.out)
  have HP3 := Lib.hid h4
  have HO3 := Lib.hid (HO2.out.trans h5)
  have HZ3 := Lib.hid (Nat.le_trans HZ2.out (Only.size h5))
  have HB3 := Lib.hid (HB2.out.only h5 (by have := HN.out; omega))
  have HKx2a3 := Lib.hid (HKx2a2.out.onB h5 (by have := HN.out; omega))
  clear h1 hx hk h4 h5 hok h7
  obtain ⟨W4, hW4⟩ : ∃ W4, w3.alloc (.cells #[.int .i64 x2.kind, .string x2.text, .string x2.typ, .string x2.frm, .int .i64 x2.n, v2, .int .i64 x3.kind, .string x3.text, .string x3.typ, .string x3.frm, .int .i64 x3.n, v3] nT) = W4 := ⟨_, rfl⟩
  have k4 : Kept w3 W4 := by rw [← hW4]; exact (Kept.refl _).alloc _
  have HK4 := Lib.hid (show KRow (w.heap.size + 1) W4 (.slice (some ⟨w3.heap.size, 0, none⟩) 2 2) [(x2, v2), (x3, v3)] by
    rw [← hW4]
    exact KRow.lit [(x2, v2), (x3, v3)] rfl rfl rfl HZ3.out (by simp) (fun q hq => by
      rcases List.mem_cons.1 hq with rfl | hq
      · exact ⟨HX2.out.2, ks2, HX2.out.1, HKx2a3.out⟩
      · rw [List.mem_singleton] at hq; subst hq
        exact ⟨HX3.out.2, ks3, HX3.out.1, HKx3a3.out⟩))
  have HP4 := Lib.hid (HP3.out.kept k4)
  have HO4 := Lib.hid (HO3.out.trans (Only.of_kept k4))
  have HB4 := Lib.hid (HB3.out.kept k4)
  have HW4 := Lib.hid hW4
  clear hW4 k4
  obtain ⟨⟨y0, y1, y2, y3, y4, y5⟩, f0, f1, f2, f3, f4, f5⟩ := nd_six HB4.out
  go_wp2_with (rw [HW4.out])
  refine node_end (x := Ps.nd 23 Ps.e0 Ps.e0 0 [x2, x3]) (ks := [(x2, v2), (x3, v3)]) (by rfl) rfl rfl HB4.out (by simp only [Ps.wLoop, HE2.out, HE3.out, Ps.O.bind_ok, Ps.O.bind_bad, eq_self, if_true, Bool.false_eq_true, if_false]) rfl HK4.out HP4.out HN.out.2 HO4.out (nd_ok1 _ _ _ _ _ (by decide) e0_size e0_size (by decide)) ?_
  have := HN.out; have := HL2.out; have := HL3.out; rw [count_nd, Nd.countL_cons, Nd.countL_cons, Nd.countL_nil, List.length_cons]; omega

set_option maxHeartbeats 1000000 in
theorem choice_c (hF : FamC p F k) : WayC p k 68 (Ps.wChoice F) := by
  intro t0 r0 w hk hp hsr
  obtain ⟨W0, hW0⟩ : ∃ W0, w.alloc (.cells pzN nT) = W0 := ⟨_, rfl⟩
  have k0 : Kept w W0 := by rw [← hW0]; exact (Kept.refl w).alloc _
  have HZ0 := Lib.hid (show w.heap.size + 1 ≤ W0.heap.size by rw [← hW0]; simp)
  have HB0 := Lib.hid (show Blk W0 w.heap.size nT pzN by rw [← hW0]; exact Blk.new _ _ _)
  have HP0 := Lib.hid (hp.kept k0)
  have HN := Lib.hid hp.lt
  have HO0 := Lib.hid (show Only (· = p.B) w W0 from Only.of_kept k0)
  have HW0 := Lib.hid hW0
  have HSR := Lib.hid hsr
  have HTK := Lib.hid (hp.good.ok t0 (by simp))
  have HKL := Lib.hid hk
  clear hp k0 hW0 hsr hk
  have hf1 := field_tok1
  have hf2 := field_tok2
  go_enter Tryz.func68, Tryz.ntmps68
  go_wp2_with (rw [HW0.out])
  refine (pnext_c _ HP0.out HSR.out).mono ?_
  rintro e w1 ⟨rfl, h4, h5⟩
  have HP1 := Lib.hid h4
  have HO1 := Lib.hid (HO0.out.trans h5)
  have HZ1 := Lib.hid (Nat.le_trans HZ0.out (Only.size h5))
  have HB1 := Lib.hid (HB0.out.only h5 (by have := HN.out; omega))
  clear h4 h5
  go_wp2_with fail
  refine (hF.expr _ _ (by have := HKL.out; skip; omega) HP1.out).mono ?_
  rintro e w2 (⟨x2, ks2, r2, v2, h1, rfl, hx, hk, h4, h5, hok, h7⟩ | ⟨q, hb, rfl, ho⟩)
  rotate_left
  · have HH := Lib.hid (show (Ps.wChoice F) t0 r0 = .bad q ∧ Only (· = p.B) w w2 from ⟨by simp only [Ps.wChoice, hb, Ps.O.bind_ok, Ps.O.bind_bad, eq_self, if_true, Bool.false_eq_true, if_false], HO1.out.trans ho⟩)
    clear hb ho
    go_wp2_with fail
    exact ⟨rfl, .inr ⟨_, HH.out.1, rfl, HH.out.2⟩⟩
  have HE2 := Lib.hid h1
  have HX2 := Lib.hid (And.intro hx hok)
  have HL2 := Lib.hid h7
  have HKx2a2 := Lib.hid (hk.lower HZ1.out)
  have HP2 := Lib.hid h4
  have HO2 := Lib.hid (HO1.out.trans h5)
  have HZ2 := Lib.hid (Nat.le_trans HZ1.out (Only.size h5))
  have HB2 := Lib.hid (HB1.out.only h5 (by have := HN.out; omega))
  clear h1 hx hk h4 h5 hok h7
  go_wp2_with fail
  refine (hF.block _ _ (by have := HKL.out; have := HL2.out; omega) HP2.out).mono ?_
  rintro e w3 (⟨x3, ks3, r3, v3, h1, rfl, hx, hk, h4, h5, hok, h7⟩ | ⟨q, hb, rfl, ho⟩)
  rotate_left
  · have HH := Lib.hid (show (Ps.wChoice F) t0 r0 = .bad q ∧ Only (· = p.B) w w3 from ⟨by simp only [Ps.wChoice, HE2.out, hb, Ps.O.bind_ok, Ps.O.bind_bad, eq_self, if_true, Bool.false_eq_true, if_false], HO2.out.trans ho⟩)
    clear hb ho
    go_wp2_with fail
    exact ⟨rfl, .inr ⟨_, HH.out.1, rfl, HH.out.2⟩⟩
  have HE3 := Lib.hid h1
  have HX3 := Lib.hid (And.intro hx hok)
  have HL3 := Lib.hid h7
  have HKx3a3 := Lib.hid (hk.lower HZ2.out)
  have HP3 := Lib.hid h4
  have HO3 := Lib.hid (HO2.out.trans h5)
  have HZ3 := Lib.hid (Nat.le_trans HZ2.out (Only.size h5))
  have HB3 := Lib.hid (HB2.out.only h5 (by have := HN.out; omega))
  have HKx2a3 := Lib.hid (HKx2a2.out.onB h5 (by have := HN.out; omega))
  clear h1 hx hk h4 h5 hok h7
  obtain ⟨W4, hW4⟩ : ∃ W4, w3.alloc (.cells #[.int .i64 x2.kind, .string x2.text, .string x2.typ, .string x2.frm, .int .i64 x2.n, v2, .int .i64 x3.kind, .string x3.text, .string x3.typ, .string x3.frm, .int .i64 x3.n, v3] nT) = W4 := ⟨_, rfl⟩
  have k4 : Kept w3 W4 := by rw [← hW4]; exact (Kept.refl _).alloc _
  obtain ⟨W5, hW5⟩ : ∃ W5, W4.alloc (.cells #[.int .i64 22, .string Ps.e0, .string Ps.e0, .string Ps.e0, .int .i64 0, .slice (some ⟨w3.heap.size, 0, none⟩) 2 2] nT) = W5 := ⟨_, rfl⟩
  have k5 : Kept W4 W5 := by rw [← hW5]; exact (Kept.refl _).alloc _
  have HK4 := Lib.hid (show KRow (w.heap.size + 1) W4 (.slice (some ⟨w3.heap.size, 0, none⟩) 2 2) [(x2, v2), (x3, v3)] by
    rw [← hW4]
    exact KRow.lit [(x2, v2), (x3, v3)] rfl rfl rfl HZ3.out (by simp) (fun q hq => by
      rcases List.mem_cons.1 hq with rfl | hq
      · exact ⟨HX2.out.2, ks2, HX2.out.1, HKx2a3.out⟩
      · rw [List.mem_singleton] at hq; subst hq
        exact ⟨HX3.out.2, ks3, HX3.out.1, HKx3a3.out⟩))
  have AI4 := Lib.hid (AppI.new (x := Ps.nd 22 Ps.e0 Ps.e0 0 []) HK4.out (HB3.out.kept k4) HN.out (HP3.out.kept k4) (HO3.out.trans (Only.of_kept k4)) rfl hW5)
  have HW4 := Lib.hid hW4
  have HW5 := Lib.hid hW5
  clear hW4 k4 hW5 k5
  go_wp2_with (first | rw [HW5.out] | rw [HW4.out])
  refine (take_l [⟨#[101, 108, 115, 101]⟩] (ty := 9) AI4.out.pst (by first | rfl | simp) rfl rfl (by decide) (by decide +kernel)).mono ?_
  rintro e w5 (⟨t5, r5, h1, h2, rfl, h4, h5, h6⟩ | ⟨q, hb, rfl, ho⟩)
  rotate_left
  · have HH := Lib.hid (show (Ps.wChoice F) t0 r0 = .bad q ∧ Only (· = p.B) w w5 from ⟨by simp only [Ps.wChoice, HE2.out, HE3.out, hb, Ps.O.bind_ok, Ps.O.bind_bad, eq_self, if_true, Bool.false_eq_true, if_false], AI4.out.only.trans ho⟩)
    clear hb ho
    go_wp2_with fail
    exact ⟨rfl, .inr ⟨_, HH.out.1, rfl, HH.out.2⟩⟩
  have HE5 := Lib.hid h1
  have HT5 := Lib.hid h6
  have HL5 := Lib.hid (show r5.length + 1 = (r3).length by rw [h2]; rfl)
  have AI5 := Lib.hid (AI4.out.call h5 h4)
  clear h1 h2 h4 h5 h6
  go_wp2_with fail
  refine wp_region_till (S := (fun W => W.cell? ⟨W4.heap.size, 5, none⟩ = some (.slice (some ⟨w3.heap.size, 0, none⟩) 2 2))) 7 (by kernel_rfl) (AI5.out.drew.cell5) (fun hHeld0 => ?_)
  refine wpAnyT_take (i := 0) (v := ?_) rfl (by kernel_rfl) (by kernel_rfl) (by kernel_rfl) (fun _ _ _ h => h) (Or.inl ⟨by kernel_rfl, ?_⟩) (by assumption) ?_
  rotate_left
  · intro w hSw; (try dsimp only at hSw); go_simp; (try with_reducible rfl)
  (try simp only [Act.put, List.getElem_toArray, List.getElem_cons_zero, List.getElem_cons_succ, List.setIfInBounds_toArray, List.set_cons_zero, List.set_cons_succ])
  refine wpAnyT_take (i := 1) (v := ?_) rfl (by kernel_rfl) (by kernel_rfl) (by kernel_rfl) (fun _ _ _ h => h) (Or.inl ⟨by kernel_rfl, ?_⟩) (by assumption) ?_
  rotate_left
  · intro w hSw; (try dsimp only at hSw); go_simp; (try with_reducible rfl)
  (try simp only [Act.put, List.getElem_toArray, List.getElem_cons_zero, List.getElem_cons_succ, List.setIfInBounds_toArray, List.set_cons_zero, List.set_cons_succ])
  refine wpAnyT_take (i := 2) (v := ?_) rfl (by kernel_rfl) (by kernel_rfl) (by kernel_rfl) (fun _ _ _ h => h) (Or.inl ⟨by kernel_rfl, ?_⟩) (by assumption) ?_
  rotate_left
  · intro w hSw; (try dsimp only at hSw); go_simp; (try with_reducible rfl)
  (try simp only [Act.put, List.getElem_toArray, List.getElem_cons_zero, List.getElem_cons_succ, List.setIfInBounds_toArray, List.set_cons_zero, List.set_cons_succ])
  refine wpAnyT_ready (rs := [3]) (by kernel_rfl) (by simp) ?_
  refine AllReadyT.cons rfl (fun K hK => ?_) AllReadyT.nil
  go_simp
  refine ((hF.block r5 _ (by have := HKL.out; have := HL2.out; have := HL3.out; have := HL5.out; omega) AI5.out.pst.drew)).mono ?_
  rintro e w6 (⟨x6, ks6, r6, v6, h1, rfl, hx, hk, h4, h5, hok, h7⟩ | ⟨q, hb, rfl, ho⟩)
  rotate_left
  · have HH := Lib.hid (show (Ps.wChoice F) t0 r0 = .bad q ∧ Only (· = p.B) w w6 from ⟨by simp only [Ps.wChoice, HE2.out, HE3.out, HE5.out, hb, Ps.O.bind_ok, Ps.O.bind_bad, eq_self, if_true, Bool.false_eq_true, if_false], AI5.out.drew.only.trans ho⟩)
    clear hb ho
    exact ⟨rfl, .inr ⟨_, HH.out.1, rfl, HH.out.2⟩⟩
  have HE6 := Lib.hid h1
  have HX6 := Lib.hid (And.intro hx hok)
  have HL6 := Lib.hid h7
  obtain ⟨ai6, hs6, h26⟩ := AI5.out.drew.asks h5 h4 hx hk hok
  refine hK.out _ _ ((AI5.out.drew.call h5 h4).cell5) (fun hHeld1 => ?_)
  clear hK K
  (try simp only [Act.put, List.getElem_toArray, List.getElem_cons_zero, List.getElem_cons_succ, List.setIfInBounds_toArray, List.set_cons_zero, List.set_cons_succ])
  refine wpAnyT_ready (rs := [4]) (by kernel_rfl) (by simp) ?_
  refine AllReadyT.cons rfl (fun K hK => ?_) AllReadyT.nil
  go_simp
  refine hK.out _ _ ai6.cell5 (fun hHeld2 => ?_)
  clear hK K
  (try simp only [Act.put, List.getElem_toArray, List.getElem_cons_zero, List.getElem_cons_succ, List.setIfInBounds_toArray, List.set_cons_zero, List.set_cons_succ])
  have AJ6 := Lib.hid ai6
  have HS6 := Lib.hid hs6
  have H26 := Lib.hid h26
  clear ai6 hs6 h26 h1 hx hk h4 h5 hok h7 hHeld0 hHeld1
  refine wpAnyT_ready (rs := [5]) (by kernel_rfl) (by simp) ?_
  refine AllReadyT.cons rfl (fun K hK => ?_) AllReadyT.nil
  refine step_nd (k2 := [(x6, v6)]) (.tmp 16) (.tmp 19) rfl rfl rfl AJ6.out.row rfl HS6.out H26.out AJ6.out.size (by first | (simp; done) | (have := HM.out; simp; omega)) ?_
  intro ka6 kc6 wa6 hr ho hl
  obtain ⟨q0, q1, q2⟩ := AJ6.out.more hr ho hl
  refine hK.out _ _ q0 (fun hHeld3 => ?_)
  clear hK K
  (try simp only [Act.put, List.getElem_toArray, List.getElem_cons_zero, List.getElem_cons_succ, List.setIfInBounds_toArray, List.set_cons_zero, List.set_cons_succ])
  refine wpAnyT_take (i := 6) (v := ?_) rfl (by kernel_rfl) (by kernel_rfl) (by kernel_rfl) (fun _ _ _ h => h) (Or.inl ⟨by kernel_rfl, ?_⟩) (by assumption) ?_
  rotate_left
  · intro w hSw; (try dsimp only at hSw); go_simp; (try with_reducible rfl)
  (try simp only [Act.put, List.getElem_toArray, List.getElem_cons_zero, List.getElem_cons_succ, List.setIfInBounds_toArray, List.set_cons_zero, List.set_cons_succ])
  clear hr ho hl hHeld2 hHeld3
  refine wpAnyT_ready (rs := [7]) (by kernel_rfl) (by simp) ?_
  refine AllReadyT.fin rfl (fun K hK => ?_)
  go_simp
  refine hK.out _ _ ?_
  clear hK K
  (try simp only [Act.put, List.getElem_toArray, List.getElem_cons_zero, List.getElem_cons_succ, List.setIfInBounds_toArray, List.set_cons_zero, List.set_cons_succ])
  refine wpAnyT_done (by kernel_rfl) ?_ _
  have AI7 := Lib.hid q2
  obtain ⟨W7, hW7⟩ : ∃ W7, wa6.setCell ⟨W4.heap.size, 5, none⟩ (.slice ka6 3 kc6) = W7 := ⟨_, rfl⟩
  rw [show wa6.setCell ⟨W4.heap.size, 5, none⟩ (.slice ka6 ([(x2, v2), (x3, v3)].length + [(x6, v6)].length) kc6) = W7 from hW7] at AI7
  obtain ⟨⟨z0, z1, z2, z3, z4, z5⟩, _⟩ := nd_six AI7.out.box
  obtain ⟨⟨y0, y1, y2, y3, y4, y5⟩, f0, f1, f2, f3, f4, f5⟩ := nd_six AI7.out.res
  have HW7 := Lib.hid hW7
  clear hW7 q0 q1 q2
  rw [HW7.out]
  go_wp2_with fail
  refine AI7.out.end (y := Ps.nd 22 Ps.e0 Ps.e0 0 [x2, x3, x6]) (by rfl) rfl rfl ⟨rfl, rfl, rfl, rfl, rfl⟩ (by simp only [Ps.wChoice, HE2.out, HE3.out, HE5.out, HE6.out, Ps.O.bind_ok, Ps.O.bind_bad, eq_self, if_true, Bool.false_eq_true, if_false]) rfl (nd_ok1 _ _ _ _ _ (by decide) e0_size e0_size (by decide)) ?_
  have := HL2.out; have := HL3.out; have := HL5.out; have := HL6.out
  rw [count_nd, Nd.countL_cons, Nd.countL_cons, Nd.countL_cons, Nd.countL_nil, List.length_cons]; omega

set_option maxHeartbeats 1000000 in
theorem pfield_c (l : List Lx.T) (w : World) (hp : Pst p l w) : Calls Tryz.prog 77 #[.pointer (some ⟨p.B, 0, none⟩)] w (NodePost p l (Ps.field l) w) := by
  obtain ⟨W0, hW0⟩ : ∃ W0, w.alloc (.cells pzN nT) = W0 := ⟨_, rfl⟩
  have k0 : Kept w W0 := by rw [← hW0]; exact (Kept.refl w).alloc _
  have HZ0 := Lib.hid (show w.heap.size + 1 ≤ W0.heap.size by rw [← hW0]; simp)
  have HB0 := Lib.hid (show Blk W0 w.heap.size nT pzN by rw [← hW0]; exact Blk.new _ _ _)
  have HP0 := Lib.hid (hp.kept k0)
  have HN := Lib.hid hp.lt
  have HO0 := Lib.hid (show Only (· = p.B) w W0 from Only.of_kept k0)
  have HW0 := Lib.hid hW0
  clear hp k0 hW0
  have hf1 := field_tok1
  have hf2 := field_tok2
  go_enter Tryz.func77, Tryz.ntmps77
  go_wp2_with (rw [HW0.out])
  refine (take_l [⟨#[118, 97, 114]⟩] (ty := 9) HP0.out (by first | rfl | simp) rfl rfl (by decide) (by decide +kernel)).mono ?_
  rintro e w1 (⟨t1, r1, h1, h2, rfl, h4, h5, h6⟩ | ⟨q, hb, rfl, ho⟩)
  rotate_left
  · have HH := Lib.hid (show Ps.field l = .bad q ∧ Only (· = p.B) w w1 from ⟨by simp only [Ps.field, hb, Ps.O.bind_ok, Ps.O.bind_bad, eq_self, if_true, Bool.false_eq_true, if_false], HO0.out.trans ho⟩)
    clear hb ho
    go_wp2_with fail
    exact ⟨rfl, .inr ⟨_, HH.out.1, rfl, HH.out.2⟩⟩
  have HE1 := Lib.hid h1
  have HT1 := Lib.hid h6
  have HL1 := Lib.hid (show r1.length + 1 = (l).length by rw [h2]; rfl)
  have HP1 := Lib.hid h4
  have HO1 := Lib.hid (HO0.out.trans h5)
  have HZ1 := Lib.hid (Nat.le_trans HZ0.out (Only.size h5))
  have HB1 := Lib.hid (HB0.out.only h5 (by have := HN.out; omega))
  clear h1 h2 h4 h5 h6
  go_wp2_with fail
  refine (take_l [⟨#[97, 32, 110, 97, 109, 101]⟩] (ty := 9) HP1.out (by first | rfl | simp) rfl rfl (by decide) (by decide +kernel)).mono ?_
  rintro e w2 (⟨t2, r2, h1, h2, rfl, h4, h5, h6⟩ | ⟨q, hb, rfl, ho⟩)
  rotate_left
  · have HH := Lib.hid (show Ps.field l = .bad q ∧ Only (· = p.B) w w2 from ⟨by simp only [Ps.field, HE1.out, hb, Ps.O.bind_ok, Ps.O.bind_bad, eq_self, if_true, Bool.false_eq_true, if_false], HO1.out.trans ho⟩)
    clear hb ho
    go_wp2_with fail
    exact ⟨rfl, .inr ⟨_, HH.out.1, rfl, HH.out.2⟩⟩
  have HE2 := Lib.hid h1
  have HT2 := Lib.hid h6
  have HL2 := Lib.hid (show r2.length + 1 = (r1).length by rw [h2]; rfl)
  have HP2 := Lib.hid h4
  have HO2 := Lib.hid (HO1.out.trans h5)
  have HZ2 := Lib.hid (Nat.le_trans HZ1.out (Only.size h5))
  have HB2 := Lib.hid (HB1.out.only h5 (by have := HN.out; omega))
  clear h1 h2 h4 h5 h6
  go_wp2_with fail
  refine (annot_c _ _ HP2.out).mono ?_
  rintro e w3 (⟨yy3, r3, h1, rfl, h4, h5, h6, h7⟩ | ⟨q, hb, rfl, ho⟩)
  rotate_left
  · have HH := Lib.hid (show Ps.field l = .bad q ∧ Only (· = p.B) w w3 from ⟨by simp only [Ps.field, HE1.out, HE2.out, hb, Ps.O.bind_ok, Ps.O.bind_bad, eq_self, if_true, Bool.false_eq_true, if_false], HO2.out.trans ho⟩)
    clear hb ho
    go_wp2_with fail
    exact ⟨rfl, .inr ⟨_, HH.out.1, rfl, HH.out.2⟩⟩
  have HE3 := Lib.hid h1
  have HT3 := Lib.hid h6
  have HL3 := Lib.hid h7
  have HP3 := Lib.hid h4
  have HO3 := Lib.hid (HO2.out.trans h5)
  have HZ3 := Lib.hid (Nat.le_trans HZ2.out (Only.size h5))
  have HB3 := Lib.hid (HB2.out.only h5 (by have := HN.out; omega))
  clear h1 h4 h5 h6 h7
  obtain ⟨V3, hV3⟩ : ∃ V, w3.alloc (.cells (ndA (Ps.nd 3 t2.text yy3 0 []) (.slice none 0 0)) nT) = V := ⟨_, rfl⟩
  have AI3 := Lib.hid (AppI.new (x := Ps.nd 3 t2.text yy3 0 []) (KRow.nil _ _) HB3.out HN.out HP3.out HO3.out rfl hV3)
  have HV3 := Lib.hid (show w3.alloc (.cells #[.int .i64 3, .string t2.text, .string yy3, .string Ps.e0, .int .i64 0, (.slice none 0 0)] nT) = V3 from hV3)
  clear hV3
  go_wp2_with (rw [HV3.out])
  refine (take_l [⟨#[59]⟩] (ty := 9) AI3.out.pst (by first | rfl | simp) rfl rfl (by decide) (by decide +kernel)).mono ?_
  rintro e w4 (⟨t4, r4, h1, h2, rfl, h4, h5, h6⟩ | ⟨q, hb, rfl, ho⟩)
  rotate_left
  · have HH := Lib.hid (show Ps.field l = .bad q ∧ Only (· = p.B) w w4 from ⟨by simp only [Ps.field, HE1.out, HE2.out, HE3.out, hb, Ps.O.bind_ok, Ps.O.bind_bad, eq_self, if_true, Bool.false_eq_true, if_false], AI3.out.only.trans ho⟩)
    clear hb ho
    go_wp2_with fail
    exact ⟨rfl, .inr ⟨_, HH.out.1, rfl, HH.out.2⟩⟩
  have HE4 := Lib.hid h1
  have HT4 := Lib.hid h6
  have HL4 := Lib.hid (show r4.length + 1 = (r3).length by rw [h2]; rfl)
  have AI4 := Lib.hid (AI3.out.call h5 h4)
  clear h1 h2 h4 h5 h6
  obtain ⟨⟨z0, z1, z2, z3, z4, z5⟩, g0, g1, g2, g3, g4, g5⟩ := nd_six AI4.out.box
  obtain ⟨⟨y0, y1, y2, y3, y4, y5⟩, f0, f1, f2, f3, f4, f5⟩ := nd_six AI4.out.res
  go_wp2_with fail
  refine AI4.out.end (y := Ps.nd 3 t2.text yy3 0 []) (by rfl) rfl rfl ⟨rfl, rfl, rfl, rfl, rfl⟩ (by simp only [Ps.field, HE1.out, HE2.out, HE3.out, HE4.out, Ps.O.bind_ok, Ps.O.bind_bad, eq_self, if_true, Bool.false_eq_true, if_false]) rfl (nd_ok1 _ _ _ _ _ (by decide) HT2.out.2.1 HT3.out (by decide)) ?_
  have := HL1.out; have := HL2.out; have := HL3.out; have := HL4.out; rw [count_nd, Nd.countL_nil]; omega

set_option maxHeartbeats 1000000 in
theorem entry_c (hF : FamC p F k) (l : List Lx.T) (w : World) (hk : l.length ≤ k) (hp : Pst p l w) : Calls Tryz.prog 79 #[.pointer (some ⟨p.B, 0, none⟩)] w (NodePost p l (Ps.entry F l) w) := by
  obtain ⟨W0, hW0⟩ : ∃ W0, w.alloc (.cells pzN nT) = W0 := ⟨_, rfl⟩
  have k0 : Kept w W0 := by rw [← hW0]; exact (Kept.refl w).alloc _
  have HZ0 := Lib.hid (show w.heap.size + 1 ≤ W0.heap.size by rw [← hW0]; simp)
  have HB0 := Lib.hid (show Blk W0 w.heap.size nT pzN by rw [← hW0]; exact Blk.new _ _ _)
  have HP0 := Lib.hid (hp.kept k0)
  have HN := Lib.hid hp.lt
  have HO0 := Lib.hid (show Only (· = p.B) w W0 from Only.of_kept k0)
  have HW0 := Lib.hid hW0
  have HKL := Lib.hid hk
  clear hp k0 hW0 hk
  have hf1 := field_tok1
  have hf2 := field_tok2
  go_enter Tryz.func79, Tryz.ntmps79
  go_wp2_with (rw [HW0.out])
  refine (pskip_c ⟨#[108, 101, 116]⟩ l _ HP0.out (by decide +kernel)).mono ?_
  rintro e w1 (⟨h1, rfl, h2, h3, h4⟩ | ⟨h1, rfl, h2, h3⟩)
  rotate_left
  · have HE := Lib.hid (show Ps.entry F l = F .expr l by rw [Ps.entry, h1]; rfl)
    have HO1 := Lib.hid (HO0.out.trans h3)
    have HZ1 := Lib.hid (Nat.le_trans HZ0.out h3.size)
    have HB1 := Lib.hid (HB0.out.only h3 (by have := HN.out; omega))
    have HX := Lib.hid (hF.expr l w1 HKL.out h2)
    clear h1 h2 h3
    go_wp2_with fail
    refine HX.out.mono ?_
    rintro e w2 (⟨x2, ks2, r2, v2, h1, rfl, hx, hk, h4, h5, hok, h7⟩ | ⟨q, hb, rfl, ho⟩)
    rotate_left
    · have HH := Lib.hid (show Ps.entry F l = .bad q ∧ Only (· = p.B) w w2 from ⟨HE.out.trans hb, HO1.out.trans ho⟩)
      clear hb ho
      go_wp2_with fail
      exact ⟨rfl, .inr ⟨_, HH.out.1, rfl, HH.out.2⟩⟩
    obtain ⟨va2, vc2, rfl⟩ := hk.slice
    have HB2 := Lib.hid (HB1.out.only h5 (by have := HN.out; omega))
    have HH := Lib.hid (show Ps.entry F l = .ok x2 r2 ∧ x2.kids = ks2.map (·.1) ∧ KRow (w.heap.size + 1) w2 (.slice va2 ks2.length vc2) ks2 ∧ Pst p r2 w2 ∧ Only (· = p.B) w w2 ∧ x2.ok1 ∧ x2.count + r2.length ≤ l.length from ⟨HE.out.trans h1, hx, hk.lower HZ1.out, h4, HO1.out.trans h5, hok, h7⟩)
    clear h1 hx hk h4 h5 hok h7
    obtain ⟨⟨y0, y1, y2, y3, y4, y5⟩, f0, f1, f2, f3, f4, f5⟩ := nd_six HB2.out
    go_wp2_with fail
    exact node_end (x := x2) (ks := ks2) (v := .slice va2 ks2.length vc2) (by rfl) rfl rfl HB2.out HH.out.1 HH.out.2.1 HH.out.2.2.1 HH.out.2.2.2.1 HN.out.2 HH.out.2.2.2.2.1 HH.out.2.2.2.2.2.1 HH.out.2.2.2.2.2.2
  have HE1 := Lib.hid h1
  have HL1 := Lib.hid h4
  have HP1 := Lib.hid h2
  have HO1 := Lib.hid (HO0.out.trans h3)
  have HZ1 := Lib.hid (Nat.le_trans HZ0.out (Only.size h3))
  have HB1 := Lib.hid (HB0.out.only h3 (by have := HN.out; omega))
  clear h1 h2 h3 h4
  go_wp2_with fail
  refine (take_l [⟨#[97, 32, 110, 97, 109, 101]⟩] (ty := 9) HP1.out (by first | rfl | simp) rfl rfl (by decide) (by decide +kernel)).mono ?_
  rintro e w2 (⟨t2, r2, h1, h2, rfl, h4, h5, h6⟩ | ⟨q, hb, rfl, ho⟩)
  rotate_left
  · have HH := Lib.hid (show Ps.entry F l = .bad q ∧ Only (· = p.B) w w2 from ⟨by simp only [Ps.entry, HE1.out, hb, Ps.O.bind_ok, Ps.O.bind_bad, eq_self, if_true, Bool.false_eq_true, if_false], HO1.out.trans ho⟩)
    clear hb ho
    go_wp2_with fail
    exact ⟨rfl, .inr ⟨_, HH.out.1, rfl, HH.out.2⟩⟩
  have HE2 := Lib.hid h1
  have HT2 := Lib.hid h6
  have HL2 := Lib.hid (show r2.length + 1 = (l.tail).length by rw [h2]; rfl)
  have HP2 := Lib.hid h4
  have HO2 := Lib.hid (HO1.out.trans h5)
  have HZ2 := Lib.hid (Nat.le_trans HZ1.out (Only.size h5))
  have HB2 := Lib.hid (HB1.out.only h5 (by have := HN.out; omega))
  clear h1 h2 h4 h5 h6
  go_wp2_with fail
  refine (annot_c _ _ HP2.out).mono ?_
  rintro e w3 (⟨yy3, r3, h1, rfl, h4, h5, h6, h7⟩ | ⟨q, hb, rfl, ho⟩)
  rotate_left
  · have HH := Lib.hid (show Ps.entry F l = .bad q ∧ Only (· = p.B) w w3 from ⟨by simp only [Ps.entry, HE1.out, HE2.out, hb, Ps.O.bind_ok, Ps.O.bind_bad, eq_self, if_true, Bool.false_eq_true, if_false], HO2.out.trans ho⟩)
    clear hb ho
    go_wp2_with fail
    exact ⟨rfl, .inr ⟨_, HH.out.1, rfl, HH.out.2⟩⟩
  have HE3 := Lib.hid h1
  have HT3 := Lib.hid h6
  have HL3 := Lib.hid h7
  have HP3 := Lib.hid h4
  have HO3 := Lib.hid (HO2.out.trans h5)
  have HZ3 := Lib.hid (Nat.le_trans HZ2.out (Only.size h5))
  have HB3 := Lib.hid (HB2.out.only h5 (by have := HN.out; omega))
  clear h1 h4 h5 h6 h7
  obtain ⟨V3, hV3⟩ : ∃ V, w3.alloc (.cells (ndA (Ps.nd 15 t2.text yy3 0 []) (.slice none 0 0)) nT) = V := ⟨_, rfl⟩
  have AI3 := Lib.hid (AppI.new (x := Ps.nd 15 t2.text yy3 0 []) (KRow.nil _ _) HB3.out HN.out HP3.out HO3.out rfl hV3)
  have HV3 := Lib.hid (show w3.alloc (.cells #[.int .i64 15, .string t2.text, .string yy3, .string Ps.e0, .int .i64 0, (.slice none 0 0)] nT) = V3 from hV3)
  clear hV3
  go_wp2_with (rw [HV3.out])
  refine (take_l [⟨#[61]⟩] (ty := 9) AI3.out.pst (by first | rfl | simp) rfl rfl (by decide) (by decide +kernel)).mono ?_
  rintro e w4 (⟨t4, r4, h1, h2, rfl, h4, h5, h6⟩ | ⟨q, hb, rfl, ho⟩)
  rotate_left
  · have HH := Lib.hid (show Ps.entry F l = .bad q ∧ Only (· = p.B) w w4 from ⟨by simp only [Ps.entry, HE1.out, HE2.out, HE3.out, hb, Ps.O.bind_ok, Ps.O.bind_bad, eq_self, if_true, Bool.false_eq_true, if_false], AI3.out.only.trans ho⟩)
    clear hb ho
    go_wp2_with fail
    exact ⟨rfl, .inr ⟨_, HH.out.1, rfl, HH.out.2⟩⟩
  have HE4 := Lib.hid h1
  have HT4 := Lib.hid h6
  have HL4 := Lib.hid (show r4.length + 1 = (r3).length by rw [h2]; rfl)
  have AI4 := Lib.hid (AI3.out.call h5 h4)
  clear h1 h2 h4 h5 h6
  go_wp2_with fail
  refine (hF.expr _ _ (by have := HKL.out; have := HL1.out; have := HL2.out; have := HL3.out; have := HL4.out; omega) AI4.out.pst).mono ?_
  rintro e w5 (⟨x5, ks5, r5, v5, h1, rfl, hx, hk, h4, h5, hok, h7⟩ | ⟨q, hb, rfl, ho⟩)
  rotate_left
  · have HH := Lib.hid (show Ps.entry F l = .bad q ∧ Only (· = p.B) w w5 from ⟨by simp only [Ps.entry, HE1.out, HE2.out, HE3.out, HE4.out, hb, Ps.O.bind_ok, Ps.O.bind_bad, eq_self, if_true, Bool.false_eq_true, if_false], AI4.out.only.trans ho⟩)
    clear hb ho
    go_wp2_with fail
    exact ⟨rfl, .inr ⟨_, HH.out.1, rfl, HH.out.2⟩⟩
  have HE5 := Lib.hid h1
  have HX5 := Lib.hid (And.intro hx hok)
  have HL5 := Lib.hid h7
  obtain ⟨U5, hU5⟩ : ∃ U, w5.alloc (.cells (ndA x5 v5) nT) = U := ⟨_, rfl⟩
  obtain ⟨q0, q1, q2⟩ := AI4.out.lit h5 h4 hx hk hok hU5
  have AI5b := Lib.hid q2
  have HU5 := Lib.hid hU5
  clear q2 h1 h4 h5 hx hk hok h7 hU5
  obtain ⟨T5, hT5⟩ : ∃ T, U5.setCell ⟨w3.heap.size, 5, none⟩ (.slice (some ⟨w5.heap.size, 0, none⟩) 1 1) = T := ⟨_, rfl⟩
  rw [hT5] at AI5b
  have HT5 := Lib.hid hT5
  clear hT5
  obtain ⟨⟨z0, z1, z2, z3, z4, z5⟩, g0, g1, g2, g3, g4, g5⟩ := nd_six AI5b.out.box
  obtain ⟨⟨y0, y1, y2, y3, y4, y5⟩, f0, f1, f2, f3, f4, f5⟩ := nd_six AI5b.out.res
  go_wp2_with (first | rw [HU5.out] | rw [HT5.out])
  refine AI5b.out.end (y := Ps.nd 15 t2.text yy3 0 [x5]) (by rfl) rfl rfl ⟨rfl, rfl, rfl, rfl, rfl⟩ (by simp only [Ps.entry, HE1.out, HE2.out, HE3.out, HE4.out, HE5.out, Ps.O.bind_ok, Ps.O.bind_bad, eq_self, if_true, Bool.false_eq_true, if_false]) rfl (nd_ok1 _ _ _ _ _ (by decide) HT2.out.2.1 HT3.out (by decide)) ?_
  have := HL1.out; have := HL2.out; have := HL3.out; have := HL4.out; have := HL5.out; rw [count_nd, Nd.countL_cons, Nd.countL_nil]; omega
end
end Go.Proofs.YtfkmnpgpfmkjaaaGreatDoor
