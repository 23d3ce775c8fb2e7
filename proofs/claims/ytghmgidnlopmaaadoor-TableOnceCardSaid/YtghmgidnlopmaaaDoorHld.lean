/- What a class has by a name, in memory: a map from texts to structs of a method's address and a bool. -/
import Derived.Test.YtghmgidnlopmaaaDoorTck
import Derived.Test.YtghmgidnlopmaaaDoorLnr
import Derived.Test.YtghmgidnlopmaaaDoorFie
import Derived.Test.YtghmgidnlopmaaaDoorMpf
import Derived.Test.YtghmgidnlopmaaaDoorRgn
set_option linter.unusedSimpArgs false
set_option linter.unusedVariables false
set_option maxRecDepth 100000
namespace Go.Proofs.YtghmgidnlopmaaaDoor
open Go.ChangeShapes Go.WideShapes Go.ChangeAt Go.RowKit Go.Shelf
open Go.Maps (Keyed)

/-- The map's values are those that h tells; methods lie where w has them. -/
def HRel (w : World) (h : Tab.Held) (f : ByteArray → Option Value) : Prop :=
  ∀ s, match h s with
    | none => f s = none
    | some (none, b) => f s = some (.agg #[.pointer none, .bool b])
    | some (some m, b) => ∃ k o, f s = some (.agg #[.pointer (some ⟨k, o, none⟩), .bool b]) ∧ SigAt w k o m
theorem HRel.some_iff {w : World} {h : Tab.Held} {f : ByteArray → Option Value} (r : HRel w h f) (s : ByteArray) : (f s).isSome = (h s).isSome := by
  have := r s
  split at this
  · rename_i e; rw [e, this]; rfl
  · rename_i e; rw [e, this]; rfl
  · rename_i e; obtain ⟨_, _, h1, _⟩ := this; rw [e, h1]; rfl
theorem HRel.putF {w : World} {h : Tab.Held} {f : ByteArray → Option Value} (r : HRel w h f) (s : ByteArray) (b : Bool) : HRel w (h.put s (none, b)) (fun x => if x = s then some (.agg #[.pointer none, .bool b]) else f x) := by
  intro x
  unfold Tab.Held.put
  by_cases hx : x = s
  · rw [if_pos hx]; simp [hx]
  · rw [if_neg hx]
    have := r x
    simp only [if_neg hx]
    exact this
theorem HRel.putM {w : World} {h : Tab.Held} {f : ByteArray → Option Value} (r : HRel w h f) (s : ByteArray) (m : Tab.M) (b : Bool) {k o : Nat} (hm : SigAt w k o m) : HRel w (h.put s (some m, b)) (fun x => if x = s then some (.agg #[.pointer (some ⟨k, o, none⟩), .bool b]) else f x) := by
  intro x
  unfold Tab.Held.put
  by_cases hx : x = s
  · rw [if_pos hx]; simp only [if_pos hx]; exact ⟨k, o, rfl, hm⟩
  · rw [if_neg hx]
    have := r x
    simp only [if_neg hx]
    exact this

/-- Block b holds a map that tells h. -/
def HldAt (w : World) (b n : Nat) (h : Tab.Held) (W : World) : Prop := ∃ f, MapF Tryd.prog 9 b n f W ∧ HRel w h f

theorem HldAt.only {w W W' : World} {b n : Nat} {h : Tab.Held} {S : Nat → Prop} (r : HldAt w b n h W) (ho : Only S W W') (hs : ¬ S b) : HldAt w b n h W' := by
  obtain ⟨f, h1, h2⟩ := r
  exact ⟨f, h1.only ho hs, h2⟩
theorem HldAt.keep {w W W' : World} {b n : Nat} {h : Tab.Held} (r : HldAt w b n h W) (k : Kept W W') : HldAt w b n h W' := r.only (S := fun _ => False) (Only.of_kept k) (fun h => h)
theorem HldAt.mono {w W : World} {b n m : Nat} {h : Tab.Held} (r : HldAt w b n h W) (hm : n ≤ m) : HldAt w b m h W := by
  obtain ⟨f, h1, h2⟩ := r
  exact ⟨f, h1.mono hm, h2⟩

theorem zero_held (W : World) : (zeroValue 99).run Tryd.prog W = .ok (.agg #[.pointer none, .bool false]) W := by kernel_rfl

theorem HldAt.look {w W : World} {b n : Nat} {h : Tab.Held} (r : HldAt w b n h W) (s : ByteArray) (hs : s.size ≤ maxLen) :
    ∃ v, (Instr.lookup 95 (.map (some b)) (.string s) true).run Tryd.prog W = .ok (.tuple #[v, .bool (h s).isSome]) W ∧
      match h s with
      | none => v = .agg #[.pointer none, .bool false]
      | some (none, y) => v = .agg #[.pointer none, .bool y]
      | some (some m, y) => ∃ k o, v = .agg #[.pointer (some ⟨k, o, none⟩), .bool y] ∧ SigAt w k o m := by
  obtain ⟨f, h1, h2⟩ := r
  have hr := h1.look (t := 95) (e := 99) (Maps.string_keyed Tryd.underlying9) Tryd.underlying95 (zero_held W) s (WideMaps.keyOf_string_mk Tryd.underlying9 hs)
  rw [h2.some_iff] at hr
  refine ⟨_, hr, ?_⟩
  have := h2 s
  split at this
  · rw [this]; rfl
  · rw [this]; rfl
  · obtain ⟨k, o, e, hm⟩ := this
    exact ⟨k, o, by rw [e]; rfl, hm⟩

theorem HldAt.putF {w W : World} {b n : Nat} {h : Tab.Held} (r : HldAt w b n h W) (hn : n < maxLen) (s : ByteArray) (hs : s.size ≤ maxLen) (y : Bool) :
    ∃ W', (Instr.mapUpdate 95 (.map (some b)) (.string s) (.agg #[.pointer none, .bool y])).run Tryd.prog W = .ok () W' ∧ HldAt w b (n + 1) (h.put s (none, y)) W' ∧ Only (· = b) W W' := by
  obtain ⟨f, h1, h2⟩ := r
  obtain ⟨W', hr, hm, hg⟩ := h1.store (t := 95) (e := 99) (Maps.string_keyed Tryd.underlying9) Tryd.underlying95 hn s (.agg #[.pointer none, .bool y]) (WideMaps.keyOf_string_mk Tryd.underlying9 hs)
  exact ⟨W', hr, ⟨_, hm, h2.putF s y⟩, (Only.refl _ W).grown hg fun k e => .inl (by injection e with e; exact e.symm)⟩
theorem HldAt.putM {w W : World} {b n : Nat} {h : Tab.Held} (r : HldAt w b n h W) (hn : n < maxLen) (s : ByteArray) (hs : s.size ≤ maxLen) (m : Tab.M) (y : Bool) {k o : Nat} (hm : SigAt w k o m) :
    ∃ W', (Instr.mapUpdate 95 (.map (some b)) (.string s) (.agg #[.pointer (some ⟨k, o, none⟩), .bool y])).run Tryd.prog W = .ok () W' ∧ HldAt w b (n + 1) (h.put s (some m, y)) W' ∧ Only (· = b) W W' := by
  obtain ⟨f, h1, h2⟩ := r
  obtain ⟨W', hr, hm', hg⟩ := h1.store (t := 95) (e := 99) (Maps.string_keyed Tryd.underlying9) Tryd.underlying95 hn s (.agg #[.pointer (some ⟨k, o, none⟩), .bool y]) (WideMaps.keyOf_string_mk Tryd.underlying9 hs)
  exact ⟨W', hr, ⟨_, hm', h2.putM s m y hm⟩, (Only.refl _ W).grown hg fun k e => .inl (by injection e with e; exact e.symm)⟩

/-- 'm[k] = v' as one step of a region that draws. -/
theorem step_put {P : Program} {ops : Array Oper} {o : Oper} {a : Act} {K : Act → World → Prop} {Q : Exit → Act → World → Prop} {E : Prop} {w w' : World} (hgd : o.guard = none) (m x v : Operand) (t : TypeId)
    (ho : o.op = Op.mapUpdate t m x v) {vm vx vv : Value} (hm : a.eval m = vm) (hx : a.eval x = vx) (hv : a.eval v = vv) (hr : (Instr.mapUpdate t vm vx vv).run P w = .ok () w') (hK : K (a.put o.dst undef) w') :
    if Region.wanted o (yielded ops a.tmps) = true then Oper.wp P o a w K Q else E := by
  have hw : Region.wanted o (yielded ops a.tmps) = true := by simp [Region.wanted, hgd]
  rw [if_pos hw]
  unfold Oper.wp
  simp [execOp, ho, hm, hx, hv, hr, Result.andThen]
  exact hK

end Go.Proofs.YtghmgidnlopmaaaDoor
