/- A map from pairs of types: what a look-up tells, what a store, a deletion make of it, how long it is. -/
import Derived.Test.YthooiofaicdhgaaGreatDoorPcn
import Derived.Test.YthooiofaicdhgaaGreatDoorMpl
import Derived.DeepKeys4
import Derived.Maps.Range
import Derived.Maps.Views
import Derived.WalkKit
import Derived.Sort.MapsRangeIn
set_option linter.unusedSimpArgs false
set_option linter.unusedVariables false
set_option maxRecDepth 100000
namespace Go.Proofs.YthooiofaicdhgaaGreatDoor
open Go.ChangeShapes Go.WideShapes Go.ChangeAt Go.RowKit
open Go.Maps (Keyed)

abbrev pvA (p : Tab.P2) : Array Value := #[.string p.1, .string p.2]
abbrev pv (p : Tab.P2) : Value := .agg #[.string p.1, .string p.2]
def kl (p : Tab.P2) : Lit := .string (keyBytes [.string p.1.data.toList, .string p.2.data.toList])
def Fine (p : Tab.P2) : Prop := p.1.size ≤ maxLen ∧ p.2.size ≤ maxLen

theorem pair_laid : laidOutB Tryz.prog = true := by kernel_rfl
theorem pair_row : (117 : TypeId) < Tryz.prog.types.size := of_decide_eq_true (by kernel_rfl)
theorem pair_wide : (match Tryz.prog.underlying 117 with | some (.array _ _) | some (.struct _) => true | _ => false) = true := by kernel_rfl
theorem pair_law : Keyed Tryz.prog 117 := Keyed.of_law (deep_law_laid pair_laid (m := 2) (by omega) pair_row (by kernel_rfl) pair_wide)
theorem pair_keyType : Tryz.prog.keyType 117 = true := by kernel_rfl
theorem pair_cells : Tryz.prog.cellsOf 117 = 2 := by kernel_rfl

theorem keyOf_shape (v : Value) : keyOf Tryz.prog 117 v = if Tryz.prog.keyType 117 && v.formed Tryz.prog 117 then (Tryz.prog.keyLits (Tryz.prog.types.size + 1) 117 v.cells.toList).map fun ls => .string (keyBytes ls) else none := by
  unfold keyOf
  rw [Tryz.underlying117]
theorem pair_lits (d : Nat) (cs : List Value) : Tryz.prog.keyLits (d + 2) 117 cs = match cs with
    | [.string a, .string b] => if a.size ≤ maxLen ∧ b.size ≤ maxLen then some [.string a.data.toList, .string b.data.toList] else none
    | _ => none := by
  have hs : ∀ (d : Nat) (cs : List Value), Tryz.prog.keyLits (d + 1) 9 cs = match cs with | [.string s] => if s.size ≤ maxLen then some [.string s.data.toList] else none | _ => none := by
    intro d cs
    unfold Program.keyLits
    rw [Tryz.underlying9]
    split <;> simp_all
  unfold Program.keyLits
  rw [Tryz.underlying117]
  simp only [pair_cells]
  match cs with
  | [] => simp
  | [a] => simp
  | a :: b :: c :: r => simp
  | [a, b] =>
    have c1 : Tryz.prog.cellsOf 9 = 1 := by kernel_rfl
    simp [c1, hs]
    cases a <;> cases b <;> simp
    rename_i x y
    by_cases h1 : x.size ≤ maxLen <;> by_cases h2 : y.size ≤ maxLen <;> simp [h1, h2]

theorem types_big : ∃ d, Tryz.prog.types.size + 1 = d + 2 := ⟨Tryz.prog.types.size - 1, by have h : 117 < Tryz.prog.types.size := pair_row; omega⟩
theorem keyOf_pair {p : Tab.P2} (h : Fine p) : keyOf Tryz.prog 117 (pv p) = some (kl p) := by
  rw [keyOf_shape]
  obtain ⟨d, hd⟩ := types_big
  rw [hd, pair_lits, pair_keyType, show (pv p).formed Tryz.prog 117 = true by simp [Value.formed, Tryz.underlying117, pair_cells]]
  have : (pv p).cells.toList = [.string p.1, .string p.2] := by simp [Value.cells]
  rw [this]
  simp only [h.1, h.2, and_self, if_true, Bool.and_self, Option.map_some]
  rfl
theorem keyOf_inv {v : Value} {l : Lit} (h : keyOf Tryz.prog 117 v = some l) : ∃ p, v = pv p ∧ Fine p := by
  rw [keyOf_shape] at h
  obtain ⟨d, hd⟩ := types_big
  rw [hd, pair_lits, pair_keyType] at h
  simp only [Bool.true_and] at h
  split at h
  · rename_i hf
    cases v <;> simp [Value.formed, Tryz.underlying117] at hf
    rename_i cs
    have hc : (Value.agg cs).cells.toList = cs.toList := by simp [Value.cells]
    rw [hc] at h
    obtain ⟨cs⟩ := cs
    simp only at h
    split at h
    · rename_i a b
      split at h
      · rename_i hs
        exact ⟨(a, b), rfl, hs⟩
      · cases h
    · cases h
  · cases h
theorem kl_inj {p q : Tab.P2} (hp : Fine p) (hq : Fine q) (e : kl p = kl q) : p = q := by
  have := pair_law.inj (keyOf_pair hp) ((keyOf_pair hq).trans (by rw [e]))
  simp at this
  exact Prod.ext this.1 this.2
theorem kl_isKey {p : Tab.P2} : WideAt.IsKeyLit (kl p) := trivial

/-- Block b holds a map whose keys are D, of which g tells the elements. -/
def MapP (b n : Nat) (D : List Tab.P2) (g : Tab.P2 → Value) (W : World) : Prop :=
  ∃ d : DataW Value, W.ownsMap Tryz.prog 117 selfElem b n d ∧ Maps.size d = D.length ∧ D.Nodup ∧ (∀ p ∈ D, Fine p) ∧ (∀ p, Fine p → Maps.has d (kl p) = Tab.inP D p) ∧ ∀ p ∈ D, ∀ z, d.atKey (kl p) z = .held (g p)

section
variable {b n : Nat} {D : List Tab.P2} {g : Tab.P2 → Value} {W : World}

theorem MapP.made (W : World) (g : Tab.P2 → Value) : MapP W.heap.size 0 [] g (W.alloc (.map #[] 0)) :=
  ⟨.map [], World.ownsMap_made W _ _ selfElem, rfl, List.nodup_nil, fun p h => (by cases h), fun p _ => rfl, fun p h => (by cases h)⟩
theorem MapP.lt (h : MapP b n D g W) : b < W.heap.size := by obtain ⟨d, h1, _⟩ := h; exact h1.lt
theorem MapP.mono (h : MapP b n D g W) {m : Nat} (hm : n ≤ m) : MapP b m D g W := by obtain ⟨d, h1, h2⟩ := h; exact ⟨d, h1.mono hm, h2⟩
theorem MapP.nodup (h : MapP b n D g W) : D.Nodup := by obtain ⟨_, _, _, h, _⟩ := h; exact h
theorem MapP.fine (h : MapP b n D g W) : ∀ p ∈ D, Fine p := by obtain ⟨_, _, _, _, h, _⟩ := h; exact h
theorem MapP.le (h : MapP b n D g W) : D.length ≤ n := by obtain ⟨_, h, e, _⟩ := h; rw [← e]; exact h.size_le
theorem MapP.only {S : Nat → Prop} {W' : World} (h : MapP b n D g W) (ho : Only S W W') (hs : ¬ S b) : MapP b n D g W' := by
  obtain ⟨d, ⟨es, clock, hb, rest⟩, h2⟩ := h
  exact ⟨d, ⟨es, clock, (ho.block b (Array.getElem?_eq_some_iff.1 hb).1 hs).trans hb, rest⟩, h2⟩
theorem MapP.kept {W' : World} (h : MapP b n D g W) (k : Kept W W') : MapP b n D g W' := h.only (S := fun _ => False) (Only.of_kept k) (fun h => h)
theorem MapP.congr (h : MapP b n D g W) {g' : Tab.P2 → Value} (e : ∀ p ∈ D, g' p = g p) : MapP b n D g' W := by
  obtain ⟨d, h1, h2, h3, h4, h5, h6⟩ := h
  exact ⟨d, h1, h2, h3, h4, h5, fun p hp z => by rw [h6 p hp, e p hp]⟩

theorem MapP.look {e t : TypeId} (h : MapP b n D g W) (ht : Tryz.prog.underlying t = some (.map 117 e)) {z : Value} (hz : (zeroValue e).run Tryz.prog W = .ok z W) {p : Tab.P2} (hp : Fine p) :
    (Instr.lookup t (.map (some b)) (pv p) true).run Tryz.prog W = .ok (.tuple #[if Tab.inP D p then g p else z, .bool (Tab.inP D p)]) W := by
  obtain ⟨d, h1, _, _, _, h5, h6⟩ := h
  obtain ⟨v, ps, hr, hv⟩ := h1.look_ok pair_law ht hz (zd := .held z) (zp := []) rfl (keyOf_pair hp)
  rw [hr, h5 p hp]
  cases e : Tab.inP D p with
  | false =>
    rw [Maps.atKey_of_not_has (by rw [h5 p hp, e])] at hv
    rw [selfElem_inv hv]
    rfl
  | true =>
    rw [h6 p (Tab.inP_iff.1 e)] at hv
    rw [selfElem_inv hv]
    rfl
theorem MapP.look1 {e t : TypeId} (h : MapP b n D g W) (ht : Tryz.prog.underlying t = some (.map 117 e)) {z : Value} (hz : (zeroValue e).run Tryz.prog W = .ok z W) {p : Tab.P2} (hp : Fine p) :
    (Instr.lookup t (.map (some b)) (pv p) false).run Tryz.prog W = .ok (if Tab.inP D p then g p else z) W := by
  obtain ⟨d, h1, _, _, _, h5, h6⟩ := h
  obtain ⟨v, ps, hr, hv⟩ := h1.lookup pair_law ht hz (zd := .held z) (zp := []) rfl (keyOf_pair hp)
  rw [hr]
  cases e : Tab.inP D p with
  | false =>
    rw [Maps.atKey_of_not_has (by rw [h5 p hp, e])] at hv
    rw [selfElem_inv hv]
    rfl
  | true =>
    rw [h6 p (Tab.inP_iff.1 e)] at hv
    rw [selfElem_inv hv]
    rfl
theorem MapP.len {e t : TypeId} (h : MapP b n D g W) (ht : Tryz.prog.underlying t = some (.map 117 e)) (ty : TypeId) : (Builtin.len_ #[t] ty #[.map (some b)]).run Tryz.prog W = .ok (.int .i64 D.length) W := by
  obtain ⟨d, h1, h2, _⟩ := h
  rw [h1.len ht ty, h2]

theorem MapP.store {e t : TypeId} (h : MapP b n D g W) (ht : Tryz.prog.underlying t = some (.map 117 e)) (hn : n < maxLen) {p : Tab.P2} (hp : Fine p) (hd : Tab.inP D p = false) (v : Value) :
    ∃ W', (Instr.mapUpdate t (.map (some b)) (pv p) v).run Tryz.prog W = .ok () W' ∧ MapP b (n + 1) (D ++ [p]) (fun q => if q = p then v else g q) W' ∧ W.grownBy W' (some b) := by
  obtain ⟨d, h1, h2, h3, h4, h5, h6⟩ := h
  have hnd : ¬ p ∈ D := Tab.inP_no.1 hd
  obtain ⟨W', hr, ho, hg⟩ := h1.update pair_law ht hn (keyOf_pair hp) (show selfElem v = some (.held v, []) from rfl)
  refine ⟨W', hr, ⟨_, ho, ?_, ?_, ?_, ?_, ?_⟩, hg⟩
  · rw [Maps.size_put (h1.tidy pair_law), h5 p hp, hd, h2]
    simp
  · rw [List.nodup_append]
    refine ⟨h3, by simp, fun x hx y hy e => ?_⟩
    simp at hy
    subst hy
    exact hnd (e ▸ hx)
  · intro q hq
    rcases List.mem_append.1 hq with hq | hq
    · exact h4 q hq
    · simp at hq; subst hq; exact hp
  · intro q hq
    by_cases e : q = p
    · subst e
      rw [Maps.has_put_same h1.isMap kl_isKey]
      exact (Tab.inP_iff.2 (by simp)).symm
    · rw [Maps.has_put_other (fun h => e (kl_inj hq hp h)), h5 q hq]
      unfold Tab.inP
      have : ¬ p = q := fun h => e h.symm
      simp [this]
  · intro q hq z
    by_cases e : q = p
    · subst e
      rw [Maps.atKey_put_same h1.isMap kl_isKey]
      simp
    · rcases List.mem_append.1 hq with hq | hq
      · rw [Maps.atKey_put_other (fun h => e (kl_inj (h4 q hq) hp h)), h6 q hq]
        simp [e]
      · simp at hq; exact absurd hq e

theorem MapP.drop {e t : TypeId} (h : MapP b n D g W) (ht : Tryz.prog.underlying t = some (.map 117 e)) {p : Tab.P2} (hp : Fine p) (ty : TypeId) :
    ∃ W', (Builtin.delete_ #[t, 117] ty #[.map (some b), pv p]).run Tryz.prog W = .ok (.tuple #[]) W' ∧ MapP b n (Tab.offP D p) g W' ∧ W.grownBy W' (some b) := by
  obtain ⟨d, h1, h2, h3, h4, h5, h6⟩ := h
  obtain ⟨W', hr, ho, hg⟩ := h1.drop pair_law ht (keyOf_pair hp) ty
  refine ⟨W', hr, ⟨_, ho, ?_, Tab.offP_nodup h3, fun q hq => h4 q (Tab.mem_offP.1 hq).1, ?_, ?_⟩, hg.grown⟩
  · have hs := Maps.size_del (k := kl p) (h1.tidy pair_law)
    rw [h5 p hp, h2] at hs
    cases hd : Tab.inP D p with
    | false =>
      rw [hd] at hs
      rw [Tab.offP_no (Tab.inP_no.1 hd)]
      simpa using hs
    | true =>
      rw [hd] at hs
      have := Tab.offP_len h3 (Tab.inP_iff.1 hd)
      simp at hs
      omega
  · intro q hq
    by_cases e : q = p
    · subst e
      rw [Maps.has_del_same]
      exact (Tab.inP_no.2 fun h => (Tab.mem_offP.1 h).2 rfl).symm
    · rw [Maps.has_del_other (fun h => e (kl_inj hq hp h)), h5 q hq, Bool.eq_iff_iff, Tab.inP_iff, Tab.inP_iff, Tab.mem_offP]
      exact ⟨fun h => ⟨h, e⟩, fun h => h.1⟩
  · intro q hq z
    obtain ⟨hq, e⟩ := Tab.mem_offP.1 hq
    rw [Maps.atKey_del_other (fun h => e (kl_inj (h4 q hq) hp h)), h6 q hq]

end
end Go.Proofs.YthooiofaicdhgaaGreatDoor
