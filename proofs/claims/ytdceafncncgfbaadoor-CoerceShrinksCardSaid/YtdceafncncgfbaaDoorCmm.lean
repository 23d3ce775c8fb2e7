/- A set of members as a map; what a look-up, a store, a range that deletes make of it. -/
import Derived.Test.YtdceafncncgfbaaDoorMem
import Derived.Test.YtdceafncncgfbaaDoorChm
import Derived.Maps.RangeWalk
import Derived.Lib.SlMapFilter
import Derived.Maps.Ext
import Derived.DeepKeys4
import Derived.WalkKit
set_option linter.unusedSimpArgs false
set_option linter.unusedVariables false
set_option maxRecDepth 100000
namespace Go.Proofs.YtdceafncncgfbaaDoor
open Go.ChangeShapes Go.WideShapes Go.ChangeAt Go.RowKit
open Go.Maps (Keyed)

abbrev Mbr := ByteArray × Int
instance memM (p : Mbr) (S : List Mbr) : Decidable (p ∈ S) := decidable_of_iff (S.any (fun q => decide (q = p)) = true) (by simp)
abbrev mv (p : Mbr) : Value := .agg #[.string p.1, .int .i64 p.2]
def klM (p : Mbr) : Lit := .string (keyBytes [.string p.1.data.toList, .int .i64 p.2])
structure FineM (p : Mbr) : Prop where
  s : p.1.size ≤ maxLen
  n : (Lit.int .i64 p.2).wf = true
abbrev tM : TypeId := 33
abbrev tMM : TypeId := 89

theorem mbr_row : (tM : TypeId) < Tryd.prog.types.size := of_decide_eq_true (by kernel_rfl)
theorem mbr_wide : (match Tryd.prog.underlying tM with | some (.array _ _) | some (.struct _) => true | _ => false) = true := by kernel_rfl
theorem mbr_law : Keyed Tryd.prog tM := Keyed.of_law (deep_law_laid letter_laid (m := 2) (by omega) mbr_row (by kernel_rfl) mbr_wide)
theorem mbr_keyType : Tryd.prog.keyType tM = true := by kernel_rfl
theorem mbr_cells : Tryd.prog.cellsOf tM = 2 := by kernel_rfl

theorem keyOf_shapeM (v : Value) : keyOf Tryd.prog tM v = if Tryd.prog.keyType tM && v.formed Tryd.prog tM then (Tryd.prog.keyLits (Tryd.prog.types.size + 1) tM v.cells.toList).map fun ls => .string (keyBytes ls) else none := by
  unfold keyOf
  rw [Tryd.underlying33]

theorem mbr_lits (d : Nat) (cs : List Value) : Tryd.prog.keyLits (d + 2) tM cs = match cs with
    | [.string a, .int q n] => if a.size ≤ maxLen then (if q = .i64 ∧ (Lit.int .i64 n).wf = true then some [.string a.data.toList, .int .i64 n] else none) else none
    | _ => none := by
  have hs : ∀ (d : Nat) (cs : List Value), Tryd.prog.keyLits (d + 1) 9 cs = match cs with | [.string s] => if s.size ≤ maxLen then some [.string s.data.toList] else none | _ => none := by
    intro d cs
    unfold Program.keyLits
    rw [Tryd.underlying9]
    split <;> simp_all
  have hb : ∀ (d : Nat) (cs : List Value), Tryd.prog.keyLits (d + 1) 3 cs = match cs with | [.int q n] => if q = .i64 ∧ (Lit.int .i64 n).wf = true then some [.int .i64 n] else none | _ => none := by
    intro d cs
    unfold Program.keyLits
    rw [Tryd.underlying3]
    split <;> simp_all
  unfold Program.keyLits
  rw [Tryd.underlying33]
  simp only [mbr_cells]
  match cs with
  | [] => simp
  | [a] => simp
  | a :: b :: c :: r => simp
  | [a, b] =>
    have c1 : Tryd.prog.cellsOf 9 = 1 := by kernel_rfl
    have c2 : Tryd.prog.cellsOf 3 = 1 := by kernel_rfl
    simp [c1, c2, hs, hb]
    cases a <;> cases b <;> simp
    rename_i x q y
    by_cases h2 : x.size ≤ maxLen <;> by_cases h3 : q = .i64 ∧ (Lit.int .i64 y).wf = true <;> simp [h2, h3]

theorem types_bigM : ∃ d, Tryd.prog.types.size + 1 = d + 2 := ⟨Tryd.prog.types.size - 1, by have h : (33 : Nat) < Tryd.prog.types.size := mbr_row; omega⟩
theorem mv_formed (p : Mbr) : (mv p).formed Tryd.prog tM = true := by simp [Value.formed, Tryd.underlying33, mbr_cells]
theorem keyOf_mbr {p : Mbr} (h : FineM p) : keyOf Tryd.prog tM (mv p) = some (klM p) := by
  rw [keyOf_shapeM]
  obtain ⟨d, hd⟩ := types_bigM
  rw [hd, mbr_lits, mbr_keyType, mv_formed]
  have : (mv p).cells.toList = [.string p.1, .int .i64 p.2] := by simp [Value.cells]
  rw [this]
  simp only [h.s, h.n, if_true, Bool.and_self, Option.map_some, and_self]
  rfl
theorem keyOf_mbr_inv {v : Value} {kl : Lit} (h : keyOf Tryd.prog tM v = some kl) : ∃ p, FineM p ∧ v = mv p ∧ kl = klM p := by
  rw [keyOf_shapeM, mbr_keyType] at h
  by_cases hf : v.formed Tryd.prog tM = true
  · rw [hf] at h
    obtain ⟨d, hd⟩ := types_bigM
    rw [hd, mbr_lits] at h
    simp only [Bool.and_self, if_true] at h
    have hv : ∃ cs, v = .agg cs := by
      cases v <;> simp [Value.formed, Tryd.underlying33] at hf
      exact ⟨_, rfl⟩
    obtain ⟨cs, rfl⟩ := hv
    simp only [Value.cells] at h
    split at h
    · rename_i a q n hcs
      by_cases h1 : a.size ≤ maxLen
      · by_cases h2 : q = .i64 ∧ (Lit.int .i64 n).wf = true
        · simp [h1, h2] at h
          refine ⟨(a, n), ⟨h1, h2.2⟩, ?_, h.symm⟩
          rw [h2.1] at hcs
          congr 1
          exact Array.toList_inj.1 (by simpa using hcs)
        · simp [h1, h2] at h
      · simp [h1] at h
    · simp at h
  · simp [hf] at h
theorem kl_injM {p q : Mbr} (hp : FineM p) (hq : FineM q) (e : klM p = klM q) : p = q := by
  have := mbr_law.inj (keyOf_mbr hp) ((keyOf_mbr hq).trans (by rw [e]))
  simp at this
  exact Prod.ext this.1 this.2

/-- What stands behind a key: nothing. -/
def uElem : Value → Option (DataW Value × List MemPlace)
  | .agg cs => if cs.size = 0 then some (.held (.agg #[]), []) else none
  | _ => none
theorem uElem_inv {v : Value} {y : DataW Value × List MemPlace} (h : uElem v = some y) : v = .agg #[] := by
  cases v <;> simp [uElem] at h
  rw [h.1]

/-! ### Lists without repeats -/
theorem cons_filter_perm {α : Type} {f : α → Bool} {k : α} : ∀ l : List α, l.Nodup → k ∈ l → (∀ x ∈ l, f x = true ↔ x ≠ k) → (k :: l.filter f).Perm l
  | [], _, hm, _ => by simp at hm
  | a :: r, hn, hm, hf => by
    rw [List.nodup_cons] at hn
    by_cases e : a = k
    · subst e
      have h1 : f a = false := by
        cases hfa : f a with
        | false => rfl
        | true => exact absurd rfl ((hf a (by simp)).1 hfa)
      have h2 : r.filter f = r := List.filter_eq_self.2 fun x hx => (hf x (by simp [hx])).2 fun e => hn.1 (e ▸ hx)
      rw [List.filter_cons_of_neg (by simp [h1]), h2]
    · have h1 : f a = true := (hf a (by simp)).2 e
      rw [List.filter_cons_of_pos h1]
      have hk : k ∈ r := by
        rcases List.mem_cons.1 hm with h | h
        · exact absurd h.symm e
        · exact h
      exact (List.Perm.swap a k _).trans ((cons_filter_perm r hn.2 hk fun x hx => hf x (by simp [hx])).cons a)

theorem insert_perm {H : Type} (x : Lit × DataW H) : ∀ l : List (Lit × DataW H), (DataW.insert x l).Perm (x :: l)
  | [] => List.Perm.refl _
  | a :: r => by
    unfold DataW.insert
    split
    · exact List.Perm.refl _
    · exact ((insert_perm x r).cons a).trans (List.Perm.swap x a r)

theorem sameKey_ne' {a b : Lit} (h : a ≠ b) : a.sameKey b = false := by
  cases e : a.sameKey b with
  | false => rfl
  | true => exact absurd (WideAt.sameKey_eq e) h

/-! ### A set of members in block b -/
def SetM (b n : Nat) (S : List Mbr) (W : World) : Prop :=
  ∃ es : List (Lit × DataW Value), W.ownsMap Tryd.prog tM uElem b n (.map es) ∧ (es.map (·.1)).Perm (S.map klM) ∧ S.Nodup ∧ ∀ p ∈ S, FineM p

theorem kl_nodup {S : List Mbr} (h : S.Nodup) (hf : ∀ p ∈ S, FineM p) : (S.map klM).Nodup := by
  induction S with
  | nil => simp
  | cons a r ih =>
    rw [List.nodup_cons] at h
    rw [List.map_cons, List.nodup_cons]
    refine ⟨fun hm => ?_, ih h.2 fun p hp => hf p (by simp [hp])⟩
    obtain ⟨q, hq, e⟩ := List.mem_map.1 hm
    exact h.1 (kl_injM (hf q (by simp [hq])) (hf a (by simp)) e ▸ hq)
theorem kl_mem {S : List Mbr} (hf : ∀ p ∈ S, FineM p) {p : Mbr} (hp : FineM p) : klM p ∈ S.map klM ↔ p ∈ S := by
  refine ⟨fun hm => ?_, fun h => List.mem_map.2 ⟨p, h, rfl⟩⟩
  obtain ⟨q, hq, e⟩ := List.mem_map.1 hm
  exact kl_injM (hf q hq) hp e ▸ hq

namespace SetM
variable {b n : Nat} {S : List Mbr} {W : World}

theorem made (W : World) : SetM W.heap.size 0 [] (W.alloc (.map #[] 0)) :=
  ⟨[], World.ownsMap_made W _ _ uElem, List.Perm.refl _, by simp, by simp⟩
theorem lt (h : SetM b n S W) : b < W.heap.size := by obtain ⟨es, h1, _⟩ := h; exact h1.lt
theorem mono (h : SetM b n S W) {m : Nat} (hm : n ≤ m) : SetM b m S W := by obtain ⟨es, h1, h2⟩ := h; exact ⟨es, h1.mono hm, h2⟩
theorem only {T : Nat → Prop} {W' : World} (h : SetM b n S W) (ho : Only T W W') (hs : ¬ T b) : SetM b n S W' := by
  obtain ⟨D, ⟨es, clock, hb, rest⟩, h2⟩ := h
  exact ⟨D, ⟨es, clock, (ho.block b (Array.getElem?_eq_some_iff.1 hb).1 hs).trans hb, rest⟩, h2⟩
theorem kept {W' : World} (h : SetM b n S W) (k : Kept W W') : SetM b n S W' := h.only (T := fun _ => False) (Only.of_kept k) (fun h => h)

theorem has_eq {es : List (Lit × DataW Value)} (hp : (es.map (·.1)).Perm (S.map klM)) (hf : ∀ p ∈ S, FineM p) {p : Mbr} (h : FineM p) : Maps.has (.map es) (klM p) = decide (p ∈ S) := by
  by_cases hm : p ∈ S
  · rw [decide_eq_true hm]
    obtain ⟨x, hx, e⟩ := List.mem_map.1 (hp.mem_iff.2 ((kl_mem hf h).2 hm))
    exact List.any_eq_true.2 ⟨x, hx, by rw [e]; exact WideAt.sameKey_self trivial⟩
  · rw [decide_eq_false hm]
    refine List.any_eq_false.2 fun x hx hs => hm ?_
    exact (kl_mem hf h).1 (hp.mem_iff.1 (List.mem_map.2 ⟨x, hx, WideAt.sameKey_eq hs⟩))

theorem look (h : SetM b n S W) {t e : TypeId} (ht : Tryd.prog.underlying t = some (.map tM e)) (hz : (zeroValue e).run Tryd.prog W = .ok (.agg #[]) W) {p : Mbr} (hp : FineM p) :
    (Instr.lookup t (.map (some b)) (mv p) true).run Tryd.prog W = .ok (.tuple #[.agg #[], .bool (decide (p ∈ S))]) W := by
  obtain ⟨es, h1, h2, h3, h4⟩ := h
  obtain ⟨v, ps, hr, hv⟩ := h1.look_ok mbr_law ht hz (zd := .held (.agg #[])) (zp := []) rfl (keyOf_mbr hp)
  obtain rfl := uElem_inv hv
  rw [hr, has_eq h2 h4 hp]

theorem len (h : SetM b n S W) {t e : TypeId} (ht : Tryd.prog.underlying t = some (.map tM e)) (ty : TypeId) : (Builtin.len_ #[t] ty #[.map (some b)]).run Tryd.prog W = .ok (.int .i64 (S.length : Int)) W := by
  obtain ⟨es, h1, h2, h3, h4⟩ := h
  rw [h1.len ht ty]
  have := h2.length_eq
  simp only [List.length_map] at this
  rw [Maps.size_eq, this]

theorem store (h : SetM b n S W) {t e : TypeId} (ht : Tryd.prog.underlying t = some (.map tM e)) (hn : n < maxLen) {p : Mbr} (hp : FineM p) :
    ∃ W', (Instr.mapUpdate t (.map (some b)) (mv p) (.agg #[])).run Tryd.prog W = .ok () W' ∧ SetM b (n + 1) (if p ∈ S then S else S ++ [p]) W' ∧ W.grownBy W' (some b) := by
  obtain ⟨es, h1, h2, h3, h4⟩ := h
  obtain ⟨W', hr, ho, hg⟩ := h1.update mbr_law ht hn (keyOf_mbr hp) (show uElem (.agg #[]) = some (.held (.agg #[]), []) from rfl)
  refine ⟨W', hr, ⟨_, ho, ?_, ?_, ?_⟩, hg⟩
  · refine ((insert_perm _ _).map (·.1)).trans ?_
    show ((klM p) :: ((es.filter fun x => !x.1.sameKey (klM p)).map (·.1))).Perm _
    have e1 : (es.filter fun x => !x.1.sameKey (klM p)).map (·.1) = (es.map (·.1)).filter fun k => !k.sameKey (klM p) := by rw [List.filter_map]; rfl
    rw [e1]
    have e2 := h2.filter fun k => !k.sameKey (klM p)
    split
    · rename_i hm
      refine (e2.cons (klM p)).trans (cons_filter_perm _ (kl_nodup h3 h4) ((kl_mem h4 hp).2 hm) fun x hx => ?_)
      constructor
      · intro h e
        rw [e, WideAt.sameKey_self (a := klM p) trivial] at h
        cases h
      · intro h
        rw [sameKey_ne' h]; rfl
    · rename_i hm
      have e3 : (S.map klM).filter (fun k => !k.sameKey (klM p)) = S.map klM := List.filter_eq_self.2 fun k hk => by
        rw [sameKey_ne' (fun e => hm ((kl_mem h4 hp).1 (by rw [← e]; exact hk)))]; rfl
      rw [e3] at e2
      refine (e2.cons (klM p)).trans ?_
      rw [List.map_append]
      exact (List.perm_append_singleton _ _).symm
  · split
    · exact h3
    · rename_i hm
      rw [List.nodup_append]
      exact ⟨h3, by simp, fun a ha b hb e => by simp at hb; subst hb; exact hm (e ▸ ha)⟩
  · split
    · exact h4
    · intro q hq
      rcases List.mem_append.1 hq with h | h
      · exact h4 q h
      · simp at h; subst h; exact hp
end SetM
end Go.Proofs.YtdceafncncgfbaaDoor
