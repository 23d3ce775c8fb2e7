/- Plain: lists without repeats; how many members there are, and that each is a key; what is shown. -/
import Derived.Test.YtdceafncncgfbaaDoorCmm
import Derived.Test.YtdceafncncgfbaaDoorNam
set_option linter.unusedSimpArgs false
set_option linter.unusedVariables false
namespace Go.Proofs.YtdceafncncgfbaaDoor
open Go.ChangeShapes Go.WideShapes Go.ChangeAt Go.RowKit

namespace Co
def add (a : List Mbr) (m : Mbr) : List Mbr := if m ∈ a then a else a ++ [m]
def dd (l : List Mbr) : List Mbr := l.foldl add []
theorem add_nodup {a : List Mbr} (h : a.Nodup) (m : Mbr) : (add a m).Nodup := by
  unfold add
  split
  · exact h
  · rename_i hm
    rw [List.nodup_append]
    exact ⟨h, by simp, fun x hx b hb e => by simp at hb; subst hb; exact hm (e ▸ hx)⟩
theorem mem_add {a : List Mbr} {m x : Mbr} : x ∈ add a m ↔ x ∈ a ∨ x = m := by
  unfold add
  split
  · rename_i hm
    exact ⟨.inl, fun h => h.elim id fun e => e ▸ hm⟩
  · simp
theorem fold_nodup : ∀ (l a : List Mbr), a.Nodup → (l.foldl add a).Nodup
  | [], _, h => h
  | m :: r, a, h => fold_nodup r _ (add_nodup h m)
theorem mem_fold : ∀ (l a : List Mbr) (x : Mbr), x ∈ l.foldl add a ↔ x ∈ a ∨ x ∈ l
  | [], a, x => by simp
  | m :: r, a, x => by rw [List.foldl_cons, mem_fold r, mem_add, List.mem_cons, or_assoc]
theorem dd_nodup (l : List Mbr) : (dd l).Nodup := fold_nodup l [] (by simp)
theorem mem_dd {l : List Mbr} {x : Mbr} : x ∈ dd l ↔ x ∈ l := by unfold dd; rw [mem_fold]; simp
theorem add_len (a : List Mbr) (m : Mbr) : (add a m).length ≤ a.length + 1 := by unfold add; split <;> simp
theorem fold_len : ∀ (l a : List Mbr), (l.foldl add a).length ≤ a.length + l.length
  | [], a => by simp
  | m :: r, a => by
    rw [List.foldl_cons]
    have := fold_len r (add a m)
    have := add_len a m
    rw [List.length_cons]; omega
theorem dd_len (l : List Mbr) : (dd l).length ≤ l.length := by have := fold_len l []; simpa [dd] using this
theorem dd_snoc (l : List Mbr) (m : Mbr) : dd (l ++ [m]) = add (dd l) m := by unfold dd; rw [List.foldl_append]; rfl

/-- A list without repeats within another is no longer; as long, if it has all. -/
theorem sub_len {α : Type} : ∀ (l r : List α), l.Nodup → (∀ x ∈ l, x ∈ r) → l.length ≤ r.length
  | [], r, _, _ => by simp
  | a :: l, r, hn, hs => by
    rw [List.nodup_cons] at hn
    obtain ⟨r1, r2, rfl⟩ := List.append_of_mem (hs a (by simp))
    have h := sub_len l (r1 ++ r2) hn.2 fun x hx => by
      have h1 := hs x (by simp [hx])
      rw [List.mem_append, List.mem_cons] at h1
      rw [List.mem_append]
      rcases h1 with h1 | rfl | h1
      · exact .inl h1
      · exact absurd hx hn.1
      · exact .inr h1
    simp only [List.length_append, List.length_cons] at h ⊢
    omega
theorem sub_all {α : Type} {l r : List α} (hl : l.Nodup) (hs : ∀ x ∈ l, x ∈ r) (hlen : l.length = r.length) (hr : r.Nodup) : ∀ x ∈ r, x ∈ l := by
  intro x hx
  refine Classical.byContradiction fun hn => ?_
  have := sub_len (x :: l) r (List.nodup_cons.2 ⟨hn, hl⟩) fun y hy => by
    rcases List.mem_cons.1 hy with rfl | h
    · exact hx
    · exact hs y h
  simp at this
  omega

abbrev mb (t : List Tab.C) (c : ByteArray) : List Mbr := Tab.members t c
/-- What classes show, each member once, in the order of the own class. -/
def shown (t : List Tab.C) (own : ByteArray) (cs : List ByteArray) : List Mbr := (dd (mb t own)).filter fun m => cs.all fun c => decide (m ∈ mb t c)
theorem mem_shown {t : List Tab.C} {own : ByteArray} {cs : List ByteArray} {m : Mbr} : m ∈ shown t own cs ↔ m ∈ mb t own ∧ ∀ c ∈ cs, m ∈ mb t c := by
  unfold shown
  rw [List.mem_filter, mem_dd]
  simp
theorem shown_nodup (t : List Tab.C) (own : ByteArray) (cs : List ByteArray) : (shown t own cs).Nodup := (dd_nodup _).filter _
theorem shown_snoc (t : List Tab.C) (own : ByteArray) (cs : List ByteArray) (c : ByteArray) : shown t own (cs ++ [c]) = (shown t own cs).filter fun m => decide (m ∈ dd (mb t c)) := by
  unfold shown
  rw [List.filter_filter]
  refine List.filter_congr fun m _ => ?_
  simp only [List.all_append, List.all_cons, List.all_nil, Bool.and_true]
  rw [Bool.and_comm]
  congr 1
  exact decide_eq_decide.2 mem_dd.symm
theorem shown_again {t : List Tab.C} {own : ByteArray} {cs : List ByteArray} {c : ByteArray} (h : c ∈ cs) : shown t own (cs ++ [c]) = shown t own cs := by
  rw [shown_snoc]
  refine List.filter_eq_self.2 fun m hm => ?_
  exact decide_eq_true (mem_dd.2 ((mem_shown.1 hm).2 c h))
theorem shown_own (t : List Tab.C) (own : ByteArray) : shown t own [own] = dd (mb t own) := by
  unfold shown
  refine List.filter_eq_self.2 fun m hm => ?_
  simp [mem_dd.1 hm]
/-- As many as the class has: all of them. -/
theorem shown_full {t : List Tab.C} {own : ByteArray} {cs : List ByteArray} {c : ByteArray} (h : c ∈ cs) : (shown t own cs).length = (dd (mb t c)).length ↔ ∀ m ∈ mb t c, m ∈ shown t own cs := by
  have hs : ∀ x ∈ shown t own cs, x ∈ dd (mb t c) := fun x hx => mem_dd.2 ((mem_shown.1 hx).2 c h)
  constructor
  · intro hl m hm
    exact sub_all (shown_nodup _ _ _) hs hl (dd_nodup _) m (mem_dd.2 hm)
  · intro ha
    exact Nat.le_antisymm (sub_len _ _ (shown_nodup _ _ _) hs) (sub_len _ _ (dd_nodup _) fun x hx => ha x (mem_dd.1 hx))
end Co

theorem flatR_leC {α β : Type} (f : α → List β) (n : Nat) (l : List α) (h : ∀ x ∈ l, (f x).length ≤ n) : (l.flatMap f).length ≤ l.length * n := flat_le f n l h
theorem foldA_leC : ∀ (l a : List Tab.M), (l.foldl Tab.addM a).length ≤ a.length + l.length
  | [], a => by simp
  | m :: r, a => by
    rw [List.foldl_cons]
    have h := foldA_leC r (Tab.addM a m)
    have : (Tab.addM a m).length ≤ a.length + 1 := by unfold Tab.addM; split <;> simp
    rw [List.length_cons]; omega
theorem members_le {t : List Tab.C} (hS : Small t) (s : ByteArray) : (Tab.members t s).length ≤ 1001000 + 1001000 := by
  have h1 : (Tab.fields t s).length ≤ 1001000 := by rw [← fldsOf_all]; exact fldsOf_le hS (List.prefix_refl _)
  have h2 : (Tab.methods t s).length ≤ 1001000 := by
    unfold Tab.methods
    refine Nat.le_trans (foldA_leC _ []) ?_
    rw [List.length_nil, Nat.zero_add]
    refine Nat.le_trans (flat_le (fun i => (Tab.nth t i).methods) 1000 _ fun i hi => hS.methods _ (nth_mem (Tab.line_lt (List.mem_reverse.1 hi)))) ?_
    have h3 := Tab.line_len t s
    have := hS.len
    rw [List.length_reverse]
    have : (Tab.line t s).length ≤ 1001 := by omega
    exact Nat.le_trans (Nat.mul_le_mul_right 1000 this) (by decide)
  unfold Tab.members
  rw [List.length_append, List.length_map, List.length_map]
  omega
theorem addM_mem {m x : Tab.M} {a : List Tab.M} (h : x ∈ Tab.addM a m) : x ∈ a ∨ x = m := by
  unfold Tab.addM at h
  split at h
  · rcases List.mem_or_eq_of_mem_set h with h | h
    · exact .inl h
    · exact .inr h
  · simpa using h
theorem foldA_mem : ∀ (l a : List Tab.M) (x : Tab.M), x ∈ l.foldl Tab.addM a → x ∈ a ∨ x ∈ l
  | [], a, x, h => .inl h
  | m :: r, a, x, h => by
    rcases foldA_mem r _ x h with h | h
    · rcases addM_mem h with h | h
      · exact .inl h
      · exact .inr (by simp [h])
    · exact .inr (by simp [h])
theorem lit_small {n : Int} (h1 : -9223372036854775808 ≤ n) (h2 : n ≤ 9223372036854775807) : (Lit.int .i64 n).wf = true := by
  have hmin : IntKind.i64.min = -9223372036854775808 := by decide
  have hmax : IntKind.i64.max = 9223372036854775807 := by decide
  simp only [Lit.wf, hmin, hmax, Bool.and_eq_true, decide_eq_true_eq]
  exact ⟨h1, h2⟩
theorem members_fine {w : World} {v : Value} {t : List Tab.C} (h : TabAt w v t) (hS : Small t) (s : ByteArray) : ∀ p ∈ Tab.members t s, FineM p := by
  obtain ⟨a, c, rfl, _, _, hat⟩ := h
  intro p hp
  unfold Tab.members at hp
  rcases List.mem_append.1 hp with hp | hp
  · obtain ⟨x, hx, rfl⟩ := List.mem_map.1 hp
    obtain ⟨i, hi, hx⟩ := List.mem_flatMap.1 hx
    have hlt := Tab.line_lt (List.mem_reverse.1 hi)
    obtain ⟨b, o, _, hc⟩ := hat i _ (Tab.of_nth hlt)
    obtain ⟨v, _, a', c', _, _, _, hf⟩ := hc.2.2.1
    obtain ⟨k, hk⟩ := List.getElem?_of_mem hx
    obtain ⟨b', o', _, hv⟩ := hf k x hk
    exact ⟨hv.2.2.1, lit_small (by simp) (by simp)⟩
  · obtain ⟨x, hx, rfl⟩ := List.mem_map.1 hp
    rcases foldA_mem _ _ _ hx with hx | hx
    · simp at hx
    · obtain ⟨i, hi, hx⟩ := List.mem_flatMap.1 hx
      have hlt := Tab.line_lt (List.mem_reverse.1 hi)
      obtain ⟨b, o, _, hc⟩ := hat i _ (Tab.of_nth hlt)
      obtain ⟨v, _, a', c', _, _, _, hf⟩ := hc.2.2.2.1
      obtain ⟨k, hk⟩ := List.getElem?_of_mem hx
      obtain ⟨b', o', _, hv⟩ := hf k x hk
      have := hS.params _ (nth_mem hlt) x hx
      exact ⟨hv.2.2.2.1, lit_small (by simp <;> omega) (by simp <;> omega)⟩
end Go.Proofs.YtdceafncncgfbaaDoor
