/- How many nodes a tree has, and how deep it is: Count, Depth. -/
import Derived.Test.YtfkmnpgpfmkjaaaGreatDoorTri
import Derived.Shelf.Abstract
set_option linter.unusedSimpArgs false
set_option linter.unusedVariables false
set_option maxRecDepth 100000
namespace Go.Proofs.YtfkmnpgpfmkjaaaGreatDoor
open Go.ChangeShapes Go.WideShapes Go.ChangeAt Go.RowKit Go.Shelf
attribute [local go_sem] Oper.semAt_some

/-- The greatest number of nodes below one another, of the first ones. -/
def depN (l : List (Nat × Nd)) : Nat := l.foldl (fun d p => max d (p.1 + 1)) 0
theorem depN_snoc (l : List (Nat × Nd)) (p : Nat × Nd) : depN (l ++ [p]) = max (depN l) (p.1 + 1) := by unfold depN; simp
def Nd.depth (x : Nd) : Nat := depN (x.all 0)
theorem depN_le {l : List (Nat × Nd)} {n : Nat} (h : ∀ p ∈ l, p.1 < n) : depN l ≤ n := by
  suffices H : ∀ (l : List (Nat × Nd)) (d : Nat), d ≤ n → (∀ p ∈ l, p.1 < n) → l.foldl (fun d p => max d (p.1 + 1)) d ≤ n from H l 0 (Nat.zero_le _) h
  intro l
  induction l with
  | nil => intro d hd _; exact hd
  | cons q r ih => intro d hd h; exact ih _ (by have := h q (by simp); show max d (q.1 + 1) ≤ n; omega) fun p hp => h p (List.mem_cons_of_mem _ hp)

/-- The world behind the box, the counter and the iterator's box. -/
theorem box_kids {w W : World} {s : Value} {l : List Nd} (hk : KidsAt w s l) (k : Kept w W) : KidsD (· < w.heap.size) W s l := (KidsD.low hk).kept k

/-- What holds of count's counter. -/
def countI (x : Nd) (w : World) (cb : Nat) (pre : List ItN) (W : World) (O : Nat → Prop) : Prop := (O = fun k => k = cb) ∧ Blk W cb 3 #[.int .i64 (pre.length : Nat)] ∧ Kept w W ∧ itOk x pre
theorem countI.stay {x : Nd} {w : World} {cb n : Nat} {pre : List ItN} {A B : World} {O : Nat → Prop} (h : countI x w cb pre A O) (k : Only (fun k => n ≤ k ∧ ¬ O k) A B) (hn : w.heap.size ≤ n) : countI x w cb pre B O := by
  obtain ⟨h1, h2, h3, h4⟩ := h
  subst h1
  exact ⟨rfl, h2.only k (fun h => h.2 rfl), h3.only k rfl (fun k h => by have := h.1; omega), h4⟩

mutual
theorem Nd.above_lt : ∀ (x : Nd) (a : Nat), ∀ p ∈ x.all a, p.1 < a + x.count
  | .mk k t y f n ks, a, p, hp => by
    rw [Nd.all_eq] at hp
    rw [Nd.count_eq]
    rcases List.mem_cons.1 hp with rfl | hp
    · dsimp only; omega
    · have := Nd.aboveL_lt ks (a + 1) p hp
      show p.1 < a + (1 + Nd.countL ks)
      omega
theorem Nd.aboveL_lt : ∀ (l : List Nd) (a : Nat), ∀ p ∈ Nd.allL l a, p.1 < a + Nd.countL l
  | [], a, p, hp => by rw [Nd.allL_nil] at hp; cases hp
  | x :: r, a, p, hp => by
    rw [Nd.allL_cons] at hp
    rw [Nd.countL_cons]
    rcases List.mem_append.1 hp with hp | hp
    · have := Nd.above_lt x a p hp; omega
    · have := Nd.aboveL_lt r a p hp; omega
end

/-- What holds of depth's counter. -/
def depthI (x : Nd) (w : World) (cb : Nat) (pre : List ItN) (W : World) (O : Nat → Prop) : Prop := (O = fun k => k = cb) ∧ Blk W cb 3 #[.int .i64 (depN (pre.map plN) : Nat)] ∧ Kept w W ∧ itOk x pre
theorem depthI.stay {x : Nd} {w : World} {cb n : Nat} {pre : List ItN} {A B : World} {O : Nat → Prop} (h : depthI x w cb pre A O) (k : Only (fun k => n ≤ k ∧ ¬ O k) A B) (hn : w.heap.size ≤ n) : depthI x w cb pre B O := by
  obtain ⟨h1, h2, h3, h4⟩ := h
  subst h1
  exact ⟨rfl, h2.only k (fun h => h.2 rfl), h3.only k rfl (fun k h => by have := h.1; omega), h4⟩

end Go.Proofs.YtfkmnpgpfmkjaaaGreatDoor
