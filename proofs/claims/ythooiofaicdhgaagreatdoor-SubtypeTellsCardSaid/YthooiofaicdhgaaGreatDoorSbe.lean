/- The contract of subtype.Below. -/
import Derived.Test.YthooiofaicdhgaaGreatDoorSbt
import Derived.WalkMore
set_option linter.unusedSimpArgs false
set_option linter.unusedVariables false
set_option maxRecDepth 100000
namespace Go.Proofs.YthooiofaicdhgaaGreatDoor
open Go.ChangeShapes Go.WideShapes Go.ChangeAt Go.RowKit Go.Shelf
attribute [local go_sem] Oper.semAt_some

/-- A mark of a range that has ended. -/
def markD (D : Nat) : Deferred := { target := .collected D, args := #[] }

theorem leaves_all {F : Fence} {n : Nat} {P : Program} {fn : Func} {tmps : Array Value} {R : Ending → World → Prop} : ∀ (Ds : List Nat) (W : World), Ds.Nodup → (∀ D ∈ Ds, W.heap[D]? = some (.deferred (some []))) →
    (∀ W', Only (· ∈ Ds) W W' → LeavesInM F n P fn tmps R [] .returning W') → LeavesInM F n P fn tmps R (Ds.map markD) .returning W
  | [], W, _, _, h => h W (Only.refl _ W)
  | D :: Ds, W, hn, hd, h => by
    have hn' := List.nodup_cons.1 hn
    have hO := Only.putObj (Only.refl (· = D) W) (.inl rfl) (.deferred none)
    refine ⟨by simp, .inl ⟨D, W.putObj D (.deferred none), rfl, run_takeDeferred (hd D (List.mem_cons_self ..)), ?_⟩⟩
    refine leaves_all Ds _ hn'.2 (fun k hk => hO.same (hd k (List.mem_cons_of_mem _ hk)) (fun e => hn'.1 (e ▸ hk))) (fun W' h' => h W' ?_)
    exact Only.trans' (hO.mono fun k _ e => by rw [e]; exact List.mem_cons_self ..) (h'.mono fun k _ e => List.mem_cons_of_mem _ e) (fun k _ e => e)

theorem owns_only' {S : Nat → Prop} {w w' : World} {base : Nat} {e : TypeId} {size : Nat} {v : Value} {n : Nat} {xs : List Value} (h : w.ownsRow base e size v n xs) (k : Only S w w') (hs : ∀ g, v.ownBlock = some g → ¬ S g) : w'.ownsRow base e size v n xs := by
  refine ⟨h.1, ?_⟩
  rcases h.2 with hn | ⟨g, cap, cur, rfl, hb, hgg, rest⟩
  · exact .inl hn
  · exact .inr ⟨g, cap, cur, rfl, hb, k.same hgg (hs g rfl), rest⟩

theorem owns_block {w : World} {base : Nat} {e : TypeId} {size : Nat} {v : Value} {n : Nat} {xs : List Value} (h : w.ownsRow base e size v n xs) {g : Nat} (hg : v.ownBlock = some g) : base ≤ g ∧ ∃ cur, w.heap[g]? = some (.cells cur e (0, 0)) := by
  rcases h.2 with ⟨rfl, _⟩ | ⟨g', cap, cur, rfl, hb, hgg, _⟩
  · cases hg
  · have : g' = g := by simpa [Value.ownBlock] using hg
    subst this
    exact ⟨hb, cur, hgg⟩

/-- A row of texts of one's own, as a list of texts. -/
theorem owns_row {w : World} {base : Nat} {v : Value} {l : List ByteArray} (h : w.ownsRow base 9 1 v l.length (l.map Value.string)) : Row 1 (fun w b o x => w.cell? ⟨b, o, none⟩ = some (.string x)) w v l := by
  rcases h.2 with ⟨rfl, hl0⟩ | ⟨g, cap, cur, rfl, hg1, hg2, hg3, hg4, hg5, hg6⟩
  · obtain rfl : l = [] := List.eq_nil_of_length_eq_zero hl0
    exact Row.nil
  · refine ⟨_, cap, rfl, by simpa using hg3, hg4, fun i x hx => ⟨g, 0, rfl, ?_⟩⟩
    have := h.cells (g := g) rfl i (.string x) (by rw [List.getElem?_map, hx]; rfl)
    rw [addr_plain] at this
    simpa using this

/-- The names of the first j classes that are below. -/
def belL (t : List Tab.C) (s : ByteArray) (j : Nat) : List ByteArray := ((t.map Tab.C.name).take j).filter fun n => decide (s ∈ Tab.up t n)

/-- Between rounds. -/
def BelI (a : Value) (t : List Tab.C) (s : ByteArray) (w : World) (LB j : Nat) (v : Value) (Ds : List Nat) (W : World) : Prop :=
  Blk W w.heap.size 22 #[a] ∧ Blk W (w.heap.size + 1) 9 #[.string s] ∧ Blk W LB 28 #[v] ∧
    W.ownsRow (LB + 1) 9 1 v (belL t s j).length ((belL t s j).map Value.string) ∧ Kept w W ∧ Ds.Nodup ∧ (∀ D ∈ Ds, LB < D ∧ W.heap[D]? = some (.deferred (some [])))

theorem belI_facts {a : Value} {t : List Tab.C} {s : ByteArray} {w : World} {LB j : Nat} {v : Value} {Ds : List Nat} {W : World} (h : BelI a t s w LB j v Ds W) :
    W.cell? ⟨w.heap.size, 0, none⟩ = some a ∧ W.cell? ⟨w.heap.size + 1, 0, none⟩ = some (.string s) ∧ W.cell? ⟨LB, 0, none⟩ = some v := by
  have c0 := h.1.cell 0
  have c1 := h.2.1.cell 0
  have c2 := h.2.2.1.cell 0
  simp at c0 c1 c2
  exact ⟨c0, c1, c2⟩

/-- A round goes on: what it turned is the list's box and the list's block. -/
theorem belI_next {a : Value} {t : List Tab.C} {s : ByteArray} {w : World} {LB j : Nat} {v v' : Value} {Ds : List Nat} {W W' : World} {D : Nat} (h : BelI a t s w LB j v Ds W) (hLB : w.heap.size + 2 ≤ LB)
    (ho : Only (fun k => k = LB ∨ v.ownBlock = some k) W W') (hb : Blk W' LB 28 #[v']) (hr : W'.ownsRow (LB + 1) 9 1 v' (belL t s (j + 1)).length ((belL t s (j + 1)).map Value.string))
    (hD : W.heap.size ≤ D) (hd : W'.heap[D]? = some (.deferred (some []))) : BelI a t s w LB (j + 1) v' (D :: Ds) W' := by
  have hlt := h.2.2.1.lt
  have hno : ∀ k, v.ownBlock = some k → LB + 1 ≤ k ∧ ∃ cur, W.heap[k]? = some (.cells cur 9 (0, 0)) := fun k hk => owns_block h.2.2.2.1 hk
  refine ⟨h.1.only ho (fun e => e.elim (by omega) fun e => by have := (hno _ e).1; omega), h.2.1.only ho (fun e => e.elim (by omega) fun e => by have := (hno _ e).1; omega), hb, hr, h.2.2.2.2.1.onlyS ho (fun k e => e.elim (by omega) fun e => by have := (hno _ e).1; omega), ?_, ?_⟩
  · refine List.nodup_cons.2 ⟨fun hm => ?_, h.2.2.2.2.2.1⟩
    have := (h.2.2.2.2.2.2 D hm).2
    have := (Array.getElem?_eq_some_iff.1 this).1
    omega
  · intro k hk
    rcases List.mem_cons.1 hk with rfl | hk
    · exact ⟨by omega, hd⟩
    · obtain ⟨h1, h2⟩ := h.2.2.2.2.2.2 k hk
      refine ⟨h1, ho.same h2 fun e => e.elim (by omega) fun e => ?_⟩
      obtain ⟨_, cur, h3⟩ := hno _ e
      rw [h2] at h3
      cases h3

theorem belL_next {t : List Tab.C} {s : ByteArray} {j : Nat} (hj : j < t.length) : belL t s (j + 1) = belL t s j ++ (if s ∈ Tab.up t (Tab.nth t j).name then [(Tab.nth t j).name] else []) := by
  unfold belL
  rw [List.take_add_one, List.getElem?_map, Tab.of_nth hj, List.filter_append]
  by_cases h : s ∈ Tab.up t (Tab.nth t j).name <;> simp [h, List.filter_cons]
theorem belL_len (t : List Tab.C) (s : ByteArray) (j : Nat) : (belL t s j).length ≤ t.length := by
  unfold belL
  have := List.length_filter_le (fun n => decide (s ∈ Tab.up t n)) ((t.map Tab.C.name).take j)
  simp at this ⊢
  omega

/-- What the round's line is called over: the place in a box, the table and the name in boxes. -/
def BelF (a : Value) (j : Nat) (nm : ByteArray) (wr w5 : World) : Prop :=
  Kept wr w5 ∧ w5.heap.size = wr.heap.size + 3 ∧ Blk w5 wr.heap.size 3 #[.int .i64 j] ∧ Blk w5 (wr.heap.size + 1) 22 #[a] ∧ Blk w5 (wr.heap.size + 2) 9 #[.string nm]

theorem bel_f {a : Value} {j : Nat} {nm : ByteArray} {wr w5 : World} (h : w5 = (((wr.alloc (.cells #[.int .i64 j] 3)).drew.alloc (.cells #[a] 22)).alloc (.cells #[.string nm] 9))) : BelF a j nm wr w5 := by
  subst h
  have h1 : Blk (wr.alloc (.cells #[.int .i64 j] 3)).drew wr.heap.size 3 #[.int .i64 j] := Blk.new wr _ _
  have h2 := Blk.new (wr.alloc (.cells #[.int .i64 j] 3)).drew 22 #[a]
  have h3 := Blk.new ((wr.alloc (.cells #[.int .i64 j] 3)).drew.alloc (.cells #[a] 22)) 9 #[.string nm]
  have e1 : (wr.alloc (.cells #[.int .i64 j] 3)).drew.heap.size = wr.heap.size + 1 := by simp
  have e2 : ((wr.alloc (.cells #[.int .i64 j] 3)).drew.alloc (.cells #[a] 22)).heap.size = wr.heap.size + 2 := by simp
  rw [e1] at h2
  rw [e2] at h3
  exact ⟨(((((Kept.refl wr).alloc _).drew).alloc _).alloc _), by simp, (h1.alloc _).alloc _, h2.alloc _, h3⟩

theorem bel_before {c : Nat} {t : List Tab.C} {s : ByteArray} {w : World} {LB j : Nat} {v : Value} {Ds : List Nat} {wr : World} {b o : Nat} (h : BelI (.slice (some ⟨b, o, none⟩) t.length c) t s w LB j v Ds wr) (hT : TabAt w (.slice (some ⟨b, o, none⟩) t.length c) t) (hj : j < t.length) :
    (wr.alloc (.cells #[.int .i64 j] 3)).cell? ⟨w.heap.size, 0, none⟩ = some (.slice (some ⟨b, o, none⟩) t.length c) ∧ (wr.alloc (.cells #[.int .i64 j] 3)).cell? ⟨w.heap.size + 1, 0, none⟩ = some (.string s) ∧ (wr.alloc (.cells #[.int .i64 j] 3)).cell? ⟨LB, 0, none⟩ = some v ∧
      (wr.alloc (.cells #[.int .i64 j] 3)).cell? ⟨wr.heap.size, 0, none⟩ = some (.int .i64 j) ∧ (wr.alloc (.cells #[.int .i64 j] 3)).cell? ⟨b, o + j * 4, none⟩ = some (.string (Tab.nth t j).name) ∧ j ≤ c := by
  have hT' := hT
  obtain ⟨_, c', e, h1, h2, _⟩ := hT'
  injection e with _ _ e3
  subst e3
  obtain ⟨b', o', e', hcl⟩ := Row.cellsC hT hj
  injection e' with e'
  injection e' with e1 e2
  subst e1 e2
  have c0 := (h.1.alloc (.cells #[.int .i64 j] 3)).cell 0
  have c1 := (h.2.1.alloc (.cells #[.int .i64 j] 3)).cell 0
  have c2 := (h.2.2.1.alloc (.cells #[.int .i64 j] 3)).cell 0
  have c3 := (Blk.new wr 3 #[.int .i64 j]).cell 0
  simp only [List.getElem?_toArray, List.getElem?_cons_zero] at c0 c1 c2 c3
  exact ⟨c0, c1, c2, c3, (hcl.kept (h.2.2.2.2.1.alloc _)).1, by omega⟩

theorem bel_in {c : Nat} {t : List Tab.C} {s : ByteArray} {w : World} {LB j : Nat} {v : Value} {Ds : List Nat} {wr w5 W : World} {b o : Nat} (h : BelI (.slice (some ⟨b, o, none⟩) t.length c) t s w LB j v Ds wr) (hT : TabAt w (.slice (some ⟨b, o, none⟩) t.length c) t) (hj : j < t.length)
    (hF : BelF (.slice (some ⟨b, o, none⟩) t.length c) j (Tab.nth t j).name wr w5) (hk : Kept w5 W) :
    W.cell? ⟨w.heap.size, 0, none⟩ = some (.slice (some ⟨b, o, none⟩) t.length c) ∧ W.cell? ⟨w.heap.size + 1, 0, none⟩ = some (.string s) ∧ W.cell? ⟨LB, 0, none⟩ = some v ∧
      W.cell? ⟨wr.heap.size, 0, none⟩ = some (.int .i64 j) ∧ W.cell? ⟨b, o + j * 4, none⟩ = some (.string (Tab.nth t j).name) ∧ W.frozen? ⟨LB, 0, none⟩ = false := by
  obtain ⟨b', o', e', hcl⟩ := Row.cellsC hT hj
  injection e' with e'
  injection e' with e1 e2
  subst e1 e2
  have k := hF.1.trans hk
  have c0 := (h.1.kept k).cell 0
  have c1 := (h.2.1.kept k).cell 0
  have c2 := (h.2.2.1.kept k).cell 0
  have c3 := (hF.2.2.1.kept hk).cell 0
  simp at c0 c1 c2 c3
  exact ⟨c0, c1, c2, c3, (hcl.kept (h.2.2.2.2.1.trans k)).1, (h.2.2.1.kept k).frozen 0⟩

theorem bel_lt {a : Value} {t : List Tab.C} {s : ByteArray} {w : World} {LB j : Nat} {v : Value} {Ds : List Nat} {wr w5 : World} (h : BelI a t s w LB j v Ds wr) (hk : Kept wr w5) : ∀ k, (k = LB ∨ v.ownBlock = some k) → k < w5.heap.size := by
  intro k hk'
  have := hk.size
  rcases hk' with rfl | e
  · have := h.2.2.1.lt; omega
  · obtain ⟨_, cur, h3⟩ := owns_block h.2.2.2.1 e
    have := (Array.getElem?_eq_some_iff.1 h3).1
    omega

theorem bel_mid {a : Value} {t : List Tab.C} {s : ByteArray} {w : World} {LB j : Nat} {v : Value} {Ds : List Nat} {wr w5 : World} {a' : Value} {nm : ByteArray} (h : BelI a t s w LB j v Ds wr) (hF : BelF a' j nm wr w5) :
    Blk w5 LB 28 #[v] ∧ w5.ownsRow (LB + 1) 9 1 v (belL t s j).length ((belL t s j).map Value.string) ∧ (∀ k, (k = LB ∨ v.ownBlock = some k) → k < w5.heap.size) :=
  ⟨h.2.2.1.kept hF.1, owns_only h.2.2.2.1 (Only.of_kept (S := fun _ => False) hF.1) (fun _ _ h => h), bel_lt h hF.1⟩

/-- When it has been found: one more in the list. -/
def BelX (s : ByteArray) (v : Value) (L : List ByteArray) (nm : ByteArray) (LB : Nat) (w5 : World) (c : Code) (pre : List ByteArray) (W : World) : Prop :=
  c = .exit 1 ∧ s ∈ pre ∧ ∃ v', Only (fun k => k = LB ∨ v.ownBlock = some k) w5 W ∧ Blk W LB 28 #[v'] ∧ W.ownsRow (LB + 1) 9 1 v' (L.length + 1) (L.map Value.string ++ [.string nm]) ∧ (∀ g, v'.ownBlock = some g → g < w5.heap.size ∨ w5.heap.size + 2 ≤ g)

theorem belX_only {s : ByteArray} {v : Value} {L : List ByteArray} {nm : ByteArray} {LB : Nat} {w5 : World} {c : Code} {pre : List ByteArray} {A B : World} (h : BelX s v L nm LB w5 c pre A) (o : Only (fun k => w5.heap.size ≤ k ∧ k < w5.heap.size + 2) A B)
    (hB : ∀ k, (k = LB ∨ v.ownBlock = some k) → k < w5.heap.size) : BelX s v L nm LB w5 c pre B := by
  obtain ⟨h1, h2, v', h3, h4, h5, h6⟩ := h
  have := hB LB (.inl rfl)
  exact ⟨h1, h2, v', Only.trans' h3 o (fun k hk h => by omega), h4.only o (by omega), owns_only' h5 o (fun g hg h => by have := h6 g hg; omega), h6⟩

theorem bel_end {v v' : Value} {L : List ByteArray} {nm : ByteArray} {LB : Nat} {w5 W w1 : World}
    (hI : Blk w5 LB 28 #[v] ∧ w5.ownsRow (LB + 1) 9 1 v L.length (L.map Value.string) ∧ (∀ k, (k = LB ∨ v.ownBlock = some k) → k < w5.heap.size)) (hk : Kept w5 W) (hsz : w5.heap.size + 2 ≤ W.heap.size)
    (hg : (W.drew.alloc (.cells #[.string nm] 9)).grownBy w1 v.ownBlock) (hown : w1.ownsRow (LB + 1) 9 1 v' (L.length + 1) (L.map Value.string ++ [.string nm])) (hob : v'.ownBlock = v.ownBlock ∨ v'.ownBlock = some (W.drew.alloc (.cells #[.string nm] 9)).heap.size)
    (hv1 : Blk w1 LB 28 #[v]) :
    Only (fun k => k = LB ∨ v.ownBlock = some k) W (w1.setCell ⟨LB, 0, none⟩ v') ∧ Only (fun k => k = LB ∨ v.ownBlock = some k) w5 (w1.setCell ⟨LB, 0, none⟩ v') ∧ Blk (w1.setCell ⟨LB, 0, none⟩ v') LB 28 #[v'] ∧
      (w1.setCell ⟨LB, 0, none⟩ v').ownsRow (LB + 1) 9 1 v' (L.length + 1) (L.map Value.string ++ [.string nm]) ∧ (∀ g, v'.ownBlock = some g → g < w5.heap.size ∨ w5.heap.size + 2 ≤ g) := by
  have hO : Only (fun k => k = LB ∨ v.ownBlock = some k) W w1 := (((Only.refl _ W).drew).alloc _).grown hg (fun j ej => .inl (.inr ej))
  have hO2 := hO.setCell (p := ⟨LB, 0, none⟩) (.inl (.inl rfl)) v'
  refine ⟨hO2, Only.trans' (Only.of_kept hk) hO2 (fun k _ h => h), hv1.put 0 _, ?_, ?_⟩
  · exact owns_only hown ((Only.refl (· = LB) w1).put 0 v') (fun g hg => by omega)
  · intro g hg'
    rcases hob with e | e
    · rw [e] at hg'
      exact .inl (hI.2.2 g (.inr hg'))
    · rw [e] at hg'
      injection hg' with hg'
      simp at hg'
      exact .inr (by omega)

theorem bel_done {a : Value} {t : List Tab.C} {s : ByteArray} {w : World} {LB j : Nat} {v : Value} {Ds : List Nat} {wr w5 W : World} {D : Nat} {c' : Value} (h : BelI a t s w LB j v Ds wr) (hT : TabAt w c' t) (hj : j < t.length)
    (hF : BelF a j (Tab.nth t j).name wr w5) (hk : Kept w5 W) (hns : ¬ s ∈ Tab.up t (Tab.nth t j).name) (hD : D = w5.heap.size) (hd : W.heap[D]? = some (.deferred (some []))) (hLB : w.heap.size + 2 ≤ LB) : BelI a t s w LB (j + 1) v (D :: Ds) W := by
  have hkw := hF.1.trans hk
  refine belI_next h hLB (Only.of_kept hkw) (h.2.2.1.kept hkw) ?_ (by have := hF.1.size; omega) hd
  rw [belL_next hj, if_neg hns, List.append_nil]
  exact owns_only h.2.2.2.1 (Only.of_kept (S := fun _ => False) hkw) (fun _ _ h => h)

theorem bel_stop {a : Value} {t : List Tab.C} {s : ByteArray} {w : World} {LB j : Nat} {v : Value} {Ds : List Nat} {wr w5 W : World} {D : Nat} {c' : Value} {cd : Code} {pre : List ByteArray} (h : BelI a t s w LB j v Ds wr) (hT : TabAt w c' t) (hj : j < t.length)
    (hF : BelF a j (Tab.nth t j).name wr w5) (hX : BelX s v (belL t s j) (Tab.nth t j).name LB w5 cd pre W) (hpre : pre <+: Tab.up t (Tab.nth t j).name) (hD : D = w5.heap.size) (hd : W.heap[D]? = some (.deferred (some []))) (hLB : w.heap.size + 2 ≤ LB) :
    cd = .exit 1 ∧ ∃ v', BelI a t s w LB (j + 1) v' (D :: Ds) W := by
  obtain ⟨h1, h2, v', h3, h4, h5, h6⟩ := hX
  refine ⟨h1, v', belI_next h hLB (Only.trans' (Only.of_kept hF.1) h3 (fun k _ h => h)) h4 ?_ (by have := hF.1.size; omega) hd⟩
  rw [belL_next hj, if_pos (hpre.subset h2)]
  simpa using h5

theorem bel_less {n j : Nat} {e : Int} (h : j < n) (he : e = ((j + 1 : Nat) : Int)) : n - (intOf (.int .i64 e)).toNat < n - (intOf (.int .i64 (j : Int))).toNat := by
  rw [he]
  simp [intOf]
  omega

theorem wr_next (j : Nat) (h : j ≤ 1000) : wrap64 ((j : Int) + 1) = ((j + 1 : Nat) : Int) := by
  unfold wrap64; omega

theorem bel_apart {a : Value} {t : List Tab.C} {s : ByteArray} {w : World} {LB j : Nat} {v : Value} {Ds : List Nat} {wr : World} (h : BelI a t s w LB j v Ds wr) : ∀ g, v.ownBlock = some g → g ∉ Ds := by
  intro g hg hm
  obtain ⟨_, cur, h3⟩ := owns_block h.2.2.2.1 hg
  have := (h.2.2.2.2.2.2 g hm).2
  rw [this] at h3
  cases h3

set_option maxHeartbeats 2000000 in
theorem below_c (t : List Tab.C) (a : Option Addr) (c : Nat) (s : ByteArray) (w : World) (hTb : Tb w) (h : TabAt w (.slice a t.length c) t) (hS : Small t) :
    Calls Tryz.prog 20 #[.slice a t.length c, .string s] w fun e w' => ∃ v, e = .returned v ∧ w'.ownsRow w.heap.size 9 1 v (Tab.below t s).length ((Tab.below t s).map Value.string) ∧ Kept w w' := by
  obtain ⟨i0, hi0, hz0, hzz1, hzz2⟩ := info_parts info_str
  refine (callsIn_wide (n := 3)).1 (callsIn_of_wp_marks Tryz.func20 rfl trivial (wpIn_wide.2 ?_) rfl)
  simp only [Tryz.ntmps20, List.size_toArray, List.length_cons, List.length_nil, Nat.reduceAdd, Nat.reduceSub, Array.replicate_succ, Array.replicate_zero, List.push_toArray, List.append_toArray, List.nil_append, List.cons_append]
  obtain ⟨W1, hW1⟩ : ∃ W1, (w.alloc (.cells #[.slice a t.length c] 22)).alloc (.cells #[.string s] 9) = W1 := ⟨_, rfl⟩
  have hk1 : Kept w W1 := by rw [← hW1]; exact ((Kept.refl w).alloc _).alloc _
  have hb1 : Blk W1 w.heap.size 22 #[.slice a t.length c] := by rw [← hW1]; exact (Blk.new w _ _).alloc _
  have hb2 : Blk W1 (w.heap.size + 1) 9 #[.string s] := by
    rw [← hW1]
    have := Blk.new (w.alloc (.cells #[.slice a t.length c] 22)) 9 #[.string s]
    simpa using this
  have HS1 := Lib.hid (show W1.heap.size = w.heap.size + 2 by rw [← hW1]; simp)
  have HK1 := Lib.hid hk1
  have HB1 := Lib.hid hb1
  have HB2 := Lib.hid hb2
  have HT := Lib.hid h
  have HC := Lib.hid (isC_c t (.slice a t.length c) s W1 (tab_kept h hk1))
  have HV := Lib.hid (valid_c t a c W1 (hTb.kept hk1) (tab_kept h hk1) hS)
  have c0 := hb1.cell 0
  have c1 := hb2.cell 0
  simp at c0 c1
  clear h hTb hk1 hb1 hb2
  obtain ⟨bl, hbl⟩ : ∃ bl, Tab.below t s = bl := ⟨_, rfl⟩
  rw [hbl]
  have HBL := Lib.hid hbl
  cases hcl : Tab.isC t s with
  | false =>
    have HE := Lib.hid (show bl = [] by rw [← hbl]; unfold Tab.below; rw [hcl]; rfl)
    rw [hcl] at HC
    clear hbl hcl
    go_wp2_with fail
    go_step3
    go_wp2_with fail
    clear hW1
    refine HC.out.mono ?_
    rintro e w2 ⟨rfl, rfl⟩
    go_wp2_with fail
    rw [Exit.noGoto_ret]
    refine ⟨_, results_tmp rfl _ _ _, _, rfl, ?_, HK1.out⟩
    rw [HE.out]
    exact World.ownsRow_nil _ _ _ _
  | true =>
    rw [hcl] at HC
    cases hok : Tab.ok t with
    | false =>
      have HE := Lib.hid (show bl = [] by rw [← hbl]; unfold Tab.below; rw [hcl, hok]; rfl)
      rw [hok] at HV
      clear hbl hcl hok
      go_wp2_with fail
      go_step3
      go_wp2_with fail
      clear hW1
      refine HC.out.mono ?_
      rintro e w2 ⟨rfl, rfl⟩
      go_wp2_with fail
      refine HV.out.mono ?_
      rintro e w3 ⟨rfl, k3⟩
      go_wp2_with fail
      rw [Exit.noGoto_ret]
      refine ⟨_, results_tmp rfl _ _ _, _, rfl, ?_, HK1.out.trans k3⟩
      rw [HE.out]
      exact World.ownsRow_nil _ _ _ _
    | true =>
      have HE := Lib.hid (show bl = belL t s t.length by rw [← hbl]; unfold Tab.below belL; rw [hcl, hok, List.take_of_length_le (by simp)]; rfl)
      rw [hok] at HV
      clear hbl hcl hok
      go_wp2_with fail
      go_step3
      go_wp2_with fail
      clear hW1
      refine HC.out.mono ?_
      rintro e w2 ⟨rfl, rfl⟩
      go_wp2_with fail
      refine HV.out.mono ?_
      rintro e w3 ⟨rfl, k3⟩
      have HS3 := Lib.hid k3.size
      have hI : BelI (.slice a t.length c) t s w w3.heap.size 0 (.slice none 0 0) [] (w3.alloc (.cells #[.slice none 0 0] 28)) :=
        ⟨(HB1.out.kept k3).alloc _, (HB2.out.kept k3).alloc _, Blk.new w3 _ _, World.ownsRow_nil _ _ _ _, (HK1.out.trans k3).alloc _, List.nodup_nil, by simp⟩
      obtain ⟨d0, d1, d2⟩ := belI_facts hI
      have HI := Lib.hid hI
      clear hI k3 c0 c1
      go_wp2_with fail
      go_step3
      go_wp2_with fail
      refine wp_loop (fun a' w' => ∃ (j : Nat) (v : Value) (Ds : List Nat) (u6 u20 u21 u22 u23 u24 u25 u26 u27 u28 u41 : Value), j ≤ t.length ∧ BelI (.slice a t.length c) t s w w3.heap.size j v Ds w' ∧ a' = { tmps := #[.slice a t.length c, .string s, .pointer (some ⟨w.heap.size, 0, none⟩), .pointer (some ⟨w.heap.size + 1, 0, none⟩), .slice none 0 0, .pointer (some ⟨w3.heap.size, 0, none⟩), u6, undef, .slice a t.length c, .string s, .bool true, .bool false, .bool false, .slice a t.length c, .bool true, .bool false, .bool false, .slice a t.length c, .int .i64 (t.length : Int), .int .i64 (j : Int), u20, u21, u22, u23, u24, u25, u26, u27, u28, undef, undef, undef, undef, undef, undef, undef, undef, undef, undef, undef, undef, u41, undef], defers := Ds.map markD }) (fun a' w' => t.length - (intOf (a'.tmps.getD 19 undef)).toNat) ?start ?round
      case start => exact ⟨0, _, [], undef, undef, undef, undef, undef, undef, undef, undef, undef, undef, undef, Nat.zero_le _, HI.out, rfl⟩
      case round =>
        rintro a' wr ⟨j, v, Ds, u6, u20, u21, u22, u23, u24, u25, u26, u27, u28, u41, hj, hI, rfl⟩
        obtain ⟨d0, d1, d2⟩ := belI_facts hI
        by_cases hlt : j < t.length
        · have hltI : (j : Int) < (t.length : Int) := by omega
          obtain ⟨b, o, rfl, hcl⟩ := Row.cellsC HT.out hlt
          have HI2 := Lib.hid hI
          clear hI
          go_wp2_with fail
          obtain ⟨m0, m1, m2, mi, mn, mf⟩ := bel_before HI2.out HT.out hlt
          refine wp_mono (Q := Exit.then (fun a' w' => ∃ u25 u26 p q, a' = { tmps := #[.slice (some ⟨b, o, none⟩) t.length c, .string s, .pointer (some ⟨w.heap.size, 0, none⟩), .pointer (some ⟨w.heap.size + 1, 0, none⟩), .slice none 0 0, .pointer (some ⟨w3.heap.size, 0, none⟩), .pointer (some ⟨wr.heap.size, 0, none⟩), undef, .slice (some ⟨b, o, none⟩) t.length c, .string s, .bool true, .bool false, .bool false, .slice (some ⟨b, o, none⟩) t.length c, .bool true, .bool false, .bool false, .slice (some ⟨b, o, none⟩) t.length c, .int .i64 (t.length : Int), .int .i64 (j : Int), .bool true, .int .i64 (j : Int), .slice (some ⟨b, o, none⟩) t.length c, .slice (some ⟨b, o, none⟩) t.length c, .int .i64 (j : Int), u25, u26, .string (Tab.nth t j).name, .func (.func 128) #[] #[.pointer (some ⟨p, 0, none⟩), .pointer (some ⟨q, 0, none⟩)], undef, undef, undef, undef, undef, undef, undef, undef, undef, undef, undef, undef, u41, undef], defers := Ds.map markD } ∧ p = wr.heap.size + 1 ∧ q = wr.heap.size + 2 ∧ BelF (.slice (some ⟨b, o, none⟩) t.length c) j (Tab.nth t j).name wr w') (fun _ _ _ => False)) ?region ?rest
          case region =>
            refine wp_region_any (by kernel_rfl) ?_
            change wpAny _ _ _ _ _ _ _ (World.drew _)
            refine wpAny_ready (rs := [0, 1, 2]) (by kernel_rfl) (by simp) ?_
            refine AllReady.cons rfl (fun K hK => ?_) ?_
            · go_simp
              refine hK _ _ ?_; clear hK K
              refine wpAny_ready (rs := [1, 2]) (by kernel_rfl) (by simp) ?_
              refine AllReady.cons rfl (fun K hK => ?_) ?_
              · go_simp
                refine hK _ _ ?_; clear hK K
                refine wpAny_ready (rs := [2]) (by kernel_rfl) (by simp) ?_
                refine AllReady.cons rfl (fun K hK => ?_) ?_
                · go_simp
                  refine hK _ _ ?_; clear hK K
                  refine wpAny_take (i := 3) (v := ?_) rfl (by kernel_rfl) (by kernel_rfl) (by kernel_rfl) (fun _ _ _ h => h) (Or.inl ⟨by rfl, ?_⟩) ?_
                  rotate_left
                  · intro w; go_simp; try with_reducible rfl
                  refine wpAny_take (i := 4) (v := ?_) rfl (by kernel_rfl) (by kernel_rfl) (by kernel_rfl) (fun _ _ _ h => h) (Or.inl ⟨by rfl, ?_⟩) ?_
                  rotate_left
                  · intro w; go_simp; try with_reducible rfl
                  refine wpAny_ready (rs := [5]) (by kernel_rfl) (by simp) ?_
                  refine AllReady.cons rfl (fun K hK => ?_) ?_
                  · go_simp
                    refine hK _ _ ?_; clear hK K
                    refine wpAny_ready (rs := [6]) (by kernel_rfl) (by simp) ?_
                    refine AllReady.cons rfl (fun K hK => ?_) ?_
                    · go_simp
                      go_wp2_with fail
                      refine (line_slineC _ c t _ _).mono ?_
                      rintro e w5 ⟨rfl, hw5⟩
                      have HF5 := Lib.hid (bel_f hw5)
                      clear hw5
                      dsimp only
                      refine hK _ _ ?_; clear hK K
                      refine wpAny_done (by kernel_rfl) ?_ _
                      exact ⟨_, _, _, _, rfl, by simp, by simp, HF5.out⟩
                    exact AllReady.nil
                  exact AllReady.nil
                exact AllReady.nil
              refine AllReady.cons rfl (fun K hK => ?_) ?_
              · go_simp
                refine hK _ _ ?_; clear hK K
                refine wpAny_ready (rs := [1]) (by kernel_rfl) (by simp) ?_
                refine AllReady.cons rfl (fun K hK => ?_) ?_
                · go_simp
                  refine hK _ _ ?_; clear hK K
                  refine wpAny_take (i := 3) (v := ?_) rfl (by kernel_rfl) (by kernel_rfl) (by kernel_rfl) (fun _ _ _ h => h) (Or.inl ⟨by rfl, ?_⟩) ?_
                  rotate_left
                  · intro w; go_simp; try with_reducible rfl
                  refine wpAny_take (i := 4) (v := ?_) rfl (by kernel_rfl) (by kernel_rfl) (by kernel_rfl) (fun _ _ _ h => h) (Or.inl ⟨by rfl, ?_⟩) ?_
                  rotate_left
                  · intro w; go_simp; try with_reducible rfl
                  refine wpAny_ready (rs := [5]) (by kernel_rfl) (by simp) ?_
                  refine AllReady.cons rfl (fun K hK => ?_) ?_
                  · go_simp
                    refine hK _ _ ?_; clear hK K
                    refine wpAny_ready (rs := [6]) (by kernel_rfl) (by simp) ?_
                    refine AllReady.cons rfl (fun K hK => ?_) ?_
                    · go_simp
                      go_wp2_with fail
                      refine (line_slineC _ c t _ _).mono ?_
                      rintro e w5 ⟨rfl, hw5⟩
                      have HF5 := Lib.hid (bel_f hw5)
                      clear hw5
                      dsimp only
                      refine hK _ _ ?_; clear hK K
                      refine wpAny_done (by kernel_rfl) ?_ _
                      exact ⟨_, _, _, _, rfl, by simp, by simp, HF5.out⟩
                    exact AllReady.nil
                  exact AllReady.nil
                exact AllReady.nil
              exact AllReady.nil
            refine AllReady.cons rfl (fun K hK => ?_) ?_
            · go_simp
              refine hK _ _ ?_; clear hK K
              refine wpAny_ready (rs := [0, 2]) (by kernel_rfl) (by simp) ?_
              refine AllReady.cons rfl (fun K hK => ?_) ?_
              · go_simp
                refine hK _ _ ?_; clear hK K
                refine wpAny_ready (rs := [2]) (by kernel_rfl) (by simp) ?_
                refine AllReady.cons rfl (fun K hK => ?_) ?_
                · go_simp
                  refine hK _ _ ?_; clear hK K
                  refine wpAny_take (i := 3) (v := ?_) rfl (by kernel_rfl) (by kernel_rfl) (by kernel_rfl) (fun _ _ _ h => h) (Or.inl ⟨by rfl, ?_⟩) ?_
                  rotate_left
                  · intro w; go_simp; try with_reducible rfl
                  refine wpAny_take (i := 4) (v := ?_) rfl (by kernel_rfl) (by kernel_rfl) (by kernel_rfl) (fun _ _ _ h => h) (Or.inl ⟨by rfl, ?_⟩) ?_
                  rotate_left
                  · intro w; go_simp; try with_reducible rfl
                  refine wpAny_ready (rs := [5]) (by kernel_rfl) (by simp) ?_
                  refine AllReady.cons rfl (fun K hK => ?_) ?_
                  · go_simp
                    refine hK _ _ ?_; clear hK K
                    refine wpAny_ready (rs := [6]) (by kernel_rfl) (by simp) ?_
                    refine AllReady.cons rfl (fun K hK => ?_) ?_
                    · go_simp
                      go_wp2_with fail
                      refine (line_slineC _ c t _ _).mono ?_
                      rintro e w5 ⟨rfl, hw5⟩
                      have HF5 := Lib.hid (bel_f hw5)
                      clear hw5
                      dsimp only
                      refine hK _ _ ?_; clear hK K
                      refine wpAny_done (by kernel_rfl) ?_ _
                      exact ⟨_, _, _, _, rfl, by simp, by simp, HF5.out⟩
                    exact AllReady.nil
                  exact AllReady.nil
                exact AllReady.nil
              refine AllReady.cons rfl (fun K hK => ?_) ?_
              · go_simp
                refine hK _ _ ?_; clear hK K
                refine wpAny_take (i := 3) (v := ?_) rfl (by kernel_rfl) (by kernel_rfl) (by kernel_rfl) (fun _ _ _ h => h) (Or.inl ⟨by rfl, ?_⟩) ?_
                rotate_left
                · intro w; go_simp; try with_reducible rfl
                refine wpAny_take (i := 4) (v := ?_) rfl (by kernel_rfl) (by kernel_rfl) (by kernel_rfl) (fun _ _ _ h => h) (Or.inl ⟨by rfl, ?_⟩) ?_
                rotate_left
                · intro w; go_simp; try with_reducible rfl
                refine wpAny_ready (rs := [0, 5]) (by kernel_rfl) (by simp) ?_
                refine AllReady.cons rfl (fun K hK => ?_) ?_
                · go_simp
                  refine hK _ _ ?_; clear hK K
                  refine wpAny_ready (rs := [5]) (by kernel_rfl) (by simp) ?_
                  refine AllReady.cons rfl (fun K hK => ?_) ?_
                  · go_simp
                    refine hK _ _ ?_; clear hK K
                    refine wpAny_ready (rs := [6]) (by kernel_rfl) (by simp) ?_
                    refine AllReady.cons rfl (fun K hK => ?_) ?_
                    · go_simp
                      go_wp2_with fail
                      refine (line_slineC _ c t _ _).mono ?_
                      rintro e w5 ⟨rfl, hw5⟩
                      have HF5 := Lib.hid (bel_f hw5)
                      clear hw5
                      dsimp only
                      refine hK _ _ ?_; clear hK K
                      refine wpAny_done (by kernel_rfl) ?_ _
                      exact ⟨_, _, _, _, rfl, by simp, by simp, HF5.out⟩
                    exact AllReady.nil
                  exact AllReady.nil
                refine AllReady.cons rfl (fun K hK => ?_) ?_
                · go_simp
                  refine hK _ _ ?_; clear hK K
                  refine wpAny_ready (rs := [0]) (by kernel_rfl) (by simp) ?_
                  refine AllReady.cons rfl (fun K hK => ?_) ?_
                  · go_simp
                    refine hK _ _ ?_; clear hK K
                    refine wpAny_ready (rs := [6]) (by kernel_rfl) (by simp) ?_
                    refine AllReady.cons rfl (fun K hK => ?_) ?_
                    · go_simp
                      go_wp2_with fail
                      refine (line_slineC _ c t _ _).mono ?_
                      rintro e w5 ⟨rfl, hw5⟩
                      have HF5 := Lib.hid (bel_f hw5)
                      clear hw5
                      dsimp only
                      refine hK _ _ ?_; clear hK K
                      refine wpAny_done (by kernel_rfl) ?_ _
                      exact ⟨_, _, _, _, rfl, by simp, by simp, HF5.out⟩
                    exact AllReady.nil
                  exact AllReady.nil
                exact AllReady.nil
              exact AllReady.nil
            refine AllReady.cons rfl (fun K hK => ?_) ?_
            · go_simp
              refine hK _ _ ?_; clear hK K
              refine wpAny_ready (rs := [0, 1]) (by kernel_rfl) (by simp) ?_
              refine AllReady.cons rfl (fun K hK => ?_) ?_
              · go_simp
                refine hK _ _ ?_; clear hK K
                refine wpAny_ready (rs := [1]) (by kernel_rfl) (by simp) ?_
                refine AllReady.cons rfl (fun K hK => ?_) ?_
                · go_simp
                  refine hK _ _ ?_; clear hK K
                  refine wpAny_take (i := 3) (v := ?_) rfl (by kernel_rfl) (by kernel_rfl) (by kernel_rfl) (fun _ _ _ h => h) (Or.inl ⟨by rfl, ?_⟩) ?_
                  rotate_left
                  · intro w; go_simp; try with_reducible rfl
                  refine wpAny_take (i := 4) (v := ?_) rfl (by kernel_rfl) (by kernel_rfl) (by kernel_rfl) (fun _ _ _ h => h) (Or.inl ⟨by rfl, ?_⟩) ?_
                  rotate_left
                  · intro w; go_simp; try with_reducible rfl
                  refine wpAny_ready (rs := [5]) (by kernel_rfl) (by simp) ?_
                  refine AllReady.cons rfl (fun K hK => ?_) ?_
                  · go_simp
                    refine hK _ _ ?_; clear hK K
                    refine wpAny_ready (rs := [6]) (by kernel_rfl) (by simp) ?_
                    refine AllReady.cons rfl (fun K hK => ?_) ?_
                    · go_simp
                      go_wp2_with fail
                      refine (line_slineC _ c t _ _).mono ?_
                      rintro e w5 ⟨rfl, hw5⟩
                      have HF5 := Lib.hid (bel_f hw5)
                      clear hw5
                      dsimp only
                      refine hK _ _ ?_; clear hK K
                      refine wpAny_done (by kernel_rfl) ?_ _
                      exact ⟨_, _, _, _, rfl, by simp, by simp, HF5.out⟩
                    exact AllReady.nil
                  exact AllReady.nil
                exact AllReady.nil
              refine AllReady.cons rfl (fun K hK => ?_) ?_
              · go_simp
                refine hK _ _ ?_; clear hK K
                refine wpAny_take (i := 3) (v := ?_) rfl (by kernel_rfl) (by kernel_rfl) (by kernel_rfl) (fun _ _ _ h => h) (Or.inl ⟨by rfl, ?_⟩) ?_
                rotate_left
                · intro w; go_simp; try with_reducible rfl
                refine wpAny_take (i := 4) (v := ?_) rfl (by kernel_rfl) (by kernel_rfl) (by kernel_rfl) (fun _ _ _ h => h) (Or.inl ⟨by rfl, ?_⟩) ?_
                rotate_left
                · intro w; go_simp; try with_reducible rfl
                refine wpAny_ready (rs := [0, 5]) (by kernel_rfl) (by simp) ?_
                refine AllReady.cons rfl (fun K hK => ?_) ?_
                · go_simp
                  refine hK _ _ ?_; clear hK K
                  refine wpAny_ready (rs := [5]) (by kernel_rfl) (by simp) ?_
                  refine AllReady.cons rfl (fun K hK => ?_) ?_
                  · go_simp
                    refine hK _ _ ?_; clear hK K
                    refine wpAny_ready (rs := [6]) (by kernel_rfl) (by simp) ?_
                    refine AllReady.cons rfl (fun K hK => ?_) ?_
                    · go_simp
                      go_wp2_with fail
                      refine (line_slineC _ c t _ _).mono ?_
                      rintro e w5 ⟨rfl, hw5⟩
                      have HF5 := Lib.hid (bel_f hw5)
                      clear hw5
                      dsimp only
                      refine hK _ _ ?_; clear hK K
                      refine wpAny_done (by kernel_rfl) ?_ _
                      exact ⟨_, _, _, _, rfl, by simp, by simp, HF5.out⟩
                    exact AllReady.nil
                  exact AllReady.nil
                refine AllReady.cons rfl (fun K hK => ?_) ?_
                · go_simp
                  refine hK _ _ ?_; clear hK K
                  refine wpAny_ready (rs := [0]) (by kernel_rfl) (by simp) ?_
                  refine AllReady.cons rfl (fun K hK => ?_) ?_
                  · go_simp
                    refine hK _ _ ?_; clear hK K
                    refine wpAny_ready (rs := [6]) (by kernel_rfl) (by simp) ?_
                    refine AllReady.cons rfl (fun K hK => ?_) ?_
                    · go_simp
                      go_wp2_with fail
                      refine (line_slineC _ c t _ _).mono ?_
                      rintro e w5 ⟨rfl, hw5⟩
                      have HF5 := Lib.hid (bel_f hw5)
                      clear hw5
                      dsimp only
                      refine hK _ _ ?_; clear hK K
                      refine wpAny_done (by kernel_rfl) ?_ _
                      exact ⟨_, _, _, _, rfl, by simp, by simp, HF5.out⟩
                    exact AllReady.nil
                  exact AllReady.nil
                exact AllReady.nil
              exact AllReady.nil
            exact AllReady.nil
          case rest =>
            rintro e a' w5 hp
            cases e
            all_goals first | exact hp.elim | skip
            obtain ⟨u25, u26, p, q, rfl, rfl, rfl, hF⟩ := hp
            have HF := Lib.hid hF
            have hI := HI2.out
            have hk5 : Kept w w5 := hI.2.2.2.2.1.trans hF.1
            have hB5 : ∀ k, (k = w3.heap.size ∨ v.ownBlock = some k) → k < w5.heap.size := bel_lt HI2.out hF.1
            clear hF m0 m1 m2 mi mn mf d0 d1 d2
            simp only [Exit.then]
            go_wp2_with fail
            refine wpIn_wide.1 (wpIn_range_sline (w0 := w) (bt := wr.heap.size + 1) (bs := wr.heap.size + 2) (some ⟨b, o, none⟩) c t (Tab.nth t j).name (fun k => k = w3.heap.size ∨ v.ownBlock = some k) rfl HT.out hS.len hk5 HF.out.2.2.2.1 HF.out.2.2.2.2 hB5 rfl
              (fun pre W => Kept w5 W ∧ ¬ s ∈ pre) (BelX s v (belL t s j) (Tab.nth t j).name w3.heap.size w5) (fun pre A B h o => ⟨h.1.onlyS o (fun k h => h.1), h.2⟩) (fun c pre A B h o => belX_only h o hB5) ⟨Kept.refl _, by simp⟩
              (fun x => { tmps := #[.slice (some ⟨b, o, none⟩) t.length c, .string s, .pointer (some ⟨w.heap.size, 0, none⟩), .pointer (some ⟨w.heap.size + 1, 0, none⟩), .slice none 0 0, .pointer (some ⟨w3.heap.size, 0, none⟩), .pointer (some ⟨wr.heap.size, 0, none⟩), .string x, .slice (some ⟨b, o, none⟩) t.length c, .string s, .bool true, .bool false, .bool false, .slice (some ⟨b, o, none⟩) t.length c, .bool true, .bool false, .bool false, .slice (some ⟨b, o, none⟩) t.length c, .int .i64 (t.length : Int), .int .i64 (j : Int), .bool true, .int .i64 (j : Int), .slice (some ⟨b, o, none⟩) t.length c, .slice (some ⟨b, o, none⟩) t.length c, .int .i64 (j : Int), u25, u26, .string (Tab.nth t j).name, .func (.func 128) #[] #[.pointer (some ⟨wr.heap.size + 1, 0, none⟩), .pointer (some ⟨wr.heap.size + 2, 0, none⟩)], .string x, undef, undef, undef, undef, undef, undef, undef, undef, undef, undef, undef, u41, undef], defers := [] }) ?assign ?body ?done ?stop)
            case assign =>
              intro l i W K hK
              gi_wp2
              exact hK
            case body =>
              rintro l pre x W hl _ ⟨hkW, hns⟩ hsize hpre
              obtain ⟨n0, n1, n2, ni, nn, nf⟩ := bel_in HI2.out HT.out hlt HF.out hkW
              have HHK := Lib.hid hkW
              have HNS := Lib.hid hns
              have HSZ := Lib.hid hsize
              by_cases hx : x = s
              · have hb := beq_yes hx
                have HX := Lib.hid (show s ∈ pre ++ [x] by rw [hx]; simp)
                have HI := Lib.hid (bel_mid HI2.out HF.out)
                have HR := Lib.hid (show (W.drew.alloc (.cells #[.string (Tab.nth t j).name] 9)).ownsRow (w3.heap.size + 1) 9 1 v (belL t s j).length ((belL t s j).map Value.string) from owns_only (owns_only (bel_mid HI2.out HF.out).2.1 (Only.of_kept (S := fun _ => False) hkW) (fun _ _ h => h)) (((Only.refl (fun _ => False) W).drew).alloc _) (fun _ _ h => h))
                have HS := Lib.hid (Src.ofSlice (P := Tryz.prog) (size := 1) (tx := 28) (W.drew.alloc (.cells #[.string (Tab.nth t j).name] 9)) Tryz.underlying28 ⟨W.heap.size, 0, none⟩ 1 1 [.string (Tab.nth t j).name] rfl (cell_one_new W.drew _ _) (by simp [Value.oneCell']))
                have HV := Lib.hid (show Blk (W.drew.alloc (.cells #[.string (Tab.nth t j).name] 9)) w3.heap.size 28 #[v] from (show Blk W.drew w3.heap.size 28 #[v] from (show Blk W w3.heap.size 28 #[v] from (bel_mid HI2.out HF.out).1.kept hkW)).alloc _)
                have hca := (show Blk (W.alloc (.cells #[.string (Tab.nth t j).name] 9)) w3.heap.size 28 #[v] from (show Blk W w3.heap.size 28 #[v] from (bel_mid HI2.out HF.out).1.kept hkW).alloc _).cell 0
                simp at hca
                have hl1 := belL_len t s j
                have hl2 := hS.len
                have HZ := Lib.hid (show w3.heap.size + 1 ≤ (W.drew.alloc (.cells #[.string (Tab.nth t j).name] 9)).heap.size by have := ((bel_mid HI2.out HF.out).1.kept hkW).lt; simp; omega)
                clear hx hsize hpre hns hkW hl
                gi_wp2
                refine wpIn_region_of_any (by kernel_rfl) (by kernel_rfl) (by rintro ⟨_, _, h⟩; exact h) ?_
                change wpAny _ _ _ _ _ _ _ (World.drew _)
                refine wpAny_ready (rs := [0, 1, 2]) (by kernel_rfl) (by simp) ?_
                refine AllReady.cons rfl (fun K hK => ?_) ?_
                · go_simp
                  refine hK _ _ ?_; clear hK K
                  refine wpAny_ready (rs := [1, 2]) (by kernel_rfl) (by simp) ?_
                  refine AllReady.cons rfl (fun K hK => ?_) ?_
                  · go_simp
                    refine hK _ _ ?_; clear hK K
                    refine wpAny_ready (rs := [2]) (by kernel_rfl) (by simp) ?_
                    refine AllReady.cons rfl (fun K hK => ?_) ?_
                    · go_simp
                      refine hK _ _ ?_; clear hK K
                      refine wpAny_take (i := 3) (v := ?_) rfl (by kernel_rfl) (by kernel_rfl) (by kernel_rfl) (fun _ _ _ h => h) (Or.inl ⟨by rfl, ?_⟩) ?_
                      rotate_left
                      · intro w; go_simp; try with_reducible rfl
                      refine wpAny_take (i := 4) (v := ?_) rfl (by kernel_rfl) (by kernel_rfl) (by kernel_rfl) (fun _ _ _ h => h) (Or.inl ⟨by rfl, ?_⟩) ?_
                      rotate_left
                      · intro w; go_simp; try with_reducible rfl
                      refine wpAny_ready (rs := [5]) (by kernel_rfl) (by simp) ?_
                      refine AllReady.cons rfl (fun K hK => ?_) ?_
                      · go_simp
                        refine hK _ _ ?_; clear hK K
                        refine wpAny_ready (rs := [6]) (by kernel_rfl) (by simp) ?_
                        refine AllReady.cons rfl (fun K hK => ?_) ?_
                        · go_simp
                          refine hK _ _ ?_; clear hK K
                          refine wpAny_ready (rs := [7]) (by kernel_rfl) (by simp) ?_
                          refine AllReady.cons rfl (fun K hK => ?_) ?_
                          · refine step_apk rfl (.tmp 33) (.tmp 39) 28 28 rfl (w3.heap.size + 1) 1 9 i0 _ 16 Tryz.underlying28 hi0 hz0 hzz1 hzz2 rfl rfl HR.out rfl HS.out (by unfold maxLen; omega) (by omega) HZ.out ?_
                            intro v' w1 hown' hgrow _ hob
                            have hv1 : Blk w1 w3.heap.size 28 #[v] := HV.out.grownBy hgrow (ne_row_blk HV.out (by decide) HR.out)
                            have hc1 := hv1.cell 0
                            have hf1 := hv1.frozen 0
                            have HEND := Lib.hid (bel_end HI.out HHK.out HSZ.out hgrow hown' hob hv1)
                            obtain ⟨va', vn', vc', rfl⟩ := owns_slice hown'
                            simp at hc1
                            clear hv1 hown' hgrow hob
                            refine hK _ _ ?_; clear hK K
                            refine wpAny_ready (rs := [8]) (by kernel_rfl) (by simp) ?_
                            refine AllReady.cons rfl (fun K hK => ?_) ?_
                            · go_simp
                              refine hK _ _ ?_; clear hK K
                              refine wpAny_done (by kernel_rfl) ?_ _
                              gi_wp2
                              exact ⟨HEND.out.1, rfl, HX.out, _, HEND.out.2⟩
                            exact AllReady.nil
                          exact AllReady.nil
                        exact AllReady.nil
                      exact AllReady.nil
                    exact AllReady.nil
                  refine AllReady.cons rfl (fun K hK => ?_) ?_
                  · go_simp
                    refine hK _ _ ?_; clear hK K
                    refine wpAny_ready (rs := [1]) (by kernel_rfl) (by simp) ?_
                    refine AllReady.cons rfl (fun K hK => ?_) ?_
                    · go_simp
                      refine hK _ _ ?_; clear hK K
                      refine wpAny_take (i := 3) (v := ?_) rfl (by kernel_rfl) (by kernel_rfl) (by kernel_rfl) (fun _ _ _ h => h) (Or.inl ⟨by rfl, ?_⟩) ?_
                      rotate_left
                      · intro w; go_simp; try with_reducible rfl
                      refine wpAny_take (i := 4) (v := ?_) rfl (by kernel_rfl) (by kernel_rfl) (by kernel_rfl) (fun _ _ _ h => h) (Or.inl ⟨by rfl, ?_⟩) ?_
                      rotate_left
                      · intro w; go_simp; try with_reducible rfl
                      refine wpAny_ready (rs := [5]) (by kernel_rfl) (by simp) ?_
                      refine AllReady.cons rfl (fun K hK => ?_) ?_
                      · go_simp
                        refine hK _ _ ?_; clear hK K
                        refine wpAny_ready (rs := [6]) (by kernel_rfl) (by simp) ?_
                        refine AllReady.cons rfl (fun K hK => ?_) ?_
                        · go_simp
                          refine hK _ _ ?_; clear hK K
                          refine wpAny_ready (rs := [7]) (by kernel_rfl) (by simp) ?_
                          refine AllReady.cons rfl (fun K hK => ?_) ?_
                          · refine step_apk rfl (.tmp 33) (.tmp 39) 28 28 rfl (w3.heap.size + 1) 1 9 i0 _ 16 Tryz.underlying28 hi0 hz0 hzz1 hzz2 rfl rfl HR.out rfl HS.out (by unfold maxLen; omega) (by omega) HZ.out ?_
                            intro v' w1 hown' hgrow _ hob
                            have hv1 : Blk w1 w3.heap.size 28 #[v] := HV.out.grownBy hgrow (ne_row_blk HV.out (by decide) HR.out)
                            have hc1 := hv1.cell 0
                            have hf1 := hv1.frozen 0
                            have HEND := Lib.hid (bel_end HI.out HHK.out HSZ.out hgrow hown' hob hv1)
                            obtain ⟨va', vn', vc', rfl⟩ := owns_slice hown'
                            simp at hc1
                            clear hv1 hown' hgrow hob
                            refine hK _ _ ?_; clear hK K
                            refine wpAny_ready (rs := [8]) (by kernel_rfl) (by simp) ?_
                            refine AllReady.cons rfl (fun K hK => ?_) ?_
                            · go_simp
                              refine hK _ _ ?_; clear hK K
                              refine wpAny_done (by kernel_rfl) ?_ _
                              gi_wp2
                              exact ⟨HEND.out.1, rfl, HX.out, _, HEND.out.2⟩
                            exact AllReady.nil
                          exact AllReady.nil
                        exact AllReady.nil
                      exact AllReady.nil
                    exact AllReady.nil
                  exact AllReady.nil
                refine AllReady.cons rfl (fun K hK => ?_) ?_
                · go_simp
                  refine hK _ _ ?_; clear hK K
                  refine wpAny_ready (rs := [0, 2]) (by kernel_rfl) (by simp) ?_
                  refine AllReady.cons rfl (fun K hK => ?_) ?_
                  · go_simp
                    refine hK _ _ ?_; clear hK K
                    refine wpAny_ready (rs := [2]) (by kernel_rfl) (by simp) ?_
                    refine AllReady.cons rfl (fun K hK => ?_) ?_
                    · go_simp
                      refine hK _ _ ?_; clear hK K
                      refine wpAny_take (i := 3) (v := ?_) rfl (by kernel_rfl) (by kernel_rfl) (by kernel_rfl) (fun _ _ _ h => h) (Or.inl ⟨by rfl, ?_⟩) ?_
                      rotate_left
                      · intro w; go_simp; try with_reducible rfl
                      refine wpAny_take (i := 4) (v := ?_) rfl (by kernel_rfl) (by kernel_rfl) (by kernel_rfl) (fun _ _ _ h => h) (Or.inl ⟨by rfl, ?_⟩) ?_
                      rotate_left
                      · intro w; go_simp; try with_reducible rfl
                      refine wpAny_ready (rs := [5]) (by kernel_rfl) (by simp) ?_
                      refine AllReady.cons rfl (fun K hK => ?_) ?_
                      · go_simp
                        refine hK _ _ ?_; clear hK K
                        refine wpAny_ready (rs := [6]) (by kernel_rfl) (by simp) ?_
                        refine AllReady.cons rfl (fun K hK => ?_) ?_
                        · go_simp
                          refine hK _ _ ?_; clear hK K
                          refine wpAny_ready (rs := [7]) (by kernel_rfl) (by simp) ?_
                          refine AllReady.cons rfl (fun K hK => ?_) ?_
                          · refine step_apk rfl (.tmp 33) (.tmp 39) 28 28 rfl (w3.heap.size + 1) 1 9 i0 _ 16 Tryz.underlying28 hi0 hz0 hzz1 hzz2 rfl rfl HR.out rfl HS.out (by unfold maxLen; omega) (by omega) HZ.out ?_
                            intro v' w1 hown' hgrow _ hob
                            have hv1 : Blk w1 w3.heap.size 28 #[v] := HV.out.grownBy hgrow (ne_row_blk HV.out (by decide) HR.out)
                            have hc1 := hv1.cell 0
                            have hf1 := hv1.frozen 0
                            have HEND := Lib.hid (bel_end HI.out HHK.out HSZ.out hgrow hown' hob hv1)
                            obtain ⟨va', vn', vc', rfl⟩ := owns_slice hown'
                            simp at hc1
                            clear hv1 hown' hgrow hob
                            refine hK _ _ ?_; clear hK K
                            refine wpAny_ready (rs := [8]) (by kernel_rfl) (by simp) ?_
                            refine AllReady.cons rfl (fun K hK => ?_) ?_
                            · go_simp
                              refine hK _ _ ?_; clear hK K
                              refine wpAny_done (by kernel_rfl) ?_ _
                              gi_wp2
                              exact ⟨HEND.out.1, rfl, HX.out, _, HEND.out.2⟩
                            exact AllReady.nil
                          exact AllReady.nil
                        exact AllReady.nil
                      exact AllReady.nil
                    exact AllReady.nil
                  refine AllReady.cons rfl (fun K hK => ?_) ?_
                  · go_simp
                    refine hK _ _ ?_; clear hK K
                    refine wpAny_take (i := 3) (v := ?_) rfl (by kernel_rfl) (by kernel_rfl) (by kernel_rfl) (fun _ _ _ h => h) (Or.inl ⟨by rfl, ?_⟩) ?_
                    rotate_left
                    · intro w; go_simp; try with_reducible rfl
                    refine wpAny_take (i := 4) (v := ?_) rfl (by kernel_rfl) (by kernel_rfl) (by kernel_rfl) (fun _ _ _ h => h) (Or.inl ⟨by rfl, ?_⟩) ?_
                    rotate_left
                    · intro w; go_simp; try with_reducible rfl
                    refine wpAny_ready (rs := [0, 5]) (by kernel_rfl) (by simp) ?_
                    refine AllReady.cons rfl (fun K hK => ?_) ?_
                    · go_simp
                      refine hK _ _ ?_; clear hK K
                      refine wpAny_ready (rs := [5]) (by kernel_rfl) (by simp) ?_
                      refine AllReady.cons rfl (fun K hK => ?_) ?_
                      · go_simp
                        refine hK _ _ ?_; clear hK K
                        refine wpAny_ready (rs := [6]) (by kernel_rfl) (by simp) ?_
                        refine AllReady.cons rfl (fun K hK => ?_) ?_
                        · go_simp
                          refine hK _ _ ?_; clear hK K
                          refine wpAny_ready (rs := [7]) (by kernel_rfl) (by simp) ?_
                          refine AllReady.cons rfl (fun K hK => ?_) ?_
                          · refine step_apk rfl (.tmp 33) (.tmp 39) 28 28 rfl (w3.heap.size + 1) 1 9 i0 _ 16 Tryz.underlying28 hi0 hz0 hzz1 hzz2 rfl rfl HR.out rfl HS.out (by unfold maxLen; omega) (by omega) HZ.out ?_
                            intro v' w1 hown' hgrow _ hob
                            have hv1 : Blk w1 w3.heap.size 28 #[v] := HV.out.grownBy hgrow (ne_row_blk HV.out (by decide) HR.out)
                            have hc1 := hv1.cell 0
                            have hf1 := hv1.frozen 0
                            have HEND := Lib.hid (bel_end HI.out HHK.out HSZ.out hgrow hown' hob hv1)
                            obtain ⟨va', vn', vc', rfl⟩ := owns_slice hown'
                            simp at hc1
                            clear hv1 hown' hgrow hob
                            refine hK _ _ ?_; clear hK K
                            refine wpAny_ready (rs := [8]) (by kernel_rfl) (by simp) ?_
                            refine AllReady.cons rfl (fun K hK => ?_) ?_
                            · go_simp
                              refine hK _ _ ?_; clear hK K
                              refine wpAny_done (by kernel_rfl) ?_ _
                              gi_wp2
                              exact ⟨HEND.out.1, rfl, HX.out, _, HEND.out.2⟩
                            exact AllReady.nil
                          exact AllReady.nil
                        exact AllReady.nil
                      exact AllReady.nil
                    refine AllReady.cons rfl (fun K hK => ?_) ?_
                    · go_simp
                      refine hK _ _ ?_; clear hK K
                      refine wpAny_ready (rs := [0, 6]) (by kernel_rfl) (by simp) ?_
                      refine AllReady.cons rfl (fun K hK => ?_) ?_
                      · go_simp
                        refine hK _ _ ?_; clear hK K
                        refine wpAny_ready (rs := [6]) (by kernel_rfl) (by simp) ?_
                        refine AllReady.cons rfl (fun K hK => ?_) ?_
                        · go_simp
                          refine hK _ _ ?_; clear hK K
                          refine wpAny_ready (rs := [7]) (by kernel_rfl) (by simp) ?_
                          refine AllReady.cons rfl (fun K hK => ?_) ?_
                          · refine step_apk rfl (.tmp 33) (.tmp 39) 28 28 rfl (w3.heap.size + 1) 1 9 i0 _ 16 Tryz.underlying28 hi0 hz0 hzz1 hzz2 rfl rfl HR.out rfl HS.out (by unfold maxLen; omega) (by omega) HZ.out ?_
                            intro v' w1 hown' hgrow _ hob
                            have hv1 : Blk w1 w3.heap.size 28 #[v] := HV.out.grownBy hgrow (ne_row_blk HV.out (by decide) HR.out)
                            have hc1 := hv1.cell 0
                            have hf1 := hv1.frozen 0
                            have HEND := Lib.hid (bel_end HI.out HHK.out HSZ.out hgrow hown' hob hv1)
                            obtain ⟨va', vn', vc', rfl⟩ := owns_slice hown'
                            simp at hc1
                            clear hv1 hown' hgrow hob
                            refine hK _ _ ?_; clear hK K
                            refine wpAny_ready (rs := [8]) (by kernel_rfl) (by simp) ?_
                            refine AllReady.cons rfl (fun K hK => ?_) ?_
                            · go_simp
                              refine hK _ _ ?_; clear hK K
                              refine wpAny_done (by kernel_rfl) ?_ _
                              gi_wp2
                              exact ⟨HEND.out.1, rfl, HX.out, _, HEND.out.2⟩
                            exact AllReady.nil
                          exact AllReady.nil
                        exact AllReady.nil
                      refine AllReady.cons rfl (fun K hK => ?_) ?_
                      · go_simp
                        refine hK _ _ ?_; clear hK K
                        refine wpAny_ready (rs := [0]) (by kernel_rfl) (by simp) ?_
                        refine AllReady.cons rfl (fun K hK => ?_) ?_
                        · go_simp
                          refine hK _ _ ?_; clear hK K
                          refine wpAny_ready (rs := [7]) (by kernel_rfl) (by simp) ?_
                          refine AllReady.cons rfl (fun K hK => ?_) ?_
                          · refine step_apk rfl (.tmp 33) (.tmp 39) 28 28 rfl (w3.heap.size + 1) 1 9 i0 _ 16 Tryz.underlying28 hi0 hz0 hzz1 hzz2 rfl rfl HR.out rfl HS.out (by unfold maxLen; omega) (by omega) HZ.out ?_
                            intro v' w1 hown' hgrow _ hob
                            have hv1 : Blk w1 w3.heap.size 28 #[v] := HV.out.grownBy hgrow (ne_row_blk HV.out (by decide) HR.out)
                            have hc1 := hv1.cell 0
                            have hf1 := hv1.frozen 0
                            have HEND := Lib.hid (bel_end HI.out HHK.out HSZ.out hgrow hown' hob hv1)
                            obtain ⟨va', vn', vc', rfl⟩ := owns_slice hown'
                            simp at hc1
                            clear hv1 hown' hgrow hob
                            refine hK _ _ ?_; clear hK K
                            refine wpAny_ready (rs := [8]) (by kernel_rfl) (by simp) ?_
                            refine AllReady.cons rfl (fun K hK => ?_) ?_
                            · go_simp
                              refine hK _ _ ?_; clear hK K
                              refine wpAny_done (by kernel_rfl) ?_ _
                              gi_wp2
                              exact ⟨HEND.out.1, rfl, HX.out, _, HEND.out.2⟩
                            exact AllReady.nil
                          exact AllReady.nil
                        exact AllReady.nil
                      exact AllReady.nil
                    exact AllReady.nil
                  exact AllReady.nil
                refine AllReady.cons rfl (fun K hK => ?_) ?_
                · go_simp
                  refine hK _ _ ?_; clear hK K
                  refine wpAny_ready (rs := [0, 1]) (by kernel_rfl) (by simp) ?_
                  refine AllReady.cons rfl (fun K hK => ?_) ?_
                  · go_simp
                    refine hK _ _ ?_; clear hK K
                    refine wpAny_ready (rs := [1]) (by kernel_rfl) (by simp) ?_
                    refine AllReady.cons rfl (fun K hK => ?_) ?_
                    · go_simp
                      refine hK _ _ ?_; clear hK K
                      refine wpAny_take (i := 3) (v := ?_) rfl (by kernel_rfl) (by kernel_rfl) (by kernel_rfl) (fun _ _ _ h => h) (Or.inl ⟨by rfl, ?_⟩) ?_
                      rotate_left
                      · intro w; go_simp; try with_reducible rfl
                      refine wpAny_take (i := 4) (v := ?_) rfl (by kernel_rfl) (by kernel_rfl) (by kernel_rfl) (fun _ _ _ h => h) (Or.inl ⟨by rfl, ?_⟩) ?_
                      rotate_left
                      · intro w; go_simp; try with_reducible rfl
                      refine wpAny_ready (rs := [5]) (by kernel_rfl) (by simp) ?_
                      refine AllReady.cons rfl (fun K hK => ?_) ?_
                      · go_simp
                        refine hK _ _ ?_; clear hK K
                        refine wpAny_ready (rs := [6]) (by kernel_rfl) (by simp) ?_
                        refine AllReady.cons rfl (fun K hK => ?_) ?_
                        · go_simp
                          refine hK _ _ ?_; clear hK K
                          refine wpAny_ready (rs := [7]) (by kernel_rfl) (by simp) ?_
                          refine AllReady.cons rfl (fun K hK => ?_) ?_
                          · refine step_apk rfl (.tmp 33) (.tmp 39) 28 28 rfl (w3.heap.size + 1) 1 9 i0 _ 16 Tryz.underlying28 hi0 hz0 hzz1 hzz2 rfl rfl HR.out rfl HS.out (by unfold maxLen; omega) (by omega) HZ.out ?_
                            intro v' w1 hown' hgrow _ hob
                            have hv1 : Blk w1 w3.heap.size 28 #[v] := HV.out.grownBy hgrow (ne_row_blk HV.out (by decide) HR.out)
                            have hc1 := hv1.cell 0
                            have hf1 := hv1.frozen 0
                            have HEND := Lib.hid (bel_end HI.out HHK.out HSZ.out hgrow hown' hob hv1)
                            obtain ⟨va', vn', vc', rfl⟩ := owns_slice hown'
                            simp at hc1
                            clear hv1 hown' hgrow hob
                            refine hK _ _ ?_; clear hK K
                            refine wpAny_ready (rs := [8]) (by kernel_rfl) (by simp) ?_
                            refine AllReady.cons rfl (fun K hK => ?_) ?_
                            · go_simp
                              refine hK _ _ ?_; clear hK K
                              refine wpAny_done (by kernel_rfl) ?_ _
                              gi_wp2
                              exact ⟨HEND.out.1, rfl, HX.out, _, HEND.out.2⟩
                            exact AllReady.nil
                          exact AllReady.nil
                        exact AllReady.nil
                      exact AllReady.nil
                    exact AllReady.nil
                  refine AllReady.cons rfl (fun K hK => ?_) ?_
                  · go_simp
                    refine hK _ _ ?_; clear hK K
                    refine wpAny_take (i := 3) (v := ?_) rfl (by kernel_rfl) (by kernel_rfl) (by kernel_rfl) (fun _ _ _ h => h) (Or.inl ⟨by rfl, ?_⟩) ?_
                    rotate_left
                    · intro w; go_simp; try with_reducible rfl
                    refine wpAny_take (i := 4) (v := ?_) rfl (by kernel_rfl) (by kernel_rfl) (by kernel_rfl) (fun _ _ _ h => h) (Or.inl ⟨by rfl, ?_⟩) ?_
                    rotate_left
                    · intro w; go_simp; try with_reducible rfl
                    refine wpAny_ready (rs := [0, 5]) (by kernel_rfl) (by simp) ?_
                    refine AllReady.cons rfl (fun K hK => ?_) ?_
                    · go_simp
                      refine hK _ _ ?_; clear hK K
                      refine wpAny_ready (rs := [5]) (by kernel_rfl) (by simp) ?_
                      refine AllReady.cons rfl (fun K hK => ?_) ?_
                      · go_simp
                        refine hK _ _ ?_; clear hK K
                        refine wpAny_ready (rs := [6]) (by kernel_rfl) (by simp) ?_
                        refine AllReady.cons rfl (fun K hK => ?_) ?_
                        · go_simp
                          refine hK _ _ ?_; clear hK K
                          refine wpAny_ready (rs := [7]) (by kernel_rfl) (by simp) ?_
                          refine AllReady.cons rfl (fun K hK => ?_) ?_
                          · refine step_apk rfl (.tmp 33) (.tmp 39) 28 28 rfl (w3.heap.size + 1) 1 9 i0 _ 16 Tryz.underlying28 hi0 hz0 hzz1 hzz2 rfl rfl HR.out rfl HS.out (by unfold maxLen; omega) (by omega) HZ.out ?_
                            intro v' w1 hown' hgrow _ hob
                            have hv1 : Blk w1 w3.heap.size 28 #[v] := HV.out.grownBy hgrow (ne_row_blk HV.out (by decide) HR.out)
                            have hc1 := hv1.cell 0
                            have hf1 := hv1.frozen 0
                            have HEND := Lib.hid (bel_end HI.out HHK.out HSZ.out hgrow hown' hob hv1)
                            obtain ⟨va', vn', vc', rfl⟩ := owns_slice hown'
                            simp at hc1
                            clear hv1 hown' hgrow hob
                            refine hK _ _ ?_; clear hK K
                            refine wpAny_ready (rs := [8]) (by kernel_rfl) (by simp) ?_
                            refine AllReady.cons rfl (fun K hK => ?_) ?_
                            · go_simp
                              refine hK _ _ ?_; clear hK K
                              refine wpAny_done (by kernel_rfl) ?_ _
                              gi_wp2
                              exact ⟨HEND.out.1, rfl, HX.out, _, HEND.out.2⟩
                            exact AllReady.nil
                          exact AllReady.nil
                        exact AllReady.nil
                      exact AllReady.nil
                    refine AllReady.cons rfl (fun K hK => ?_) ?_
                    · go_simp
                      refine hK _ _ ?_; clear hK K
                      refine wpAny_ready (rs := [0, 6]) (by kernel_rfl) (by simp) ?_
                      refine AllReady.cons rfl (fun K hK => ?_) ?_
                      · go_simp
                        refine hK _ _ ?_; clear hK K
                        refine wpAny_ready (rs := [6]) (by kernel_rfl) (by simp) ?_
                        refine AllReady.cons rfl (fun K hK => ?_) ?_
                        · go_simp
                          refine hK _ _ ?_; clear hK K
                          refine wpAny_ready (rs := [7]) (by kernel_rfl) (by simp) ?_
                          refine AllReady.cons rfl (fun K hK => ?_) ?_
                          · refine step_apk rfl (.tmp 33) (.tmp 39) 28 28 rfl (w3.heap.size + 1) 1 9 i0 _ 16 Tryz.underlying28 hi0 hz0 hzz1 hzz2 rfl rfl HR.out rfl HS.out (by unfold maxLen; omega) (by omega) HZ.out ?_
                            intro v' w1 hown' hgrow _ hob
                            have hv1 : Blk w1 w3.heap.size 28 #[v] := HV.out.grownBy hgrow (ne_row_blk HV.out (by decide) HR.out)
                            have hc1 := hv1.cell 0
                            have hf1 := hv1.frozen 0
                            have HEND := Lib.hid (bel_end HI.out HHK.out HSZ.out hgrow hown' hob hv1)
                            obtain ⟨va', vn', vc', rfl⟩ := owns_slice hown'
                            simp at hc1
                            clear hv1 hown' hgrow hob
                            refine hK _ _ ?_; clear hK K
                            refine wpAny_ready (rs := [8]) (by kernel_rfl) (by simp) ?_
                            refine AllReady.cons rfl (fun K hK => ?_) ?_
                            · go_simp
                              refine hK _ _ ?_; clear hK K
                              refine wpAny_done (by kernel_rfl) ?_ _
                              gi_wp2
                              exact ⟨HEND.out.1, rfl, HX.out, _, HEND.out.2⟩
                            exact AllReady.nil
                          exact AllReady.nil
                        exact AllReady.nil
                      refine AllReady.cons rfl (fun K hK => ?_) ?_
                      · go_simp
                        refine hK _ _ ?_; clear hK K
                        refine wpAny_ready (rs := [0]) (by kernel_rfl) (by simp) ?_
                        refine AllReady.cons rfl (fun K hK => ?_) ?_
                        · go_simp
                          refine hK _ _ ?_; clear hK K
                          refine wpAny_ready (rs := [7]) (by kernel_rfl) (by simp) ?_
                          refine AllReady.cons rfl (fun K hK => ?_) ?_
                          · refine step_apk rfl (.tmp 33) (.tmp 39) 28 28 rfl (w3.heap.size + 1) 1 9 i0 _ 16 Tryz.underlying28 hi0 hz0 hzz1 hzz2 rfl rfl HR.out rfl HS.out (by unfold maxLen; omega) (by omega) HZ.out ?_
                            intro v' w1 hown' hgrow _ hob
                            have hv1 : Blk w1 w3.heap.size 28 #[v] := HV.out.grownBy hgrow (ne_row_blk HV.out (by decide) HR.out)
                            have hc1 := hv1.cell 0
                            have hf1 := hv1.frozen 0
                            have HEND := Lib.hid (bel_end HI.out HHK.out HSZ.out hgrow hown' hob hv1)
                            obtain ⟨va', vn', vc', rfl⟩ := owns_slice hown'
                            simp at hc1
                            clear hv1 hown' hgrow hob
                            refine hK _ _ ?_; clear hK K
                            refine wpAny_ready (rs := [8]) (by kernel_rfl) (by simp) ?_
                            refine AllReady.cons rfl (fun K hK => ?_) ?_
                            · go_simp
                              refine hK _ _ ?_; clear hK K
                              refine wpAny_done (by kernel_rfl) ?_ _
                              gi_wp2
                              exact ⟨HEND.out.1, rfl, HX.out, _, HEND.out.2⟩
                            exact AllReady.nil
                          exact AllReady.nil
                        exact AllReady.nil
                      exact AllReady.nil
                    exact AllReady.nil
                  exact AllReady.nil
                exact AllReady.nil
              · have hb := beq_no hx
                have HX := Lib.hid hx
                clear hx hsize hpre hns hkW hl
                gi_wp2
                refine ⟨Only.refl _ _, HHK.out, ?_⟩
                have h1 := HNS.out
                have h2 := HX.out
                simp only [List.mem_append, List.mem_singleton, not_or]
                exact ⟨h1, fun e => h2 e.symm⟩
            case done =>
              rintro D W hD ⟨hkW, hns⟩ hd
              have HN := Lib.hid (bel_done HI2.out HT.out hlt HF.out hkW hns hD hd (by have := HS3.out; have := HS1.out; omega))
              have HLT := Lib.hid hlt
              clear hkW hns hd hI hk5 hB5 hD
              have hl2 := hS.len
              have hwr : wrap64 ((j : Int) + 1) = ((j + 1 : Nat) : Int) := wr_next j (by have := HLT.out; omega)
              go_wp2
              have hwr2 := hwr
              try rw [hwr]
              exact ⟨⟨j + 1, v, D :: Ds, _, _, _, _, _, _, _, _, _, _, _, by have := HLT.out; omega, HN.out, rfl⟩, by first | exact bel_less HLT.out hwr | exact bel_less HLT.out rfl | exact bel_less HLT.out (by rw [hwr])⟩
            case stop =>
              rintro D c' pre W hD hpre hX hd
              obtain ⟨rfl, v', hN⟩ := bel_stop HI2.out HT.out hlt HF.out hX hpre hD hd (by have := HS3.out; have := HS1.out; omega)
              have HN := Lib.hid hN
              have HLT := Lib.hid hlt
              clear hX hpre hd hI hk5 hB5 hD hN
              have hl2 := hS.len
              have hwr : wrap64 ((j : Int) + 1) = ((j + 1 : Nat) : Int) := wr_next j (by have := HLT.out; omega)
              gi_wp2
              go_wp2
              have hwr2 := hwr
              try rw [hwr]
              exact ⟨⟨j + 1, v', D :: Ds, _, _, _, _, _, _, _, _, _, _, _, by have := HLT.out; omega, HN.out, rfl⟩, by first | exact bel_less HLT.out hwr | exact bel_less HLT.out rfl | exact bel_less HLT.out (by rw [hwr])⟩
        · have hltI : ¬ (j : Int) < (t.length : Int) := by omega
          obtain rfl : j = t.length := by omega
          have HI2 := Lib.hid hI
          clear hI
          go_wp2_with fail
          obtain ⟨va, vn, vc, rfl⟩ := owns_slice HI2.out.2.2.2.1
          go_wp2_with fail
          change LeavesInM _ _ _ _ _ _ _ _ _
          refine leaves_all Ds wr HI2.out.2.2.2.2.2.1 (fun D hD => (HI2.out.2.2.2.2.2.2 D hD).2) (fun W' hO => ?_)
          have hno : ∀ g, (Value.slice va vn vc).ownBlock = some g → g ∉ Ds := bel_apart HI2.out
          refine ⟨_, results_tmp rfl _ _ _, _, rfl, ?_, HI2.out.2.2.2.2.1.onlyS hO (fun k hk => by have := (HI2.out.2.2.2.2.2.2 k hk).1; have := HS3.out; have := HS1.out; omega)⟩
          rw [HE.out]
          exact owns_base (owns_only' HI2.out.2.2.2.1 hO hno) (by have := HS3.out; have := HS1.out; omega)

end Go.Proofs.YthooiofaicdhgaaGreatDoor
