/- The contract of precise.relation: a pair of classes, and all those on which it may hang. The keys of a relation's map, one by one in whatever order: the contract of the iterator that maps.Keys hands back; slices.AppendSeq and slices.Collect over it. -/
import Derived.Test.YthooiofaicdhgaaGreatDoorPal
import Derived.Test.YthooiofaicdhgaaGreatDoorRgw
import Derived.Test.YthooiofaicdhgaaGreatDoorLnr
import Derived.Test.YthooiofaicdhgaaGreatDoorRga
import Derived.RangeFuncSeq
import Derived.Sort.MapsRangeIn
import Derived.TacticsInMore
import Derived.RegionIn
import Derived.LoopNIn
import Derived.LoopIn
set_option linter.unusedSimpArgs false
set_option linter.unusedVariables false
set_option maxRecDepth 100000
namespace Go.Proofs.YthooiofaicdhgaaGreatDoor.Tab

theorem flat_leP {α β : Type} (f : α → List β) (n : Nat) : ∀ (r : List α), (∀ x ∈ r, (f x).length ≤ n) → (r.flatMap f).length ≤ r.length * n
  | [], _ => by simp
  | y :: r, h => by
    have h1 := flat_leP f n r fun x hx => h x (List.mem_cons_of_mem _ hx)
    have h2 := h y (List.mem_cons_self ..)
    rw [List.flatMap_cons, List.length_append, List.length_cons, Nat.add_mul]
    omega
theorem head_bd {t : List C} (hv : Valid t) {i : Nat} (hi : i < t.length) : (nth t i).fields.length ≤ 20 ∧ (nth t i).methods.length ≤ 20 ∧ ∀ m ∈ (nth t i).methods, m.params.length ≤ 8 := by
  have h := hv.head i hi
  unfold chkHead at h
  rw [if_pos (hv.cls hi)] at h
  by_cases h1 : (ix C.name (t.take i) (nth t i).name).isSome = true
  · rw [if_pos h1] at h; exact absurd h (by decide)
  · rw [if_neg h1] at h
    by_cases h2 : 20 < (nth t i).fields.length
    · rw [if_pos h2] at h; exact absurd h (by decide)
    · rw [if_neg h2] at h
      by_cases h3 : 20 < (nth t i).methods.length
      · rw [if_pos h3] at h; exact absurd h (by decide)
      · rw [if_neg h3] at h
        by_cases h4 : (nth t i).methods.any (fun m => decide (8 < m.params.length)) = true
        · rw [if_pos h4] at h; exact absurd h (by decide)
        · refine ⟨by omega, by omega, fun m hm => ?_⟩
          have h4' : ∀ m ∈ (nth t i).methods, m.params.length ≤ 8 := by simpa using h4
          exact h4' m hm
theorem foldA_len : ∀ (ms l : List M), (ms.foldl addM l).length ≤ ms.length + l.length
  | [], l => by simp
  | m :: r, l => by
    have h := foldA_len r (addM l m)
    have : (addM l m).length ≤ l.length + 1 := by
      unfold addM
      split <;> simp
    rw [List.foldl_cons, List.length_cons]
    omega
theorem mbs_len {t : List C} (hv : Valid t) (ht : t.length ≤ 40) (c : ByteArray) : (mbs t c).length ≤ 1600 := by
  have hl := line_short t c
  have h1 : (fields t c).length ≤ 800 := by
    unfold fields
    have := flat_leP (fun i => (nth t i).fields) 20 (line t c).reverse fun i hi => (head_bd hv (line_lt (List.mem_reverse.1 hi))).1
    rw [List.length_reverse] at this
    omega
  have h2 : (methods t c).length ≤ 800 := by
    unfold methods
    have h3 := flat_leP (fun i => (nth t i).methods) 20 (line t c).reverse fun i hi => (head_bd hv (line_lt (List.mem_reverse.1 hi))).2.1
    rw [List.length_reverse] at h3
    refine Nat.le_trans (foldA_len _ _) ?_
    simp only [List.length_nil]
    omega
  unfold mbs
  rw [List.length_append, List.length_map, List.length_map]
  omega
theorem mbs_types {t : List C} (hv : Valid t) (c : ByteArray) : ∀ x ∈ mbs t c, x.types.length ≤ 9 := by
  intro x hx
  unfold mbs at hx
  rcases List.mem_append.1 hx with hx | hx
  · obtain ⟨f, _, rfl⟩ := List.mem_map.1 hx
    unfold mbF; simp
  · obtain ⟨m, hm, rfl⟩ := List.mem_map.1 hx
    obtain ⟨i, hi, hm⟩ := methods_membP hm
    have := (head_bd hv hi).2.2 m hm
    unfold mbM
    simp
    omega
theorem Cl.zip_len {t : List C} {ls : ByteArray → List (Mb ByteArray)} (h : Cl t ls) (hv : Valid t) (ht : t.length ≤ 40) (s u : ByteArray) : (zipP (ls s) (ls u)).length ≤ 14400 := by
  cases hu : isC t u with
  | false =>
    rw [h.none u hu]
    unfold zipP; simp
  | true =>
    have hp := h.perm u hu
    have h1 := flat_leP (zip1 (ls s)) 9 (ls u) fun m hm => by
      have := mbs_types hv u m (hp.mem_iff.1 hm)
      unfold zip1
      split
      · exact Nat.le_trans (zipT_len _ _) this
      · simp
    have h2 := mbs_len hv ht u
    rw [← hp.length_eq] at h2
    unfold zipP
    omega
theorem Cl.need_len {t : List C} {ls : ByteArray → List (Mb ByteArray)} (h : Cl t ls) (hv : Valid t) (ht : t.length ≤ 40) (p : P2) : (Tab.need ls p).length ≤ 14400 := by
  unfold Tab.need zipR
  split
  · exact h.zip_len hv ht _ _
  · simp

/-- Pairs of classes that differ are no more than there are. -/
theorem pairs_le {t : List C} {D : List P2} (hn : D.Nodup) (hD : ∀ p ∈ D, both t p = true) : D.length ≤ t.length * t.length := by
  let N := t.map C.name
  let A := N.flatMap fun s => N.map fun u => (s, u)
  have hA : A.length = t.length * t.length := by
    show (List.flatMap _ _).length = _
    rw [List.length_flatMap]
    simp only [N, List.length_map, List.map_map, Function.comp_def, List.map_const']
    first | (rw [List.sum_replicate_nat]) | simp
  rw [← hA]
  refine List.Nodup.length_le_of_subset hn fun p hp => ?_
  have hb := hD p hp
  unfold both at hb
  simp only [Bool.and_eq_true] at hb
  obtain ⟨i, hi, e1⟩ := isC_at hb.1
  obtain ⟨k, hk, e2⟩ := isC_at hb.2
  have mem : ∀ i, i < t.length → (nth t i).name ∈ N := fun i hi => List.mem_map.2 ⟨nth t i, List.mem_of_getElem? (of_nth hi), rfl⟩
  refine List.mem_flatMap.2 ⟨p.1, e1 ▸ mem i hi, List.mem_map.2 ⟨p.2, e2 ▸ mem k hk, rfl⟩⟩

end Go.Proofs.YthooiofaicdhgaaGreatDoor.Tab

namespace Go.Proofs.YthooiofaicdhgaaGreatDoor
open Go.ChangeShapes Go.WideShapes Go.ChangeAt Go.RowKit Go.Shelf
open Go.Maps (Keyed)

theorem src_prs {w : World} {a : Option Addr} {c : Nat} {l : List Tab.P2} (h : PrsAt w (.slice a l.length c) l) : Src Tryz.prog 2 226 (.slice a l.length c) l.length (l.flatMap qCells) w := by
  obtain ⟨a', c', e, h1, h2, h3⟩ := h
  injection e with e1 _ e2
  subst e1 e2
  cases a with
  | none =>
    have : l = [] := by
      cases l with
      | nil => rfl
      | cons x r =>
        obtain ⟨_, _, e, _⟩ := h3 0 x rfl
        cases e
    subst this
    exact Src.ofNil _ Tryz.underlying226 c
  | some ad =>
    refine Src.ofSlice _ Tryz.underlying226 ad l.length c (l.flatMap qCells) (flat_len qCells qCells_len l) ?_ ?_
    · intro j v hv
      have hj : j < l.length * 2 := by
        have := (List.getElem?_eq_some_iff.1 hv).1
        rwa [flat_len qCells qCells_len l] at this
      have hx : l[j / 2]? = some l[j / 2] := List.getElem?_eq_getElem (by omega)
      obtain ⟨b, o, e, r0, r1, _⟩ := h3 _ _ hx
      injection e with e
      subst e
      have hf := flat_at qCells qCells_len l (j / 2) (j % 2) _ hx (Nat.mod_lt _ (by omega))
      have ej : j / 2 * 2 + j % 2 = j := by omega
      rw [ej, hv] at hf
      rw [addr_plain]
      rcases Nat.mod_two_eq_zero_or_one j with e | e
      · rw [e] at hf
        have : v = .string l[j / 2].1 := by simpa [qCells] using hf
        rw [this]
        have e2 : o + j / 2 * 2 = o + j := by omega
        rw [← e2]; exact r0
      · rw [e] at hf
        have : v = .string l[j / 2].2 := by simpa [qCells] using hf
        rw [this]
        have e2 : o + j / 2 * 2 + 1 = o + j := by omega
        rw [← e2]; exact r1
    · intro v hv
      obtain ⟨p, _, hp⟩ := List.mem_flatMap.1 hv
      simp [qCells] at hp
      rcases hp with rfl | rfl <;> rfl

/-- What one pair of a relation needs, in memory, whatever becomes of some blocks. -/
def NdAt (ls : ByteArray → List (Tab.Mb ByteArray)) (S : Nat → Prop) (W : World) (v : Value) (p : Tab.P2) : Prop :=
  ∃ a c k, v = .agg #[.bool (Tab.hsv ls p), .slice a (Tab.need ls p).length c, .int .i64 k] ∧ ∀ w'', Only S W w'' → PrsAt w'' (.slice a (Tab.need ls p).length c) (Tab.need ls p)
theorem NdAt.ndv {ls : ByteArray → List (Tab.Mb ByteArray)} {S : Nat → Prop} {W : World} {v : Value} {p : Tab.P2} (h : NdAt ls S W v p) : NdV v := by
  obtain ⟨a, c, k, e, _⟩ := h
  exact ⟨_, _, _, _, _, e⟩
theorem NdAt.step {ls : ByteArray → List (Tab.Mb ByteArray)} {S T : Nat → Prop} {W W' : World} {v : Value} {p : Tab.P2} (h : NdAt ls S W v p) (ho : Only S W W') (hT : ∀ k, k < W.heap.size → T k → S k) : NdAt ls T W' v p := by
  obtain ⟨a, c, k, e, q⟩ := h
  exact ⟨a, c, k, e, fun w'' hw => q w'' (ho.trans' hw hT)⟩
/-- What the loop may turn: the map, and the list's own row. -/
def SP (v : Value) (mb b : Nat) : Prop := b = mb ∨ v.ownBlock = some b

theorem MapP.map_at {b n : Nat} {D : List Tab.P2} {g : Tab.P2 → Value} {W : World} (h : MapP b n D g W) : ∃ es clock, W.heap[b]? = some (.map es clock) := by
  obtain ⟨d, ⟨es, clock, hb, _⟩, _⟩ := h
  exact ⟨es, clock, hb⟩
theorem row_ne_map {W : World} {base k n b : Nat} {e : TypeId} {v : Value} {xs : List Value} (h : W.ownsRow base e k v n xs) (hm : ∃ es clock, W.heap[b]? = some (.map es clock)) : v.ownBlock ≠ some b := by
  obtain ⟨es, clock, hm⟩ := hm
  rcases h.2 with ⟨rfl, _⟩ | ⟨g, cap, cur, rfl, _, hg, _⟩
  · simp [Value.ownBlock]
  · intro e
    obtain rfl : g = b := by simpa [Value.ownBlock] using e
    rw [hg] at hm
    cases hm
theorem row_lt {W : World} {base k n : Nat} {e : TypeId} {v : Value} {xs : List Value} (h : W.ownsRow base e k v n xs) {b : Nat} (hb : v.ownBlock = some b) : base ≤ b ∧ b < W.heap.size := by
  rcases h.2 with ⟨rfl, _⟩ | ⟨g, cap, cur, rfl, h1, hg, _⟩
  · simp [Value.ownBlock] at hb
  · obtain rfl : g = b := by simpa [Value.ownBlock] using hb
    exact ⟨h1, (Array.getElem?_eq_some_iff.1 hg).1⟩

structure ReI (t : List Tab.C) (ls : ByteArray → List (Tab.Mb ByteArray)) (asked : Tab.P2) (w : World) (mb i : Nat) (D todo : List Tab.P2) (g : Tab.P2 → Value) (v : Value) (wr : World) : Prop where
  row : wr.ownsRow w.heap.size 117 2 v todo.length (todo.flatMap qCells)
  map : MapP mb D.length D g wr
  kept : Kept w wr
  mbn : w.heap.size ≤ mb
  td : Tab.Todo t ls asked 14400 D todo i
  nd : ∀ p ∈ D, NdAt ls (SP v mb) wr (g p) p
  fine : ∀ p ∈ todo, Fine p

section
variable {t : List Tab.C} {ls : ByteArray → List (Tab.Mb ByteArray)} {asked : Tab.P2} {w : World} {mb i : Nat} {D todo : List Tab.P2} {g : Tab.P2 → Value} {v : Value} {wr : World}

theorem ReI.short (h : ReI t ls asked w mb i D todo g v wr) (ht : t.length ≤ 40) : todo.length ≤ 23040001 := by
  have h1 := h.td.len
  have h2 := Tab.pairs_le h.map.nodup fun p hp => h.td.have' p (h.td.from' p hp)
  have h3 : t.length * t.length ≤ 40 * 40 := Nat.mul_le_mul ht ht
  have h4 : 14400 * D.length ≤ 14400 * 1600 := Nat.mul_le_mul_left _ (by omega)
  omega
theorem ReI.few (h : ReI t ls asked w mb i D todo g v wr) (ht : t.length ≤ 40) : D.length ≤ 1600 := by
  have h2 := Tab.pairs_le h.map.nodup fun p hp => h.td.have' p (h.td.from' p hp)
  have h3 : t.length * t.length ≤ 40 * 40 := Nat.mul_le_mul ht ht
  omega
theorem ReI.keep (h : ReI t ls asked w mb i D todo g v wr) {W : World} (k : Kept wr W) : ReI t ls asked w mb i D todo g v W :=
  ⟨owns_only (S := fun _ => False) h.row (Only.of_kept k) (fun _ _ h => h), h.map.kept k, h.kept.trans k, h.mbn, h.td, fun p hp => (h.nd p hp).step (Only.of_kept k) (fun _ _ h => h), h.fine⟩
theorem ReI.skip (h : ReI t ls asked w mb i D todo g v wr) {p : Tab.P2} (hp : todo[i]? = some p) (hd : p ∈ D) : ReI t ls asked w mb (i + 1) D todo g v wr :=
  { h with td := h.td.skip hp hd }

/-- A pair more in the map: all but the list. -/
theorem ReI.store (h : ReI t ls asked w mb i D todo g v wr) {X w2 w3 : World} (hX : Kept wr X) (k2 : Kept wr w2) {p : Tab.P2} (hd : ¬ p ∈ D) {a : Option Addr} {c : Nat} {k : Int}
    (hz : ∀ w'', Only (fun k => k < X.heap.size) w2 w'' → PrsAt w'' (.slice a (Tab.need ls p).length c) (Tab.need ls p))
    (hm : MapP mb (D.length + 1) (D ++ [p]) (fun q => if q = p then .agg #[.bool (Tab.hsv ls p), .slice a (Tab.need ls p).length c, .int .i64 k] else g q) w3) (hg : w2.grownBy w3 (some mb)) :
    w3.ownsRow w.heap.size 117 2 v todo.length (todo.flatMap qCells) ∧ Kept w w3 ∧ (∀ q ∈ D ++ [p], NdAt ls (SP v mb) w3 ((fun q => if q = p then .agg #[.bool (Tab.hsv ls p), .slice a (Tab.need ls p).length c, .int .i64 k] else g q) q) q) := by
  have h2 := h.keep k2
  have ho : Only (· = mb) w2 w3 := (Only.refl _ w2).grown hg fun k e => by cases e; exact .inl rfl
  have hmlt := h.map.lt
  have hbl : ∀ b, SP v mb b → b < wr.heap.size := fun b hb => by
    rcases hb with rfl | hb
    · exact hmlt
    · exact (row_lt h.row hb).2
  refine ⟨owns_typed h2.row ho fun g cs fr e hc => ?_, h2.kept.onlyS ho fun k e => by rw [e]; exact h.mbn, fun q hq => ?_⟩
  · subst e
    obtain ⟨es, clock, hm⟩ := h2.map.map_at
    rw [hm] at hc
    cases hc
  · by_cases e : q = p
    · subst e
      refine ⟨a, c, k, by simp, fun w'' hw => hz w'' ?_⟩
      have hXs := hX.size
      refine (ho.mono fun b _ e => ?_).trans (hw.mono fun b _ e => ?_)
      · rw [e]; omega
      · have := hbl b e; omega
    · rcases List.mem_append.1 hq with hq | hq
      · simp only [e, if_false]
        exact (h2.nd q hq).step (ho.mono fun b _ e => .inl e) (fun _ _ h => h)
      · simp at hq; exact absurd hq e

/-- .. the list as it was. -/
theorem ReI.put (h : ReI t ls asked w mb i D todo g v wr) {w3 w4 : World} {g' : Tab.P2 → Value} {p : Tab.P2} (hp : todo[i]? = some p) (hlen : (Tab.need ls p).length ≤ 14400) (ha : (Tab.need ls p).all (Tab.both t) = false)
    (hr : w3.ownsRow w.heap.size 117 2 v todo.length (todo.flatMap qCells)) (hk : Kept w w3) (hn : ∀ q ∈ D ++ [p], NdAt ls (SP v mb) w3 (g' q) q) (hm : MapP mb (D.length + 1) (D ++ [p]) g' w3) (k4 : Kept w3 w4) :
    ReI t ls asked w mb (i + 1) (D ++ [p]) todo g' v w4 := by
  have ht := h.td.put hp hlen
  rw [ha] at ht
  exact ⟨owns_only (S := fun _ => False) hr (Only.of_kept k4) (fun _ _ h => h), by rw [List.length_append]; exact hm.kept k4, hk.trans k4, h.mbn, ht, fun q hq => (hn q hq).step (Only.of_kept k4) (fun _ _ h => h), h.fine⟩
/-- .. what is needed behind it. -/
theorem ReI.more (h : ReI t ls asked w mb i D todo g v wr) {w3 w4 w5 : World} {g' : Tab.P2 → Value} {p : Tab.P2} {v' : Value} (hp : todo[i]? = some p) (hlen : (Tab.need ls p).length ≤ 14400) (ha : (Tab.need ls p).all (Tab.both t) = true)
    (hr : w3.ownsRow w.heap.size 117 2 v todo.length (todo.flatMap qCells)) (hk : Kept w w3) (hn : ∀ q ∈ D ++ [p], NdAt ls (SP v mb) w3 (g' q) q) (hm : MapP mb (D.length + 1) (D ++ [p]) g' w3) (k4 : Kept w3 w4) (hF : ∀ q ∈ Tab.need ls p, Fine q)
    (hown : w5.ownsRow w.heap.size 117 2 v' (todo.length + (Tab.need ls p).length) (todo.flatMap qCells ++ (Tab.need ls p).flatMap qCells)) (hg : w4.grownBy w5 v.ownBlock) (hl : v'.ownBlock = v.ownBlock ∨ v'.ownBlock = some w4.heap.size) :
    ReI t ls asked w mb (i + 1) (D ++ [p]) (todo ++ Tab.need ls p) g' v' w5 := by
  have ht := h.td.put hp hlen
  rw [ha, if_pos rfl] at ht
  have hr4 := owns_only (S := fun _ => False) hr (Only.of_kept k4) (fun _ _ h => h)
  have hm4 := hm.kept k4
  have ho : Only (fun b => v.ownBlock = some b) w4 w5 := (Only.refl _ w4).grown hg fun k e => .inl e
  refine ⟨by rw [List.length_append, List.flatMap_append]; exact hown, ?_, (hk.trans k4).onlyS ho fun k e => (row_lt hr4 e).1, h.mbn, ht, fun q hq => ?_, fun q hq => ?_⟩
  · rw [List.length_append]
    exact hm4.only ho (row_ne_map hr4 hm4.map_at)
  · have h4 : NdAt ls (SP v mb) w4 (g' q) q := (hn q hq).step (Only.of_kept k4) (fun _ _ h => h)
    refine h4.step (ho.mono fun b _ e => .inr e) fun k hk e => ?_
    rcases e with e | e
    · exact .inl e
    · rcases hl with hl | hl
      · exact .inr (hl ▸ e)
      · rw [hl] at e
        injection e with e
        omega
  · rcases List.mem_append.1 hq with hq | hq
    · exact h.fine q hq
    · exact hF q hq
end

/-- What relation answers. -/
def ReOut (t : List Tab.C) (ls : ByteArray → List (Tab.Mb ByteArray)) (asked : Tab.P2) (w : World) (e : Ending) (w' : World) : Prop :=
  ∃ mb D g, e = .returned (.map (some mb)) ∧ MapP mb D.length D g w' ∧ Tab.Rel t ls D ∧ asked ∈ D ∧ Kept w w' ∧ w.heap.size ≤ mb ∧ ∀ p ∈ D, NdAt ls (· = mb) w' (g p) p
theorem ReI.out {t : List Tab.C} {ls : ByteArray → List (Tab.Mb ByteArray)} {asked : Tab.P2} {w : World} {mb : Nat} {D todo : List Tab.P2} {g : Tab.P2 → Value} {v : Value} {wr : World} (h : ReI t ls asked w mb todo.length D todo g v wr) (hc : Tab.Cl t ls) : ReOut t ls asked w (.returned (.map (some mb))) wr := by
  obtain ⟨h1, h2⟩ := h.td.end hc
  exact ⟨mb, D, g, rfl, h.map, h1, h2, h.kept, h.mbn, fun p hp => (h.nd p hp).step (Only.refl _ _) (fun k _ e => .inl e)⟩

theorem ReI.start {t : List Tab.C} {ls : ByteArray → List (Tab.Mb ByteArray)} {s u : ByteArray} {w : World} (hb : Tab.both t (s, u) = true) (hF : Fine (s, u)) (g : Tab.P2 → Value) :
    ReI t ls (s, u) w (w.heap.size + 1) 0 [] [(s, u)] g (.slice (some ⟨w.heap.size + 1 + 1, 0, none⟩) 1 1) (((w.alloc (.cells #[.string s, .string u] 117)).alloc (.map #[] 0)).alloc (.cells #[.string s, .string u] 117)) := by
  have hm := MapP.made (w.alloc (.cells #[.string s, .string u] 117)) g
  rw [World.size_alloc] at hm
  have hn := heap_alloc_new ((w.alloc (.cells #[.string s, .string u] 117)).alloc (.map #[] 0)) (.cells #[.string s, .string u] 117)
  rw [World.size_alloc, World.size_alloc] at hn
  exact ⟨⟨rfl, .inr ⟨w.heap.size + 1 + 1, 1, _, rfl, by omega, hn, Nat.le_refl _, by unfold maxLen; omega, rfl, rfl⟩⟩, hm.kept ((Kept.refl _).alloc _), (((Kept.refl w).alloc _).alloc _).alloc _, by omega, Tab.Todo.start hb, fun p hp => (by cases hp), fun p hp => (by simp at hp; subst hp; exact hF)⟩

theorem row_pair {w : World} {base g n c : Nat} {l : List Tab.P2} (h : w.ownsRow base 117 2 (.slice (some ⟨g, 0, none⟩) n c) l.length (l.flatMap qCells)) {j : Nat} {p : Tab.P2} (hp : l[j]? = some p) : w.cell? ⟨g, j * 2, none⟩ = some (.string p.1) ∧ w.cell? ⟨g, j * 2 + 1, none⟩ = some (.string p.2) := by
  have c0 := h.cells (g := g) rfl _ _ (flat_at qCells qCells_len l j 0 p hp (by omega))
  have c1 := h.cells (g := g) rfl _ _ (flat_at qCells qCells_len l j 1 p hp (by omega))
  rw [addr_plain] at c0 c1
  exact ⟨by simpa using c0, by simpa using c1⟩
theorem enters_have (args : Array Value) (w : World) : (callFunc 158 args).run Tryz.prog w = .ok (.enter 158 args) w := enters_of Tryz.func158 (by kernel_rfl) rfl args w
theorem enters_hasP (args : Array Value) (w : World) : (callFunc 161 args).run Tryz.prog w = .ok (.enter 161 args) w := enters_of Tryz.func161 (by kernel_rfl) rfl args w

set_option maxHeartbeats 8000000 in
theorem relation_c (t : List Tab.C) (ls : ByteArray → List (Tab.Mb ByteArray)) (cb : Nat) (s u : ByteArray) (w : World) (hc : Tab.Cl t ls) (hv : Tab.Valid t) (ht : t.length ≤ 40) (hC : ClM t ls cb w) (hF : Fine (s, u)) (hb : Tab.both t (s, u) = true) :
    Calls Tryz.prog 159 #[.map (some cb), .agg #[.string s, .string u]] w fun e w' => ReOut t ls (s, u) w e w' := by
  obtain ⟨i0, hi, hz0, hzz1, hzz2⟩ := info_parts info_pr
  have hmm := @run_makeMap Tryz.prog
  have HST := Lib.hid (ReI.start (t := t) (ls := ls) (w := w) hb hF fun _ => undef)
  have HC := Lib.hid hC
  clear hC hF hb
  go_enter Tryz.func159, Tryz.ntmps159
  go_wp2_with fail
  clear hmm
  go_loopw [6, 7] (fun l q wr => ∃ (i : Nat) (D todo : List Tab.P2) (g : Tab.P2 → Value), q = .int .i64 i ∧ i ≤ todo.length ∧ ReI t ls (s, u) w (w.heap.size + 1) i D todo g l wr) (fun l q wr => 30000000 - (intOf q).toNat)
  case atStart => exact ⟨0, [], [(s, u)], _, rfl, Nat.zero_le _, HST.out⟩
  case round =>
    obtain ⟨i, D, todo, g, rfl, hi', hI⟩ := hrel
    obtain ⟨wo, rfl⟩ : ∃ wo, wo = wr := ⟨_, rfl⟩
    have HI := Lib.hid hI
    have hshort := hI.short ht
    obtain ⟨la, lc, rfl⟩ := owns_slice_n hI.row
    have hlc : todo.length ≤ lc ∧ lc ≤ maxLen := by
      rcases hI.row.2 with ⟨h0, h1⟩ | ⟨_, _, _, hv', _, _, h3, h4, _⟩
      · injection h0 with _ e2 e3
        rw [e2, e3]; exact ⟨Nat.le_refl _, Nat.zero_le _⟩
      · injection hv' with _ _ e3
        rw [e3]; exact ⟨h3, h4⟩
    by_cases hlt : i < todo.length
    · have hltI : (i : Int) < (todo.length : Int) := by omega
      have hx : todo[i]? = some todo[i] := List.getElem?_eq_getElem hlt
      generalize todo[i] = p at hx
      obtain ⟨p1, p2⟩ := p
      have hpF := hI.fine _ (List.mem_of_getElem? hx)
      have hpb := hI.td.have' _ (List.mem_of_getElem? hx)
      obtain ⟨gb, rfl, _⟩ := row_cells hI.row (by omega)
      obtain ⟨c0, c1⟩ := row_pair hI.row hx
      have HX := Lib.hid hx
      have HKp := Lib.hid ((Kept.refl wo).alloc (.cells #[.string p1, .string p2] 117))
      have HB := Lib.hid (Blk.new wo 117 #[.string p1, .string p2])
      have HH := Lib.hid (hasP_c (w.heap.size + 1) D.length D g p1 p2 _ ((hI.map).kept HKp.out) hpF fun q hq => (hI.nd q hq).ndv)
      have HPF := Lib.hid hpF
      clear hI hx
      cases hin : Tab.inP D (p1, p2) with
      | true =>
        rw [hin] at HH
        have HD := Lib.hid (Tab.inP_iff.1 hin)
        go_wp2_with fail
        refine HH.out.mono ?_
        rintro e w1 ⟨rfl, k1⟩
        have HN := Lib.hid ((HI.out.keep (HKp.out.trans k1)).skip HX.out HD.out)
        clear k1
        go_wp2_with fail
        go_roundw
        case rel => exact ⟨i + 1, D, todo, g, by go_num, by omega, HN.out⟩
        case measure => simp [intOf]; omega
      | false =>
        rw [hin] at HH
        have HD := Lib.hid (Tab.inP_no.1 hin)
        have HDN := Lib.hid hin
        go_wp2_with fail
        refine HH.out.mono ?_
        rintro e w1 ⟨rfl, k1⟩
        have hB1 := HB.out.kept k1
        have r0 := hB1.cell 0
        have r1 := hB1.cell 1
        simp only [List.getElem?_toArray, List.getElem?_cons_zero, List.getElem?_cons_succ] at r0 r1
        have HK1 := Lib.hid (HKp.out.trans k1)
        have HKW := Lib.hid (HI.out.kept.trans (HKp.out.trans k1))
        obtain ⟨a1, cc1, hl1, hm1⟩ := (HC.out.kept HKW.out).look1 hc HPF.out.1
        obtain ⟨a2, cc2, hl2, hm2⟩ := (HC.out.kept HKW.out).look1 hc HPF.out.2
        have HZ := Lib.hid (zip_c (ls p1) (ls p2) a1 a2 cc1 cc2 w1 hm1 hm2 (hc.asc _) (hc.asc _) (hc.tl _) (hc.tl _) (Nat.le_trans (hc.zip_len hv ht p1 p2) (by omega)))
        have HB1 := Lib.hid hB1
        clear k1 hB1 hm1 hm2 hin c0 c1
        go_wp2_with fail
        refine HZ.out.mono ?_
        rintro e w2 ⟨za, zc, rfl, hz, k2⟩
        have hB2 := HB1.out.kept k2
        have s0 := hB2.cell 0
        have s1 := hB2.cell 1
        simp only [List.getElem?_toArray, List.getElem?_cons_zero, List.getElem?_cons_succ] at s0 s1
        have HK2 := Lib.hid (HK1.out.trans k2)
        have hmlt : w.heap.size + 1 < w1.heap.size := Nat.lt_of_lt_of_le HI.out.map.lt HK1.out.size
        obtain ⟨w3, hup, hm', hg'⟩ := (HI.out.map.kept HK2.out).store (t := 190) (e := 230) Tryz.underlying190 (by have := HI.out.few ht; unfold maxLen; omega) HPF.out HDN.out (.agg #[.bool (Tab.hsv ls (p1, p2)), .slice za (Tab.need ls (p1, p2)).length zc, .int .i64 (i : Int)])
        have ho3 : Only (fun k => k < w1.heap.size) w2 w3 := (Only.refl _ w2).grown hg' fun k e => by cases e; exact .inl hmlt
        obtain ⟨q1, q2, q3⟩ := HI.out.store HK1.out HK2.out HD.out hz hm' hg'
        have hup' : (Instr.mapUpdate 190 (.map (some (w.heap.size + 1))) (.agg #[.string p1, .string p2]) (.agg #[.bool (Tab.hasB (ls p1) (ls p2)), .slice za (Tab.zipR (ls p1) (ls p2)).length zc, .int .i64 (i : Int)])).run Tryz.prog w2 = .ok () w3 := hup
        have HZ3 := Lib.hid (fun w'' (h : Only (fun k => k < w1.heap.size) w3 w'') => hz w'' (ho3.trans h))
        have HA := Lib.hid (all_c 158 (.map (some cb)) (Tab.both t) w3 enters_have (fun s u W hF kW => have_c t ls cb s u W ((HC.out.kept q2).kept kW) hF.1 hF.2) (Tab.zipR (ls p1) (ls p2)) za zc w3 (HZ3.out w3 (Only.refl _ _)) (Kept.refl _))
        have HM3 := Lib.hid hm'
        have HR3 := Lib.hid q1
        have HK3 := Lib.hid q2
        have HN3 := Lib.hid q3
        have HLN := Lib.hid (hc.need_len hv ht (p1, p2))
        clear hz k2 hB2 hup hm' hg' q1 q2 q3 ho3 hmlt
        cases hal : (Tab.zipR (ls p1) (ls p2)).all (Tab.both t) with
        | false =>
          rw [hal] at HA
          have HAL := Lib.hid (show (Tab.need ls (p1, p2)).all (Tab.both t) = false from hal)
          clear hal
          go_wp2_with fail
          refine HA.out.mono ?_
          rintro e w4 ⟨rfl, k4⟩
          have HE := Lib.hid (HI.out.put HX.out HLN.out HAL.out HR3.out HK3.out HN3.out HM3.out k4)
          clear k4
          go_wp2_with fail
          go_roundw
          case rel => exact ⟨i + 1, _, todo, _, by go_num, by omega, HE.out⟩
          case measure => simp [intOf]; omega
        | true =>
          rw [hal] at HA
          have HAL := Lib.hid (show (Tab.need ls (p1, p2)).all (Tab.both t) = true from hal)
          clear hal
          go_wp2_with fail
          refine HA.out.mono ?_
          rintro e w4 ⟨rfl, k4⟩
          have HK4 := Lib.hid k4
          have HR4 := Lib.hid (owns_only (S := fun _ => False) HR3.out (Only.of_kept k4) (fun _ _ h => h))
          have HZ4 := Lib.hid (HZ3.out w4 (Only.of_kept k4))
          have HS4 := Lib.hid (src_prs HZ4.out)
          have HLM : (Tab.zipR (ls p1) (ls p2)).length ≤ 14400 := HLN.out
          have hws := (HK3.out.trans k4).size
          clear k4
          go_wp2_with (at_builtin; refine wpList_apk rfl (.tmp 49) (.tmp 50) 226 226 rfl w.heap.size 2 117 i0 _ 32 Tryz.underlying226 hi hz0 hzz1 hzz2 rfl rfl HR4.out rfl HS4.out (by unfold maxLen; omega) (by omega) hws ?_; intro v' w5 hown' hgrow hlies; have HE := Lib.hid (HI.out.more HX.out HLN.out HAL.out HR3.out HK3.out HN3.out HM3.out HK4.out (Row.fine HZ4.out) hown' hgrow hlies); obtain ⟨va', vn', vc', rfl⟩ := owns_slice hown'; clear hown' hgrow hlies)
          go_roundw
          case rel => exact ⟨i + 1, _, _, _, by go_num, by rw [List.length_append]; omega, HE.out⟩
          case measure => simp [intOf]; omega
    · have hltI : ¬ (i : Int) < (todo.length : Int) := by omega
      obtain rfl : i = todo.length := by omega
      have HO := Lib.hid (HI.out.out hc)
      clear hI
      go_wp2_with fail
      go_ret
      exact HO.out

end Go.Proofs.YthooiofaicdhgaaGreatDoor

namespace Go.Proofs.YthooiofaicdhgaaGreatDoor
open Go.ChangeShapes Go.WideShapes Go.ChangeAt Go.RowKit Go.Shelf
open Go.Maps (Keyed)
attribute [local go_sem] Oper.semAt_some

theorem ranges_only {H : Type} {P : Program} {k : TypeId} {R : Value → Option (DataW H × List MemPlace)} {w w' : World} {b r n : Nat} {D : DataW H} {left : Lit → Bool} {cnt : Nat} {S : Nat → Prop}
    (h : w.ranges P k R b r n D left cnt) (ho : Only S w w') (hb : ¬ S b) (hr : ¬ S r) : w'.ranges P k R b r n D left cnt := by
  obtain ⟨es, clock, since, seen, c0, h1, F, hs, hD, h2, rest⟩ := h
  exact ⟨es, clock, since, seen, c0, ho.same h1 hb, F, hs, hD, ho.same h2 hr, rest⟩

/-- The keys so far. -/
def CollP (D : List Tab.P2) (left : Lit → Bool) (ss : List Tab.P2) : Prop := ss.Nodup ∧ (∀ p ∈ ss, Fine p) ∧ ∀ p, Fine p → (p ∈ ss ↔ (p ∈ D ∧ left (kl p) = false))
theorem CollP.start {b n : Nat} {D : List Tab.P2} {g : Tab.P2 → Value} {d : DataW Value} (h : ∀ p, Fine p → Maps.has d (kl p) = Tab.inP D p) : CollP D (Maps.has d) [] :=
  ⟨List.nodup_nil, fun p h => (by cases h), fun p hp => by
    rw [h p hp, Tab.inP_no]
    simp⟩
theorem CollP.step {D : List Tab.P2} {left : Lit → Bool} {ss : List Tab.P2} (h : CollP D left ss) {p : Tab.P2} (hp : Fine p) (hd : p ∈ D) (hl : left (kl p) = true) : CollP D (fun z => left z && !z.sameKey (kl p)) (ss ++ [p]) := by
  have hnew : ¬ p ∈ ss := fun hx => by have := ((h.2.2 p hp).1 hx).2; rw [hl] at this; cases this
  refine ⟨List.nodup_append.2 ⟨h.1, by simp, fun a ha b hb => by simp at hb; subst hb; exact fun e => hnew (e ▸ ha)⟩, fun q hq => ?_, fun q hq => ?_⟩
  · rcases List.mem_append.1 hq with hq | hq
    · exact h.2.1 q hq
    · simp at hq; subst hq; exact hp
  · by_cases e : q = p
    · subst e
      have hs : (kl q).sameKey (kl q) = true := WideAt.sameKey_self kl_isKey
      show q ∈ ss ++ [q] ↔ (q ∈ D ∧ (left (kl q) && !(kl q).sameKey (kl q)) = false)
      rw [hs]
      simp [hd]
    · have hk : (kl q).sameKey (kl p) = false := Maps.sameKey_ne fun h => e (kl_inj hq hp h)
      show q ∈ ss ++ [p] ↔ (q ∈ D ∧ (left (kl q) && !(kl q).sameKey (kl p)) = false)
      rw [hk]
      simp [h.2.2 q hq, e]
theorem CollP.end {D : List Tab.P2} {left : Lit → Bool} {ss : List Tab.P2} (h : CollP D left ss) (hn : D.Nodup) (hF : ∀ p ∈ D, Fine p) (hl : ∀ z, left z = false) : ss.Perm D := by
  refine (List.perm_ext_iff_of_nodup h.1 hn).2 fun p => ⟨fun hp => ((h.2.2 p (h.2.1 p hp)).1 hp).1, fun hp => (h.2.2 p (hF p hp)).2 ⟨hp, hl _⟩⟩

/-- What the body is told of the keys so far. -/
def KeyG (D : List Tab.P2) (pre : List Tab.P2) : Prop := pre.Nodup ∧ ∀ p ∈ pre, p ∈ D
theorem CollP.keyG {D : List Tab.P2} {left : Lit → Bool} {ss : List Tab.P2} (h : CollP D left ss) : KeyG D ss := ⟨h.1, fun p hp => ((h.2.2 p (h.2.1 p hp)).1 hp).1⟩
theorem KeyG.le {D pre : List Tab.P2} (h : KeyG D pre) : pre.length ≤ D.length := List.Nodup.length_le_of_subset h.1 h.2

def kEnc (p : Tab.P2) : Array Value := #[.agg #[.string p.1, .string p.2]]

set_option maxHeartbeats 4000000 in
theorem keys1_own (n : Nat) (hn : 1 ≤ n) (b nn Bm : Nat) (D : List Tab.P2) (g : Tab.P2 → Value) (U : Nat → Prop) (W1 : World) (hM : MapP b nn D g W1) (hbm : Blk W1 Bm 190 #[.map (some b)])
    (hU : ∀ k, U k → k ≠ b ∧ k ≠ W1.heap.size) (hb : b + 1 < W1.heap.size) :
    SeqOwn Fence.wide n Tryz.prog 258 #[.pointer (some ⟨Bm, 0, none⟩)] kEnc (fun _ => False) U (fun xs => xs.Perm D) (fun _ => True) (KeyG D) 1 W1 := by
  intro l J Jx hl abJ abX hY hJ0
  have HM := hM
  obtain ⟨d, hown, hsz, hnd, hfine, hhas, hat0⟩ := hM
  have c0 := hbm.cell 0
  simp at c0
  have HY := Lib.hid hY
  have HJ := Lib.hid abJ
  have HHAS := Lib.hid hhas
  have HFI := Lib.hid hfine
  have HU := Lib.hid hU
  clear hY abJ hat0 hU hhas hfine
  refine callsIn_of_wp Tryz.func258 rfl trivial ?_ rfl
  simp only [Tryz.ntmps258, List.size_toArray, List.length_cons, List.length_nil, Nat.reduceAdd, Nat.reduceSub, Array.replicate_succ, Array.replicate_zero, List.push_toArray, List.append_toArray, List.nil_append, List.cons_append]
  gi_wp2_with (first
    | (gi_at_range; refine wpListIn_range_own _ rfl _ 190 rfl 117 230 pair_law Tryz.underlying190 _ b nn _ rfl hown ?_; intro w0 hrg0 hg0 hs0)
    | gi_in)
  try go_frame
  gi_loopw [3] (fun _ wr => ∃ (left : Lit → Bool) (cnt : Nat) (ss : List Tab.P2), wr.ranges Tryz.prog 117 selfElem b W1.heap.size nn d left cnt ∧ CollP D left ss ∧ J ss wr ∧ W1.heap.size + 1 ≤ wr.heap.size)
    (fun _ wr => wr.rangeLeft b W1.heap.size)
  case atStart => exact ⟨_, _, [], hrg0, CollP.start (b := b) (n := nn) (g := g) HHAS.out, HJ.out _ _ _ hJ0 ((Only.refl _ _).grown hg0 fun k e => by cases e), by omega⟩
  case round =>
    obtain ⟨left, cnt, ss, hrg, hC, hJs, hsw⟩ := hrel
    gi_wp2_with (first
      | (gi_at_next; refine wpListIn_next_ranges _ rfl _ rfl 117 pair_law selfElem (fun p : Tab.P2 => (.agg #[.string p.1, .string p.2] : Value)) id (fun key kl' hk => by obtain ⟨x, hx, _⟩ := keyOf_inv hk; exact ⟨x, hx⟩) (fun v _ _ => ⟨v, rfl⟩) b W1.heap.size nn _ _ _ rfl hrg ?_ ?_)
      | gi_in)
    · intro hc0 hl0
      gi_wp2
      go_end0
      exact ⟨⟨_, rfl⟩, .inl ⟨ss, hC.end hnd HFI.out hl0, hJs⟩⟩
    · intro x1 x2 c kl' yd yp w2 cnt2 hkey hlk hv hat hrg2 hlt hg2 hs2 hen
      obtain ⟨p, hp, hF⟩ := keyOf_inv hkey
      have ep : p = (x1, x2) := by
        obtain ⟨p1, p2⟩ := p
        simp at hp
        rw [hp.1, hp.2]
      subst ep
      have ekl : kl' = kl (x1, x2) := Option.some.inj (hkey.symm.trans (keyOf_pair hF))
      subst ekl
      have hxD : (x1, x2) ∈ D := Tab.inP_iff.1 (by rw [← HHAS.out _ hF]; exact Maps.has_true_of_atKey hat)
      have HC2 := Lib.hid (hC.step hF hxD hlk)
      have ho2 : Only (fun k => False ∨ W1.heap.size ≤ k ∧ k < W1.heap.size + 1) wr (w2.alloc (.cells #[.string x1, .string x2] 117)) := ((Only.refl _ wr).grown hg2 fun k e => by cases e; exact .inl (.inr ⟨Nat.le_refl _, by omega⟩)).alloc _
      have HJ2 := Lib.hid (HJ.out _ _ _ hJs ho2)
      have HR2 := Lib.hid (hrg2.alloc (.cells #[.string x1, .string x2] 117))
      have HLT := Lib.hid (show cnt2 < wr.rangeLeft b W1.heap.size by rw [hrg.left_eq]; exact hlt)
      obtain ⟨fn, tmps, assign, body, hy, hR⟩ := HY.out ss (x1, x2) _ HJ2.out HC2.out.keyG (by rw [World.size_alloc]; omega)
      have hy' : (Instr.yield l #[.agg #[.string x1, .string x2]]).run Tryz.prog (w2.alloc (.cells #[.string x1, .string x2] 117)) = .ok (.round l fn tmps assign body) (w2.alloc (.cells #[.string x1, .string x2] 117)) := hy
      have hen' : (Instr.entry (.pointer (some ⟨W1.heap.size, 0, none⟩))).run Tryz.prog w2 = .ok (.tuple #[.agg #[.string x1, .string x2], c]) w2 := hen
      have hsz2 : W1.heap.size + 1 ≤ (w2.alloc (.cells #[.string x1, .string x2] 117)).heap.size := by rw [World.size_alloc]; omega
      clear hy hen hs2 hg2 hrg2 hrg hC hJs ho2 hat hkey hlk hp hv hlt hxD
      gi_wp2
      refine hR.mono ?_
      rintro e W4 (⟨rfl, hJ4, ho4⟩ | ⟨rfl, hX4⟩)
      · have HR4 := Lib.hid (ranges_only HR2.out ho4 (fun h => by rcases h with h | h; exact (HU.out _ h).1 rfl; omega) (fun h => by rcases h with h | h; exact (HU.out _ h).2 rfl; omega))
        have HJ4 := Lib.hid hJ4
        have HS4 := Lib.hid (Nat.le_trans hsz2 ho4.size)
        clear hJ4 ho4
        gi_wp2
        go_roundw
        case rel => exact ⟨_, cnt2, ss ++ [(x1, x2)], HR4.out, HC2.out, HJ4.out, HS4.out⟩
        case measure => rw [HR4.out.left_eq]; exact HLT.out
      · gi_wp2
        refine bodyPost_ret (results_none rfl _ _ _) rfl ?_
        exact ⟨⟨_, rfl⟩, .inr ⟨_, trivial, hX4⟩⟩

def keyW (p : Tab.P2) (W : World) : World := W.alloc (.cells #[.string p.1, .string p.2] 117)
theorem keyW_kept (p : Tab.P2) (W : World) : Kept W (keyW p W) := (Kept.refl W).alloc _

/-- Within AppendSeq's loop: the keys so far. -/
def KyI (w : World) (pre : List Tab.P2) (W : World) : Prop :=
  (∃ v, Blk W w.heap.size 226 #[v] ∧ W.ownsRow (w.heap.size + 4) 117 2 v pre.length (pre.flatMap qCells)) ∧ Kept w W

theorem appended_only2 {W w1 : World} {B n₁ n m : Nat} {v v' : Value} {xs ys : List Value} (hv : Blk W B 226 #[v]) (hrow : W.ownsRow n₁ 117 2 v n xs) (hN : n₁ ≤ W.heap.size) (hB : B < n₁)
    (hown : w1.ownsRow n₁ 117 2 v' m ys) (hg : W.grownBy w1 v.ownBlock) :
    Blk w1 B 226 #[v] ∧ Blk (w1.setCell ⟨B, 0, none⟩ v') B 226 #[v'] ∧ (w1.setCell ⟨B, 0, none⟩ v').ownsRow n₁ 117 2 v' m ys ∧ Only (fun k => k = B ∨ n₁ ≤ k) W (w1.setCell ⟨B, 0, none⟩ v') := by
  have hb1 : Blk w1 B 226 #[v] := hv.grownBy hg (ne_row_blk hv (by decide) hrow)
  refine ⟨hb1, hb1.put 0 v', owns_only hown ((Only.refl (· = B) w1).put 0 v') (fun g hg' e => by omega), ?_⟩
  have h1 : Only (fun k => k = B ∨ n₁ ≤ k) W w1 := (Only.refl _ W).grown hg fun k e => .inl (.inr (row_lt hrow e).1)
  exact h1.trans (((Only.refl (· = B) w1).put 0 v').mono fun k _ e => .inl e)

theorem pair_new (W : World) (p1 p2 : ByteArray) : ∀ (j : Nat) (v : Value), [Value.string p1, .string p2][j]? = some v → (W.alloc (.cells #[.string p1, .string p2] 117)).cell? ((⟨W.heap.size, 0, none⟩ : Addr).add j) = some v := by
  intro j v hv
  rw [addr_plain, (Blk.new W _ _).cell, Nat.zero_add]
  simpa using hv

set_option maxHeartbeats 4000000 in
theorem appkeys_c (b nn Bm : Nat) (D : List Tab.P2) (g : Tab.P2 → Value) (w : World) (hM : MapP b nn D g w) (hbm : Blk w Bm 190 #[.map (some b)]) (hD : D.length ≤ 1000000) :
    Calls Tryz.prog 275 #[.slice none 0 0, .func (.func 258) #[] #[.pointer (some ⟨Bm, 0, none⟩)]] w fun e w' =>
      ∃ (v : Value) (ps : List Tab.P2), e = .returned v ∧ ps.Perm D ∧ w'.ownsRow (w.heap.size + 4) 117 2 v ps.length (ps.flatMap qCells) ∧ Kept w w' := by
  obtain ⟨i0, hi, hz0, hzz1, hzz2⟩ := info_parts info_pr
  refine (callsIn_wide (n := 3)).1 (callsIn_of_wp_marks Tryz.func275 rfl trivial (wpIn_wide.2 ?_) rfl)
  simp only [Tryz.ntmps275, List.size_toArray, List.length_cons, List.length_nil, Nat.reduceAdd, Nat.reduceSub, Array.replicate_succ, Array.replicate_zero, List.push_toArray, List.append_toArray, List.nil_append, List.cons_append]
  go_wp2_with fail
  have hk0 : Kept w (w.alloc (.cells #[.slice none 0 0] 226)) := (Kept.refl w).alloc _
  have b0 := Blk.new w 226 #[.slice none 0 0]
  have l1 := hM.lt
  have l2 := hbm.lt
  obtain ⟨W0, hW0⟩ : ∃ W0, w.alloc (.cells #[.slice none 0 0] 226) = W0 := ⟨_, rfl⟩
  have hsz : W0.heap.size = w.heap.size + 1 := by rw [← hW0]; simp
  rw [hW0] at hk0 b0 ⊢
  have hUU : ∀ k, (k = w.heap.size ∨ w.heap.size + 4 ≤ k) → k ≠ b ∧ k ≠ W0.heap.size + 2 := fun k h => by omega
  refine wpIn_wide.1 (wpIn_rangeFunc_ownA (F := Fence.wide) (n := 3) rfl (by omega) rfl trivial (enters_of Tryz.func258 (by kernel_rfl) rfl)
    (It := fun _ => False) (U := fun k => k = w.heap.size ∨ w.heap.size + 4 ≤ k) (S := fun xs => xs.Perm D) (Sp := fun _ => True) (G := KeyG D) (m := 1) (encs := kEnc)
    (fun W1 hk1 hs1 => keys1_own (3 - 1) (by omega) b nn Bm D g (fun k => k = w.heap.size ∨ w.heap.size + 4 ≤ k) W1 (hM.kept (hk0.trans hk1)) (hbm.kept (hk0.trans hk1)) (fun k h => by have := hUU k h; omega) (by omega))
    (fun k e => e.elim) (fun k h => by rcases h with h | h <;> omega) (fun _ => rfl)
    (KyI w) (fun _ _ _ => False) ?hI (fun _ _ _ _ h _ => h) ⟨⟨_, b0, World.ownsRow_nil _ _ _ _⟩, hk0⟩
    (fun p W => { tmps := #[.slice none 0 0, .func (.func 258) #[] #[.pointer (some ⟨Bm, 0, none⟩)], .pointer (some ⟨w.heap.size, 0, none⟩), undef, .slice none 0 0, .pointer (some ⟨W.heap.size, 0, none⟩), .func (.func 258) #[] #[.pointer (some ⟨Bm, 0, none⟩)], .agg #[.string p.1, .string p.2], undef, undef, undef, undef, undef], defers := [] }) keyW keyW_kept ?assign ?body ?done ?stop)
  case hI =>
    rintro pre A B ⟨⟨v, h1, h2⟩, h4⟩ ho
    exact ⟨⟨v, Blk.only h1 ho (by rintro (h | h) <;> omega), owns_only h2 ho (fun g hg h => by rcases h with h | h <;> omega)⟩, h4.onlyS ho (fun k h => by rcases h with h | h; exact h.elim; omega)⟩
  case assign =>
    intro l p W K hK
    unfold keyW at hK
    simp only [kEnc]
    gi_wp2
    exact hK
  case body =>
    rintro l pre ⟨p1, p2⟩ Wa W rfl hlW hoW ⟨r, hr⟩ ⟨⟨v, hv, hrow⟩, hKp⟩ hpre hsize
    have hlen : pre.length ≤ 1000000 := by
      have h1 := hpre.le
      simp at h1
      omega
    have hc := hv.cell 0
    simp at hc
    have hN : w.heap.size + 4 ≤ W.heap.size := by omega
    have hbp : Blk W Wa.heap.size 117 #[.string p1, .string p2] := (Blk.new Wa 117 #[.string p1, .string p2]).only hoW (by omega)
    have d0 := hbp.cell 0
    have d1 := hbp.cell 1
    simp only [List.getElem?_toArray, List.getElem?_cons_zero, List.getElem?_cons_succ] at d0 d1
    have HSX := Lib.hid (src_pr W p1 p2)
    have HV := Lib.hid hv
    have HROW := Lib.hid hrow
    have HKP := Lib.hid hKp
    obtain ⟨va, vn, vc, rfl⟩ := owns_slice hrow
    clear b0 hk0 hpre hv hrow hKp hbp hoW hr
    gi_wp2_with (gi_at_builtin; refine wpListIn_append_own _ rfl _ _ 226 rfl (w.heap.size + 4) 117 i0 (.agg #[.string ⟨#[]⟩, .string ⟨#[]⟩]) 2 32 Tryz.underlying226 hi hz0 hzz1 hzz2 rfl (by decide) _ _ _ rfl (HROW.out.alloc _) ⟨W.heap.size, 0, none⟩ 1 1 [.string p1, .string p2] rfl rfl (pair_new W p1 p2) (by simp [Value.oneCell']) (by unfold maxLen; omega) (by omega) (by simp; omega) ?_; intro v' w1 hown' hgrow _; obtain ⟨va', vn', vc', rfl⟩ := owns_slice hown'; obtain ⟨hv1, hv2, hr2, hb2⟩ := appended_only2 (HV.out.alloc (.cells #[.string p1, .string p2] 117)) (HROW.out.alloc (.cells #[.string p1, .string p2] 117)) (by simp; omega) (by omega) hown' hgrow; have hc1 := hv1.cell 0; have hf1 := hv1.frozen 0; have HV2 := Lib.hid hv2; have HR2 := Lib.hid hr2; have HB2 := Lib.hid hb2; clear hv1 hv2 hr2 hb2 hown' hgrow)
    have HO := Lib.hid ((((Only.refl (fun k => k = w.heap.size ∨ w.heap.size + 4 ≤ k) W).alloc (.cells #[.string p1, .string p2] 117))).trans HB2.out)
    refine ⟨HO.out, ⟨_, HV2.out, ?_⟩, HKP.out.onlyS HO.out (fun k h => by rcases h with h | h <;> omega)⟩
    rw [List.length_append, List.flatMap_append]
    simpa [qCells] using HR2.out
  case done =>
    rintro D' xs W hD' hS ⟨⟨v, hv, hrow⟩, hKp⟩ hd
    have HD := Lib.hid (hD'.trans hsz)
    clear hD'
    have hc := hv.cell 0
    simp at hc
    have HO := Lib.hid (show Only (· = D') W (W.putObj D' (.deferred none)) from Only.putObj (Only.refl (· = D') W) (.inl rfl) _)
    have HR := Lib.hid hrow
    have HS := Lib.hid hS
    have hcs : v = .slice none 0 0 ∨ ∃ g cap n, v = .slice (some ⟨g, 0, none⟩) n cap := hrow.2.elim (fun h => .inl h.1) (fun ⟨g, cap, _, h, _⟩ => .inr ⟨g, cap, _, h⟩)
    clear hrow hS
    rcases hcs with rfl | ⟨g, cap, n, rfl⟩
    all_goals
      go_wp2
      refine ⟨by simp, .inl ⟨_, _, rfl, run_takeDeferred hd, ?_⟩⟩
      exact ⟨_, results_tmp rfl _ _ _, _, xs, rfl, HS.out, owns_only HR.out HO.out (by intro g hg e; have := HD.out; omega), hKp.onlyS HO.out (by intro k e; have := HD.out; omega)⟩
  case stop =>
    rintro D' c pre W _ _ h _
    exact h.elim

end Go.Proofs.YthooiofaicdhgaaGreatDoor
