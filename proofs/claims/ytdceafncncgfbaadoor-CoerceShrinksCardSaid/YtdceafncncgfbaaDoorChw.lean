/- A way along a chain: which layers it marks. -/
import Derived.Test.YtdceafncncgfbaaDoorChj
import Derived.Laws.EntriesVeiled
set_option linter.unusedSimpArgs false
set_option linter.unusedVariables false
set_option maxRecDepth 100000
namespace Go.Proofs.YtdceafncncgfbaaDoor
open Go.ChangeShapes Go.WideShapes Go.ChangeAt Go.RowKit Go.Shelf
attribute [local go_sem] Oper.semAt_some

/-- The marks behind so many steps: those that were there, and those of the way. -/
def mkC (n : Nat) (back : Bool) (M : Nat → Bool) (F : List Bool) (k : Nat) : Array Value := (Array.range n).map fun a => .bool (M a || (decide (atV n back a < k) && F.getD (atV n back a) false))
theorem mkC_size (n : Nat) (back : Bool) (M : Nat → Bool) (F : List Bool) (k : Nat) : (mkC n back M F k).size = n := by simp [mkC]
theorem at_at {n : Nat} {back : Bool} {a : Nat} (h : a < n) : atV n back (atV n back a) = a := by unfold atV; split <;> omega
theorem mkC_step {n : Nat} {back : Bool} {M : Nat → Bool} {F : List Bool} {k : Nat} (hk : k < n) {b : Bool} (hb : F[k]? = some b) :
    mkC n back M F (k + 1) = if b = true then (mkC n back M F k).setIfInBounds (atV n back k) (.bool true) else mkC n back M F k := by
  have hd : F.getD k false = b := by rw [List.getD_eq_getElem?_getD, hb]; rfl
  refine Array.ext (by split <;> simp [mkC]) fun a h1 h2 => ?_
  have ha : a < n := by simpa [mkC] using h1
  have hc : ∀ (X Y : Bool) (c : Prop) [Decidable c], X = Y → (Value.bool X) = .bool Y := fun _ _ _ _ e => by rw [e]
  by_cases e : atV n back a = k
  · have e' : atV n back k = a := by rw [← e]; exact at_at ha
    cases b with
    | true =>
      simp only [if_true]
      rw [Array.getElem_setIfInBounds]
      simp only [mkC, Array.getElem_map, Array.getElem_range]
      rw [if_pos e', e, hd]
      · simp
      · rw [mkC_size]; exact ha
    | false =>
      simp only [Bool.false_eq_true, if_false]
      simp only [mkC, Array.getElem_map, Array.getElem_range]
      rw [e, hd]
      simp
  · have e' : ¬ atV n back k = a := fun h => e (by rw [← h]; exact at_at hk)
    have hlt : decide (atV n back a < k + 1) = decide (atV n back a < k) := by
      by_cases h : atV n back a < k
      · rw [decide_eq_true h, decide_eq_true (by omega)]
      · rw [decide_eq_false h, decide_eq_false (by omega)]
    cases b with
    | true =>
      simp only [if_true]
      rw [Array.getElem_setIfInBounds]
      simp only [mkC, Array.getElem_map, Array.getElem_range]
      rw [if_neg e', hlt]
      rw [mkC_size]; exact ha
    | false =>
      simp only [Bool.false_eq_true, if_false]
      simp only [mkC, Array.getElem_map, Array.getElem_range]
      rw [hlt]

/-- What the map and the newest letter's place tell behind so many steps. -/
def Fol (lst : List Ly) (F : List Bool) (k : Nat) (f : Ltr → Option Value) (nw : Int) : Prop :=
  ∃ sl dl : List Ltr, Chn.fk ky sl dl (lst.drop k) = F.drop k ∧ (∀ q, (f q).isSome = true ↔ q ∈ sl) ∧ (∀ q ∈ dl, q ∈ sl) ∧ (∀ q v, f q = some v → ∃ a b : Int, v = plV a b ∧ 1 ≤ a ∧ b ≤ k ∧ (q ∈ dl ↔ nw ≤ b)) ∧ nw ≤ k

theorem Fol.start (lst : List Ly) : Fol lst (Chn.fF ky lst) 0 (fun _ => none) 0 :=
  ⟨[], [], rfl, (fun q => by simp), (fun q h => by cases h), (fun q v h => by cases h), Int.le_refl _⟩

theorem drop_at {α : Type} {l : List α} {k : Nat} {x : α} (h : l[k]? = some x) : l.drop k = x :: l.drop (k + 1) := by
  obtain ⟨hk, e⟩ := List.getElem?_eq_some_iff.1 h
  rw [List.drop_eq_getElem_cons hk, e]
theorem head_at {F : List Bool} {k : Nat} {b : Bool} {r : List Bool} (h : b :: r = F.drop k) : F[k]? = some b ∧ r = F.drop (k + 1) := by
  have h1 : (F.drop k)[0]? = some b := by rw [← h]; rfl
  rw [List.getElem?_drop] at h1
  refine ⟨by simpa using h1, ?_⟩
  rw [← List.drop_drop, ← h]; rfl

theorem Fol.fresh {lst : List Ly} {F : List Bool} {k : Nat} {f : Ltr → Option Value} {nw : Int} (h : Fol lst F k f nw) {x : Ly} (hx : lst[k]? = some x) (hf : f (ky x) = none) :
    F[k]? = some true ∧ Fol lst F (k + 1) (fun y => if y = ky x then some (plV (k + 1) (k + 1)) else f y) (k + 1) := by
  obtain ⟨sl, dl, h1, h2, h3, h4, h5⟩ := h
  have hno : ¬ ky x ∈ sl := fun hm => by
    have := (h2 _).2 hm
    rw [hf] at this
    cases this
  rw [drop_at hx, Chn.fk, if_neg hno] at h1
  obtain ⟨g1, g2⟩ := head_at h1
  refine ⟨g1, ky x :: sl, [ky x], g2, fun q => ?_, (fun q hq => by simp at hq; subst hq; simp), fun q v hv => ?_, by omega⟩
  · by_cases e : q = ky x
    · simp [e]
    · simp [e, h2]
  · dsimp only at hv
    by_cases e : q = ky x
    · rw [if_pos e] at hv
      injection hv with hv
      subst hv
      exact ⟨_, _, rfl, by omega, by omega, ⟨fun _ => Int.le_refl _, fun _ => by simp [e]⟩⟩
    · rw [if_neg e] at hv
      obtain ⟨a, b, e1, e2, e3, e4⟩ := h4 q v hv
      exact ⟨a, b, e1, e2, by omega, ⟨(fun hq => by simp at hq; exact absurd hq e), (fun hq => by omega)⟩⟩

theorem Fol.again {lst : List Ly} {F : List Bool} {k : Nat} {f : Ltr → Option Value} {nw : Int} (h : Fol lst F k f nw) {x : Ly} (hx : lst[k]? = some x) {v : Value} (hf : f (ky x) = some v) :
    ∃ a b : Int, v = plV a b ∧ 1 ≤ a ∧ F[k]? = some (decide (b < nw)) ∧ Fol lst F (k + 1) (fun y => if y = ky x then some (plV a (k + 1)) else f y) nw := by
  obtain ⟨sl, dl, h1, h2, h3, h4, h5⟩ := h
  obtain ⟨a, b, rfl, ha, hb, hd⟩ := h4 _ _ hf
  have hin : ky x ∈ sl := (h2 _).1 (by rw [hf]; rfl)
  refine ⟨a, b, rfl, ha, ?_⟩
  rw [drop_at hx, Chn.fk, if_pos hin] at h1
  have key : ∀ dl' : List Ltr, (∀ q, q ∈ dl' ↔ q = ky x ∨ q ∈ dl) → Chn.fk ky sl dl' (lst.drop (k + 1)) = F.drop (k + 1) → Fol lst F (k + 1) (fun y => if y = ky x then some (plV a (k + 1)) else f y) nw := fun dl' hdl g2 => by
    refine ⟨sl, dl', g2, fun q => ?_, fun q hq => ?_, fun q v hv => ?_, by omega⟩
    · by_cases e : q = ky x
      · simp [e, hin]
      · simp [e, h2]
    · rcases (hdl q).1 hq with e | hq
      · rw [e]; exact hin
      · exact h3 q hq
    · dsimp only at hv
      by_cases e : q = ky x
      · rw [if_pos e] at hv
        injection hv with hv
        subst hv
        exact ⟨_, _, rfl, ha, by omega, ⟨fun _ => by omega, fun _ => (hdl q).2 (.inl e)⟩⟩
      · rw [if_neg e] at hv
        obtain ⟨a', b', e1, e2, e3, e4⟩ := h4 q v hv
        refine ⟨a', b', e1, e2, by omega, ?_⟩
        rw [hdl, ← e4]
        exact ⟨fun h => h.elim (fun h => absurd h e) id, Or.inr⟩
  by_cases hdm : ky x ∈ dl
  · rw [if_pos hdm] at h1
    obtain ⟨g1, g2⟩ := head_at h1
    have : ¬ b < nw := by have := hd.1 hdm; omega
    rw [decide_eq_false this]
    exact ⟨g1, key dl (fun q => ⟨Or.inr, fun h => h.elim (fun e => e ▸ hdm) id⟩) g2⟩
  · rw [if_neg hdm] at h1
    obtain ⟨g1, g2⟩ := head_at h1
    have : b < nw := by
      by_cases h : b < nw
      · exact h
      · exact absurd (hd.2 (by omega)) hdm
    rw [decide_eq_true this]
    exact ⟨g1, key (ky x :: dl) (fun q => by simp) g2⟩

/-- The chain, as the way goes. -/
def wayL (back : Bool) (l : List Ly) : List Ly := if back = true then l.reverse else l
theorem wayL_len (back : Bool) (l : List Ly) : (wayL back l).length = l.length := by unfold wayL; split <;> simp
theorem wayL_at {back : Bool} {l : List Ly} {k : Nat} (hk : k < l.length) : (wayL back l)[k]? = l[atV l.length back k]? := by
  unfold wayL atV
  split
  · rw [List.getElem?_reverse hk]
  · rfl

theorem Only.then {S T : Nat → Prop} {a w w' : World} (h : Only S a w) (k : Only T w w') (hs : ∀ i, T i → S i ∨ a.heap.size ≤ i) : Only S a w' :=
  ⟨k.os.trans h.os, k.output.trans h.output, Nat.le_trans h.size k.size, fun i hi hn => (k.block i (Nat.lt_of_lt_of_le hi h.size) (fun ht => (hs i ht).elim hn (fun h => by omega))).trans (h.block i hi hn)⟩

theorem way_at {n : Nat} {back : Bool} {k i : Nat} (hk : k ≤ n) (h : wayV n back k ++ [i] <+: wayV n back n) : k < n ∧ i = atV n back k := by
  have hl := h.length_le
  simp [way_len] at hl
  refine ⟨hl, ?_⟩
  obtain ⟨r, hr⟩ := h
  have h1 : (wayV n back n)[k]? = some i := by
    rw [← hr, List.append_assoc, List.getElem?_append_right (by rw [way_len]; omega), way_len]
    simp
  unfold wayV at h1
  rw [List.getElem?_map, List.getElem?_range hl] at h1
  exact (Option.some.inj h1).symm

/-- What stands behind so many steps of a way. -/
def KI (l : List Ly) (back : Bool) (g : Nat) (M : Nat → Bool) (la : Option Addr) (lc : Nat) (w : World) (pre : List Nat) (W : World) : Prop :=
  ∃ (k : Nat) (f : Ltr → Option Value) (nw : Int), pre = wayV l.length back k ∧ k ≤ l.length ∧ KB W w.heap.size g l.length k nw (mkC l.length back M (Chn.fF ky (wayL back l)) k) k f ∧ Fol (wayL back l) (Chn.fF ky (wayL back l)) k f nw ∧
    Blk W (w.heap.size + 1) 25 #[.slice la l.length lc] ∧
    Blk W (w.heap.size + 6) 144 #[.func (.func 76) #[] #[.pointer (some ⟨w.heap.size + 4, 0, none⟩), .pointer (some ⟨w.heap.size + 3, 0, none⟩), .pointer (some ⟨w.heap.size + 5, 0, none⟩), .pointer (some ⟨w.heap.size, 0, none⟩)]] ∧ Only (· = g) w W

theorem KI.only {l : List Ly} {back : Bool} {g : Nat} {M : Nat → Bool} {la : Option Addr} {lc : Nat} {w : World} {pre : List Nat} {A B : World} {S : Nat → Prop} (h : KI l back g M la lc w pre A) (hg : g < w.heap.size) (ho : Only S A B) (hS : ∀ k, S k → w.heap.size + 6 < k) : KI l back g M la lc w pre B := by
  obtain ⟨k, f, nw, h1, h2, h3, h4, h5, h6, h7⟩ := h
  exact ⟨k, f, nw, h1, h2, h3.only ho (fun j hj => by have := hS j hj; omega), h4, h5.only ho (fun e => by have := hS _ e; omega), h6.only ho (fun e => by have := hS _ e; omega), h7.then ho (fun j hj => .inr (by have := hS j hj; omega))⟩

theorem KI.kept {l : List Ly} {back : Bool} {g : Nat} {M : Nat → Bool} {la : Option Addr} {lc : Nat} {w : World} {pre : List Nat} {A B : World} (h : KI l back g M la lc w pre A) (hg : g < w.heap.size) (ho : Kept A B) : KI l back g M la lc w pre B :=
  h.only (S := fun _ => False) hg (Only.of_kept ho) (fun _ e => e.elim)

/-- One step of the way. -/
theorem meet_c (l : List Ly) (back : Bool) (g : Nat) (M : Nat → Bool) (la : Option Addr) (lc : Nat) (w W : World) (k : Nat) (x : Ly) (hg : g < w.heap.size) (hl : l.length ≤ 1000) (hx : l[atV l.length back k]? = some x) (hk : k < l.length) (hz : x.cls.size ≤ maxLen) (h : KI l back g M la lc w (wayV l.length back k) W) :
    Calls Tryd.prog 76 #[lv (ky x), .int .i64 (atV l.length back k), .pointer (some ⟨w.heap.size + 4, 0, none⟩), .pointer (some ⟨w.heap.size + 3, 0, none⟩), .pointer (some ⟨w.heap.size + 5, 0, none⟩), .pointer (some ⟨w.heap.size, 0, none⟩)] W fun e w' =>
      e = .returned (.tuple #[]) ∧ KI l back g M la lc w (wayV l.length back k ++ [atV l.length back k]) w' ∧ Only (fun j => j = w.heap.size + 4 ∨ j = w.heap.size + 5 ∨ j = g ∨ j = w.heap.size + 2) W w' := by
  obtain ⟨k', f, nw, h1, h2, h3, h4, h5, h6, h7⟩ := h
  obtain rfl : k' = k := by
    have := congrArg List.length h1
    simpa [way_len] using this.symm
  have hx' : (wayL back l)[k']? = some x := by rw [wayL_at hk]; exact hx
  have hlt := at_lt (back := back) hk
  have fin : ∀ (f' : Ltr → Option Value) (nw' : Int) (cs' : Array Value) (e : Ending) (w' : World), MeetPost w.heap.size g l.length k' nw' cs' k' f' W e w' → cs' = mkC l.length back M (Chn.fF ky (wayL back l)) (k' + 1) → Fol (wayL back l) (Chn.fF ky (wayL back l)) (k' + 1) f' nw' →
      e = .returned (.tuple #[]) ∧ KI l back g M la lc w (wayV l.length back k' ++ [atV l.length back k']) w' ∧ Only (fun j => j = w.heap.size + 4 ∨ j = w.heap.size + 5 ∨ j = g ∨ j = w.heap.size + 2) W w' := by
    rintro f' nw' cs' e w' ⟨rfl, hb, ho⟩ rfl hf
    refine ⟨rfl, ⟨k' + 1, f', nw', way_next _ _ _, hk, ?_, hf, h5.only ho (by omega), h6.only ho (by omega), h7.then ho (fun j hj => by omega)⟩, ho⟩
    exact hb
  cases hf : f (ky x) with
  | none =>
    obtain ⟨g1, g2⟩ := h4.fresh hx' hf
    refine (meet0_c (ky x) hz (atV l.length back k') w.heap.size g l.length k' nw _ k' f W h3 hlt (mkC_size _ _ _ _ _) (by omega) (by omega) (by omega) hf).mono ?_
    intro e w' hm
    exact fin _ _ _ e w' hm (by rw [mkC_step hk g1, if_pos rfl]) g2
  | some v =>
    obtain ⟨a, b, rfl, ha, g1, g2⟩ := h4.again hx' hf
    by_cases hb : b < nw
    · rw [decide_eq_true hb] at g1
      refine (meet1_c (ky x) hz (atV l.length back k') w.heap.size g l.length k' nw _ k' f W h3 hlt (mkC_size _ _ _ _ _) (by omega) (by omega) (by omega) a b ha hb hf).mono ?_
      intro e w' hm
      exact fin _ _ _ e w' hm (by rw [mkC_step hk g1, if_pos rfl]) g2
    · rw [decide_eq_false hb] at g1
      refine (meet2_c (ky x) hz (atV l.length back k') w.heap.size g l.length k' nw _ k' f W h3 hlt (mkC_size _ _ _ _ _) (by omega) (by omega) (by omega) a b ha hb hf).mono ?_
      intro e w' hm
      exact fin _ _ _ e w' hm (by rw [mkC_step hk g1, if_neg (by simp)]) g2

set_option maxHeartbeats 8000000 in
theorem keep_c (l : List Ly) (back : Bool) (g : Nat) (M : Nat → Bool) (la : Option Addr) (lc : Nat) (w0 w : World) (hL : LysAt w0 (.slice la l.length lc) l) (hl : l.length ≤ 1000) (hk : Kept w0 w) (hg0 : w0.heap.size ≤ g)
    (hg : Blk w g 113 (mkC l.length back M (Chn.fF ky (wayL back l)) 0)) :
    Calls Tryd.prog 65 #[.slice (some ⟨g, 0, none⟩) l.length l.length, .slice la l.length lc, .bool back] w fun e w' => e = .returned (.tuple #[]) ∧ Blk w' g 113 (mkC l.length back M (Chn.fF ky (wayL back l)) l.length) ∧ Only (· = g) w w' := by
  have hgl := hg.lt
  have hk0 := hk.size
  obtain ⟨A1, hA1⟩ : ∃ A1, w.alloc (.cells #[.slice (some ⟨g, 0, none⟩) l.length l.length] 110) = A1 := ⟨_, rfl⟩
  have s1 : A1.heap.size = w.heap.size + 1 := by rw [← hA1]; simp
  have bk1 : Blk A1 w.heap.size 110 #[.slice (some ⟨g, 0, none⟩) l.length l.length] := by rw [← hA1]; exact Blk.new w _ _
  have kp1 : Kept w A1 := by rw [← hA1]; exact (Kept.refl w).alloc _
  obtain ⟨A2, hA2⟩ : ∃ A2, A1.alloc (.cells #[.slice la l.length lc] 25) = A2 := ⟨_, rfl⟩
  have s2 : A2.heap.size = w.heap.size + 2 := by rw [← hA2]; simp [s1]
  have bk2 : Blk A2 w.heap.size 110 #[.slice (some ⟨g, 0, none⟩) l.length l.length] := by rw [← hA2]; exact bk1.alloc _
  have bl2 : Blk A2 (w.heap.size + 1) 25 #[.slice la l.length lc] := by rw [← hA2, ← s1]; exact Blk.new A1 _ _
  have kp2 : Kept w A2 := by rw [← hA2]; exact kp1.alloc _
  obtain ⟨A3, hA3⟩ : ∃ A3, A2.alloc (.map #[] 0) = A3 := ⟨_, rfl⟩
  have s3 : A3.heap.size = w.heap.size + 3 := by rw [← hA3]; simp [s2]
  have bk3 : Blk A3 w.heap.size 110 #[.slice (some ⟨g, 0, none⟩) l.length l.length] := by rw [← hA3]; exact bk2.alloc _
  have bl3 : Blk A3 (w.heap.size + 1) 25 #[.slice la l.length lc] := by rw [← hA3]; exact bl2.alloc _
  have mp3 : MapL (w.heap.size + 2) 0 (fun _ => none) A3 := by rw [← hA3, ← s2]; exact MapL.made A2
  have kp3 : Kept w A3 := by rw [← hA3]; exact kp2.alloc _
  obtain ⟨A4, hA4⟩ : ∃ A4, A3.alloc (.cells #[.map none] 139) = A4 := ⟨_, rfl⟩
  have s4 : A4.heap.size = w.heap.size + 4 := by rw [← hA4]; simp [s3]
  have bk4 : Blk A4 w.heap.size 110 #[.slice (some ⟨g, 0, none⟩) l.length l.length] := by rw [← hA4]; exact bk3.alloc _
  have bl4 : Blk A4 (w.heap.size + 1) 25 #[.slice la l.length lc] := by rw [← hA4]; exact bl3.alloc _
  have bm4 : Blk A4 (w.heap.size + 3) 139 #[.map none] := by rw [← hA4, ← s3]; exact Blk.new A3 _ _
  have mp4 : MapL (w.heap.size + 2) 0 (fun _ => none) A4 := by rw [← hA4]; exact mp3.kept ((Kept.refl _).alloc _)
  have kp4 : Kept w A4 := by rw [← hA4]; exact kp3.alloc _
  obtain ⟨A5, hA5⟩ : ∃ A5, A4.setCell ⟨w.heap.size + 3, 0, none⟩ (.map (some (w.heap.size + 2))) = A5 := ⟨_, rfl⟩
  have s5 : A5.heap.size = w.heap.size + 4 := by rw [← hA5]; simp [s4]
  have bk5 : Blk A5 w.heap.size 110 #[.slice (some ⟨g, 0, none⟩) l.length l.length] := by rw [← hA5]; exact bk4.off (by omega) _
  have bl5 : Blk A5 (w.heap.size + 1) 25 #[.slice la l.length lc] := by rw [← hA5]; exact bl4.off (by omega) _
  have bm5 : Blk A5 (w.heap.size + 3) 139 #[.map (some (w.heap.size + 2))] := by rw [← hA5]; exact bm4.put 0 _
  have mp5 : MapL (w.heap.size + 2) 0 (fun _ => none) A5 := by rw [← hA5]; exact mp4.off (by omega) _
  have kp5 : Kept w A5 := by rw [← hA5]; exact kp4.setCell (by show w.heap.size ≤ _; simp; try omega) _
  obtain ⟨A6, hA6⟩ : ∃ A6, A5.alloc (.cells #[.int .i64 0] 3) = A6 := ⟨_, rfl⟩
  have s6 : A6.heap.size = w.heap.size + 5 := by rw [← hA6]; simp [s5]
  have bk6 : Blk A6 w.heap.size 110 #[.slice (some ⟨g, 0, none⟩) l.length l.length] := by rw [← hA6]; exact bk5.alloc _
  have bl6 : Blk A6 (w.heap.size + 1) 25 #[.slice la l.length lc] := by rw [← hA6]; exact bl5.alloc _
  have bm6 : Blk A6 (w.heap.size + 3) 139 #[.map (some (w.heap.size + 2))] := by rw [← hA6]; exact bm5.alloc _
  have bp6 : Blk A6 (w.heap.size + 4) 3 #[.int .i64 0] := by rw [← hA6, ← s5]; exact Blk.new A5 _ _
  have mp6 : MapL (w.heap.size + 2) 0 (fun _ => none) A6 := by rw [← hA6]; exact mp5.kept ((Kept.refl _).alloc _)
  have kp6 : Kept w A6 := by rw [← hA6]; exact kp5.alloc _
  obtain ⟨A7, hA7⟩ : ∃ A7, A6.alloc (.cells #[.int .i64 0] 3) = A7 := ⟨_, rfl⟩
  have s7 : A7.heap.size = w.heap.size + 6 := by rw [← hA7]; simp [s6]
  have bk7 : Blk A7 w.heap.size 110 #[.slice (some ⟨g, 0, none⟩) l.length l.length] := by rw [← hA7]; exact bk6.alloc _
  have bl7 : Blk A7 (w.heap.size + 1) 25 #[.slice la l.length lc] := by rw [← hA7]; exact bl6.alloc _
  have bm7 : Blk A7 (w.heap.size + 3) 139 #[.map (some (w.heap.size + 2))] := by rw [← hA7]; exact bm6.alloc _
  have bp7 : Blk A7 (w.heap.size + 4) 3 #[.int .i64 0] := by rw [← hA7]; exact bp6.alloc _
  have bn7 : Blk A7 (w.heap.size + 5) 3 #[.int .i64 0] := by rw [← hA7, ← s6]; exact Blk.new A6 _ _
  have mp7 : MapL (w.heap.size + 2) 0 (fun _ => none) A7 := by rw [← hA7]; exact mp6.kept ((Kept.refl _).alloc _)
  have kp7 : Kept w A7 := by rw [← hA7]; exact kp6.alloc _
  obtain ⟨A8, hA8⟩ : ∃ A8, A7.setCell ⟨w.heap.size + 4, 0, none⟩ (.int .i64 0) = A8 := ⟨_, rfl⟩
  have s8 : A8.heap.size = w.heap.size + 6 := by rw [← hA8]; simp [s7]
  have bk8 : Blk A8 w.heap.size 110 #[.slice (some ⟨g, 0, none⟩) l.length l.length] := by rw [← hA8]; exact bk7.off (by omega) _
  have bl8 : Blk A8 (w.heap.size + 1) 25 #[.slice la l.length lc] := by rw [← hA8]; exact bl7.off (by omega) _
  have bm8 : Blk A8 (w.heap.size + 3) 139 #[.map (some (w.heap.size + 2))] := by rw [← hA8]; exact bm7.off (by omega) _
  have bp8 : Blk A8 (w.heap.size + 4) 3 #[.int .i64 0] := by rw [← hA8]; exact bp7.put 0 _
  have bn8 : Blk A8 (w.heap.size + 5) 3 #[.int .i64 0] := by rw [← hA8]; exact bn7.off (by omega) _
  have mp8 : MapL (w.heap.size + 2) 0 (fun _ => none) A8 := by rw [← hA8]; exact mp7.off (by omega) _
  have kp8 : Kept w A8 := by rw [← hA8]; exact kp7.setCell (by show w.heap.size ≤ _; simp; try omega) _
  obtain ⟨A9, hA9⟩ : ∃ A9, A8.setCell ⟨w.heap.size + 5, 0, none⟩ (.int .i64 0) = A9 := ⟨_, rfl⟩
  have s9 : A9.heap.size = w.heap.size + 6 := by rw [← hA9]; simp [s8]
  have bk9 : Blk A9 w.heap.size 110 #[.slice (some ⟨g, 0, none⟩) l.length l.length] := by rw [← hA9]; exact bk8.off (by omega) _
  have bl9 : Blk A9 (w.heap.size + 1) 25 #[.slice la l.length lc] := by rw [← hA9]; exact bl8.off (by omega) _
  have bm9 : Blk A9 (w.heap.size + 3) 139 #[.map (some (w.heap.size + 2))] := by rw [← hA9]; exact bm8.off (by omega) _
  have bp9 : Blk A9 (w.heap.size + 4) 3 #[.int .i64 0] := by rw [← hA9]; exact bp8.off (by omega) _
  have bn9 : Blk A9 (w.heap.size + 5) 3 #[.int .i64 0] := by rw [← hA9]; exact bn8.put 0 _
  have mp9 : MapL (w.heap.size + 2) 0 (fun _ => none) A9 := by rw [← hA9]; exact mp8.off (by omega) _
  have kp9 : Kept w A9 := by rw [← hA9]; exact kp8.setCell (by show w.heap.size ≤ _; simp; try omega) _
  obtain ⟨A10, hA10⟩ : ∃ A10, A9.alloc (.cells #[.nilFunc] 144) = A10 := ⟨_, rfl⟩
  have s10 : A10.heap.size = w.heap.size + 7 := by rw [← hA10]; simp [s9]
  have bk10 : Blk A10 w.heap.size 110 #[.slice (some ⟨g, 0, none⟩) l.length l.length] := by rw [← hA10]; exact bk9.alloc _
  have bl10 : Blk A10 (w.heap.size + 1) 25 #[.slice la l.length lc] := by rw [← hA10]; exact bl9.alloc _
  have bm10 : Blk A10 (w.heap.size + 3) 139 #[.map (some (w.heap.size + 2))] := by rw [← hA10]; exact bm9.alloc _
  have bp10 : Blk A10 (w.heap.size + 4) 3 #[.int .i64 0] := by rw [← hA10]; exact bp9.alloc _
  have bn10 : Blk A10 (w.heap.size + 5) 3 #[.int .i64 0] := by rw [← hA10]; exact bn9.alloc _
  have bf10 : Blk A10 (w.heap.size + 6) 144 #[.nilFunc] := by rw [← hA10, ← s9]; exact Blk.new A9 _ _
  have mp10 : MapL (w.heap.size + 2) 0 (fun _ => none) A10 := by rw [← hA10]; exact mp9.kept ((Kept.refl _).alloc _)
  have kp10 : Kept w A10 := by rw [← hA10]; exact kp9.alloc _
  obtain ⟨A11, hA11⟩ : ∃ A11, A10.setCell ⟨w.heap.size + 6, 0, none⟩ (.func (.func 76) #[] #[.pointer (some ⟨w.heap.size + 4, 0, none⟩), .pointer (some ⟨w.heap.size + 3, 0, none⟩), .pointer (some ⟨w.heap.size + 5, 0, none⟩), .pointer (some ⟨w.heap.size, 0, none⟩)]) = A11 := ⟨_, rfl⟩
  have s11 : A11.heap.size = w.heap.size + 7 := by rw [← hA11]; simp [s10]
  have bk11 : Blk A11 w.heap.size 110 #[.slice (some ⟨g, 0, none⟩) l.length l.length] := by rw [← hA11]; exact bk10.off (by omega) _
  have bl11 : Blk A11 (w.heap.size + 1) 25 #[.slice la l.length lc] := by rw [← hA11]; exact bl10.off (by omega) _
  have bm11 : Blk A11 (w.heap.size + 3) 139 #[.map (some (w.heap.size + 2))] := by rw [← hA11]; exact bm10.off (by omega) _
  have bp11 : Blk A11 (w.heap.size + 4) 3 #[.int .i64 0] := by rw [← hA11]; exact bp10.off (by omega) _
  have bn11 : Blk A11 (w.heap.size + 5) 3 #[.int .i64 0] := by rw [← hA11]; exact bn10.off (by omega) _
  have bf11 : Blk A11 (w.heap.size + 6) 144 #[.func (.func 76) #[] #[.pointer (some ⟨w.heap.size + 4, 0, none⟩), .pointer (some ⟨w.heap.size + 3, 0, none⟩), .pointer (some ⟨w.heap.size + 5, 0, none⟩), .pointer (some ⟨w.heap.size, 0, none⟩)]] := by rw [← hA11]; exact bf10.put 0 _
  have mp11 : MapL (w.heap.size + 2) 0 (fun _ => none) A11 := by rw [← hA11]; exact mp10.off (by omega) _
  have kp11 : Kept w A11 := by rw [← hA11]; exact kp10.setCell (by show w.heap.size ≤ _; simp; try omega) _
  obtain ⟨A12, hA12⟩ : ∃ A12, A11.alloc (.cells #[.int .i64 l.length] 3) = A12 := ⟨_, rfl⟩
  have s12 : A12.heap.size = w.heap.size + 8 := by rw [← hA12]; simp [s11]
  have bk12 : Blk A12 w.heap.size 110 #[.slice (some ⟨g, 0, none⟩) l.length l.length] := by rw [← hA12]; exact bk11.alloc _
  have bl12 : Blk A12 (w.heap.size + 1) 25 #[.slice la l.length lc] := by rw [← hA12]; exact bl11.alloc _
  have bm12 : Blk A12 (w.heap.size + 3) 139 #[.map (some (w.heap.size + 2))] := by rw [← hA12]; exact bm11.alloc _
  have bp12 : Blk A12 (w.heap.size + 4) 3 #[.int .i64 0] := by rw [← hA12]; exact bp11.alloc _
  have bn12 : Blk A12 (w.heap.size + 5) 3 #[.int .i64 0] := by rw [← hA12]; exact bn11.alloc _
  have bf12 : Blk A12 (w.heap.size + 6) 144 #[.func (.func 76) #[] #[.pointer (some ⟨w.heap.size + 4, 0, none⟩), .pointer (some ⟨w.heap.size + 3, 0, none⟩), .pointer (some ⟨w.heap.size + 5, 0, none⟩), .pointer (some ⟨w.heap.size, 0, none⟩)]] := by rw [← hA12]; exact bf11.alloc _
  have b112 : Blk A12 (w.heap.size + 7) 3 #[.int .i64 l.length] := by rw [← hA12, ← s11]; exact Blk.new A11 _ _
  have mp12 : MapL (w.heap.size + 2) 0 (fun _ => none) A12 := by rw [← hA12]; exact mp11.kept ((Kept.refl _).alloc _)
  have kp12 : Kept w A12 := by rw [← hA12]; exact kp11.alloc _
  obtain ⟨A13, hA13⟩ : ∃ A13, A12.alloc (.cells #[.bool back] 4) = A13 := ⟨_, rfl⟩
  have s13 : A13.heap.size = w.heap.size + 9 := by rw [← hA13]; simp [s12]
  have bk13 : Blk A13 w.heap.size 110 #[.slice (some ⟨g, 0, none⟩) l.length l.length] := by rw [← hA13]; exact bk12.alloc _
  have bl13 : Blk A13 (w.heap.size + 1) 25 #[.slice la l.length lc] := by rw [← hA13]; exact bl12.alloc _
  have bm13 : Blk A13 (w.heap.size + 3) 139 #[.map (some (w.heap.size + 2))] := by rw [← hA13]; exact bm12.alloc _
  have bp13 : Blk A13 (w.heap.size + 4) 3 #[.int .i64 0] := by rw [← hA13]; exact bp12.alloc _
  have bn13 : Blk A13 (w.heap.size + 5) 3 #[.int .i64 0] := by rw [← hA13]; exact bn12.alloc _
  have bf13 : Blk A13 (w.heap.size + 6) 144 #[.func (.func 76) #[] #[.pointer (some ⟨w.heap.size + 4, 0, none⟩), .pointer (some ⟨w.heap.size + 3, 0, none⟩), .pointer (some ⟨w.heap.size + 5, 0, none⟩), .pointer (some ⟨w.heap.size, 0, none⟩)]] := by rw [← hA13]; exact bf12.alloc _
  have b113 : Blk A13 (w.heap.size + 7) 3 #[.int .i64 l.length] := by rw [← hA13]; exact b112.alloc _
  have b213 : Blk A13 (w.heap.size + 8) 4 #[.bool back] := by rw [← hA13, ← s12]; exact Blk.new A12 _ _
  have mp13 : MapL (w.heap.size + 2) 0 (fun _ => none) A13 := by rw [← hA13]; exact mp12.kept ((Kept.refl _).alloc _)
  have kp13 : Kept w A13 := by rw [← hA13]; exact kp12.alloc _
  have HW := Lib.hid (And.intro hA1 (And.intro hA2 (And.intro hA3 (And.intro hA4 (And.intro hA5 (And.intro hA6 (And.intro hA7 (And.intro hA8 (And.intro hA9 (And.intro hA10 (And.intro hA11 (And.intro hA12 hA13))))))))))))
  have r4 := bm4.cell 0
  have q4 := bm4.frozen 0
  have r7 := bp7.cell 0
  have q7 := bp7.frozen 0
  have r8 := bn8.cell 0
  have q8 := bn8.frozen 0
  have r10 := bf10.cell 0
  have q10 := bf10.frozen 0
  have r11 := bl11.cell 0
  simp only [List.getElem?_toArray, List.getElem?_cons_zero] at r4 r7 r8 r10 r11
  have KB13 := Lib.hid (show KB A13 w.heap.size g l.length 0 0 (mkC l.length back M (Chn.fF ky (wayL back l)) 0) 0 (fun _ => none) from ⟨hgl, bp13, bm13, bn13, bk13, hg.kept kp13, mp13⟩)
  have BL13 := Lib.hid bl13
  have BF13 := Lib.hid bf13
  have B1 := Lib.hid b113
  have B2 := Lib.hid b213
  have KP13 := Lib.hid kp13
  clear hA1 hA2 hA3 hA4 hA5 hA6 hA7 hA8 hA9 hA10 hA11 hA12 hA13 kp1 kp2 kp3 kp4 kp5 kp6 kp7 kp8 kp9 kp10 kp11 kp12 kp13 mp3 mp4 mp5 mp6 mp7 mp8 mp9 mp10 mp11 mp12 mp13 bk1 bk2 bk3 bk4 bk5 bk6 bk7 bk8 bk9 bk10 bk11 bk12 bk13 bl2 bl3 bl4 bl5 bl6 bl7 bl8 bl9 bl10 bl11 bl12 bl13 bm4 bm5 bm6 bm7 bm8 bm9 bm10 bm11 bm12 bm13 bp6 bp7 bp8 bp9 bp10 bp11 bp12 bp13 bn7 bn8 bn9 bn10 bn11 bn12 bn13 bf10 bf11 bf12 bf13 b112 b113 b213
  have hmm := @run_makeMap Tryd.prog
  have HAL := Lib.hid (fun W => along_c l.length back W)
  refine (callsIn_wide (n := 3)).1 (callsIn_of_wp_marks Tryd.func65 rfl trivial (wpIn_wide.2 ?_) rfl)
  simp only [Tryd.ntmps65, List.size_toArray, List.length_cons, List.length_nil, Nat.reduceAdd, Nat.reduceSub, Array.replicate_succ, Array.replicate_zero, List.push_toArray, List.append_toArray, List.nil_append, List.cons_append]
  go_wp2_with (first | rw [HW.out.1] | rw [HW.out.2.1] | rw [HW.out.2.2.1] | rw [HW.out.2.2.2.1] | rw [HW.out.2.2.2.2.1] | rw [HW.out.2.2.2.2.2.1] | rw [HW.out.2.2.2.2.2.2.1] | rw [HW.out.2.2.2.2.2.2.2.1] | rw [HW.out.2.2.2.2.2.2.2.2.1] | rw [HW.out.2.2.2.2.2.2.2.2.2.1] | rw [HW.out.2.2.2.2.2.2.2.2.2.2.1] | rw [HW.out.2.2.2.2.2.2.2.2.2.2.2.1] | rw [HW.out.2.2.2.2.2.2.2.2.2.2.2.2])
  refine (HAL.out _).mono ?_
  rintro e w1 ⟨rfl, rfl⟩
  go_wp2_with (fail)
  have hI13 : KI l back g M la lc w [] A13 := ⟨0, fun _ => none, 0, rfl, Nat.zero_le _, KB13.out, Fol.start _, BL13.out, BF13.out, Only.of_kept KP13.out⟩
  rw [HW.out.2.2.2.2.2.2.2.2.2.2.2.1, HW.out.2.2.2.2.2.2.2.2.2.2.2.2]
  have HLO := Lib.hid (letterOf_c)
  have HL0 := Lib.hid hL
  have HK0 := Lib.hid hk
  have HN := Lib.hid hl
  have HG0 := Lib.hid hg0
  clear KB13 BL13 BF13 KP13 HAL HW hL hk hg hmm hl r4 q4 r7 q7 r8 q8 r10 q10 r11 s1 s2 s3 s4 s5 s6 s7 s8 s9 s10 s11 s12
  refine wpIn_wide.1 (wpIn_rangeFunc_ownW (F := Fence.wide) (n := 3) rfl (by omega) rfl trivial (enters_of Tryd.func89 (by kernel_rfl) rfl)
    (It := fun _ => False) (U := fun j => j = w.heap.size + 4 ∨ j = w.heap.size + 5 ∨ j = g ∨ j = w.heap.size + 2) (S := (· = wayV l.length back l.length)) (Sp := (· <+: wayV l.length back l.length)) (G := (· <+: wayV l.length back l.length)) (m := 0) (encs := fun i : Nat => #[.int .i64 (i : Int)])
    (fun W1 hk1 hs1 => along1_own (3 - 1) (by omega) l.length back (w.heap.size + 7) (w.heap.size + 8) _ W1 (by have := HN.out; omega) (B1.out.kept hk1) (B2.out.kept hk1) (by omega) (by omega) (fun k h => by omega))
    (fun k e => e.elim) (fun k h => by omega) (fun _ => rfl) (KI l back g M la lc w) (fun _ _ _ => False) ?hI (fun _ _ _ _ h _ => h) hI13
    (fun i => { tmps := #[.slice (some ⟨g, 0, none⟩) l.length l.length, .slice la l.length lc, .bool back, .pointer (some ⟨w.heap.size, 0, none⟩), .pointer (some ⟨w.heap.size + 1, 0, none⟩), undef, .pointer (some ⟨w.heap.size + 3, 0, none⟩), .pointer (some ⟨w.heap.size + 4, 0, none⟩), .pointer (some ⟨w.heap.size + 5, 0, none⟩), .pointer (some ⟨w.heap.size + 6, 0, none⟩), .int .i64 (i : Int), .map (some (w.heap.size + 2)), .func (.func 76) #[] #[.pointer (some ⟨w.heap.size + 4, 0, none⟩), .pointer (some ⟨w.heap.size + 3, 0, none⟩), .pointer (some ⟨w.heap.size + 5, 0, none⟩), .pointer (some ⟨w.heap.size, 0, none⟩)], .slice la l.length lc, .int .i64 l.length, .bool back, .func (.func 89) #[] #[.pointer (some ⟨w.heap.size + 7, 0, none⟩), .pointer (some ⟨w.heap.size + 7 + 1, 0, none⟩)], .int .i64 (i : Int), undef, undef, undef, undef, undef, undef, undef, undef], defers := [] }) ?assign ?body ?done ?stop)
  case hI =>
    rintro pre A B h ho
    exact h.only hgl ho (fun k e => by rcases e with e | e; exact e.elim; omega)
  case assign =>
    intro l i W K hK
    gi_wp2
    exact hK
  case body =>
    rintro lp pre i W hlp _ hKI hpre hsize
    obtain ⟨k, f, nw, rfl, hkn, kb, hfo, hbl, hbf, hon⟩ := hKI
    obtain ⟨hkl, rfl⟩ := way_at hkn hpre
    have hlt := at_lt (back := back) hkl
    obtain ⟨x, hx⟩ : ∃ x, l[atV l.length back k]? = some x := ⟨_, List.getElem?_eq_getElem hlt⟩
    have hKW : Kept w0 W := HK0.out.only hon rfl (fun j e => by subst e; exact HG0.out)
    obtain ⟨_, _, e0, _, _, hat⟩ := HL0.out
    injection e0 with e1 _ e3
    subst e1 e3
    obtain ⟨lb, lo, rfl, hly⟩ := hat _ _ hx
    have hly' := hly.kept hKW
    have c0 := hbf.cell 0
    have c1 := hbl.cell 0
    simp only [List.getElem?_toArray, List.getElem?_cons_zero] at c0 c1
    obtain ⟨c2, c3, c4, c5⟩ := hly'
    have HME := Lib.hid (fun W' (kk : Kept W W') => meet_c l back g M (some ⟨lb, lo, none⟩) lc w W' k x hgl HN.out hx hkl c5 (KI.kept ⟨k, f, nw, rfl, hkn, kb, hfo, hbl, hbf, hon⟩ hgl kk))
    have HLX := Lib.hid (fun W => letterOf_c x W)
    clear HLO
    have HLO := HLX
    clear HLX
    have hltI : ((atV l.length back k : Nat) : Int) < (l.length : Int) := by omega
    obtain ⟨at_, hat_⟩ : ∃ a, a = atV l.length back k := ⟨_, rfl⟩
    rw [← hat_] at hltI HME c2 c3 c4 hlt ⊢
    have hnn := HN.out
    clear hpre kb hfo hbl hbf hon hx hat hly hKW hI13 B1 B2 HL0 HK0 hat_ hgl hk0 hkn hkl hsize hlp s13
    gi_wp2
    refine wpIn_region_of_any (by kernel_rfl) (by kernel_rfl) (by rintro ⟨_, _, h⟩; exact h) ?_
    · change wpAny _ _ _ _ _ _ _ (World.drew _)
      refine wpAny_take (i := 2) (v := ?_) rfl (by kernel_rfl) (by kernel_rfl) (by kernel_rfl) (fun _ _ _ h => h) (Or.inl ⟨by rfl, ?_⟩) ?_
      rotate_left
      · intro w; go_simp; try with_reducible rfl
      refine wpAny_take (i := 6) (v := ?_) rfl (by kernel_rfl) (by kernel_rfl) (by kernel_rfl) (fun _ _ _ h => h) (Or.inl ⟨by rfl, ?_⟩) ?_
      rotate_left
      · intro w; go_simp; try with_reducible rfl
      refine wpAny_ready (rs := [0, 1]) (by kernel_rfl) (by simp) ?_
      refine AllReady.cons rfl (fun K hK => ?_) ?_
      · go_simp
        refine hK _ _ ?_; clear hK K
        refine wpAny_ready (rs := [1]) (by kernel_rfl) (by simp) ?_
        refine AllReady.cons rfl (fun K hK => ?_) ?_
        · go_simp
          refine hK _ _ ?_; clear hK K
          refine wpAny_take (i := 3) (v := ?_) rfl (by kernel_rfl) (by kernel_rfl) (by kernel_rfl) (fun _ _ _ h => h) (Or.inl ⟨by rfl, ?_⟩) ?_
          rotate_left
          · intro w; go_simp; try with_reducible rfl
          refine wpAny_ready (rs := [4]) (by kernel_rfl) (by simp) ?_
          refine AllReady.cons rfl (fun K hK => ?_) ?_
          · go_simp
            refine hK _ _ ?_; clear hK K
            refine wpAny_ready (rs := [5]) (by kernel_rfl) (by simp) ?_
            refine AllReady.cons rfl (fun K hK => ?_) ?_
            · go_simp
              go_at_call 78
              refine (HLO.out _).mono ?_
              rintro e w3 ⟨rfl, k3⟩
              have k4 := (Kept.refl W).drew.trans k3
              have d0 := k4.cell c0
              have HK4 := Lib.hid k4
              refine hK _ _ ?_; clear hK K
              refine wpAny_ready (rs := [7]) (by kernel_rfl) (by simp) ?_
              refine AllReady.cons rfl (fun K hK => ?_) ?_
              · go_simp
                go_at_call 76
                refine (HME.out _ HK4.out).mono ?_
                rintro e w5 ⟨rfl, hi5, ho5⟩
                refine hK _ _ ?_; clear hK K
                refine wpAny_done (by kernel_rfl) ?_ _
                exact ⟨(Only.of_kept HK4.out).trans ho5, hi5⟩
              exact AllReady.nil
            exact AllReady.nil
          exact AllReady.nil
        exact AllReady.nil
      refine AllReady.cons rfl (fun K hK => ?_) ?_
      · go_simp
        refine hK _ _ ?_; clear hK K
        refine wpAny_take (i := 3) (v := ?_) rfl (by kernel_rfl) (by kernel_rfl) (by kernel_rfl) (fun _ _ _ h => h) (Or.inl ⟨by rfl, ?_⟩) ?_
        rotate_left
        · intro w; go_simp; try with_reducible rfl
        refine wpAny_ready (rs := [0, 4]) (by kernel_rfl) (by simp) ?_
        refine AllReady.cons rfl (fun K hK => ?_) ?_
        · go_simp
          refine hK _ _ ?_; clear hK K
          refine wpAny_ready (rs := [4]) (by kernel_rfl) (by simp) ?_
          refine AllReady.cons rfl (fun K hK => ?_) ?_
          · go_simp
            refine hK _ _ ?_; clear hK K
            refine wpAny_ready (rs := [5]) (by kernel_rfl) (by simp) ?_
            refine AllReady.cons rfl (fun K hK => ?_) ?_
            · go_simp
              go_at_call 78
              refine (HLO.out _).mono ?_
              rintro e w3 ⟨rfl, k3⟩
              have k4 := (Kept.refl W).drew.trans k3
              have d0 := k4.cell c0
              have HK4 := Lib.hid k4
              refine hK _ _ ?_; clear hK K
              refine wpAny_ready (rs := [7]) (by kernel_rfl) (by simp) ?_
              refine AllReady.cons rfl (fun K hK => ?_) ?_
              · go_simp
                go_at_call 76
                refine (HME.out _ HK4.out).mono ?_
                rintro e w5 ⟨rfl, hi5, ho5⟩
                refine hK _ _ ?_; clear hK K
                refine wpAny_done (by kernel_rfl) ?_ _
                exact ⟨(Only.of_kept HK4.out).trans ho5, hi5⟩
              exact AllReady.nil
            exact AllReady.nil
          exact AllReady.nil
        refine AllReady.cons rfl (fun K hK => ?_) ?_
        · go_simp
          refine hK _ _ ?_; clear hK K
          refine wpAny_ready (rs := [0, 5]) (by kernel_rfl) (by simp) ?_
          refine AllReady.cons rfl (fun K hK => ?_) ?_
          · go_simp
            refine hK _ _ ?_; clear hK K
            refine wpAny_ready (rs := [5]) (by kernel_rfl) (by simp) ?_
            refine AllReady.cons rfl (fun K hK => ?_) ?_
            · go_simp
              go_at_call 78
              refine (HLO.out _).mono ?_
              rintro e w3 ⟨rfl, k3⟩
              have k4 := (Kept.refl W).drew.trans k3
              have d0 := k4.cell c0
              have HK4 := Lib.hid k4
              refine hK _ _ ?_; clear hK K
              refine wpAny_ready (rs := [7]) (by kernel_rfl) (by simp) ?_
              refine AllReady.cons rfl (fun K hK => ?_) ?_
              · go_simp
                go_at_call 76
                refine (HME.out _ HK4.out).mono ?_
                rintro e w5 ⟨rfl, hi5, ho5⟩
                refine hK _ _ ?_; clear hK K
                refine wpAny_done (by kernel_rfl) ?_ _
                exact ⟨(Only.of_kept HK4.out).trans ho5, hi5⟩
              exact AllReady.nil
            exact AllReady.nil
          refine AllReady.cons rfl (fun K hK => ?_) ?_
          · go_simp
            go_at_call 78
            refine (HLO.out _).mono ?_
            rintro e w3 ⟨rfl, k3⟩
            have k4 := (Kept.refl W).drew.trans k3
            have d0 := k4.cell c0
            have HK4 := Lib.hid k4
            refine hK _ _ ?_; clear hK K
            refine wpAny_ready (rs := [0]) (by kernel_rfl) (by simp) ?_
            refine AllReady.cons rfl (fun K hK => ?_) ?_
            · go_simp
              refine hK _ _ ?_; clear hK K
              refine wpAny_ready (rs := [7]) (by kernel_rfl) (by simp) ?_
              refine AllReady.cons rfl (fun K hK => ?_) ?_
              · go_simp
                go_at_call 76
                refine (HME.out _ HK4.out).mono ?_
                rintro e w5 ⟨rfl, hi5, ho5⟩
                refine hK _ _ ?_; clear hK K
                refine wpAny_done (by kernel_rfl) ?_ _
                exact ⟨(Only.of_kept HK4.out).trans ho5, hi5⟩
              exact AllReady.nil
            exact AllReady.nil
          exact AllReady.nil
        exact AllReady.nil
      exact AllReady.nil
  case done =>
    rintro D xs W hD rfl hi hd
    obtain ⟨k, f, nw, hwy, hkn, kb, hfo, hbl, hbf, hon⟩ := hi
    obtain rfl : k = l.length := by
      have := congrArg List.length hwy
      simpa [way_len] using this.symm
    have hDs : D = w.heap.size + 9 := by rw [hD, s13]
    have HO := Lib.hid (show Only (· = D) W (W.putObj D (.deferred none)) from Only.putObj (Only.refl (· = D) W) (.inl rfl) _)
    have FIN := Lib.hid (show Blk (W.putObj D (.deferred none)) g 113 (mkC l.length back M (Chn.fF ky (wayL back l)) l.length) ∧ Only (· = g) w (W.putObj D (.deferred none)) from
      ⟨kb.hg.only HO.out (by omega), hon.then HO.out (fun j e => .inr (by omega))⟩)
    clear kb hfo hbl hbf hon hI13 B1 B2 HL0 HK0 hD hDs HO
    go_wp2
    refine ⟨by simp, .inl ⟨_, _, rfl, run_takeDeferred hd, ?_⟩⟩
    exact ⟨_, results_none rfl _ _ _, rfl, FIN.out⟩
  case stop =>
    rintro D c pre W _ _ h _
    exact h.elim

end Go.Proofs.YtdceafncncgfbaaDoor
