/- A map from letters: what a look-up tells, what a store makes of it. Layers and chains in memory. -/
import Derived.Test.YtdceafncncgfbaaDoorChp
import Derived.Test.YtdceafncncgfbaaDoorLyr
import Derived.Test.YtdceafncncgfbaaDoorMpl
import Derived.Test.YtdceafncncgfbaaDoorApk
import Derived.Test.YtdceafncncgfbaaDoorRow
import Derived.Test.YtdceafncncgfbaaDoorRgw
import Derived.DeepKeys4
import Derived.WalkKit
set_option linter.unusedSimpArgs false
set_option linter.unusedVariables false
set_option maxRecDepth 100000
namespace Go.Proofs.YtdceafncncgfbaaDoor
open Go.ChangeShapes Go.WideShapes Go.ChangeAt Go.RowKit
open Go.Maps (Keyed)

abbrev Ltr := Bool × ByteArray
abbrev lv (p : Ltr) : Value := .agg #[.bool p.1, .string p.2]
def klL (p : Ltr) : Lit := .string (keyBytes [.bool p.1, .string p.2.data.toList])
def FineL (p : Ltr) : Prop := p.2.size ≤ maxLen

theorem letter_laid : laidOutB Tryd.prog = true := by kernel_rfl
theorem letter_row : (141 : TypeId) < Tryd.prog.types.size := of_decide_eq_true (by kernel_rfl)
theorem letter_wide : (match Tryd.prog.underlying 141 with | some (.array _ _) | some (.struct _) => true | _ => false) = true := by kernel_rfl
theorem letter_law : Keyed Tryd.prog 141 := Keyed.of_law (deep_law_laid letter_laid (m := 2) (by omega) letter_row (by kernel_rfl) letter_wide)
theorem letter_keyType : Tryd.prog.keyType 141 = true := by kernel_rfl
theorem letter_cells : Tryd.prog.cellsOf 141 = 2 := by kernel_rfl

theorem keyOf_shapeL (v : Value) : keyOf Tryd.prog 141 v = if Tryd.prog.keyType 141 && v.formed Tryd.prog 141 then (Tryd.prog.keyLits (Tryd.prog.types.size + 1) 141 v.cells.toList).map fun ls => .string (keyBytes ls) else none := by
  unfold keyOf
  rw [Tryd.underlying141]
theorem letter_lits (d : Nat) (cs : List Value) : Tryd.prog.keyLits (d + 2) 141 cs = match cs with
    | [.bool a, .string b] => if b.size ≤ maxLen then some [.bool a, .string b.data.toList] else none
    | _ => none := by
  have hs : ∀ (d : Nat) (cs : List Value), Tryd.prog.keyLits (d + 1) 9 cs = match cs with | [.string s] => if s.size ≤ maxLen then some [.string s.data.toList] else none | _ => none := by
    intro d cs
    unfold Program.keyLits
    rw [Tryd.underlying9]
    split <;> simp_all
  have hb : ∀ (d : Nat) (cs : List Value), Tryd.prog.keyLits (d + 1) 4 cs = match cs with | [.bool s] => some [.bool s] | _ => none := by
    intro d cs
    unfold Program.keyLits
    rw [Tryd.underlying4]
    split <;> simp_all
  unfold Program.keyLits
  rw [Tryd.underlying141]
  simp only [letter_cells]
  match cs with
  | [] => simp
  | [a] => simp
  | a :: b :: c :: r => simp
  | [a, b] =>
    have c1 : Tryd.prog.cellsOf 9 = 1 := by kernel_rfl
    have c2 : Tryd.prog.cellsOf 4 = 1 := by kernel_rfl
    simp [c1, c2, hs, hb]
    cases a <;> cases b <;> simp
    rename_i x y
    by_cases h2 : y.size ≤ maxLen <;> simp [h2]

theorem types_bigL : ∃ d, Tryd.prog.types.size + 1 = d + 2 := ⟨Tryd.prog.types.size - 1, by have h : 141 < Tryd.prog.types.size := letter_row; omega⟩
theorem keyOf_letter {p : Ltr} (h : FineL p) : keyOf Tryd.prog 141 (lv p) = some (klL p) := by
  rw [keyOf_shapeL]
  obtain ⟨d, hd⟩ := types_bigL
  unfold FineL at h
  rw [hd, letter_lits, letter_keyType, show (lv p).formed Tryd.prog 141 = true by simp [Value.formed, Tryd.underlying141, letter_cells]]
  have : (lv p).cells.toList = [.bool p.1, .string p.2] := by simp [Value.cells]
  rw [this]
  simp only [h, if_true, Bool.and_self, Option.map_some]
  rfl
theorem kl_injL {p q : Ltr} (hp : FineL p) (hq : FineL q) (e : klL p = klL q) : p = q := by
  have := letter_law.inj (keyOf_letter hp) ((keyOf_letter hq).trans (by rw [e]))
  simp at this
  exact Prod.ext this.1 this.2

/-- Block b holds a map that tells f. -/
def MapL (b n : Nat) (f : Ltr → Option Value) (W : World) : Prop :=
  ∃ D : DataW Value, W.ownsMap Tryd.prog 141 selfElem b n D ∧ Maps.IsMap D ∧ ∀ p, FineL p → Maps.has D (klL p) = (f p).isSome ∧ ∀ v, f p = some v → ∀ z, D.atKey (klL p) z = .held v

section
variable {e t : TypeId} {b n : Nat} {f : Ltr → Option Value} {W : World}

theorem MapL.made (W : World) : MapL W.heap.size 0 (fun _ => none) (W.alloc (.map #[] 0)) :=
  ⟨.map [], World.ownsMap_made W _ _ selfElem, Maps.isMap_empty, fun s _ => ⟨rfl, fun v h => by cases h⟩⟩
theorem MapL.lt (h : MapL b n f W) : b < W.heap.size := by obtain ⟨D, h1, _⟩ := h; exact h1.lt
theorem MapL.mono (h : MapL b n f W) {m : Nat} (hm : n ≤ m) : MapL b m f W := by obtain ⟨D, h1, h2⟩ := h; exact ⟨D, h1.mono hm, h2⟩
theorem MapL.only {S : Nat → Prop} {W' : World} (h : MapL b n f W) (ho : Only S W W') (hs : ¬ S b) : MapL b n f W' := by
  obtain ⟨D, ⟨es, clock, hb, rest⟩, h2⟩ := h
  exact ⟨D, ⟨es, clock, (ho.block b (Array.getElem?_eq_some_iff.1 hb).1 hs).trans hb, rest⟩, h2⟩
theorem MapL.kept {W' : World} (h : MapL b n f W) (k : Kept W W') : MapL b n f W' := h.only (S := fun _ => False) (Only.of_kept k) (fun h => h)

theorem MapL.look (h : MapL b n f W) (ht : Tryd.prog.underlying t = some (.map 141 e)) {z : Value} (hz : (zeroValue e).run Tryd.prog W = .ok z W) (p : Ltr) (hp : FineL p) :
    (Instr.lookup t (.map (some b)) (lv p) false).run Tryd.prog W = .ok ((f p).getD z) W := by
  obtain ⟨D, h1, h2, h3⟩ := h
  obtain ⟨v, ps, hr, hv⟩ := h1.lookup letter_law ht hz (zd := .held z) (zp := []) rfl (keyOf_letter hp)
  rw [hr]
  cases e : f p with
  | none =>
    rw [Maps.atKey_of_not_has (by rw [(h3 p hp).1, e]; rfl)] at hv
    rw [selfElem_inv hv]
    rfl
  | some x =>
    rw [(h3 p hp).2 x e] at hv
    rw [selfElem_inv hv]
    rfl

theorem MapL.store (h : MapL b n f W) (ht : Tryd.prog.underlying t = some (.map 141 e)) (hn : n < maxLen) (p : Ltr) (hp : FineL p) (v : Value) :
    ∃ W', (Instr.mapUpdate t (.map (some b)) (lv p) v).run Tryd.prog W = .ok () W' ∧ MapL b (n + 1) (fun x => if x = p then some v else f x) W' ∧ W.grownBy W' (some b) := by
  obtain ⟨D, h1, h2, h3⟩ := h
  obtain ⟨W', hr, ho, hg⟩ := h1.update letter_law ht hn (keyOf_letter hp) (show selfElem v = some (.held v, []) from rfl)
  refine ⟨W', hr, ⟨_, ho, h2.put _ _, fun x hf => ?_⟩, hg⟩
  by_cases hx : x = p
  · subst hx
    refine ⟨by rw [Maps.has_put_same (k := klL x) h2 trivial]; simp, fun u hu z => ?_⟩
    rw [Maps.atKey_put_same (k := klL x) h2 trivial]
    simp at hu
    rw [hu]
  · have hne : klL x ≠ klL p := fun e => hx (kl_injL hf hp e)
    refine ⟨by rw [Maps.has_put_other hne]; simp [hx, (h3 x hf).1], fun u hu z => ?_⟩
    rw [Maps.atKey_put_other hne]
    simp [hx] at hu
    exact (h3 x hf).2 u hu z
end

/-! ### Layers in memory -/
def ky (x : Ly) : Ltr := (x.out, x.cls)
def lCells (x : Ly) : List Value := [.bool x.out, .string x.cls, .int .i64 x.lab]
theorem lCells_len (x : Ly) : (lCells x).length = 3 := rfl
theorem info_layer : (Tryd.prog.info? 35).map (fun i => (i.zero, i.size, i.bytes)) = some (some (.agg #[.bool false, .string ⟨#[]⟩, .int .i64 0]), 3, 32) := by kernel_rfl
theorem src_lys {w : World} {v : Value} {l : List Ly} (h : LysAt w v l) : Src Tryd.prog 3 25 v l.length (l.flatMap lCells) w := by
  obtain ⟨a, c, rfl, h1, h2, h3⟩ := h
  cases a with
  | none =>
    cases l with
    | nil => exact Src.ofNil w Tryd.underlying25 c
    | cons x r =>
      obtain ⟨b, o, e, _⟩ := h3 0 x rfl
      cases e
  | some ad =>
    refine Src.ofSlice w Tryd.underlying25 ad l.length c _ (flat_len lCells lCells_len l) ?_ ?_
    · intro j u hu
      have hj : j < l.length * 3 := by
        have := (List.getElem?_eq_some_iff.1 hu).1
        rwa [flat_len lCells lCells_len l] at this
      have hx : l[j / 3]? = some l[j / 3] := List.getElem?_eq_getElem (by omega)
      obtain ⟨b, o, e, hv⟩ := h3 _ _ hx
      cases e
      have hr : j % 3 < 3 := Nat.mod_lt _ (by omega)
      have hd : j / 3 * 3 + j % 3 = j := by omega
      have hf := flat_at lCells lCells_len l (j / 3) (j % 3) _ hx hr
      rw [hd, hu] at hf
      generalize l[j / 3] = x at hv hf
      rw [addr_plainL]
      have h3' : j % 3 = 0 ∨ j % 3 = 1 ∨ j % 3 = 2 := by omega
      rcases h3' with e | e | e
      · rw [e] at hf
        obtain rfl : u = .bool x.out := by simpa [lCells] using hf
        rw [show o + j = o + j / 3 * 3 by omega]
        exact hv.1
      · rw [e] at hf
        obtain rfl : u = .string x.cls := by simpa [lCells] using hf
        rw [show o + j = o + j / 3 * 3 + 1 by omega]
        exact hv.2.1
      · rw [e] at hf
        obtain rfl : u = .int .i64 x.lab := by simpa [lCells] using hf
        rw [show o + j = o + j / 3 * 3 + 2 by omega]
        exact hv.2.2.1
    · intro u hu
      obtain ⟨x, _, hx⟩ := List.mem_flatMap.1 hu
      simp [lCells] at hx
      rcases hx with rfl | rfl | rfl <;> rfl
theorem owns_lys {w : World} {base : Nat} {v : Value} {l : List Ly} (h : w.ownsRow base 35 3 v l.length (l.flatMap lCells)) (hz : ∀ x ∈ l, x.cls.size ≤ maxLen) : LysAt w v l := by
  rcases h.2 with ⟨rfl, hl0⟩ | ⟨g, cap, cur, rfl, hg1, hg2, hg3, hg4, hg5, hg6⟩
  · obtain rfl : l = [] := List.eq_nil_of_length_eq_zero hl0
    exact Row.nil
  · refine ⟨_, cap, rfl, hg3, hg4, fun i x hx => ⟨g, 0, rfl, ?_⟩⟩
    have c0 := h.cells (g := g) rfl _ _ (flat_at lCells lCells_len l i 0 x hx (by omega))
    have c1 := h.cells (g := g) rfl _ _ (flat_at lCells lCells_len l i 1 x hx (by omega))
    have c2 := h.cells (g := g) rfl _ _ (flat_at lCells lCells_len l i 2 x hx (by omega))
    rw [addr_plainL] at c0 c1 c2
    exact ⟨by simpa using c0, by simpa [Nat.add_assoc] using c1, by simpa [Nat.add_assoc] using c2, hz x (List.mem_of_getElem? hx)⟩

theorem rown_geL {w : World} {base k n : Nat} {e : TypeId} {v : Value} {xs : List Value} (h : w.ownsRow base e k v n xs) {g : Nat} (hg : v.ownBlock = some g) : base ≤ g := by
  rcases h.2 with ⟨rfl, _⟩ | ⟨g', cap, cur, rfl, hb, hgg, _⟩
  · cases hg
  · obtain rfl : g' = g := Option.some.inj hg
    exact hb
theorem own_emptyL (W : World) (e : TypeId) (k n : Nat) (hn : n = W.heap.size) : (W.alloc (.cells #[] e)).ownsRow n e k (.slice (some ⟨n, 0, none⟩) 0 0) 0 [] := by
  subst hn
  exact ⟨by simp, .inr ⟨W.heap.size, 0, #[], rfl, Nat.le_refl _, Blk.new W _ _, Nat.le_refl _, by decide, by simp, by simp⟩⟩
theorem owns_slice_nL {w : World} {base k n : Nat} {e : TypeId} {v : Value} {xs : List Value} (h : w.ownsRow base e k v n xs) : ∃ a c, v = .slice a n c := by
  rcases h.2 with ⟨rfl, rfl⟩ | ⟨g, cap, cur, rfl, _⟩
  · exact ⟨_, _, rfl⟩
  · exact ⟨_, _, rfl⟩
theorem owns_onlyL {w w' : World} {S : Nat → Prop} {base k n : Nat} {e : TypeId} {v : Value} {xs : List Value} (h : w.ownsRow base e k v n xs) (ho : Only S w w') (hs : ∀ g, base ≤ g → ¬ S g) : w'.ownsRow base e k v n xs := by
  refine ⟨h.1, ?_⟩
  rcases h.2 with h | ⟨g, cap, cur, rfl, hb, hg, r⟩
  · exact .inl h
  · exact .inr ⟨g, cap, cur, rfl, hb, ho.same hg (hs g hb), r⟩
theorem owns_keptL {w w' : World} {base k n : Nat} {e : TypeId} {v : Value} {xs : List Value} (h : w.ownsRow base e k v n xs) (ho : Kept w w') : w'.ownsRow base e k v n xs :=
  owns_onlyL (S := fun _ => False) h (Only.of_kept ho) (fun _ _ h => h)
/-- One's own row lies on a lower base just as well. -/
theorem owns_baseL {w : World} {base base' k n : Nat} {e : TypeId} {v : Value} {xs : List Value} (h : w.ownsRow base e k v n xs) (hb : base' ≤ base) : w.ownsRow base' e k v n xs := by
  refine ⟨h.1, ?_⟩
  rcases h.2 with h | ⟨g, cap, cur, rfl, hg, r⟩
  · exact .inl h
  · exact .inr ⟨g, cap, cur, rfl, by omega, r⟩

end Go.Proofs.YtdceafncncgfbaaDoor
