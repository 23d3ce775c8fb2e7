/- A class is as precise as another one just if its members are: the walk of PreciseMembers over a table that lies in memory. -/
import Derived.Test.YtnjgagbblkjjeaaGreatDoorPkn
import Derived.Test.YtnjgagbblkjjeaaGreatDoorSbt
import Derived.Test.YtnjgagbblkjjeaaGreatDoorAri
import Derived.Test.YtnjgagbblkjjeaaGreatDoorTfr
import Derived.Test.YtnjgagbblkjjeaaGreatDoorTbl
set_option linter.unusedSimpArgs false
set_option linter.unusedVariables false
set_option maxRecDepth 100000
namespace Go.Proofs.YtnjgagbblkjjeaaGreatDoor
open Go.ChangeShapes Go.WideShapes Go.ChangeAt Go.RowKit

theorem small_short {t : List Tab.C} (h : t.length ≤ 9 ∧ ∀ c ∈ t, ShortC c) : Small t :=
  ⟨by omega, fun c hc => by have := (h.2 c hc).1; omega, fun c hc => by have := (h.2 c hc).2.1; omega, fun c hc m hm => by have := (h.2 c hc).2.2 m hm; unfold ShortM at this; omega⟩

/-- Which of n things a number picks. -/
def pickN (x : Int) (n : Nat) : Nat := (if x.tmod n < 0 then x.tmod n + n else x.tmod n).toNat

theorem tmod_bounds (x : Int) {n : Nat} (h0 : 0 < n) : -(n : Int) < x.tmod n ∧ x.tmod n < (n : Int) := by
  rcases Int.natAbs_eq x with h | h
  · rw [h, show ((x.natAbs : Int)).tmod (n : Int) = ((x.natAbs % n : Nat) : Int) from (Int.ofNat_tmod _ _).symm]
    have := Nat.mod_lt x.natAbs h0; omega
  · rw [h, Int.neg_tmod, show ((x.natAbs : Int)).tmod (n : Int) = ((x.natAbs % n : Nat) : Int) from (Int.ofNat_tmod _ _).symm]
    have := Nat.mod_lt x.natAbs h0; omega

theorem pickN_lt (x : Int) {n : Nat} (h0 : 0 < n) : pickN x n < n := by
  obtain ⟨h1, h2⟩ := tmod_bounds x h0
  unfold pickN
  split <;> omega

theorem pick_v (x : Int) (n : Nat) (w : World) (h0 : 0 < n) (hn : n ≤ 1000) (h1 : -9223372036854775808 ≤ x) (h2 : x ≤ 9223372036854775807) :
    Calls Tryz.prog 33 #[.int .i64 x, .int .i64 n] w fun e w' => e = .returned (.int .i64 (pickN x n : Int)) ∧ w' = w := by
  have hnI : ¬ (n : Int) ≤ 0 := by omega
  have hne : ¬ (n : Int) = 0 := by omega
  obtain ⟨hm1, hm2⟩ := tmod_bounds x h0
  have HP := Lib.hid (show (pickN x n : Int) = if x.tmod n < 0 then x.tmod n + n else x.tmod n by unfold pickN; split <;> omega)
  generalize pickN x n = pn at HP ⊢
  generalize hr : x.tmod n = r at hm1 hm2 HP
  by_cases hneg : r < 0
  · have HQ := Lib.hid (show (pn : Int) = r + n by rw [HP.out, if_pos hneg])
    go_enter Tryz.func33, Tryz.ntmps33
    go_wp2_with fail
    go_ret
    exact ⟨by rw [HQ.out]; first | rfl | (congr 2; go_num), rfl⟩
  · have HQ := Lib.hid (show (pn : Int) = r by rw [HP.out, if_neg hneg])
    go_enter Tryz.func33, Tryz.ntmps33
    go_wp2_with fail
    go_ret
    exact ⟨by rw [HQ.out]; rfl, rfl⟩

/-- A region's orders come to one act. -/
theorem wp_cutG {P : Program} {c : Code} {K : Act → World → Prop} {Q : Exit → Act → World → Prop} {a : Act} {w : World} {A : Act} (F : World → Prop)
    (h : c.wp P (Exit.then (fun a' w' => a' = A ∧ F w') (fun _ _ _ => False)) a w) (hk : ∀ w', F w' → K A w') : c.wp P (Exit.then K Q) a w := by
  refine wp_mono h fun e a' w' hp => ?_
  cases e with
  | normal =>
    obtain ⟨rfl, hf⟩ := hp
    exact hk _ hf
  | _ => exact hp.elim

/-- What is left of a region, behind a name. -/
theorem any_states {P : Program} {md : Region.Mode} {ops : Array Oper} {Q : Exit → Act → World → Prop} {n : Nat} {mask : Array Bool} {a : Act} {w : World} (k : ∀ G : Nat → Array Bool → Act → World → Prop, G = wpAny P md ops Q → wpAny P md ops Q n mask a w) : wpAny P md ops Q n mask a w := k _ rfl
theorem any_eq {P : Program} {md : Region.Mode} {ops : Array Oper} {Q : Exit → Act → World → Prop} {G : Nat → Array Bool → Act → World → Prop} (hG : G = wpAny P md ops Q) {n n' : Nat} {m m' : Array Bool} {a a' : Act} {w : World} (h1 : n = n') (h2 : m = m') (h3 : a = a') (h : G n' m' a' w) : wpAny P md ops Q n m a w := by
  subst h1 h2 h3
  rw [← hG]
  exact h

namespace Tab
/-- What is asked of a class for another one's member. -/
def MokP (t : List C) (s : ByteArray) (m : Mb ByteArray) : Prop := ∃ x ∈ mbs t s, alike x m = true ∧ ∀ (i : Nat) a b, x.types[i]? = some a → m.types[i]? = some b → pcs t (a, b) = true
def TokP (t : List C) (s u : ByteArray) (x : ByteArray × Int) : Prop := ∀ m ∈ mbs t u, (m.name, m.ar) = x → MokP t s m

theorem precise_toks {t : List C} (hv : Valid t) {s u : ByteArray} (hs : isC t s = true) (hu : isC t u = true) (ho : ok t = true) : precise t s u = true ↔ ∀ x ∈ members t u, TokP t s u x := by
  have e : precise t s u = pcs t (s, u) := by
    unfold precise ats
    rw [ho, isT_cls hs, isT_cls hu]
    rfl
  rw [e, prec_members hv hs hu]
  constructor
  · intro h x hx m hm _
    exact h m hm
  · intro h m hm
    refine h (m.name, m.ar) ?_ m hm rfl
    rw [← mbs_told]
    exact List.mem_map.2 ⟨m, hm, rfl⟩

/-- What the law sees of a member: which answers its questions get, and what they come to. -/
inductive Seen (t : List C) (s u : ByteArray) (x : ByteArray × Int) : Prop
  | no (h1 : arity t s x.1 ≠ some x.2) (h2 : ¬ TokP t s u x)
  | fld (a b : ByteArray) (h1 : arity t s x.1 = some x.2) (h2 : field t s x.1 = some a) (h3 : field t u x.1 = some b) (h4 : method t u x.1 = none) (h5 : TokP t s u x ↔ precise t a b = true) (h6 : ∃ f ∈ fields t s, f.typ = a) (h7 : ∃ f ∈ fields t u, f.typ = b)
  | mth (p q : M) (o1 o2 : ByteArray) (h1 : arity t s x.1 = some x.2) (h2 : field t u x.1 = none) (h3 : method t s x.1 = some (p, o1)) (h4 : method t u x.1 = some (q, o2)) (h5 : p.params.length = q.params.length) (h7 : p ∈ methods t s) (h8 : q ∈ methods t u)
      (h6 : TokP t s u x ↔ (∀ (i : Nat) a b, p.params[i]? = some a → q.params[i]? = some b → precise t a.typ b.typ = true) ∧ precise t p.res q.res = true)

theorem arity_told {t : List C} {c : ByteArray} (g : Good t c) {nm : ByteArray} {n : Int} (h : arity t c nm = some n) : (∃ f ∈ fields t c, f.name = nm ∧ n = -1) ∨ ∃ m ∈ methods t c, m.name = nm ∧ n = (m.params.length : Int) ∧ ∃ o, method t c nm = some (m, o) := by
  unfold arity at h
  by_cases hf : hasF nm (fields t c)
  · obtain ⟨f, hf, e⟩ := hf
    have := g.fd f hf
    rw [e] at this
    rw [this] at h
    injection h with h
    exact .inl ⟨f, hf, e, h.symm⟩
  · rw [g.fN nm hf, if_neg (by simp), g.ar] at h
    by_cases hm : hasM nm (methods t c)
    · obtain ⟨m, hm, e⟩ := hm
      obtain ⟨j, _, h1⟩ := g.md m hm
      rw [e] at h1
      rw [h1] at h
      injection h with h
      exact .inr ⟨m, hm, e, h.symm, _, h1⟩
    · rw [g.mN nm hm] at h; cases h
theorem good_isC {t : List C} (hv : Valid t) {c : ByteArray} (h : isC t c = true) : Good t c := by
  obtain ⟨i, hi, rfl⟩ := isC_at h
  exact hv.good hi
theorem mok_arity {t : List C} {s : ByteArray} (g : Good t s) {m : Mb ByteArray} (h : MokP t s m) : arity t s m.name = some m.ar := by
  obtain ⟨y, hy, ha, _⟩ := h
  obtain ⟨e1, e2⟩ := alike_iff.1 ha
  unfold mbs at hy
  rcases List.mem_append.1 hy with hy | hy
  · obtain ⟨f, hf, rfl⟩ := List.mem_map.1 hy
    have h1 := g.fd f hf
    have e1 : f.name = m.name := e1
    have e2 : (-1 : Int) = m.ar := e2
    rw [← e1, ← e2]
    unfold arity
    rw [h1]; rfl
  · obtain ⟨f, hf, rfl⟩ := List.mem_map.1 hy
    have e1 : f.name = m.name := e1
    have e2 : (f.params.length : Int) = m.ar := e2
    obtain ⟨j, hj, h1⟩ := g.md f hf
    rw [← e1, ← e2]
    unfold arity
    rw [g.fN _ fun h => g.dj _ h ⟨f, hf, rfl⟩, if_neg (by simp), g.ar, h1]; rfl
theorem pr_typ {t : List C} (ho : ok t = true) {a b : ByteArray} (ha : isT t a = true) (hb : isT t b = true) : precise t a b = pcs t (a, b) := by
  unfold precise ats
  rw [ho, ha, hb]
  rfl

theorem seen {t : List C} (hv : Valid t) (ho : ok t = true) {s u : ByteArray} (hs : isC t s = true) (hu : isC t u = true) {x : ByteArray × Int} (hx : x ∈ members t u) : Seen t s u x := by
  have gs := good_isC hv hs
  have gu := good_isC hv hu
  have hx' : x ∈ (mbs t u).map (fun m => (m.name, m.ar)) := by rw [mbs_told]; exact hx
  obtain ⟨m, hm, hmx⟩ := List.mem_map.1 hx'
  have huq : ∀ m' ∈ mbs t u, (m'.name, m'.ar) = x → m' = m := fun m' hm' e => mbs_unique hv hu hm' hm (by rw [← hmx] at e; injection e)
  have hT : TokP t s u x ↔ MokP t s m := ⟨fun h => h m hm hmx, fun h m' hm' e => by rw [huq m' hm' e]; exact h⟩
  subst hmx
  by_cases har : arity t s m.name = some m.ar
  · rcases arity_told gs har with ⟨f, hf, e1, e2⟩ | ⟨p, hp, e1, e2, o1, e3⟩
    · -- a field
      have hm' := hm
      unfold mbs at hm'
      rcases List.mem_append.1 hm' with hm' | hm'
      · obtain ⟨g, hg, rfl⟩ := List.mem_map.1 hm'
        have e1 : f.name = g.name := e1
        have f1 := gs.fd f hf
        rw [e1] at f1
        have hfm : mbF f ∈ mbs t s := List.mem_append.2 (.inl (List.mem_map.2 ⟨f, hf, rfl⟩))
        refine .fld f.typ g.typ har f1 (gu.fd g hg) (gu.mN _ (gu.dj _ ⟨g, hg, rfl⟩)) ?_ ⟨f, hf, rfl⟩ ⟨g, hg, rfl⟩
        rw [hT, pr_typ ho (field_typ hv hf) (field_typ hv hg)]
        constructor
        · rintro ⟨y, hy, ha, h⟩
          obtain rfl : y = mbF f := mbs_unique hv hs hy hfm ((alike_iff.1 ha).1.trans e1.symm)
          exact h 0 _ _ rfl rfl
        · intro h
          refine ⟨_, hfm, alike_iff.2 ⟨e1, rfl⟩, fun i a b h1 h2 => ?_⟩
          match i, h1, h2 with
          | 0, h1, h2 => cases h1; cases h2; exact h
      · obtain ⟨g, hg, rfl⟩ := List.mem_map.1 hm'
        have e2 : (g.params.length : Int) = -1 := e2
        omega
    · have hm' := hm
      unfold mbs at hm'
      rcases List.mem_append.1 hm' with hm' | hm'
      · obtain ⟨g, hg, rfl⟩ := List.mem_map.1 hm'
        have e2 : (-1 : Int) = (p.params.length : Int) := e2
        omega
      · obtain ⟨q, hq, rfl⟩ := List.mem_map.1 hm'
        have e1 : p.name = q.name := e1
        have e2 : (q.params.length : Int) = p.params.length := e2
        have hl : p.params.length = q.params.length := by omega
        have hpm : mbM p ∈ mbs t s := List.mem_append.2 (.inr (List.mem_map.2 ⟨p, hp, rfl⟩))
        obtain ⟨j, _, q1⟩ := gu.md q hq
        have tp := meth_typ hv hp
        have tq := meth_typ hv hq
        refine .mth p q o1 _ har (gu.fN _ fun h => gu.dj _ h ⟨q, hq, rfl⟩) e3 q1 hl hp hq ?_
        rw [hT, pr_typ ho tp.2 tq.2]
        constructor
        · rintro ⟨y, hy, ha, h⟩
          obtain rfl : y = mbM p := mbs_unique hv hs hy hpm ((alike_iff.1 ha).1.trans e1.symm)
          constructor
          · intro i a b h1 h2
            rw [pr_typ ho (tp.1 a (List.mem_of_getElem? h1)) (tq.1 b (List.mem_of_getElem? h2))]
            have hi1 := (List.getElem?_eq_some_iff.1 h1).1
            have hi2 := (List.getElem?_eq_some_iff.1 h2).1
            refine h i _ _ ?_ ?_
            · show (p.params.map (·.typ) ++ [p.res])[i]? = _
              rw [List.getElem?_append_left (by simpa using hi1), List.getElem?_map, h1]; rfl
            · show (q.params.map (·.typ) ++ [q.res])[i]? = _
              rw [List.getElem?_append_left (by simpa using hi2), List.getElem?_map, h2]; rfl
          · refine h p.params.length _ _ ?_ ?_
            · show (p.params.map (·.typ) ++ [p.res])[p.params.length]? = _
              rw [List.getElem?_append_right (by simp)]; simp
            · show (q.params.map (·.typ) ++ [q.res])[p.params.length]? = _
              rw [List.getElem?_append_right (by simp [hl])]; simp [hl]
        · rintro ⟨h1, h2⟩
          refine ⟨_, hpm, alike_iff.2 ⟨e1, e2.symm⟩, fun i a b ha hb => ?_⟩
          have ha : (p.params.map (·.typ) ++ [p.res])[i]? = some a := ha
          have hb : (q.params.map (·.typ) ++ [q.res])[i]? = some b := hb
          by_cases hi : i < p.params.length
          · rw [List.getElem?_append_left (by simpa using hi), List.getElem?_map] at ha
            rw [List.getElem?_append_left (by simp; omega), List.getElem?_map] at hb
            have k1 := List.getElem?_eq_getElem hi
            have k2 := List.getElem?_eq_getElem (show i < q.params.length by omega)
            rw [k1] at ha
            rw [k2] at hb
            cases ha; cases hb
            have := h1 i _ _ k1 k2
            rw [pr_typ ho (tp.1 _ (List.getElem_mem _)) (tq.1 _ (List.getElem_mem _))] at this
            exact this
          · obtain rfl : i = p.params.length := by
              have := (List.getElem?_eq_some_iff.1 ha).1
              simp at this
              omega
            rw [List.getElem?_append_right (by simp)] at ha
            rw [List.getElem?_append_right (by simp [hl])] at hb
            simp at ha
            simp [hl] at hb
            subst ha hb
            exact h2
  · exact .no har fun h => har (mok_arity gs (hT.1 h))
end Tab

def MemR2 (w : World) (b o : Nat) (x : ByteArray × Int) : Prop := w.cell? ⟨b, o, none⟩ = some (.string x.1) ∧ w.cell? ⟨b, o + 1, none⟩ = some (.int .i64 x.2)

theorem mem_row {w : World} {base : Nat} {v : Value} {l : List (ByteArray × Int)} (h : w.ownsRow base 63 2 v l.length (l.flatMap bCells)) : Row 2 MemR2 w v l := by
  rcases h.2 with ⟨rfl, h0⟩ | ⟨g, cap, cur, rfl, hg1, hg2, hg3, hg4, hg5, hg6⟩
  · obtain rfl : l = [] := List.eq_nil_of_length_eq_zero h0
    exact Row.nil
  · refine ⟨_, cap, rfl, hg3, hg4, fun i x hx => ⟨g, 0, rfl, ?_⟩⟩
    have c0 := h.cells (g := g) rfl _ _ (flat_at bCells bCells_len l i 0 x hx (by omega))
    have c1 := h.cells (g := g) rfl _ _ (flat_at bCells bCells_len l i 1 x hx (by omega))
    rw [addr_plain] at c0 c1
    exact ⟨by simpa using c0, by simpa [Nat.add_assoc] using c1⟩

/-- A signature in a box of its own. -/
def SigBox (wo w' : World) (p : Nat) (a b c : Value) : Prop := Blk w' p 53 #[a, b, c] ∧ Kept wo w'

/-- Parameters in a row of one's own. -/
def ParRow (w : World) (v : Value) (l : List Tab.V) : Prop := ∃ base, w.ownsRow base 50 2 v l.length (l.flatMap vCells)

theorem ParRow.kept {w w' : World} {v : Value} {l : List Tab.V} (h : ParRow w v l) (k : Kept w w') : ParRow w' v l := by
  obtain ⟨base, h⟩ := h
  exact ⟨base, owns_only (S := fun _ => False) h (Only.of_kept k) (fun _ _ h => h)⟩
theorem par_len {w : World} {a : Option Addr} {n c : Nat} {l : List Tab.V} (h : ParRow w (.slice a n c) l) : n ≤ 9223372036854775807 := by
  obtain ⟨base, h⟩ := h
  rcases h.2 with ⟨e, _⟩ | ⟨g, cap, cur, e, _, _, h1, h2, _⟩
  · injection e with _ e _; omega
  · injection e with _ e1 e2
    unfold maxLen at h2
    omega

/-- What two methods have in common, of which one takes the other's place. -/

theorem par_at {w : World} {pa : Option Addr} {n pd : Nat} {l : List Tab.V} (h : ParRow w (.slice pa n pd) l) {j : Nat} {x : Tab.V} (hx : l[j]? = some x) : ∃ ga, pa = some ⟨ga, 0, none⟩ ∧ w.cell? ⟨ga, j * 2 + 1, none⟩ = some (.string x.typ) ∧ n = l.length ∧ l.length ≤ pd ∧ pd ≤ 9223372036854775807 := by
  have hj := (List.getElem?_eq_some_iff.1 hx).1
  obtain ⟨b1, h1⟩ := h
  have h1' := h1
  rcases h1.2 with ⟨e, h0⟩ | ⟨g, cap, cur, e, _, _, hc, hd, _⟩
  · omega
  · injection e with e1 e2 e3
    subst e1 e2 e3
    unfold maxLen at hd
    exact ⟨g, rfl, (var_cells h1' hx).2, rfl, hc, hd⟩

theorem toks_end {t : List Tab.C} {s u : ByteArray} {l : List (ByteArray × Int)} {k : Nat} {W : Bool} (hF : Tab.precise t s u = true ↔ ∀ x ∈ l, Tab.TokP t s u x) (hW : W = true ↔ ∀ x ∈ l.take k, Tab.TokP t s u x) (h : W = false ∨ k = l.length) : Tab.precise t s u = W := by
  rw [Bool.eq_iff_iff, hF]
  rcases h with rfl | rfl
  · constructor
    · intro h; exact hW.2 fun x hx => h x (List.mem_of_mem_take hx)
    · intro h; cases h
  · rw [hW, List.take_length]
theorem toks_next {t : List Tab.C} {s u : ByteArray} {l : List (ByteArray × Int)} {k : Nat} {y : ByteArray × Int} (hy : l[k]? = some y) (hW : true = true ↔ ∀ x ∈ l.take k, Tab.TokP t s u x) {W : Bool} (h : W = true ↔ Tab.TokP t s u y) : W = true ↔ ∀ x ∈ l.take (k + 1), Tab.TokP t s u x := by
  rw [List.take_add_one, hy, h]
  simp only [Option.toList_some, List.mem_append, List.mem_singleton]
  constructor
  · rintro h x (hx | rfl)
    · exact hW.1 rfl x hx
    · exact h
  · intro h
    exact h y (.inr rfl)
theorem no_false {p : Prop} (h : ¬ p) : false = true ↔ p := ⟨fun e => (by cases e), fun e => absurd e h⟩

/-- Between members. -/
def MemI (t : List Tab.C) (s u : ByteArray) (l : List (ByteArray × Int)) (w5 : World) (pw q : Value) (wr : World) : Prop :=
  ∃ (k : Nat) (W : Bool), k ≤ l.length ∧ pw = .bool W ∧ q = .int .i64 k ∧ (W = true ↔ ∀ x ∈ l.take k, Tab.TokP t s u x) ∧ Kept w5 wr
/-- Between parameters. -/
def ParI (t : List Tab.C) (p q : Tab.M) (w5 : World) (pw v : Value) (wr : World) : Prop :=
  ∃ (j : Nat) (W : Bool), j ≤ q.params.length ∧ pw = .bool W ∧ v = .int .i64 j ∧ (W = true ↔ ∀ (i : Nat) a b, i < j → p.params[i]? = some a → q.params[i]? = some b → Tab.precise t a.typ b.typ = true) ∧ Kept w5 wr

theorem fieldA_c (a : Option Addr) (c : Nat) (t : List Tab.C) (s nm : ByteArray) (w : World) (hT : TabAt w (.slice a t.length c) t) (ht : t.length ≤ 1000) :
    Calls Tryz.prog 46 #[.slice a t.length c, .string s, .string nm] w fun e w' => (∃ fx fb, e = .returned (.tuple #[.string fx, .bool fb])) ∧ Kept w w' :=
  (field_c a c t s nm w hT ht).mono fun e w' h => ⟨⟨_, _, h.1⟩, h.2⟩
theorem methodA_c (a : Option Addr) (c : Nat) (t : List Tab.C) (s nm : ByteArray) (w : World) (hT : TabAt w (.slice a t.length c) t) (hS : Small t) :
    Calls Tryz.prog 47 #[.slice a t.length c, .string s, .string nm] w fun e w' => (∃ sa pa pn pc sc own bb, e = .returned (.tuple #[.agg #[.string sa, .slice pa pn pc, .string sc], .string own, .bool bb])) ∧ Kept w w' := by
  refine (method_c a c t s nm w hT hS).mono fun e w' h => ?_
  obtain ⟨k, h⟩ := h
  refine ⟨?_, k⟩
  rcases h with ⟨_, rfl⟩ | ⟨m, own, p, _, rfl, hr⟩
  · exact ⟨_, _, _, _, _, _, _, rfl⟩
  · obtain ⟨pa, pc, rfl⟩ := owns_slice_n hr
    exact ⟨_, _, _, _, _, _, _, rfl⟩
theorem methodN_c (a : Option Addr) (c : Nat) (t : List Tab.C) (s nm : ByteArray) (w : World) (hT : TabAt w (.slice a t.length c) t) (hS : Small t) (hn : Tab.method t s nm = none) :
    Calls Tryz.prog 47 #[.slice a t.length c, .string s, .string nm] w fun e w' => (∃ sa pa pn pc sc own, e = .returned (.tuple #[.agg #[.string sa, .slice pa pn pc, .string sc], .string own, .bool false])) ∧ Kept w w' := by
  refine (method_c a c t s nm w hT hS).mono fun e w' h => ?_
  obtain ⟨k, h⟩ := h
  refine ⟨?_, k⟩
  rcases h with ⟨_, rfl⟩ | ⟨m, own, p, e1, rfl, _⟩
  · exact ⟨_, _, _, _, _, _, rfl⟩
  · rw [hn] at e1; cases e1
theorem methodS_c (a : Option Addr) (c : Nat) (t : List Tab.C) (s nm : ByteArray) (w : World) (hT : TabAt w (.slice a t.length c) t) (hS : Small t) {m : Tab.M} {o : ByteArray} (hn : Tab.method t s nm = some (m, o)) :
    Calls Tryz.prog 47 #[.slice a t.length c, .string s, .string nm] w fun e w' => (∃ sa pa pc, e = .returned (.tuple #[.agg #[.string sa, .slice pa m.params.length pc, .string m.res], .string o, .bool true]) ∧ ParRow w' (.slice pa m.params.length pc) m.params) ∧ Kept w w' := by
  refine (method_c a c t s nm w hT hS).mono fun e w' h => ?_
  obtain ⟨k, h⟩ := h
  refine ⟨?_, k⟩
  rcases h with ⟨e1, rfl⟩ | ⟨m', own, p, e1, rfl, hr⟩
  · rw [hn] at e1; cases e1
  · rw [hn] at e1
    injection e1 with e1
    injection e1 with e1 e2
    subst e1 e2
    obtain ⟨pa, pc, rfl⟩ := owns_slice_n hr
    exact ⟨_, pa, pc, rfl, _, hr⟩

theorem par_next {t : List Tab.C} {p q : Tab.M} {j : Nat} {x y : Tab.V} (hx : p.params[j]? = some x) (hy : q.params[j]? = some y) (hW : true = true ↔ ∀ (i : Nat) a b, i < j → p.params[i]? = some a → q.params[i]? = some b → Tab.precise t a.typ b.typ = true) {W : Bool} (h : Tab.precise t x.typ y.typ = W) :
    W = true ↔ ∀ (i : Nat) a b, i < j + 1 → p.params[i]? = some a → q.params[i]? = some b → Tab.precise t a.typ b.typ = true := by
  subst h
  constructor
  · intro h i a b hi h1 h2
    by_cases e : i = j
    · subst e
      rw [hx] at h1
      rw [hy] at h2
      cases h1; cases h2
      exact h
    · exact hW.1 rfl i a b (by omega) h1 h2
  · intro h
    exact h j x y (Nat.lt_succ_self j) hx hy

set_option maxHeartbeats 16000000 in
theorem members8_c (t : List Tab.C) (a : Option Addr) (cp : Nat) (x1 x2 : Int) (w : World) (hTb : Tb w) (h : TabAt w (.slice a t.length cp) t) (p1 : -9223372036854775808 ≤ x1) (q1 : x1 ≤ 9223372036854775807) (p2 : -9223372036854775808 ≤ x2) (q2 : x2 ≤ 9223372036854775807) :
    Calls Tryz.prog 10 #[.slice a t.length cp, .int .i64 x1, .int .i64 x2] w fun e w' => e = .returned (.bool true) ∧ Kept w w' := by
  have HTB := Lib.hid hTb
  have HT := Lib.hid h
  clear hTb h
  have hfd : ∀ (fe fa : Int) (w : World), (Instr.field 38 (.agg #[.int .i64 fe, .int .i64 fa]) 0).run Tryz.prog w = .ok (.int .i64 fe) w := fun _ _ _ => by kernel_rfl
  go_enter Tryz.func10, Tryz.ntmps10
  go_wp2_with fail
  refine (known8_c w HTB.out).mono ?_
  rintro e w1 ⟨rfl, k1⟩
  have HK1 := Lib.hid k1
  have HL := Lib.hid (long_c t (.slice a t.length cp) w1 (tab_kept HT.out k1))
  clear k1
  go_wp2_with fail
  refine HL.out.mono ?_
  rintro e w2 ⟨⟨lb, rfl, hsh⟩, k2⟩
  have HK2 := Lib.hid (HK1.out.trans k2)
  clear k2
  cases lb with
  | true =>
    clear hsh
    go_wp2_with fail
    go_ret
    exact ⟨rfl, HK2.out⟩
  | false =>
    have HSH := Lib.hid (hsh rfl)
    clear hsh HL
    have h9 := HSH.out.1
    have HC := Lib.hid (check_c t a cp w2 (HTB.out.kept HK2.out) (tab_kept HT.out HK2.out) (small_short HSH.out))
    obtain ⟨fe, fa, hfe⟩ : ∃ fe fa, Tab.check t = (fe, fa) := ⟨_, _, rfl⟩
    rw [hfe] at HC
    dsimp only at HC
    go_wp2_with fail
    refine HC.out.mono ?_
    rintro e w3 ⟨rfl, k3⟩
    have HK3 := Lib.hid (HK2.out.trans k3)
    clear k3 HC
    by_cases z1 : fe = 0
    · subst z1
      have HO := Lib.hid (show Tab.ok t = true by unfold Tab.ok; rw [hfe]; rfl)
      have HV := Lib.hid (Tab.ok_valid HO.out)
      clear hfe
      by_cases h0 : t.length = 0
      · have h0I : (t.length : Int) = 0 := by omega
        go_wp2_with fail
        go_ret
        exact ⟨rfl, HK3.out⟩
      · have h0I : ¬ (t.length : Int) = 0 := by omega
        have HP1 := Lib.hid (pick_v x1 t.length w3.drew (by omega) (by omega) p1 q1)
        have HP2 := Lib.hid (pick_v x2 t.length w3.drew (by omega) (by omega) p2 q2)
        have l1 := pickN_lt x1 (show 0 < t.length by omega)
        have l2 := pickN_lt x2 (show 0 < t.length by omega)
        generalize pickN x1 t.length = i1 at HP1 l1
        generalize pickN x2 t.length = i2 at HP2 l2
        obtain ⟨b, o, rfl, hcl1⟩ := Row.cellsC (tab_kept HT.out HK3.out) l1
        obtain ⟨b', o', e', hcl2⟩ := Row.cellsC (tab_kept HT.out HK3.out) l2
        injection e' with e'
        injection e' with e1 e2
        subst e1 e2
        have hcp : t.length ≤ cp ∧ cp ≤ 9223372036854775807 := by obtain ⟨_, c', e, h1, h2, _⟩ := HT.out; injection e with _ e2 e3; subst e3; exact ⟨h1, h2⟩
        obtain ⟨hcp1, hcp2⟩ := hcp
        have cX := hcl1.1
        have cY := hcl2.1
        have HIS := Lib.hid (HV.out.isC l1)
        have HIU := Lib.hid (HV.out.isC l2)
        have HSS := Lib.hid (show (Tab.nth t i1).name.size ≤ maxLen from hcl1.2.2.2.2.1)
        have HSU := Lib.hid (show (Tab.nth t i2).name.size ≤ maxLen from hcl2.2.2.2.2.1)
        generalize (Tab.nth t i1).name = S at cX HIS HSS
        generalize (Tab.nth t i2).name = U at cY HIU HSU
        obtain ⟨n, hn⟩ : ∃ n, t.length = n := ⟨_, rfl⟩
        have HN := Lib.hid hn
        rw [hn] at l1 l2 h0 h0I hcp1 HP1 HP2 h9
        have l1I : (i1 : Int) < (n : Int) := by omega
        have l2I : (i2 : Int) < (n : Int) := by omega
        clear hcl1 hcl2
        rw [hn]
        clear hn
        go_wp2_with fail
        rw [show ((n : Int) == 0) = false by simp; omega]
        refine wp_cutG (A := { tmps := #[.slice (some ⟨b, o, none⟩) n cp, .int .i64 x1, .int .i64 x2, undef, undef, undef, .bool false, .bool true, .string S, .string U, undef, undef, undef, undef, undef, undef, undef, undef, undef, undef, undef, undef, undef, undef, undef, undef, .bool true, .slice (some ⟨b, o, none⟩) n cp, .bool false, .bool false, .slice (some ⟨b, o, none⟩) n cp, .agg #[.int .i64 0, .int .i64 fa], .int .i64 0, .bool false, .bool false, .bool false, .slice (some ⟨b, o, none⟩) n cp, .int .i64 (n : Int), .bool false, .bool false, undef, .slice (some ⟨b, o, none⟩) n cp, .int .i64 x1, .slice (some ⟨b, o, none⟩) n cp, .int .i64 (n : Int), .int .i64 (i1 : Int), .pointer (some ⟨b, o + i1 * 4, none⟩), .pointer (some ⟨b, o + i1 * 4, none⟩), .string S, .slice (some ⟨b, o, none⟩) n cp, .int .i64 x2, .slice (some ⟨b, o, none⟩) n cp, .int .i64 (n : Int), .int .i64 (i2 : Int), .pointer (some ⟨b, o + i2 * 4, none⟩), .pointer (some ⟨b, o + i2 * 4, none⟩), .string U, undef, undef, undef, undef, undef, undef, undef, undef, undef, undef, undef, undef, undef, undef, undef, undef, undef, undef, undef, undef, undef, undef, undef, undef, undef, undef, undef, undef, undef, undef, undef, undef, undef, undef, undef, undef, undef, undef, undef, undef, undef, undef, undef, undef, undef, undef, undef, undef, undef, undef, undef, undef, undef, undef, undef, undef, undef, undef, undef, undef, undef, undef, undef, undef, undef, undef, undef, undef, undef, undef, undef, undef, undef, undef, undef, undef, undef, undef, undef, undef, undef, undef, undef, undef, undef, undef, undef, undef, undef, undef, undef, undef, undef, undef, undef, undef, undef, undef, undef, undef, undef, undef, undef, undef, undef, undef, undef, undef, undef, undef, undef, undef, undef, undef, undef, undef, undef, undef, undef, undef, undef, undef, undef, undef, undef, undef, undef, undef, undef, undef, undef, undef, undef, undef, undef, undef, undef, undef, undef, undef], defers := [] }) (fun w' => w' = w3.drew) ?h ?hk
        case h =>
          refine wp_region_any (by kernel_rfl) ?_
          change wpAny _ _ _ _ _ _ _ (World.drew _)
          refine any_states (fun G hG => ?_)
          have hs0' : G 0 #[true, true, true, true, true, true, true, true, true, true, true, true, true, true, true, true, true, true] { tmps := #[.slice (some ⟨b, o, none⟩) n cp, .int .i64 x1, .int .i64 x2, undef, undef, undef, .bool false, .bool true, .string S, .string U, undef, undef, undef, undef, undef, undef, undef, undef, undef, undef, undef, undef, undef, undef, undef, undef, .bool true, .slice (some ⟨b, o, none⟩) n cp, .bool false, .bool false, .slice (some ⟨b, o, none⟩) n cp, .agg #[.int .i64 0, .int .i64 fa], .int .i64 0, .bool false, .bool false, .bool false, .slice (some ⟨b, o, none⟩) n cp, .int .i64 (n : Int), .bool false, .bool false, undef, .slice (some ⟨b, o, none⟩) n cp, .int .i64 x1, .slice (some ⟨b, o, none⟩) n cp, .int .i64 (n : Int), .int .i64 (i1 : Int), .pointer (some ⟨b, o + i1 * 4, none⟩), .pointer (some ⟨b, o + i1 * 4, none⟩), .string S, .slice (some ⟨b, o, none⟩) n cp, .int .i64 x2, .slice (some ⟨b, o, none⟩) n cp, .int .i64 (n : Int), .int .i64 (i2 : Int), .pointer (some ⟨b, o + i2 * 4, none⟩), .pointer (some ⟨b, o + i2 * 4, none⟩), .string U, undef, undef, undef, undef, undef, undef, undef, undef, undef, undef, undef, undef, undef, undef, undef, undef, undef, undef, undef, undef, undef, undef, undef, undef, undef, undef, undef, undef, undef, undef, undef, undef, undef, undef, undef, undef, undef, undef, undef, undef, undef, undef, undef, undef, undef, undef, undef, undef, undef, undef, undef, undef, undef, undef, undef, undef, undef, undef, undef, undef, undef, undef, undef, undef, undef, undef, undef, undef, undef, undef, undef, undef, undef, undef, undef, undef, undef, undef, undef, undef, undef, undef, undef, undef, undef, undef, undef, undef, undef, undef, undef, undef, undef, undef, undef, undef, undef, undef, undef, undef, undef, undef, undef, undef, undef, undef, undef, undef, undef, undef, undef, undef, undef, undef, undef, undef, undef, undef, undef, undef, undef, undef, undef, undef, undef, undef, undef, undef, undef, undef, undef, undef, undef, undef, undef, undef, undef, undef, undef, undef], defers := [] } w3.drew := by
            rw [hG]
            refine wpAny_done (by kernel_rfl) ?_ _
            exact ⟨rfl, rfl⟩
          have hs0 := Lib.hid hs0'
          clear hs0'
          have hs1' : G 2 #[true, true, true, true, true, true, true, true, true, true, true, true, true, true, true, false, true, false] { tmps := #[.slice (some ⟨b, o, none⟩) n cp, .int .i64 x1, .int .i64 x2, undef, undef, undef, .bool false, .bool true, .string S, undef, undef, undef, undef, undef, undef, undef, undef, undef, undef, undef, undef, undef, undef, undef, undef, undef, .bool true, .slice (some ⟨b, o, none⟩) n cp, .bool false, .bool false, .slice (some ⟨b, o, none⟩) n cp, .agg #[.int .i64 0, .int .i64 fa], .int .i64 0, .bool false, .bool false, .bool false, .slice (some ⟨b, o, none⟩) n cp, .int .i64 (n : Int), .bool false, .bool false, undef, .slice (some ⟨b, o, none⟩) n cp, .int .i64 x1, .slice (some ⟨b, o, none⟩) n cp, .int .i64 (n : Int), .int .i64 (i1 : Int), .pointer (some ⟨b, o + i1 * 4, none⟩), .pointer (some ⟨b, o + i1 * 4, none⟩), .string S, .slice (some ⟨b, o, none⟩) n cp, .int .i64 x2, .slice (some ⟨b, o, none⟩) n cp, .int .i64 (n : Int), .int .i64 (i2 : Int), .pointer (some ⟨b, o + i2 * 4, none⟩), .pointer (some ⟨b, o + i2 * 4, none⟩), undef, undef, undef, undef, undef, undef, undef, undef, undef, undef, undef, undef, undef, undef, undef, undef, undef, undef, undef, undef, undef, undef, undef, undef, undef, undef, undef, undef, undef, undef, undef, undef, undef, undef, undef, undef, undef, undef, undef, undef, undef, undef, undef, undef, undef, undef, undef, undef, undef, undef, undef, undef, undef, undef, undef, undef, undef, undef, undef, undef, undef, undef, undef, undef, undef, undef, undef, undef, undef, undef, undef, undef, undef, undef, undef, undef, undef, undef, undef, undef, undef, undef, undef, undef, undef, undef, undef, undef, undef, undef, undef, undef, undef, undef, undef, undef, undef, undef, undef, undef, undef, undef, undef, undef, undef, undef, undef, undef, undef, undef, undef, undef, undef, undef, undef, undef, undef, undef, undef, undef, undef, undef, undef, undef, undef, undef, undef, undef, undef, undef, undef, undef, undef, undef, undef, undef, undef, undef, undef, undef, undef], defers := [] } w3.drew := by
            rw [hG]
            refine wpAny_ready (rs := [15]) (by kernel_rfl) (by simp) ?_
            refine AllReady.cons rfl (fun K hK => ?_) ?_
            · go_simp
              refine hK _ _ ?_; clear hK K
              refine wpAny_take (i := 17) (v := .string U) rfl (by kernel_rfl) (by kernel_rfl) (by kernel_rfl) (fun _ _ _ h => h) (Or.inl ⟨by kernel_rfl, by intro w; kernel_rfl⟩) ?_
              exact any_eq hG (by kernel_rfl) (by kernel_rfl) (by kernel_rfl) hs0.out
            exact AllReady.nil
          have hs1 := Lib.hid hs1'
          clear hs1'
          have hs2' : G 6 #[true, true, true, true, true, true, true, true, true, true, true, true, false, false, false, false, false, false] { tmps := #[.slice (some ⟨b, o, none⟩) n cp, .int .i64 x1, .int .i64 x2, undef, undef, undef, .bool false, .bool true, undef, undef, undef, undef, undef, undef, undef, undef, undef, undef, undef, undef, undef, undef, undef, undef, undef, undef, .bool true, .slice (some ⟨b, o, none⟩) n cp, .bool false, .bool false, .slice (some ⟨b, o, none⟩) n cp, .agg #[.int .i64 0, .int .i64 fa], .int .i64 0, .bool false, .bool false, .bool false, .slice (some ⟨b, o, none⟩) n cp, .int .i64 (n : Int), .bool false, .bool false, undef, .slice (some ⟨b, o, none⟩) n cp, .int .i64 x1, .slice (some ⟨b, o, none⟩) n cp, .int .i64 (n : Int), .int .i64 (i1 : Int), .pointer (some ⟨b, o + i1 * 4, none⟩), .pointer (some ⟨b, o + i1 * 4, none⟩), .string S, .slice (some ⟨b, o, none⟩) n cp, .int .i64 x2, .slice (some ⟨b, o, none⟩) n cp, .int .i64 (n : Int), undef, undef, undef, undef, undef, undef, undef, undef, undef, undef, undef, undef, undef, undef, undef, undef, undef, undef, undef, undef, undef, undef, undef, undef, undef, undef, undef, undef, undef, undef, undef, undef, undef, undef, undef, undef, undef, undef, undef, undef, undef, undef, undef, undef, undef, undef, undef, undef, undef, undef, undef, undef, undef, undef, undef, undef, undef, undef, undef, undef, undef, undef, undef, undef, undef, undef, undef, undef, undef, undef, undef, undef, undef, undef, undef, undef, undef, undef, undef, undef, undef, undef, undef, undef, undef, undef, undef, undef, undef, undef, undef, undef, undef, undef, undef, undef, undef, undef, undef, undef, undef, undef, undef, undef, undef, undef, undef, undef, undef, undef, undef, undef, undef, undef, undef, undef, undef, undef, undef, undef, undef, undef, undef, undef, undef, undef, undef, undef, undef, undef, undef, undef, undef, undef, undef, undef, undef, undef, undef, undef, undef, undef, undef, undef], defers := [] } w3.drew := by
            rw [hG]
            refine wpAny_ready (rs := [12]) (by kernel_rfl) (by simp) ?_
            refine AllReady.cons rfl (fun K hK => ?_) ?_
            · go_simp
              go_wp2_with fail
              refine HP2.out.mono ?_
              rintro e w9 ⟨rfl, rfl⟩
              dsimp only
              refine hK _ _ ?_; clear hK K
              refine wpAny_take (i := 13) (v := .pointer (some ⟨b, o + i2 * 4, none⟩)) rfl (by kernel_rfl) (by kernel_rfl) (by kernel_rfl) (fun _ _ _ h => h) (Or.inl ⟨by kernel_rfl, by intro w; go_simp; try with_reducible rfl⟩) ?_
              refine wpAny_take (i := 14) (v := .pointer (some ⟨b, o + i2 * 4, none⟩)) rfl (by kernel_rfl) (by kernel_rfl) (by kernel_rfl) (fun _ _ _ h => h) (Or.inl ⟨by kernel_rfl, by intro w; kernel_rfl⟩) ?_
              refine wpAny_take (i := 16) (v := .string S) rfl (by kernel_rfl) (by kernel_rfl) (by kernel_rfl) (fun _ _ _ h => h) (Or.inl ⟨by kernel_rfl, by intro w; kernel_rfl⟩) ?_
              exact any_eq hG (by kernel_rfl) (by kernel_rfl) (by kernel_rfl) hs1.out
            exact AllReady.nil
          have hs2 := Lib.hid hs2'
          clear hs2'
          have hs3' : G 7 #[true, true, true, true, true, true, true, true, true, true, true, false, false, false, false, false, false, false] { tmps := #[.slice (some ⟨b, o, none⟩) n cp, .int .i64 x1, .int .i64 x2, undef, undef, undef, .bool false, .bool true, undef, undef, undef, undef, undef, undef, undef, undef, undef, undef, undef, undef, undef, undef, undef, undef, undef, undef, .bool true, .slice (some ⟨b, o, none⟩) n cp, .bool false, .bool false, .slice (some ⟨b, o, none⟩) n cp, .agg #[.int .i64 0, .int .i64 fa], .int .i64 0, .bool false, .bool false, .bool false, .slice (some ⟨b, o, none⟩) n cp, .int .i64 (n : Int), .bool false, .bool false, undef, .slice (some ⟨b, o, none⟩) n cp, .int .i64 x1, .slice (some ⟨b, o, none⟩) n cp, .int .i64 (n : Int), .int .i64 (i1 : Int), .pointer (some ⟨b, o + i1 * 4, none⟩), .pointer (some ⟨b, o + i1 * 4, none⟩), .string S, .slice (some ⟨b, o, none⟩) n cp, .int .i64 x2, .slice (some ⟨b, o, none⟩) n cp, undef, undef, undef, undef, undef, undef, undef, undef, undef, undef, undef, undef, undef, undef, undef, undef, undef, undef, undef, undef, undef, undef, undef, undef, undef, undef, undef, undef, undef, undef, undef, undef, undef, undef, undef, undef, undef, undef, undef, undef, undef, undef, undef, undef, undef, undef, undef, undef, undef, undef, undef, undef, undef, undef, undef, undef, undef, undef, undef, undef, undef, undef, undef, undef, undef, undef, undef, undef, undef, undef, undef, undef, undef, undef, undef, undef, undef, undef, undef, undef, undef, undef, undef, undef, undef, undef, undef, undef, undef, undef, undef, undef, undef, undef, undef, undef, undef, undef, undef, undef, undef, undef, undef, undef, undef, undef, undef, undef, undef, undef, undef, undef, undef, undef, undef, undef, undef, undef, undef, undef, undef, undef, undef, undef, undef, undef, undef, undef, undef, undef, undef, undef, undef, undef, undef, undef, undef, undef, undef, undef, undef, undef, undef, undef, undef], defers := [] } w3.drew := by
            rw [hG]
            refine wpAny_ready (rs := [11]) (by kernel_rfl) (by simp) ?_
            refine AllReady.cons rfl (fun K hK => ?_) ?_
            · go_simp
              refine hK _ _ ?_; clear hK K
              exact any_eq hG (by kernel_rfl) (by kernel_rfl) (by kernel_rfl) hs2.out
            exact AllReady.nil
          have hs3 := Lib.hid hs3'
          clear hs3'
          have hs4' : G 3 #[true, true, true, true, true, true, true, false, true, true, true, true, true, true, true, true, false, false] { tmps := #[.slice (some ⟨b, o, none⟩) n cp, .int .i64 x1, .int .i64 x2, undef, undef, undef, .bool false, .bool true, undef, undef, undef, undef, undef, undef, undef, undef, undef, undef, undef, undef, undef, undef, undef, undef, undef, undef, .bool true, .slice (some ⟨b, o, none⟩) n cp, .bool false, .bool false, .slice (some ⟨b, o, none⟩) n cp, .agg #[.int .i64 0, .int .i64 fa], .int .i64 0, .bool false, .bool false, .bool false, .slice (some ⟨b, o, none⟩) n cp, .int .i64 (n : Int), .bool false, .bool false, undef, .slice (some ⟨b, o, none⟩) n cp, .int .i64 x1, .slice (some ⟨b, o, none⟩) n cp, .int .i64 (n : Int), .int .i64 (i1 : Int), .pointer (some ⟨b, o + i1 * 4, none⟩), .pointer (some ⟨b, o + i1 * 4, none⟩), undef, .slice (some ⟨b, o, none⟩) n cp, .int .i64 x2, .slice (some ⟨b, o, none⟩) n cp, .int .i64 (n : Int), .int .i64 (i2 : Int), .pointer (some ⟨b, o + i2 * 4, none⟩), .pointer (some ⟨b, o + i2 * 4, none⟩), .string U, undef, undef, undef, undef, undef, undef, undef, undef, undef, undef, undef, undef, undef, undef, undef, undef, undef, undef, undef, undef, undef, undef, undef, undef, undef, undef, undef, undef, undef, undef, undef, undef, undef, undef, undef, undef, undef, undef, undef, undef, undef, undef, undef, undef, undef, undef, undef, undef, undef, undef, undef, undef, undef, undef, undef, undef, undef, undef, undef, undef, undef, undef, undef, undef, undef, undef, undef, undef, undef, undef, undef, undef, undef, undef, undef, undef, undef, undef, undef, undef, undef, undef, undef, undef, undef, undef, undef, undef, undef, undef, undef, undef, undef, undef, undef, undef, undef, undef, undef, undef, undef, undef, undef, undef, undef, undef, undef, undef, undef, undef, undef, undef, undef, undef, undef, undef, undef, undef, undef, undef, undef, undef, undef, undef, undef, undef, undef, undef, undef, undef, undef, undef, undef, undef, undef, undef, undef, undef, undef, undef], defers := [] } w3.drew := by
            rw [hG]
            refine wpAny_ready (rs := [7]) (by kernel_rfl) (by simp) ?_
            refine AllReady.cons rfl (fun K hK => ?_) ?_
            · go_simp
              refine hK _ _ ?_; clear hK K
              refine wpAny_take (i := 16) (v := .string S) rfl (by kernel_rfl) (by kernel_rfl) (by kernel_rfl) (fun _ _ _ h => h) (Or.inl ⟨by kernel_rfl, by intro w; kernel_rfl⟩) ?_
              refine wpAny_take (i := 17) (v := .string U) rfl (by kernel_rfl) (by kernel_rfl) (by kernel_rfl) (fun _ _ _ h => h) (Or.inl ⟨by kernel_rfl, by intro w; kernel_rfl⟩) ?_
              exact any_eq hG (by kernel_rfl) (by kernel_rfl) (by kernel_rfl) hs0.out
            exact AllReady.nil
          have hs4 := Lib.hid hs4'
          clear hs4'
          have hs5' : G 4 #[true, true, true, true, true, true, true, false, true, true, true, true, true, true, true, false, false, false] { tmps := #[.slice (some ⟨b, o, none⟩) n cp, .int .i64 x1, .int .i64 x2, undef, undef, undef, .bool false, .bool true, undef, undef, undef, undef, undef, undef, undef, undef, undef, undef, undef, undef, undef, undef, undef, undef, undef, undef, .bool true, .slice (some ⟨b, o, none⟩) n cp, .bool false, .bool false, .slice (some ⟨b, o, none⟩) n cp, .agg #[.int .i64 0, .int .i64 fa], .int .i64 0, .bool false, .bool false, .bool false, .slice (some ⟨b, o, none⟩) n cp, .int .i64 (n : Int), .bool false, .bool false, undef, .slice (some ⟨b, o, none⟩) n cp, .int .i64 x1, .slice (some ⟨b, o, none⟩) n cp, .int .i64 (n : Int), .int .i64 (i1 : Int), .pointer (some ⟨b, o + i1 * 4, none⟩), .pointer (some ⟨b, o + i1 * 4, none⟩), undef, .slice (some ⟨b, o, none⟩) n cp, .int .i64 x2, .slice (some ⟨b, o, none⟩) n cp, .int .i64 (n : Int), .int .i64 (i2 : Int), .pointer (some ⟨b, o + i2 * 4, none⟩), .pointer (some ⟨b, o + i2 * 4, none⟩), undef, undef, undef, undef, undef, undef, undef, undef, undef, undef, undef, undef, undef, undef, undef, undef, undef, undef, undef, undef, undef, undef, undef, undef, undef, undef, undef, undef, undef, undef, undef, undef, undef, undef, undef, undef, undef, undef, undef, undef, undef, undef, undef, undef, undef, undef, undef, undef, undef, undef, undef, undef, undef, undef, undef, undef, undef, undef, undef, undef, undef, undef, undef, undef, undef, undef, undef, undef, undef, undef, undef, undef, undef, undef, undef, undef, undef, undef, undef, undef, undef, undef, undef, undef, undef, undef, undef, undef, undef, undef, undef, undef, undef, undef, undef, undef, undef, undef, undef, undef, undef, undef, undef, undef, undef, undef, undef, undef, undef, undef, undef, undef, undef, undef, undef, undef, undef, undef, undef, undef, undef, undef, undef, undef, undef, undef, undef, undef, undef, undef, undef, undef, undef, undef, undef, undef, undef, undef, undef, undef, undef], defers := [] } w3.drew := by
            rw [hG]
            refine wpAny_ready (rs := [7, 15]) (by kernel_rfl) (by simp) ?_
            refine AllReady.cons rfl (fun K hK => ?_) ?_
            · go_simp
              refine hK _ _ ?_; clear hK K
              refine wpAny_take (i := 16) (v := .string S) rfl (by kernel_rfl) (by kernel_rfl) (by kernel_rfl) (fun _ _ _ h => h) (Or.inl ⟨by kernel_rfl, by intro w; kernel_rfl⟩) ?_
              exact any_eq hG (by kernel_rfl) (by kernel_rfl) (by kernel_rfl) hs1.out
            refine AllReady.cons rfl (fun K hK => ?_) ?_
            · go_simp
              refine hK _ _ ?_; clear hK K
              exact any_eq hG (by kernel_rfl) (by kernel_rfl) (by kernel_rfl) hs4.out
            exact AllReady.nil
          have hs5 := Lib.hid hs5'
          clear hs5'
          have hs6' : G 7 #[true, true, true, true, true, true, true, false, true, true, true, true, false, false, false, false, false, false] { tmps := #[.slice (some ⟨b, o, none⟩) n cp, .int .i64 x1, .int .i64 x2, undef, undef, undef, .bool false, .bool true, undef, undef, undef, undef, undef, undef, undef, undef, undef, undef, undef, undef, undef, undef, undef, undef, undef, undef, .bool true, .slice (some ⟨b, o, none⟩) n cp, .bool false, .bool false, .slice (some ⟨b, o, none⟩) n cp, .agg #[.int .i64 0, .int .i64 fa], .int .i64 0, .bool false, .bool false, .bool false, .slice (some ⟨b, o, none⟩) n cp, .int .i64 (n : Int), .bool false, .bool false, undef, .slice (some ⟨b, o, none⟩) n cp, .int .i64 x1, .slice (some ⟨b, o, none⟩) n cp, .int .i64 (n : Int), .int .i64 (i1 : Int), .pointer (some ⟨b, o + i1 * 4, none⟩), .pointer (some ⟨b, o + i1 * 4, none⟩), undef, .slice (some ⟨b, o, none⟩) n cp, .int .i64 x2, .slice (some ⟨b, o, none⟩) n cp, .int .i64 (n : Int), undef, undef, undef, undef, undef, undef, undef, undef, undef, undef, undef, undef, undef, undef, undef, undef, undef, undef, undef, undef, undef, undef, undef, undef, undef, undef, undef, undef, undef, undef, undef, undef, undef, undef, undef, undef, undef, undef, undef, undef, undef, undef, undef, undef, undef, undef, undef, undef, undef, undef, undef, undef, undef, undef, undef, undef, undef, undef, undef, undef, undef, undef, undef, undef, undef, undef, undef, undef, undef, undef, undef, undef, undef, undef, undef, undef, undef, undef, undef, undef, undef, undef, undef, undef, undef, undef, undef, undef, undef, undef, undef, undef, undef, undef, undef, undef, undef, undef, undef, undef, undef, undef, undef, undef, undef, undef, undef, undef, undef, undef, undef, undef, undef, undef, undef, undef, undef, undef, undef, undef, undef, undef, undef, undef, undef, undef, undef, undef, undef, undef, undef, undef, undef, undef, undef, undef, undef, undef, undef, undef, undef, undef, undef, undef], defers := [] } w3.drew := by
            rw [hG]
            refine wpAny_ready (rs := [7, 12]) (by kernel_rfl) (by simp) ?_
            refine AllReady.cons rfl (fun K hK => ?_) ?_
            · go_simp
              refine hK _ _ ?_; clear hK K
              exact any_eq hG (by kernel_rfl) (by kernel_rfl) (by kernel_rfl) hs2.out
            refine AllReady.cons rfl (fun K hK => ?_) ?_
            · go_simp
              go_wp2_with fail
              refine HP2.out.mono ?_
              rintro e w9 ⟨rfl, rfl⟩
              dsimp only
              refine hK _ _ ?_; clear hK K
              refine wpAny_take (i := 13) (v := .pointer (some ⟨b, o + i2 * 4, none⟩)) rfl (by kernel_rfl) (by kernel_rfl) (by kernel_rfl) (fun _ _ _ h => h) (Or.inl ⟨by kernel_rfl, by intro w; go_simp; try with_reducible rfl⟩) ?_
              refine wpAny_take (i := 14) (v := .pointer (some ⟨b, o + i2 * 4, none⟩)) rfl (by kernel_rfl) (by kernel_rfl) (by kernel_rfl) (fun _ _ _ h => h) (Or.inl ⟨by kernel_rfl, by intro w; kernel_rfl⟩) ?_
              exact any_eq hG (by kernel_rfl) (by kernel_rfl) (by kernel_rfl) hs5.out
            exact AllReady.nil
          have hs6 := Lib.hid hs6'
          clear hs6'
          have hs7' : G 8 #[true, true, true, true, true, true, true, false, true, true, true, false, false, false, false, false, false, false] { tmps := #[.slice (some ⟨b, o, none⟩) n cp, .int .i64 x1, .int .i64 x2, undef, undef, undef, .bool false, .bool true, undef, undef, undef, undef, undef, undef, undef, undef, undef, undef, undef, undef, undef, undef, undef, undef, undef, undef, .bool true, .slice (some ⟨b, o, none⟩) n cp, .bool false, .bool false, .slice (some ⟨b, o, none⟩) n cp, .agg #[.int .i64 0, .int .i64 fa], .int .i64 0, .bool false, .bool false, .bool false, .slice (some ⟨b, o, none⟩) n cp, .int .i64 (n : Int), .bool false, .bool false, undef, .slice (some ⟨b, o, none⟩) n cp, .int .i64 x1, .slice (some ⟨b, o, none⟩) n cp, .int .i64 (n : Int), .int .i64 (i1 : Int), .pointer (some ⟨b, o + i1 * 4, none⟩), .pointer (some ⟨b, o + i1 * 4, none⟩), undef, .slice (some ⟨b, o, none⟩) n cp, .int .i64 x2, .slice (some ⟨b, o, none⟩) n cp, undef, undef, undef, undef, undef, undef, undef, undef, undef, undef, undef, undef, undef, undef, undef, undef, undef, undef, undef, undef, undef, undef, undef, undef, undef, undef, undef, undef, undef, undef, undef, undef, undef, undef, undef, undef, undef, undef, undef, undef, undef, undef, undef, undef, undef, undef, undef, undef, undef, undef, undef, undef, undef, undef, undef, undef, undef, undef, undef, undef, undef, undef, undef, undef, undef, undef, undef, undef, undef, undef, undef, undef, undef, undef, undef, undef, undef, undef, undef, undef, undef, undef, undef, undef, undef, undef, undef, undef, undef, undef, undef, undef, undef, undef, undef, undef, undef, undef, undef, undef, undef, undef, undef, undef, undef, undef, undef, undef, undef, undef, undef, undef, undef, undef, undef, undef, undef, undef, undef, undef, undef, undef, undef, undef, undef, undef, undef, undef, undef, undef, undef, undef, undef, undef, undef, undef, undef, undef, undef, undef, undef, undef, undef, undef, undef], defers := [] } w3.drew := by
            rw [hG]
            refine wpAny_ready (rs := [7, 11]) (by kernel_rfl) (by simp) ?_
            refine AllReady.cons rfl (fun K hK => ?_) ?_
            · go_simp
              refine hK _ _ ?_; clear hK K
              exact any_eq hG (by kernel_rfl) (by kernel_rfl) (by kernel_rfl) hs3.out
            refine AllReady.cons rfl (fun K hK => ?_) ?_
            · go_simp
              refine hK _ _ ?_; clear hK K
              exact any_eq hG (by kernel_rfl) (by kernel_rfl) (by kernel_rfl) hs6.out
            exact AllReady.nil
          have hs7 := Lib.hid hs7'
          clear hs7'
          have hs8' : G 10 #[true, true, true, true, false, false, false, false, true, true, true, true, false, false, false, false, false, false] { tmps := #[.slice (some ⟨b, o, none⟩) n cp, .int .i64 x1, .int .i64 x2, undef, undef, undef, .bool false, .bool true, undef, undef, undef, undef, undef, undef, undef, undef, undef, undef, undef, undef, undef, undef, undef, undef, undef, undef, .bool true, .slice (some ⟨b, o, none⟩) n cp, .bool false, .bool false, .slice (some ⟨b, o, none⟩) n cp, .agg #[.int .i64 0, .int .i64 fa], .int .i64 0, .bool false, .bool false, .bool false, .slice (some ⟨b, o, none⟩) n cp, .int .i64 (n : Int), .bool false, .bool false, undef, .slice (some ⟨b, o, none⟩) n cp, .int .i64 x1, .slice (some ⟨b, o, none⟩) n cp, .int .i64 (n : Int), undef, undef, undef, undef, .slice (some ⟨b, o, none⟩) n cp, .int .i64 x2, .slice (some ⟨b, o, none⟩) n cp, .int .i64 (n : Int), undef, undef, undef, undef, undef, undef, undef, undef, undef, undef, undef, undef, undef, undef, undef, undef, undef, undef, undef, undef, undef, undef, undef, undef, undef, undef, undef, undef, undef, undef, undef, undef, undef, undef, undef, undef, undef, undef, undef, undef, undef, undef, undef, undef, undef, undef, undef, undef, undef, undef, undef, undef, undef, undef, undef, undef, undef, undef, undef, undef, undef, undef, undef, undef, undef, undef, undef, undef, undef, undef, undef, undef, undef, undef, undef, undef, undef, undef, undef, undef, undef, undef, undef, undef, undef, undef, undef, undef, undef, undef, undef, undef, undef, undef, undef, undef, undef, undef, undef, undef, undef, undef, undef, undef, undef, undef, undef, undef, undef, undef, undef, undef, undef, undef, undef, undef, undef, undef, undef, undef, undef, undef, undef, undef, undef, undef, undef, undef, undef, undef, undef, undef, undef, undef, undef, undef, undef, undef, undef, undef, undef, undef, undef, undef], defers := [] } w3.drew := by
            rw [hG]
            refine wpAny_ready (rs := [4]) (by kernel_rfl) (by simp) ?_
            refine AllReady.cons rfl (fun K hK => ?_) ?_
            · go_simp
              go_wp2_with fail
              refine HP1.out.mono ?_
              rintro e w9 ⟨rfl, rfl⟩
              dsimp only
              refine hK _ _ ?_; clear hK K
              refine wpAny_take (i := 5) (v := .pointer (some ⟨b, o + i1 * 4, none⟩)) rfl (by kernel_rfl) (by kernel_rfl) (by kernel_rfl) (fun _ _ _ h => h) (Or.inl ⟨by kernel_rfl, by intro w; go_simp; try with_reducible rfl⟩) ?_
              refine wpAny_take (i := 6) (v := .pointer (some ⟨b, o + i1 * 4, none⟩)) rfl (by kernel_rfl) (by kernel_rfl) (by kernel_rfl) (fun _ _ _ h => h) (Or.inl ⟨by kernel_rfl, by intro w; kernel_rfl⟩) ?_
              exact any_eq hG (by kernel_rfl) (by kernel_rfl) (by kernel_rfl) hs6.out
            exact AllReady.nil
          have hs8 := Lib.hid hs8'
          clear hs8'
          have hs9' : G 11 #[true, true, true, true, false, false, false, false, true, true, true, false, false, false, false, false, false, false] { tmps := #[.slice (some ⟨b, o, none⟩) n cp, .int .i64 x1, .int .i64 x2, undef, undef, undef, .bool false, .bool true, undef, undef, undef, undef, undef, undef, undef, undef, undef, undef, undef, undef, undef, undef, undef, undef, undef, undef, .bool true, .slice (some ⟨b, o, none⟩) n cp, .bool false, .bool false, .slice (some ⟨b, o, none⟩) n cp, .agg #[.int .i64 0, .int .i64 fa], .int .i64 0, .bool false, .bool false, .bool false, .slice (some ⟨b, o, none⟩) n cp, .int .i64 (n : Int), .bool false, .bool false, undef, .slice (some ⟨b, o, none⟩) n cp, .int .i64 x1, .slice (some ⟨b, o, none⟩) n cp, .int .i64 (n : Int), undef, undef, undef, undef, .slice (some ⟨b, o, none⟩) n cp, .int .i64 x2, .slice (some ⟨b, o, none⟩) n cp, undef, undef, undef, undef, undef, undef, undef, undef, undef, undef, undef, undef, undef, undef, undef, undef, undef, undef, undef, undef, undef, undef, undef, undef, undef, undef, undef, undef, undef, undef, undef, undef, undef, undef, undef, undef, undef, undef, undef, undef, undef, undef, undef, undef, undef, undef, undef, undef, undef, undef, undef, undef, undef, undef, undef, undef, undef, undef, undef, undef, undef, undef, undef, undef, undef, undef, undef, undef, undef, undef, undef, undef, undef, undef, undef, undef, undef, undef, undef, undef, undef, undef, undef, undef, undef, undef, undef, undef, undef, undef, undef, undef, undef, undef, undef, undef, undef, undef, undef, undef, undef, undef, undef, undef, undef, undef, undef, undef, undef, undef, undef, undef, undef, undef, undef, undef, undef, undef, undef, undef, undef, undef, undef, undef, undef, undef, undef, undef, undef, undef, undef, undef, undef, undef, undef, undef, undef, undef, undef, undef, undef, undef, undef, undef, undef], defers := [] } w3.drew := by
            rw [hG]
            refine wpAny_ready (rs := [4, 11]) (by kernel_rfl) (by simp) ?_
            refine AllReady.cons rfl (fun K hK => ?_) ?_
            · go_simp
              go_wp2_with fail
              refine HP1.out.mono ?_
              rintro e w9 ⟨rfl, rfl⟩
              dsimp only
              refine hK _ _ ?_; clear hK K
              refine wpAny_take (i := 5) (v := .pointer (some ⟨b, o + i1 * 4, none⟩)) rfl (by kernel_rfl) (by kernel_rfl) (by kernel_rfl) (fun _ _ _ h => h) (Or.inl ⟨by kernel_rfl, by intro w; go_simp; try with_reducible rfl⟩) ?_
              refine wpAny_take (i := 6) (v := .pointer (some ⟨b, o + i1 * 4, none⟩)) rfl (by kernel_rfl) (by kernel_rfl) (by kernel_rfl) (fun _ _ _ h => h) (Or.inl ⟨by kernel_rfl, by intro w; kernel_rfl⟩) ?_
              exact any_eq hG (by kernel_rfl) (by kernel_rfl) (by kernel_rfl) hs7.out
            refine AllReady.cons rfl (fun K hK => ?_) ?_
            · go_simp
              refine hK _ _ ?_; clear hK K
              exact any_eq hG (by kernel_rfl) (by kernel_rfl) (by kernel_rfl) hs8.out
            exact AllReady.nil
          have hs9 := Lib.hid hs9'
          clear hs9'
          have hs10' : G 11 #[true, true, true, false, false, false, false, false, true, true, true, true, false, false, false, false, false, false] { tmps := #[.slice (some ⟨b, o, none⟩) n cp, .int .i64 x1, .int .i64 x2, undef, undef, undef, .bool false, .bool true, undef, undef, undef, undef, undef, undef, undef, undef, undef, undef, undef, undef, undef, undef, undef, undef, undef, undef, .bool true, .slice (some ⟨b, o, none⟩) n cp, .bool false, .bool false, .slice (some ⟨b, o, none⟩) n cp, .agg #[.int .i64 0, .int .i64 fa], .int .i64 0, .bool false, .bool false, .bool false, .slice (some ⟨b, o, none⟩) n cp, .int .i64 (n : Int), .bool false, .bool false, undef, .slice (some ⟨b, o, none⟩) n cp, .int .i64 x1, .slice (some ⟨b, o, none⟩) n cp, undef, undef, undef, undef, undef, .slice (some ⟨b, o, none⟩) n cp, .int .i64 x2, .slice (some ⟨b, o, none⟩) n cp, .int .i64 (n : Int), undef, undef, undef, undef, undef, undef, undef, undef, undef, undef, undef, undef, undef, undef, undef, undef, undef, undef, undef, undef, undef, undef, undef, undef, undef, undef, undef, undef, undef, undef, undef, undef, undef, undef, undef, undef, undef, undef, undef, undef, undef, undef, undef, undef, undef, undef, undef, undef, undef, undef, undef, undef, undef, undef, undef, undef, undef, undef, undef, undef, undef, undef, undef, undef, undef, undef, undef, undef, undef, undef, undef, undef, undef, undef, undef, undef, undef, undef, undef, undef, undef, undef, undef, undef, undef, undef, undef, undef, undef, undef, undef, undef, undef, undef, undef, undef, undef, undef, undef, undef, undef, undef, undef, undef, undef, undef, undef, undef, undef, undef, undef, undef, undef, undef, undef, undef, undef, undef, undef, undef, undef, undef, undef, undef, undef, undef, undef, undef, undef, undef, undef, undef, undef, undef, undef, undef, undef, undef, undef, undef, undef, undef, undef, undef], defers := [] } w3.drew := by
            rw [hG]
            refine wpAny_ready (rs := [3]) (by kernel_rfl) (by simp) ?_
            refine AllReady.cons rfl (fun K hK => ?_) ?_
            · go_simp
              refine hK _ _ ?_; clear hK K
              exact any_eq hG (by kernel_rfl) (by kernel_rfl) (by kernel_rfl) hs8.out
            exact AllReady.nil
          have hs10 := Lib.hid hs10'
          clear hs10'
          have hs11' : G 12 #[true, true, true, false, false, false, false, false, true, true, true, false, false, false, false, false, false, false] { tmps := #[.slice (some ⟨b, o, none⟩) n cp, .int .i64 x1, .int .i64 x2, undef, undef, undef, .bool false, .bool true, undef, undef, undef, undef, undef, undef, undef, undef, undef, undef, undef, undef, undef, undef, undef, undef, undef, undef, .bool true, .slice (some ⟨b, o, none⟩) n cp, .bool false, .bool false, .slice (some ⟨b, o, none⟩) n cp, .agg #[.int .i64 0, .int .i64 fa], .int .i64 0, .bool false, .bool false, .bool false, .slice (some ⟨b, o, none⟩) n cp, .int .i64 (n : Int), .bool false, .bool false, undef, .slice (some ⟨b, o, none⟩) n cp, .int .i64 x1, .slice (some ⟨b, o, none⟩) n cp, undef, undef, undef, undef, undef, .slice (some ⟨b, o, none⟩) n cp, .int .i64 x2, .slice (some ⟨b, o, none⟩) n cp, undef, undef, undef, undef, undef, undef, undef, undef, undef, undef, undef, undef, undef, undef, undef, undef, undef, undef, undef, undef, undef, undef, undef, undef, undef, undef, undef, undef, undef, undef, undef, undef, undef, undef, undef, undef, undef, undef, undef, undef, undef, undef, undef, undef, undef, undef, undef, undef, undef, undef, undef, undef, undef, undef, undef, undef, undef, undef, undef, undef, undef, undef, undef, undef, undef, undef, undef, undef, undef, undef, undef, undef, undef, undef, undef, undef, undef, undef, undef, undef, undef, undef, undef, undef, undef, undef, undef, undef, undef, undef, undef, undef, undef, undef, undef, undef, undef, undef, undef, undef, undef, undef, undef, undef, undef, undef, undef, undef, undef, undef, undef, undef, undef, undef, undef, undef, undef, undef, undef, undef, undef, undef, undef, undef, undef, undef, undef, undef, undef, undef, undef, undef, undef, undef, undef, undef, undef, undef, undef, undef, undef, undef, undef, undef, undef], defers := [] } w3.drew := by
            rw [hG]
            refine wpAny_ready (rs := [3, 11]) (by kernel_rfl) (by simp) ?_
            refine AllReady.cons rfl (fun K hK => ?_) ?_
            · go_simp
              refine hK _ _ ?_; clear hK K
              exact any_eq hG (by kernel_rfl) (by kernel_rfl) (by kernel_rfl) hs9.out
            refine AllReady.cons rfl (fun K hK => ?_) ?_
            · go_simp
              refine hK _ _ ?_; clear hK K
              exact any_eq hG (by kernel_rfl) (by kernel_rfl) (by kernel_rfl) hs10.out
            exact AllReady.nil
          have hs11 := Lib.hid hs11'
          clear hs11'
          refine wpAny_take (i := 0) (v := .slice (some ⟨b, o, none⟩) n cp) rfl (by kernel_rfl) (by kernel_rfl) (by kernel_rfl) (fun _ _ _ h => h) (Or.inl ⟨by kernel_rfl, by intro w; kernel_rfl⟩) ?_
          refine wpAny_take (i := 1) (v := .int .i64 x1) rfl (by kernel_rfl) (by kernel_rfl) (by kernel_rfl) (fun _ _ _ h => h) (Or.inl ⟨by kernel_rfl, by intro w; kernel_rfl⟩) ?_
          refine wpAny_take (i := 2) (v := .slice (some ⟨b, o, none⟩) n cp) rfl (by kernel_rfl) (by kernel_rfl) (by kernel_rfl) (fun _ _ _ h => h) (Or.inl ⟨by kernel_rfl, by intro w; kernel_rfl⟩) ?_
          refine wpAny_take (i := 8) (v := .slice (some ⟨b, o, none⟩) n cp) rfl (by kernel_rfl) (by kernel_rfl) (by kernel_rfl) (fun _ _ _ h => h) (Or.inl ⟨by kernel_rfl, by intro w; kernel_rfl⟩) ?_
          refine wpAny_take (i := 9) (v := .int .i64 x2) rfl (by kernel_rfl) (by kernel_rfl) (by kernel_rfl) (fun _ _ _ h => h) (Or.inl ⟨by kernel_rfl, by intro w; kernel_rfl⟩) ?_
          refine wpAny_take (i := 10) (v := .slice (some ⟨b, o, none⟩) n cp) rfl (by kernel_rfl) (by kernel_rfl) (by kernel_rfl) (fun _ _ _ h => h) (Or.inl ⟨by kernel_rfl, by intro w; kernel_rfl⟩) ?_
          exact any_eq hG (by kernel_rfl) (by kernel_rfl) (by kernel_rfl) hs11.out
        case hk =>
          rintro w4 rfl
          have HK4 := Lib.hid HK3.out.drew
          clear cX cY HP1 HP2 l1 l2 l1I l2I
          go_wp2_with fail
          have HPRC := Lib.hid (fun (x y : ByteArray) (hx : x.size ≤ maxLen) (hy : y.size ≤ maxLen) (W : World) (kW : Kept w W) => precise_cc t (some ⟨b, o, none⟩) cp x y W (HTB.out.kept kW) (tab_kept HT.out kW) (small_short HSH.out) hx hy)
          have HARI := Lib.hid (fun (x y : ByteArray) (W : World) (kW : Kept w W) => arity_c (some ⟨b, o, none⟩) cp t x y W (tab_kept HT.out kW) (small_short HSH.out))
          have HFIE := Lib.hid (fun (x y : ByteArray) (W : World) (kW : Kept w W) => field_c (some ⟨b, o, none⟩) cp t x y W (tab_kept HT.out kW) (small_short HSH.out).len)
          have HFIA := Lib.hid (fun (x y : ByteArray) (W : World) (kW : Kept w W) => fieldA_c (some ⟨b, o, none⟩) cp t x y W (tab_kept HT.out kW) (small_short HSH.out).len)
          have HMEA := Lib.hid (fun (x y : ByteArray) (W : World) (kW : Kept w W) => methodA_c (some ⟨b, o, none⟩) cp t x y W (tab_kept HT.out kW) (small_short HSH.out))
          have HMEN := Lib.hid (fun (x y : ByteArray) (hN : Tab.method t x y = none) (W : World) (kW : Kept w W) => methodN_c (some ⟨b, o, none⟩) cp t x y W (tab_kept HT.out kW) (small_short HSH.out) hN)
          have HMES := Lib.hid (fun (x y : ByteArray) (m : Tab.M) (o' : ByteArray) (hN : Tab.method t x y = some (m, o')) (W : World) (kW : Kept w W) => methodS_c (some ⟨b, o, none⟩) cp t x y W (tab_kept HT.out kW) (small_short HSH.out) hN)
          have HME := Lib.hid (members_c (some ⟨b, o, none⟩) cp t U w3.drew (tab_kept HT.out HK4.out) (small_short HSH.out))
          have HSZF := Lib.hid (fun (s : ByteArray) (f : Tab.V) (hf : f ∈ Tab.fields t s) => fields_sizedP HT.out hf)
          have HSZM := Lib.hid (fun (s : ByteArray) (m : Tab.M) (hm : m ∈ Tab.methods t s) => methods_sizedP HT.out (small_short HSH.out) hm)
          simp only [HN.out] at HPRC HARI HFIE HFIA HMEA HMEN HMES HME
          refine HME.out.mono ?_
          rintro e w5 ⟨v5, rfl, hr5, k5⟩
          have hrow := mem_row hr5
          have HK5 := Lib.hid (HK4.out.trans k5)
          obtain ⟨ma5, mc5, rfl⟩ := owns_slice_n hr5
          obtain ⟨l, hl⟩ : ∃ l, Tab.members t U = l := ⟨_, rfl⟩
          have HSE := Lib.hid (fun (y : ByteArray × Int) (hy : y ∈ l) => Tab.seen HV.out HO.out HIS.out HIU.out (x := y) (by rw [hl]; exact hy))
          have HFI := Lib.hid (Tab.precise_toks HV.out HIS.out HIU.out HO.out)
          rw [hl] at HFI
          rw [hl] at hrow
          rw [hl]
          obtain ⟨ma', mc', e, r1, r2, rat⟩ := hrow
          injection e with e1 _ e3
          subst e1 e3
          unfold maxLen at r2
          have HRA := Lib.hid rat
          clear hr5 k5 HME rat hl hfd h0 h0I hcp1 hcp2
          go_wp2_with fail
          go_loopw [10, 12] (fun pw q wr => MemI t S U l w5 pw q wr) (fun pw q wr => l.length - (intOf q).toNat)
          case atStart => exact ⟨0, true, Nat.zero_le _, rfl, rfl, by simp, Kept.refl _⟩
          case round =>
            obtain ⟨k, W, hk, rfl, rfl, hW, hkp⟩ := hrel
            obtain ⟨wo, rfl⟩ : ∃ wo, wo = wr := ⟨_, rfl⟩
            have HKP := Lib.hid hkp
            have HW := Lib.hid hW
            clear hW hkp
            by_cases hlk : k < l.length
            · have hlkI : (k : Int) < (l.length : Int) := by omega
              cases W with
              | false =>
                have HC := Lib.hid (HPRC.out S U HSS.out HSU.out wo (HK5.out.trans HKP.out))
                rw [toks_end HFI.out HW.out (.inl rfl)] at HC
                go_wp2_with fail
                refine HC.out.mono ?_
                rintro e w6 ⟨rfl, k6⟩
                have HK6 := Lib.hid (HKP.out.trans k6)
                clear k6 HC
                go_wp2_with fail
                go_ret
                exact ⟨rfl, HK5.out.trans HK6.out⟩
              | true =>
                have hx : l[k]? = some l[k] := List.getElem?_eq_getElem hlk
                obtain ⟨mb, mo, rfl, hm⟩ := HRA.out _ _ hx
                have HSN := Lib.hid (HSE.out _ (List.mem_of_getElem? hx))
                have HNX := Lib.hid (fun (W : Bool) (h : W = true ↔ Tab.TokP t S U l[k]) => toks_next hx HW.out h)
                generalize l[k] = y at HSN HNX hm hx
                obtain ⟨nm, ar⟩ := y
                have HMM := Lib.hid hm
                clear hx hm
                have hk1 : k ≤ mc5 := by omega
                have hmc : mc5 ≤ 9223372036854775807 := r2
                have y0 := HKP.out.cell HMM.out.1
                have y1 := HKP.out.cell HMM.out.2
                dsimp only at y0 y1
                go_wp2_with fail
                rcases HSN.out with ⟨h1, h2⟩ | ⟨fa', fb', h1, h2, h3, h4, h5, h6, h7⟩ | ⟨p, q, o1, o2, h1, h2, h3, h4, h5, h7, h8, h6⟩
                · have HNF := Lib.hid (HNX.out false (no_false h2))
                  clear h2
                  cases har : Tab.arity t S nm with
                  | none =>
                    have HC := Lib.hid (HARI.out S nm wo (HK5.out.trans HKP.out))
                    rw [har] at HC
                    simp only [Option.getD_none, Option.isSome_none] at HC
                    refine HC.out.mono ?_
                    rintro e w6 ⟨rfl, kk⟩
                    have HK6 := Lib.hid (HKP.out.trans kk)
                    clear kk HC
                    clear y0 y1
                    have y0 : w6.cell? ⟨mb, mo + k * 2, none⟩ = some (.string nm) := HK6.out.cell HMM.out.1
                    have y1 : w6.cell? ⟨mb, mo + k * 2 + 1, none⟩ = some (.int .i64 ar) := HK6.out.cell HMM.out.2
                    clear h1 har
                    go_wp2_with fail
                    have HC := Lib.hid (HFIA.out S nm w6 (HK5.out.trans HK6.out))
                    refine HC.out.mono ?_
                    rintro e w7 ⟨⟨fx, fb, rfl⟩, kk⟩
                    have HK7 := Lib.hid (HK6.out.trans kk)
                    clear kk HC
                    clear y0 y1
                    have y0 : w7.cell? ⟨mb, mo + k * 2, none⟩ = some (.string nm) := HK7.out.cell HMM.out.1
                    have y1 : w7.cell? ⟨mb, mo + k * 2 + 1, none⟩ = some (.int .i64 ar) := HK7.out.cell HMM.out.2
                    go_wp2_with fail
                    have HC := Lib.hid (HFIA.out U nm w7 (HK5.out.trans HK7.out))
                    refine HC.out.mono ?_
                    rintro e w8 ⟨⟨gx, gb, rfl⟩, kk⟩
                    have HK8 := Lib.hid (HK7.out.trans kk)
                    clear kk HC
                    clear y0 y1
                    have y0 : w8.cell? ⟨mb, mo + k * 2, none⟩ = some (.string nm) := HK8.out.cell HMM.out.1
                    have y1 : w8.cell? ⟨mb, mo + k * 2 + 1, none⟩ = some (.int .i64 ar) := HK8.out.cell HMM.out.2
                    cases gb with
                    | false =>
                      go_wp2_with fail
                      have HC := Lib.hid (HMEA.out S nm w8 (HK5.out.trans HK8.out))
                      refine HC.out.mono ?_
                      rintro e w9 ⟨⟨sa1, pa1, pn1, pc1, sc1, own1, bb1, rfl⟩, kk⟩
                      have HK9 := Lib.hid (HK8.out.trans kk)
                      clear kk HC
                      have HK10 := Lib.hid (HK9.out.alloc (.cells #[.string sa1, .slice pa1 pn1 pc1, .string sc1] 53))
                      clear y0 y1
                      have y0 : (w9.alloc (.cells #[.string sa1, .slice pa1 pn1 pc1, .string sc1] 53)).cell? ⟨mb, mo + k * 2, none⟩ = some (.string nm) := HK10.out.cell HMM.out.1
                      have y1 : (w9.alloc (.cells #[.string sa1, .slice pa1 pn1 pc1, .string sc1] 53)).cell? ⟨mb, mo + k * 2 + 1, none⟩ = some (.int .i64 ar) := HK10.out.cell HMM.out.2
                      go_wp2_with fail
                      have HC := Lib.hid (HMEA.out U nm (w9.alloc (.cells #[.string sa1, .slice pa1 pn1 pc1, .string sc1] 53)) (HK5.out.trans HK10.out))
                      refine HC.out.mono ?_
                      rintro e w11 ⟨⟨sa2, pa2, pn2, pc2, sc2, own2, bb2, rfl⟩, kk⟩
                      have HK11 := Lib.hid (HK10.out.trans kk)
                      clear kk HC
                      have HK12 := Lib.hid (HK11.out.alloc (.cells #[.string sa2, .slice pa2 pn2 pc2, .string sc2] 53))
                      clear y0 y1
                      have y0 : (w11.alloc (.cells #[.string sa2, .slice pa2 pn2 pc2, .string sc2] 53)).cell? ⟨mb, mo + k * 2, none⟩ = some (.string nm) := HK12.out.cell HMM.out.1
                      have y1 : (w11.alloc (.cells #[.string sa2, .slice pa2 pn2 pc2, .string sc2] 53)).cell? ⟨mb, mo + k * 2 + 1, none⟩ = some (.int .i64 ar) := HK12.out.cell HMM.out.2
                      clear y0 y1
                      cases bb2 with
                      | false =>
                        go_wp2_with fail
                        go_loopw [10, 25] (fun pw q wr => pw = .bool false ∧ q = .int .i64 0 ∧ Kept (w11.alloc (.cells #[.string sa2, .slice pa2 pn2 pc2, .string sc2] 53)) wr) (fun pw q wr => 0)
                        case atStart => exact ⟨rfl, rfl, Kept.refl _⟩
                        case round =>
                          obtain ⟨rfl, rfl, hkq⟩ := hrel
                          have HKQ := Lib.hid hkq
                          clear hkq
                          go_wp2_with fail
                          go_roundw
                          case rel => exact ⟨k + 1, false, by omega, rfl, by go_num, HNF.out, HK12.out.trans HKQ.out⟩
                          case measure => simp [intOf]; omega
                      | true =>
                        go_wp2_with fail
                        go_loopw [10, 25] (fun pw q wr => pw = .bool false ∧ q = .int .i64 0 ∧ Kept (w11.alloc (.cells #[.string sa2, .slice pa2 pn2 pc2, .string sc2] 53)) wr) (fun pw q wr => 0)
                        case atStart => exact ⟨rfl, rfl, Kept.refl _⟩
                        case round =>
                          obtain ⟨rfl, rfl, hkq⟩ := hrel
                          have HKQ := Lib.hid hkq
                          clear hkq
                          go_wp2_with fail
                          go_roundw
                          case rel => exact ⟨k + 1, false, by omega, rfl, by go_num, HNF.out, HK12.out.trans HKQ.out⟩
                          case measure => simp [intOf]; omega
                    | true =>
                      go_wp2_with fail
                      have HC := Lib.hid (HMEA.out S nm w8 (HK5.out.trans HK8.out))
                      refine HC.out.mono ?_
                      rintro e w9 ⟨⟨sa1, pa1, pn1, pc1, sc1, own1, bb1, rfl⟩, kk⟩
                      have HK9 := Lib.hid (HK8.out.trans kk)
                      clear kk HC
                      have HK10 := Lib.hid (HK9.out.alloc (.cells #[.string sa1, .slice pa1 pn1 pc1, .string sc1] 53))
                      clear y0 y1
                      have y0 : (w9.alloc (.cells #[.string sa1, .slice pa1 pn1 pc1, .string sc1] 53)).cell? ⟨mb, mo + k * 2, none⟩ = some (.string nm) := HK10.out.cell HMM.out.1
                      have y1 : (w9.alloc (.cells #[.string sa1, .slice pa1 pn1 pc1, .string sc1] 53)).cell? ⟨mb, mo + k * 2 + 1, none⟩ = some (.int .i64 ar) := HK10.out.cell HMM.out.2
                      go_wp2_with fail
                      have HC := Lib.hid (HMEA.out U nm (w9.alloc (.cells #[.string sa1, .slice pa1 pn1 pc1, .string sc1] 53)) (HK5.out.trans HK10.out))
                      refine HC.out.mono ?_
                      rintro e w11 ⟨⟨sa2, pa2, pn2, pc2, sc2, own2, bb2, rfl⟩, kk⟩
                      have HK11 := Lib.hid (HK10.out.trans kk)
                      clear kk HC
                      have HK12 := Lib.hid (HK11.out.alloc (.cells #[.string sa2, .slice pa2 pn2 pc2, .string sc2] 53))
                      clear y0 y1
                      have y0 : (w11.alloc (.cells #[.string sa2, .slice pa2 pn2 pc2, .string sc2] 53)).cell? ⟨mb, mo + k * 2, none⟩ = some (.string nm) := HK12.out.cell HMM.out.1
                      have y1 : (w11.alloc (.cells #[.string sa2, .slice pa2 pn2 pc2, .string sc2] 53)).cell? ⟨mb, mo + k * 2 + 1, none⟩ = some (.int .i64 ar) := HK12.out.cell HMM.out.2
                      clear y0 y1
                      cases bb2 with
                      | false =>
                        go_wp2_with fail
                        go_loopw [10, 25] (fun pw q wr => pw = .bool false ∧ q = .int .i64 0 ∧ Kept (w11.alloc (.cells #[.string sa2, .slice pa2 pn2 pc2, .string sc2] 53)) wr) (fun pw q wr => 0)
                        case atStart => exact ⟨rfl, rfl, Kept.refl _⟩
                        case round =>
                          obtain ⟨rfl, rfl, hkq⟩ := hrel
                          have HKQ := Lib.hid hkq
                          clear hkq
                          go_wp2_with fail
                          go_roundw
                          case rel => exact ⟨k + 1, false, by omega, rfl, by go_num, HNF.out, HK12.out.trans HKQ.out⟩
                          case measure => simp [intOf]; omega
                      | true =>
                        go_wp2_with fail
                        go_loopw [10, 25] (fun pw q wr => pw = .bool false ∧ q = .int .i64 0 ∧ Kept (w11.alloc (.cells #[.string sa2, .slice pa2 pn2 pc2, .string sc2] 53)) wr) (fun pw q wr => 0)
                        case atStart => exact ⟨rfl, rfl, Kept.refl _⟩
                        case round =>
                          obtain ⟨rfl, rfl, hkq⟩ := hrel
                          have HKQ := Lib.hid hkq
                          clear hkq
                          go_wp2_with fail
                          go_roundw
                          case rel => exact ⟨k + 1, false, by omega, rfl, by go_num, HNF.out, HK12.out.trans HKQ.out⟩
                          case measure => simp [intOf]; omega
                  | some v =>
                    have hne : (v == ar) = false := by simp; intro e; exact h1 (by dsimp only; rw [har, e])
                    have HC := Lib.hid (HARI.out S nm wo (HK5.out.trans HKP.out))
                    rw [har] at HC
                    simp only [Option.getD_some, Option.isSome_some] at HC
                    refine HC.out.mono ?_
                    rintro e w6 ⟨rfl, kk⟩
                    have HK6 := Lib.hid (HKP.out.trans kk)
                    clear kk HC
                    clear y0 y1
                    have y0 : w6.cell? ⟨mb, mo + k * 2, none⟩ = some (.string nm) := HK6.out.cell HMM.out.1
                    have y1 : w6.cell? ⟨mb, mo + k * 2 + 1, none⟩ = some (.int .i64 ar) := HK6.out.cell HMM.out.2
                    clear h1 har
                    go_wp2_with fail
                    have HC := Lib.hid (HFIA.out S nm w6 (HK5.out.trans HK6.out))
                    refine HC.out.mono ?_
                    rintro e w7 ⟨⟨fx, fb, rfl⟩, kk⟩
                    have HK7 := Lib.hid (HK6.out.trans kk)
                    clear kk HC
                    clear y0 y1
                    have y0 : w7.cell? ⟨mb, mo + k * 2, none⟩ = some (.string nm) := HK7.out.cell HMM.out.1
                    have y1 : w7.cell? ⟨mb, mo + k * 2 + 1, none⟩ = some (.int .i64 ar) := HK7.out.cell HMM.out.2
                    go_wp2_with fail
                    have HC := Lib.hid (HFIA.out U nm w7 (HK5.out.trans HK7.out))
                    refine HC.out.mono ?_
                    rintro e w8 ⟨⟨gx, gb, rfl⟩, kk⟩
                    have HK8 := Lib.hid (HK7.out.trans kk)
                    clear kk HC
                    clear y0 y1
                    have y0 : w8.cell? ⟨mb, mo + k * 2, none⟩ = some (.string nm) := HK8.out.cell HMM.out.1
                    have y1 : w8.cell? ⟨mb, mo + k * 2 + 1, none⟩ = some (.int .i64 ar) := HK8.out.cell HMM.out.2
                    cases gb with
                    | false =>
                      go_wp2_with fail
                      have HC := Lib.hid (HMEA.out S nm w8 (HK5.out.trans HK8.out))
                      refine HC.out.mono ?_
                      rintro e w9 ⟨⟨sa1, pa1, pn1, pc1, sc1, own1, bb1, rfl⟩, kk⟩
                      have HK9 := Lib.hid (HK8.out.trans kk)
                      clear kk HC
                      have HK10 := Lib.hid (HK9.out.alloc (.cells #[.string sa1, .slice pa1 pn1 pc1, .string sc1] 53))
                      clear y0 y1
                      have y0 : (w9.alloc (.cells #[.string sa1, .slice pa1 pn1 pc1, .string sc1] 53)).cell? ⟨mb, mo + k * 2, none⟩ = some (.string nm) := HK10.out.cell HMM.out.1
                      have y1 : (w9.alloc (.cells #[.string sa1, .slice pa1 pn1 pc1, .string sc1] 53)).cell? ⟨mb, mo + k * 2 + 1, none⟩ = some (.int .i64 ar) := HK10.out.cell HMM.out.2
                      go_wp2_with fail
                      have HC := Lib.hid (HMEA.out U nm (w9.alloc (.cells #[.string sa1, .slice pa1 pn1 pc1, .string sc1] 53)) (HK5.out.trans HK10.out))
                      refine HC.out.mono ?_
                      rintro e w11 ⟨⟨sa2, pa2, pn2, pc2, sc2, own2, bb2, rfl⟩, kk⟩
                      have HK11 := Lib.hid (HK10.out.trans kk)
                      clear kk HC
                      have HK12 := Lib.hid (HK11.out.alloc (.cells #[.string sa2, .slice pa2 pn2 pc2, .string sc2] 53))
                      clear y0 y1
                      have y0 : (w11.alloc (.cells #[.string sa2, .slice pa2 pn2 pc2, .string sc2] 53)).cell? ⟨mb, mo + k * 2, none⟩ = some (.string nm) := HK12.out.cell HMM.out.1
                      have y1 : (w11.alloc (.cells #[.string sa2, .slice pa2 pn2 pc2, .string sc2] 53)).cell? ⟨mb, mo + k * 2 + 1, none⟩ = some (.int .i64 ar) := HK12.out.cell HMM.out.2
                      clear y0 y1
                      cases bb2 with
                      | false =>
                        go_wp2_with fail
                        go_loopw [10, 25] (fun pw q wr => pw = .bool false ∧ q = .int .i64 0 ∧ Kept (w11.alloc (.cells #[.string sa2, .slice pa2 pn2 pc2, .string sc2] 53)) wr) (fun pw q wr => 0)
                        case atStart => exact ⟨rfl, rfl, Kept.refl _⟩
                        case round =>
                          obtain ⟨rfl, rfl, hkq⟩ := hrel
                          have HKQ := Lib.hid hkq
                          clear hkq
                          go_wp2_with fail
                          go_roundw
                          case rel => exact ⟨k + 1, false, by omega, rfl, by go_num, HNF.out, HK12.out.trans HKQ.out⟩
                          case measure => simp [intOf]; omega
                      | true =>
                        go_wp2_with fail
                        go_loopw [10, 25] (fun pw q wr => pw = .bool false ∧ q = .int .i64 0 ∧ Kept (w11.alloc (.cells #[.string sa2, .slice pa2 pn2 pc2, .string sc2] 53)) wr) (fun pw q wr => 0)
                        case atStart => exact ⟨rfl, rfl, Kept.refl _⟩
                        case round =>
                          obtain ⟨rfl, rfl, hkq⟩ := hrel
                          have HKQ := Lib.hid hkq
                          clear hkq
                          go_wp2_with fail
                          go_roundw
                          case rel => exact ⟨k + 1, false, by omega, rfl, by go_num, HNF.out, HK12.out.trans HKQ.out⟩
                          case measure => simp [intOf]; omega
                    | true =>
                      go_wp2_with fail
                      have HC := Lib.hid (HMEA.out S nm w8 (HK5.out.trans HK8.out))
                      refine HC.out.mono ?_
                      rintro e w9 ⟨⟨sa1, pa1, pn1, pc1, sc1, own1, bb1, rfl⟩, kk⟩
                      have HK9 := Lib.hid (HK8.out.trans kk)
                      clear kk HC
                      have HK10 := Lib.hid (HK9.out.alloc (.cells #[.string sa1, .slice pa1 pn1 pc1, .string sc1] 53))
                      clear y0 y1
                      have y0 : (w9.alloc (.cells #[.string sa1, .slice pa1 pn1 pc1, .string sc1] 53)).cell? ⟨mb, mo + k * 2, none⟩ = some (.string nm) := HK10.out.cell HMM.out.1
                      have y1 : (w9.alloc (.cells #[.string sa1, .slice pa1 pn1 pc1, .string sc1] 53)).cell? ⟨mb, mo + k * 2 + 1, none⟩ = some (.int .i64 ar) := HK10.out.cell HMM.out.2
                      go_wp2_with fail
                      have HC := Lib.hid (HMEA.out U nm (w9.alloc (.cells #[.string sa1, .slice pa1 pn1 pc1, .string sc1] 53)) (HK5.out.trans HK10.out))
                      refine HC.out.mono ?_
                      rintro e w11 ⟨⟨sa2, pa2, pn2, pc2, sc2, own2, bb2, rfl⟩, kk⟩
                      have HK11 := Lib.hid (HK10.out.trans kk)
                      clear kk HC
                      have HK12 := Lib.hid (HK11.out.alloc (.cells #[.string sa2, .slice pa2 pn2 pc2, .string sc2] 53))
                      clear y0 y1
                      have y0 : (w11.alloc (.cells #[.string sa2, .slice pa2 pn2 pc2, .string sc2] 53)).cell? ⟨mb, mo + k * 2, none⟩ = some (.string nm) := HK12.out.cell HMM.out.1
                      have y1 : (w11.alloc (.cells #[.string sa2, .slice pa2 pn2 pc2, .string sc2] 53)).cell? ⟨mb, mo + k * 2 + 1, none⟩ = some (.int .i64 ar) := HK12.out.cell HMM.out.2
                      clear y0 y1
                      cases bb2 with
                      | false =>
                        go_wp2_with fail
                        go_loopw [10, 25] (fun pw q wr => pw = .bool false ∧ q = .int .i64 0 ∧ Kept (w11.alloc (.cells #[.string sa2, .slice pa2 pn2 pc2, .string sc2] 53)) wr) (fun pw q wr => 0)
                        case atStart => exact ⟨rfl, rfl, Kept.refl _⟩
                        case round =>
                          obtain ⟨rfl, rfl, hkq⟩ := hrel
                          have HKQ := Lib.hid hkq
                          clear hkq
                          go_wp2_with fail
                          go_roundw
                          case rel => exact ⟨k + 1, false, by omega, rfl, by go_num, HNF.out, HK12.out.trans HKQ.out⟩
                          case measure => simp [intOf]; omega
                      | true =>
                        go_wp2_with fail
                        go_loopw [10, 25] (fun pw q wr => pw = .bool false ∧ q = .int .i64 0 ∧ Kept (w11.alloc (.cells #[.string sa2, .slice pa2 pn2 pc2, .string sc2] 53)) wr) (fun pw q wr => 0)
                        case atStart => exact ⟨rfl, rfl, Kept.refl _⟩
                        case round =>
                          obtain ⟨rfl, rfl, hkq⟩ := hrel
                          have HKQ := Lib.hid hkq
                          clear hkq
                          go_wp2_with fail
                          go_roundw
                          case rel => exact ⟨k + 1, false, by omega, rfl, by go_num, HNF.out, HK12.out.trans HKQ.out⟩
                          case measure => simp [intOf]; omega
                · have HSA := Lib.hid (show fa'.size ≤ maxLen by obtain ⟨f, hf, e⟩ := h6; rw [← e]; exact (HSZF.out _ f hf).2)
                  have HSB := Lib.hid (show fb'.size ≤ maxLen by obtain ⟨f, hf, e⟩ := h7; rw [← e]; exact (HSZF.out _ f hf).2)
                  clear h6 h7
                  dsimp only at h1 h2 h3 h4
                  obtain ⟨pv, hpv⟩ : ∃ pv, Tab.precise t fa' fb' = pv := ⟨_, rfl⟩
                  rw [hpv] at h5
                  have HNF := Lib.hid (HNX.out pv h5.symm)
                  have HPV := Lib.hid hpv
                  have H1 := Lib.hid h1
                  have H2 := Lib.hid h2
                  have H3 := Lib.hid h3
                  have H4 := Lib.hid h4
                  have hbe : (ar == ar) = true := beq_self_eq_true _
                  clear hpv h5 h1 h2 h3 h4
                  have HC := Lib.hid (HARI.out S nm wo (HK5.out.trans HKP.out))
                  rw [H1.out] at HC
                  simp only [Option.getD_some, Option.isSome_some] at HC
                  refine HC.out.mono ?_
                  rintro e w6 ⟨rfl, kk⟩
                  have HK6 := Lib.hid (HKP.out.trans kk)
                  clear kk HC
                  clear y0 y1
                  have y0 : w6.cell? ⟨mb, mo + k * 2, none⟩ = some (.string nm) := HK6.out.cell HMM.out.1
                  have y1 : w6.cell? ⟨mb, mo + k * 2 + 1, none⟩ = some (.int .i64 ar) := HK6.out.cell HMM.out.2
                  go_wp2_with fail
                  have HC := Lib.hid (HFIE.out S nm w6 (HK5.out.trans HK6.out))
                  rw [H2.out] at HC
                  simp only [Option.getD_some, Option.isSome_some] at HC
                  refine HC.out.mono ?_
                  rintro e w7 ⟨rfl, kk⟩
                  have HK7 := Lib.hid (HK6.out.trans kk)
                  clear kk HC
                  clear y0 y1
                  have y0 : w7.cell? ⟨mb, mo + k * 2, none⟩ = some (.string nm) := HK7.out.cell HMM.out.1
                  have y1 : w7.cell? ⟨mb, mo + k * 2 + 1, none⟩ = some (.int .i64 ar) := HK7.out.cell HMM.out.2
                  go_wp2_with fail
                  have HC := Lib.hid (HFIE.out U nm w7 (HK5.out.trans HK7.out))
                  rw [H3.out] at HC
                  simp only [Option.getD_some, Option.isSome_some] at HC
                  refine HC.out.mono ?_
                  rintro e w8 ⟨rfl, kk⟩
                  have HK8 := Lib.hid (HK7.out.trans kk)
                  clear kk HC
                  clear y0 y1
                  have y0 : w8.cell? ⟨mb, mo + k * 2, none⟩ = some (.string nm) := HK8.out.cell HMM.out.1
                  have y1 : w8.cell? ⟨mb, mo + k * 2 + 1, none⟩ = some (.int .i64 ar) := HK8.out.cell HMM.out.2
                  go_wp2_with fail
                  have HC := Lib.hid (HPRC.out fa' fb' HSA.out HSB.out w8 (HK5.out.trans HK8.out))
                  rw [HPV.out] at HC
                  refine HC.out.mono ?_
                  rintro e w9 ⟨rfl, kk⟩
                  have HK9 := Lib.hid (HK8.out.trans kk)
                  clear kk HC
                  clear y0 y1
                  have y0 : w9.cell? ⟨mb, mo + k * 2, none⟩ = some (.string nm) := HK9.out.cell HMM.out.1
                  have y1 : w9.cell? ⟨mb, mo + k * 2 + 1, none⟩ = some (.int .i64 ar) := HK9.out.cell HMM.out.2
                  go_wp2_with fail
                  have HC := Lib.hid (HMEA.out S nm w9 (HK5.out.trans HK9.out))
                  refine HC.out.mono ?_
                  rintro e w10 ⟨⟨sa1, pa1, pn1, pc1, sc1, own1, bb1, rfl⟩, kk⟩
                  have HK10 := Lib.hid (HK9.out.trans kk)
                  clear kk HC
                  have HK11 := Lib.hid (HK10.out.alloc (.cells #[.string sa1, .slice pa1 pn1 pc1, .string sc1] 53))
                  clear y0 y1
                  have y0 : (w10.alloc (.cells #[.string sa1, .slice pa1 pn1 pc1, .string sc1] 53)).cell? ⟨mb, mo + k * 2, none⟩ = some (.string nm) := HK11.out.cell HMM.out.1
                  have y1 : (w10.alloc (.cells #[.string sa1, .slice pa1 pn1 pc1, .string sc1] 53)).cell? ⟨mb, mo + k * 2 + 1, none⟩ = some (.int .i64 ar) := HK11.out.cell HMM.out.2
                  go_wp2_with fail
                  have HC := Lib.hid (HMEN.out U nm H4.out (w10.alloc (.cells #[.string sa1, .slice pa1 pn1 pc1, .string sc1] 53)) (HK5.out.trans HK11.out))
                  refine HC.out.mono ?_
                  rintro e w12 ⟨⟨sa2, pa2, pn2, pc2, sc2, own2, rfl⟩, kk⟩
                  have HK12 := Lib.hid (HK11.out.trans kk)
                  clear kk HC
                  have HK13 := Lib.hid (HK12.out.alloc (.cells #[.string sa2, .slice pa2 pn2 pc2, .string sc2] 53))
                  clear y0 y1
                  have y0 : (w12.alloc (.cells #[.string sa2, .slice pa2 pn2 pc2, .string sc2] 53)).cell? ⟨mb, mo + k * 2, none⟩ = some (.string nm) := HK13.out.cell HMM.out.1
                  have y1 : (w12.alloc (.cells #[.string sa2, .slice pa2 pn2 pc2, .string sc2] 53)).cell? ⟨mb, mo + k * 2 + 1, none⟩ = some (.int .i64 ar) := HK13.out.cell HMM.out.2
                  clear y0 y1
                  go_wp2_with fail
                  go_loopw [10, 25] (fun pw q wr => pw = .bool pv ∧ q = .int .i64 0 ∧ Kept (w12.alloc (.cells #[.string sa2, .slice pa2 pn2 pc2, .string sc2] 53)) wr) (fun pw q wr => 0)
                  case atStart => exact ⟨rfl, rfl, Kept.refl _⟩
                  case round =>
                    obtain ⟨rfl, rfl, hkq⟩ := hrel
                    have HKQ := Lib.hid hkq
                    clear hkq
                    go_wp2_with fail
                    go_roundw
                    case rel => exact ⟨k + 1, pv, by omega, rfl, by go_num, HNF.out, HK13.out.trans HKQ.out⟩
                    case measure => simp [intOf]; omega
                · have HSP := Lib.hid (HSZM.out _ p h7)
                  have HSQ := Lib.hid (HSZM.out _ q h8)
                  clear h7 h8
                  dsimp only at h1 h2 h3 h4
                  have HNF := Lib.hid (fun (W : Bool) h => HNX.out W (Iff.trans h h6.symm))
                  have H1 := Lib.hid h1
                  have H2 := Lib.hid h2
                  have H3 := Lib.hid h3
                  have H4 := Lib.hid h4
                  have HLN := Lib.hid h5
                  have hbe : (ar == ar) = true := beq_self_eq_true _
                  clear h6 h1 h2 h3 h4 h5
                  have HC := Lib.hid (HARI.out S nm wo (HK5.out.trans HKP.out))
                  rw [H1.out] at HC
                  simp only [Option.getD_some, Option.isSome_some] at HC
                  refine HC.out.mono ?_
                  rintro e w6 ⟨rfl, kk⟩
                  have HK6 := Lib.hid (HKP.out.trans kk)
                  clear kk HC
                  clear y0 y1
                  have y0 : w6.cell? ⟨mb, mo + k * 2, none⟩ = some (.string nm) := HK6.out.cell HMM.out.1
                  have y1 : w6.cell? ⟨mb, mo + k * 2 + 1, none⟩ = some (.int .i64 ar) := HK6.out.cell HMM.out.2
                  go_wp2_with fail
                  have HC := Lib.hid (HFIA.out S nm w6 (HK5.out.trans HK6.out))
                  refine HC.out.mono ?_
                  rintro e w7 ⟨⟨fx, fb, rfl⟩, kk⟩
                  have HK7 := Lib.hid (HK6.out.trans kk)
                  clear kk HC
                  clear y0 y1
                  have y0 : w7.cell? ⟨mb, mo + k * 2, none⟩ = some (.string nm) := HK7.out.cell HMM.out.1
                  have y1 : w7.cell? ⟨mb, mo + k * 2 + 1, none⟩ = some (.int .i64 ar) := HK7.out.cell HMM.out.2
                  go_wp2_with fail
                  have HC := Lib.hid (HFIE.out U nm w7 (HK5.out.trans HK7.out))
                  rw [H2.out] at HC
                  simp only [Option.getD_none, Option.isSome_none] at HC
                  refine HC.out.mono ?_
                  rintro e w8 ⟨rfl, kk⟩
                  have HK8 := Lib.hid (HK7.out.trans kk)
                  clear kk HC
                  clear y0 y1
                  have y0 : w8.cell? ⟨mb, mo + k * 2, none⟩ = some (.string nm) := HK8.out.cell HMM.out.1
                  have y1 : w8.cell? ⟨mb, mo + k * 2 + 1, none⟩ = some (.int .i64 ar) := HK8.out.cell HMM.out.2
                  go_wp2_with fail
                  have HC := Lib.hid (HMES.out S nm p o1 H3.out w8 (HK5.out.trans HK8.out))
                  refine HC.out.mono ?_
                  rintro e w9 ⟨⟨sa1, pa1, pc1, rfl, hpr⟩, kk⟩
                  have HK9 := Lib.hid (HK8.out.trans kk)
                  clear kk HC
                  have HPR := Lib.hid hpr
                  clear hpr
                  have HK10 := Lib.hid (HK9.out.alloc (.cells #[.string sa1, .slice pa1 p.params.length pc1, .string p.res] 53))
                  clear y0 y1
                  have y0 : (w9.alloc (.cells #[.string sa1, .slice pa1 p.params.length pc1, .string p.res] 53)).cell? ⟨mb, mo + k * 2, none⟩ = some (.string nm) := HK10.out.cell HMM.out.1
                  have y1 : (w9.alloc (.cells #[.string sa1, .slice pa1 p.params.length pc1, .string p.res] 53)).cell? ⟨mb, mo + k * 2 + 1, none⟩ = some (.int .i64 ar) := HK10.out.cell HMM.out.2
                  go_wp2_with fail
                  have HC := Lib.hid (HMES.out U nm q o2 H4.out (w9.alloc (.cells #[.string sa1, .slice pa1 p.params.length pc1, .string p.res] 53)) (HK5.out.trans HK10.out))
                  refine HC.out.mono ?_
                  rintro e w11 ⟨⟨sa2, pa2, pc2, rfl, hqr⟩, kk⟩
                  have HK11 := Lib.hid (HK10.out.trans kk)
                  have HKK := Lib.hid kk
                  clear kk HC
                  have HQR := Lib.hid hqr
                  clear hqr
                  have HK12 := Lib.hid (HK11.out.alloc (.cells #[.string sa2, .slice pa2 q.params.length pc2, .string q.res] 53))
                  clear y0 y1
                  have y0 : (w11.alloc (.cells #[.string sa2, .slice pa2 q.params.length pc2, .string q.res] 53)).cell? ⟨mb, mo + k * 2, none⟩ = some (.string nm) := HK12.out.cell HMM.out.1
                  have y1 : (w11.alloc (.cells #[.string sa2, .slice pa2 q.params.length pc2, .string q.res] 53)).cell? ⟨mb, mo + k * 2 + 1, none⟩ = some (.int .i64 ar) := HK12.out.cell HMM.out.2
                  clear y0 y1
                  have HB1 := Lib.hid ((Blk.new w9 53 #[.string sa1, .slice pa1 p.params.length pc1, .string p.res]).kept (HKK.out.trans ((Kept.refl w11).alloc (.cells #[.string sa2, .slice pa2 q.params.length pc2, .string q.res] 53))))
                  have HB2 := Lib.hid (Blk.new w11 53 #[.string sa2, .slice pa2 q.params.length pc2, .string q.res])
                  have HPE := Lib.hid (HPR.out.kept (((Kept.refl w9).alloc (.cells #[.string sa1, .slice pa1 p.params.length pc1, .string p.res] 53)).trans (HKK.out.trans ((Kept.refl w11).alloc (.cells #[.string sa2, .slice pa2 q.params.length pc2, .string q.res] 53)))))
                  have HQE := Lib.hid (HQR.out.kept ((Kept.refl w11).alloc (.cells #[.string sa2, .slice pa2 q.params.length pc2, .string q.res] 53)))
                  clear HKK HPR HQR
                  go_wp2_with fail
                  go_loopw [10, 25] (fun pw v wr => ParI t p q (w11.alloc (.cells #[.string sa2, .slice pa2 q.params.length pc2, .string q.res] 53)) pw v wr) (fun pw v wr => q.params.length - (intOf v).toNat)
                  case atStart => exact ⟨0, true, Nat.zero_le _, rfl, rfl, ⟨fun _ i a b hi => absurd hi (Nat.not_lt_zero i), fun _ => rfl⟩, Kept.refl _⟩
                  case round =>
                    obtain ⟨j, W, hj, rfl, rfl, hW, hkq⟩ := hrel
                    obtain ⟨wi, rfl⟩ : ∃ wi, wi = wr := ⟨_, rfl⟩
                    have HKQ := Lib.hid hkq
                    have HWJ := Lib.hid hW
                    clear hW hkq
                    have z1 := (HB1.out.kept HKQ.out).cell 1
                    have z2 := (HB1.out.kept HKQ.out).cell 2
                    have z3 := (HB2.out.kept HKQ.out).cell 1
                    have z4 := (HB2.out.kept HKQ.out).cell 2
                    simp only [List.getElem?_toArray, List.getElem?_cons_zero, List.getElem?_cons_succ] at z1 z2 z3 z4
                    cases W with
                    | false =>
                      have HNO := Lib.hid (HNF.out false (no_false fun h => absurd (HWJ.out.2 fun i a b _ h1 h2 => h.1 i a b h1 h2) (by simp)))
                      go_wp2_with fail
                      go_roundw
                      case rel => exact ⟨k + 1, false, by omega, rfl, by go_num, HNO.out, HK12.out.trans HKQ.out⟩
                      case measure => simp [intOf]; omega
                    | true =>
                      by_cases hlj : j < q.params.length
                      · have hljI : (j : Int) < (q.params.length : Int) := by omega
                        have hlp : j < p.params.length := by have := HLN.out; omega
                        have hlpI : (j : Int) < (p.params.length : Int) := by omega
                        have hxp : p.params[j]? = some p.params[j] := List.getElem?_eq_getElem hlp
                        have hxq : q.params[j]? = some q.params[j] := List.getElem?_eq_getElem hlj
                        obtain ⟨ga, rfl, c1, _, c2, c3⟩ := par_at (HPE.out.kept HKQ.out) hxp
                        obtain ⟨gb, rfl, d1, _, d2, d3⟩ := par_at (HQE.out.kept HKQ.out) hxq
                        have HSA := Lib.hid (HSP.out.2.2.1 _ (List.mem_of_getElem? hxp)).2
                        have HSB := Lib.hid (HSQ.out.2.2.1 _ (List.mem_of_getElem? hxq)).2
                        have HNJ := Lib.hid (fun (W : Bool) (h : Tab.precise t p.params[j].typ q.params[j].typ = W) => par_next hxp hxq HWJ.out h)
                        generalize p.params[j].typ = ta at c1 HSA HNJ
                        generalize q.params[j].typ = tb at d1 HSB HNJ
                        have hjc : j ≤ pc1 := by omega
                        have hjd : j ≤ pc2 := by omega
                        obtain ⟨pv, hpv⟩ : ∃ pv, Tab.precise t ta tb = pv := ⟨_, rfl⟩
                        have HNP := Lib.hid (HNJ.out pv hpv)
                        have HC := Lib.hid (HPRC.out ta tb HSA.out HSB.out wi.drew (HK5.out.trans (HK12.out.trans HKQ.out.drew)))
                        rw [hpv] at HC
                        clear hpv HNJ hxp hxq z2 z4
                        go_wp2_with fail
                        go_region_with (go_at_call 36; refine HC.out.mono ?_; rintro e w20 ⟨rfl, k20⟩; have HK20 := Lib.hid (HKQ.out.drew.trans k20); clear k20)
                        all_goals
                          go_wp2_with fail
                          go_roundw
                          case rel => exact ⟨j + 1, pv, by omega, rfl, by go_num, HNP.out, HK20.out⟩
                          case measure => simp [intOf]; omega
                      · have hljI : ¬ (j : Int) < (q.params.length : Int) := by omega
                        have hje : j = q.params.length := by omega
                        obtain ⟨pv, hpv⟩ : ∃ pv, Tab.precise t p.res q.res = pv := ⟨_, rfl⟩
                        have HNO := Lib.hid (HNF.out pv (by rw [← hpv]; exact ⟨fun h => ⟨fun i a b h1 h2 => HWJ.out.1 rfl i a b (by rw [hje]; exact (List.getElem?_eq_some_iff.1 h2).1) h1 h2, h⟩, fun h => h.2⟩))
                        have HC := Lib.hid (HPRC.out p.res q.res HSP.out.2.1 HSQ.out.2.1 wi (HK5.out.trans (HK12.out.trans HKQ.out)))
                        rw [hpv] at HC
                        clear hpv hje
                        go_wp2_with fail
                        refine HC.out.mono ?_
                        rintro e w20 ⟨rfl, k20⟩
                        have HK20 := Lib.hid (HK12.out.trans (HKQ.out.trans k20))
                        clear k20 HC
                        go_wp2_with fail
                        go_roundw
                        case rel => exact ⟨k + 1, pv, by omega, rfl, by go_num, HNO.out, HK20.out⟩
                        case measure => simp [intOf]; omega
            · have hlkI : ¬ (k : Int) < (l.length : Int) := by omega
              obtain rfl : k = l.length := by omega
              have HC := Lib.hid (HPRC.out S U HSS.out HSU.out wo (HK5.out.trans HKP.out))
              rw [toks_end HFI.out HW.out (.inr rfl)] at HC
              cases W with
              | false =>
                go_wp2_with fail
                refine HC.out.mono ?_
                rintro e w6 ⟨rfl, k6⟩
                have HK6 := Lib.hid (HKP.out.trans k6)
                clear k6 HC
                go_wp2_with fail
                go_ret
                exact ⟨rfl, HK5.out.trans HK6.out⟩
              | true =>
                go_wp2_with fail
                refine HC.out.mono ?_
                rintro e w6 ⟨rfl, k6⟩
                have HK6 := Lib.hid (HKP.out.trans k6)
                clear k6 HC
                go_wp2_with fail
                go_ret
                exact ⟨rfl, HK5.out.trans HK6.out⟩
    · have z1b : (fe == 0) = false := by simp [z1]
      clear hfe
      go_wp2_with fail
      go_ret
      exact ⟨rfl, HK3.out⟩

end Go.Proofs.YtnjgagbblkjjeaaGreatDoor
