import Derived.Test.YtegcgflhgfmkpaaGreatDoorUTkm
import Derived.Test.YtegcgflhgfmkpaaGreatDoorUw6
import Derived.Test.YtegcgflhgfmkpaaGreatDoorUTkr
import Derived.Test.YtegcgflhgfmkpaaGreatDoorUMpl
import Derived.Test.YtegcgflhgfmkpaaGreatDoorUHlt
set_option linter.unusedSimpArgs false
set_option linter.unusedVariables false
set_option maxRecDepth 100000
namespace Go.Proofs.YtegcgflhgfmkpaaGreatDoor
open _root_.Go.Proofs.Tryz
open Go.ChangeShapes Go.WideShapes Go.ChangeAt Go.RowKit
open Ps (O W)
structure PP where
 B : Nat
 m : Nat
 N : Nat
 L : Nat
 s : Nat -> Value
 f : ByteArray -> Option Value
def PP.far (p : PP) (b : Nat) : Prop := b ≠ p.B /\ b < p.N /\ (p.L <= b ∨ b = 1)
def StrB (D : Nat -> Prop) (w : World) (b o : Nat) (x : ByteArray) : Prop := D b /\ w.cell? ⟨b, o, none⟩ = some (.string x)
abbrev LvR (D : Nat -> Prop) (w : World) (v : Value) (l : List ByteArray) : Prop := Row 1 (StrB D) w v l
theorem slice_of_owns0 {w : World} {base k : Nat} {e : TypeId} {v : Value} {n : Nat} {xs : List Value} (h : w.ownsRow base e k v n xs) : ∃ a c, v = .slice a n c := by
 rcases h.2 with ⟨rfl, rfl⟩ | ⟨g, cap, cur, rfl, _⟩
 ·exact ⟨none, 0, rfl⟩
 ·exact ⟨_, _, rfl⟩
theorem owns_only0 {S : Nat -> Prop} {w w' : World} {base k : Nat} {e : TypeId} {v : Value} {n : Nat} {xs : List Value} (h : w.ownsRow base e k v n xs) (hk : Only S w w') (hs : ∀ g, v.ownBlock = some g -> ¬ S g) : w'.ownsRow base e k v n xs := by
 refine ⟨h.1, h.2.imp id ?_⟩;rintro ⟨g, cap, cur, e1, h1, h2, h3⟩;exact ⟨g, cap, cur, e1, h1, (hk.block g (Array.getElem?_eq_some_iff.1 h2).1 (hs g (by rw [e1]; rfl))).trans h2, h3⟩
theorem owns_block0 {w : World} {base : Nat} {e : TypeId} {size : Nat} {v : Value} {n : Nat} {xs : List Value} (h : w.ownsRow base e size v n xs) {g : Nat} (hg : v.ownBlock = some g) : base <= g := by
 rcases h.2 with ⟨rfl, _⟩ | ⟨g', cap, cur, rfl, hb, _⟩
 ·cases hg
 ·obtain rfl : g' = g := Option.some.inj hg;exact hb
theorem owns_base0 {w : World} {base base' k n : Nat} {e : TypeId} {v : Value} {xs : List Value} (h : w.ownsRow base e k v n xs) (hb : base' <= base) : w.ownsRow base' e k v n xs := by
 refine ⟨h.1, h.2.imp id ?_⟩;rintro ⟨g, cap, cur, e1, h1, h2⟩;exact ⟨g, cap, cur, e1, Nat.le_trans hb h1, h2⟩
theorem cell_only {S : Nat -> Prop} {w w' : World} (k : Only S w w') {b o : Nat} (hb : ¬ S b) {v : Value} (hc : w.cell? ⟨b, o, none⟩ = some v) : w'.cell? ⟨b, o, none⟩ = some v := by
 have hlt : b < w.heap.size := World.block_lt_of_cell? w ⟨b, o, none⟩ hc;rw [<- hc];exact World.cell?_of_block (w := w) (k.block b hlt hb)
theorem LvR.only {S D : Nat -> Prop} {w w' : World} {v : Value} {l : List ByteArray} (h : LvR D w v l) (k : Only S w w') (hs : ∀ b, D b -> ¬ S b) : LvR D w' v l := Row.mono h fun b o x h => ⟨h.1, cell_only k (hs _ h.1) h.2⟩
theorem LvR.kept {D : Nat -> Prop} {w w' : World} {v : Value} {l : List ByteArray} (h : LvR D w v l) (k : Kept w w') : LvR D w' v l := h.only (S := fun _ => False) (Only.of_kept k) (fun _ _ h => h)
theorem LvR.lit {w : World} {g : Nat} {t : TypeId} (l : List ByteArray) (hb : Blk w g t (l.map Value.string).toArray) (hm : l.length <= maxLen) : LvR (fun _ => True) w (.slice (some ⟨g, 0, none⟩) l.length l.length) l :=
 ⟨_, _, rfl, Nat.le_refl _, hm, fun i x hx => ⟨g, 0, rfl, trivial, by rw [hb.cell]; simp [hx]⟩⟩
def TokB (D : Nat -> Prop) (w : World) (b o : Nat) (x : Lx.T) : Prop := D b /\ TokR w b o x
theorem toks_only {S D : Nat -> Prop} {w w' : World} {v : Value} {l : List Lx.T} (h : Row 4 (TokB D) w v l) (k : Only S w w') (hs : ∀ b, D b -> ¬ S b) : Row 4 (TokB D) w' v l :=
 Row.mono h fun b o x h => ⟨h.1, cell_only k (hs _ h.1) h.2.1, cell_only k (hs _ h.1) h.2.2.1, cell_only k (hs _ h.1) h.2.2.2.1, cell_only k (hs _ h.1) h.2.2.2.2⟩
theorem row_tail {α : Type} {k : Nat} {R : World -> Nat -> Nat -> α -> Prop} {w : World} {b o c n : Nat} {x : α} {l : List α} (h : Row k R w (.slice (some ⟨b, o, none⟩) n c) (x :: l)) : Row k R w (.slice (some ⟨b, o + k, none⟩) l.length (c - 1)) l := by
 obtain ⟨a, c', e, h1, h2, h3⟩ := h;injection e with e1 e2 e3;subst e1 e3;rw [List.length_cons] at h1;refine ⟨_, _, rfl, by omega, by omega, fun i y hy => ?_⟩;obtain ⟨b', o', e, r⟩ := h3 (i + 1) y (by simpa using hy);injection e with e;injection e with e1 e2;subst e1 e2;exact ⟨b, o + k, rfl, by rw [show o + k + i * k = o + (i + 1) * k by rw [Nat.add_mul]; omega]; exact r⟩
theorem row_head {α : Type} {k : Nat} {R : World -> Nat -> Nat -> α -> Prop} {w : World} {a : Option Addr} {c n : Nat} {x : α} {l : List α} (h : Row k R w (.slice a n c) (x :: l)) : ∃ b o, a = some ⟨b, o, none⟩ /\ n = l.length + 1 /\ n <= c /\ c <= maxLen /\ R w b o x := by
 obtain ⟨a', c', e, h1, h2, h3⟩ := h;injection e with e1 e2 e3;subst e1 e3;obtain ⟨b, o, e, r⟩ := h3 0 x rfl;exact ⟨b, o, e, by rw [e2]; rfl, by omega, h2, by simpa using r⟩
namespace Ps
def tokOk (t : T) : Prop := (0 <= t.kind /\ t.kind <= 7) /\ t.text.size <= maxLen /\ -9223372036854775808 <= t.n /\ t.n <= 9223372036854775807
def Ends (l : List T) : Prop := ∃ pre n, l = pre ++ [theEndT n]
structure Good (l : List T) : Prop where
 ok : ∀ t ∈ l, tokOk t
 len : l.length <= 30000
 ends : Ends l
theorem srt_end (n : Int) : srt (theEndT n) = theEnd := rfl
theorem Ends.tail {t : T} {r : List T} (h : Ends (t :: r)) (hn : srt t ≠ theEnd) : Ends r := by
 obtain ⟨pre, n, e⟩ := h
 cases pre with
 | nil => injection e with e1 e2; subst e1; exact absurd (srt_end n) hn
 | cons p q => injection e with e1 e2; exact ⟨q, n, e2⟩
theorem Good.tail {t : T} {r : List T} (h : Good (t :: r)) (hn : srt t ≠ theEnd) : Good r :=
 ⟨fun x hx => h.ok x (List.mem_cons_of_mem _ hx), by have := h.len; rw [List.length_cons] at this; omega, h.ends.tail hn⟩
theorem Good.ne {l : List T} (h : Good l) : l ≠ [] := by
 obtain ⟨pre, n, e⟩ := h.ends;rw [e]; simp
theorem Good.cons {l : List T} (h : Good l) : ∃ t r, l = t :: r /\ tokOk t := by
 cases l with
 | nil => exact absurd rfl h.ne
 | cons t r => exact ⟨t, r, rfl, h.ok t (by simp)⟩
theorem mem_iff {ss : List ByteArray} {x : ByteArray} : mem ss x = true ↔ x ∈ ss := by
 unfold mem;simp only [List.any_eq_true, decide_eq_true_eq];exact ⟨fun ⟨y, hy, e⟩ => e ▸ hy, fun h => ⟨x, h, rfl⟩⟩
theorem mem_f {ss : List ByteArray} {x : ByteArray} : mem ss x = false ↔ x ∉ ss := by
 rw [<- mem_iff]; cases mem ss x <;> simp
end Ps
abbrev pT : TypeId := 120
abbrev nT : TypeId := 24
def pC (v : Value) (p : PP) : Array Value := #[v, .map (some p.m), p.s 0, p.s 1, p.s 2, p.s 3, p.s 4, p.s 5]
def Sorts (w : World) : Prop := ∃ t fr, w.heap[1]? = some (.cells #[.string Ps.theEnd, .string Ps.aName, .string Ps.aClass, .string ⟨#[]⟩, .string Ps.anInt, .string Ps.aReal, .string Ps.aStr] t fr)
theorem Sorts.only {S : Nat -> Prop} {w w' : World} (h : Sorts w) (k : Only S w w') (hs : ¬ S 1) : Sorts w' := by
 obtain ⟨t, fr, h⟩ := h;exact ⟨t, fr, (k.block _ (Array.getElem?_eq_some_iff.1 h).1 hs).trans h⟩
structure Sta (p : PP) (w : World) : Prop where
 map : MapF prog 9 p.m 20 p.f w
 m : p.far p.m
 so : Sorts w /\ p.far 1
 lv : ∀ j, j < 6 -> LvR p.far w (p.s j) (Ps.levels j)
theorem Sta.only {S : Nat -> Prop} {p : PP} {w w' : World} (h : Sta p w) (k : Only S w w') (hs : ∀ b, p.far b -> ¬ S b) : Sta p w' :=
 ⟨h.map.only k (hs _ h.m), h.m, ⟨h.so.1.only k (hs _ h.so.2), h.so.2⟩, fun j hj => (h.lv j hj).only k hs⟩
structure Pst (p : PP) (l : List Lx.T) (w : World) : Prop where
 blk : ∃ ad c, Blk w p.B pT (pC (.slice ad l.length c) p) /\ Row 4 (TokB p.far) w (.slice ad l.length c) l
 good : Ps.Good l
 sta : Sta p w
 lt : p.B < p.N /\ p.N <= w.heap.size
section
variable {p : PP} {l r : List Lx.T} {w w' : World}
theorem Pst.hi (h : Pst p l w) : p.B < w.heap.size := Nat.lt_of_lt_of_le h.lt.1 h.lt.2
theorem Pst.onlyF {S : Nat -> Prop} (h : Pst p l w) (k : Only S w w') (hB : ¬ S p.B) (hs : ∀ b, p.far b -> ¬ S b) : Pst p l w' := by
 obtain ⟨⟨ad, c, hb, hr⟩, h2, h3, h4⟩ := h;exact ⟨⟨ad, c, hb.only k hB, toks_only hr k hs⟩, h2, h3.only k hs, h4.1, Nat.le_trans h4.2 k.size⟩
theorem Pst.only {S : Nat -> Prop} (h : Pst p l w) (k : Only S w w') (hs : ∀ b, b < p.N -> ¬ S b) : Pst p l w' := h.onlyF k (hs _ h.lt.1) (fun b hb => hs b hb.2.1)
theorem Pst.kept (h : Pst p l w) (k : Kept w w') : Pst p l w' := h.only (S := fun _ => False) (Only.of_kept k) (fun _ _ h => h)
theorem Pst.alloc (h : Pst p l w) (o : Obj) : Pst p l (w.alloc o) := h.kept ((Kept.refl w).alloc o)
theorem Pst.drew (h : Pst p l w) : Pst p l w.drew := h.kept (Kept.refl w).drew
theorem Pst.next {ad : Option Addr} {c : Nat} (hg : Ps.Good r) (hs : Sta p w) (hl : p.B < p.N /\ p.N <= w.heap.size) (hr : Row 4 (TokB p.far) w (.slice ad r.length c) r)
  (ho : Only (· = p.B) w w') (hb : Blk w' p.B pT (pC (.slice ad r.length c) p)) : Pst p r w' := ⟨⟨_, _, hb, toks_only hr ho (fun b h => h.1)⟩, hg, hs.only ho (fun b h => h.1), hl.1, Nat.le_trans hl.2 ho.size⟩
end
def KRowD (D : Nat -> Prop) (base : Nat) (w : World) (v : Value) (ks : List (Nd × Value)) : Prop :=
 w.ownsRow base nT 6 v ks.length (ks.flatMap fun p => ndC p.1 p.2) /\ ∀ p ∈ ks, p.1.ok1 /\ KidsD (fun k => D k /\ v.ownBlock ≠ some k) w p.2 p.1.kids
def KRow (base : Nat) (w : World) (v : Value) (ks : List (Nd × Value)) : Prop := KRowD (fun k => base <= k) base w v ks
theorem KRowD.only {S D : Nat -> Prop} {base : Nat} {w w' : World} {v : Value} {ks : List (Nd × Value)} (h : KRowD D base w v ks) (k : Only S w w') (h1 : ∀ k, v.ownBlock = some k -> ¬ S k) (h2 : ∀ k, D k -> ¬ S k) : KRowD D base w' v ks :=
 ⟨owns_only0 h.1 k h1, fun p hp => ⟨(h.2 p hp).1, (h.2 p hp).2.only k (fun k hk => h2 k hk.1)⟩⟩
theorem KRowD.mono {D E : Nat -> Prop} {base : Nat} {w : World} {v : Value} {ks : List (Nd × Value)} (h : KRowD D base w v ks) (hd : ∀ k, k < w.heap.size -> D k -> E k) : KRowD E base w v ks :=
 ⟨h.1, fun p hp => ⟨(h.2 p hp).1, (h.2 p hp).2.mono fun k hk hd' => ⟨hd k hk hd'.1, hd'.2⟩⟩⟩
theorem ndC_len (p : Nd × Value) : (ndC p.1 p.2).length = 6 := rfl
section
variable {base : Nat} {w w' : World} {v : Value} {ks : List (Nd × Value)}
theorem KRow.nil (base : Nat) (w : World) : KRow base w (.slice none 0 0) [] := ⟨World.ownsRow_nil w base nT 6, fun p hp => by cases hp⟩
theorem KRow.slice (h : KRow base w v ks) : ∃ a c, v = .slice a ks.length c := slice_of_owns0 h.1
theorem KRow.only {S : Nat -> Prop} (h : KRow base w v ks) (k : Only S w w') (hs : ∀ k, base <= k -> ¬ S k) : KRow base w' v ks :=
 ⟨owns_only0 h.1 k (fun g hg => hs g (owns_block0 h.1 hg)), fun p hp => ⟨(h.2 p hp).1, (h.2 p hp).2.only k (fun k hk => hs k hk.1)⟩⟩
theorem KRow.kept (h : KRow base w v ks) (k : Kept w w') : KRow base w' v ks := h.only (S := fun _ => False) (Only.of_kept k) (fun _ _ h => h)
theorem KRow.lower {b' : Nat} (h : KRow base w v ks) (hb : b' <= base) : KRow b' w v ks :=
 ⟨owns_base0 h.1 hb, fun p hp => ⟨(h.2 p hp).1, (h.2 p hp).2.mono fun k _ hk => ⟨Nat.le_trans hb hk.1, hk.2⟩⟩⟩
theorem KRow.kids (h : KRow base w v ks) : KidsD (fun k => base <= k) w v (ks.map (·.1)) := by
 rcases h.1.2 with ⟨rfl, hl0⟩ | ⟨g, cap, cur, rfl, hg1, hg2, hg3, hg4, hg5, hg6⟩
 ·obtain rfl : ks = [] := List.eq_nil_of_length_eq_zero hl0;exact Row.nil
 ·refine ⟨_, cap, by rw [List.length_map], by rw [List.length_map]; exact hg3, hg4, fun i x hx => ⟨g, 0, rfl, ?_⟩⟩;rw [List.getElem?_map] at hx;obtain ⟨p, hp, rfl⟩ := Option.map_eq_some_iff.1 hx;obtain ⟨hok, hk⟩ := h.2 p (List.mem_of_getElem? hp);obtain ⟨a, c, e, h1, h2, h3⟩ := hk;have hk' : KidsD (fun k => base <= k) w (.slice a p.1.kids.length c) p.1.kids := ⟨a, c, rfl, h1, h2, fun i x hx => by obtain ⟨b, o, e, r⟩ := h3 i x hx; exact ⟨b, o, e, r.mono fun k _ hk => hk.1⟩⟩;refine NdD.shut (ad := a) (c := c) (fun j u hu => ?_) hok hk' hg1;rw [<- e] at hu;have hj : j < 6 := by
   rcases Nat.lt_or_ge j 6 with h | h
   ·exact h
   ·rw [List.getElem?_eq_none (by rw [ndC_len]; exact h)] at hu; cases hu
  have c0 := h.1.cells (g := g) rfl _ _ ((flat_at (fun p : Nd × Value => ndC p.1 p.2) ndC_len ks i j p hp hj).trans hu);rw [Addr.add_lit] at c0
  simpa [Nat.add_assoc] using c0
end
def put4t (W : World) (g : Nat) (t : Lx.T) : World := (((W.setCell ⟨g, 0, none⟩ (.int .i64 t.kind)).setCell ⟨g, 1, none⟩ (.string t.text)).setCell ⟨g, 2, none⟩ (.int .i64 t.n)).setCell ⟨g, 3, none⟩ (.int .i64 t.pos)
theorem put4t_blk {W : World} {g : Nat} {a b c d : Value} (h : Blk W g 70 #[a, b, c, d]) (t : Lx.T) : Blk (put4t W g t) g 70 #[.int .i64 t.kind, .string t.text, .int .i64 t.n, .int .i64 t.pos] := by
 have := (((h.put 0 (.int .i64 t.kind)).put 1 (.string t.text)).put 2 (.int .i64 t.n)).put 3 (.int .i64 t.pos)
 simpa [put4t] using this
theorem put4t_only (W : World) (g : Nat) (t : Lx.T) : Only (· = g) W (put4t W g t) := ((((Only.refl _ W).put 0 _).put 1 _).put 2 _).put 3 _
def put6n (W : World) (g : Nat) (x : Nd) (v : Value) : World := (((((W.setCell ⟨g, 0, none⟩ (.int .i64 x.kind)).setCell ⟨g, 1, none⟩ (.string x.text)).setCell ⟨g, 2, none⟩ (.string x.typ)).setCell ⟨g, 3, none⟩ (.string x.frm)).setCell ⟨g, 4, none⟩ (.int .i64 x.n)).setCell ⟨g, 5, none⟩ v
theorem put6n_blk {W : World} {g : Nat} {a b c d e h : Value} (hb : Blk W g nT #[a, b, c, d, e, h]) (x : Nd) (v : Value) : Blk (put6n W g x v) g nT (ndC x v).toArray := by
 have := (((((hb.put 0 (.int .i64 x.kind)).put 1 (.string x.text)).put 2 (.string x.typ)).put 3 (.string x.frm)).put 4 (.int .i64 x.n)).put 5 v
 simpa [put6n, ndC] using this
theorem put6n_only (W : World) (g : Nat) (x : Nd) (v : Value) : Only (· = g) W (put6n W g x v) := ((((((Only.refl _ W).put 0 _).put 1 _).put 2 _).put 3 _).put 4 _).put 5 _
theorem tok_results {fn : Func} {p : Tmp} (h : fn.results = #[.cell p 70]) (tmps : Array Value) (W : World) {g : Nat} {x0 x1 x2 x3 : Value}
  (hp : tmps.getD p undef = .pointer (some ⟨g, 0, none⟩)) (hg : Blk W g 70 #[x0, x1, x2, x3]) : (results fn tmps).run prog W = .ok (.agg #[x0, x1, x2, x3]) W :=
 results_cell_row (P := prog) h tmps W g 70 #[x0, x1, x2, x3] (0, 0) _ hp hg underlying70 (by rfl) (by kernel_rfl)
theorem nd_results {fn : Func} {p : Tmp} (h : fn.results = #[.cell p 24]) (tmps : Array Value) (W : World) {g : Nat} {x : Nd} {v : Value}
  (hp : tmps.getD p undef = .pointer (some ⟨g, 0, none⟩)) (hg : Blk W g nT (ndC x v).toArray) : (results fn tmps).run prog W = .ok (ndV x v) W :=
 results_cell_row (P := prog) h tmps W g 24 (ndC x v).toArray (0, 0) _ hp hg underlying24 (by rfl) (by kernel_rfl)
abbrev tAgg (t : Lx.T) : Value := .agg #[.int .i64 t.kind, .string t.text, .int .i64 t.n, .int .i64 t.pos]
abbrev refV (e q : Int) : List PanicEntry := [{ v := .iface 95 (.agg #[.int .i64 e, .int .i64 q]), recovered := false }]
theorem field_tok1 (t : Lx.T) (w : World) : (Instr.field 70 (tAgg t) 1).run prog w = .ok (.string t.text) w := by kernel_rfl
theorem field_tok2 (t : Lx.T) (w : World) : (Instr.field 70 (tAgg t) 2).run prog w = .ok (.int .i64 t.n) w := by kernel_rfl
def TakePost (p : PP) (ss : List ByteArray) (l : List Lx.T) (w : World) (e : Ending) (w' : World) : Prop :=
 (∃ t r, Ps.take ss l = .ok t r /\ l = t :: r /\ e = .returned (tAgg t) /\ Pst p r w' /\ Only (· = p.B) w w' /\ Ps.tokOk t) ∨ (∃ q, Ps.take ss l = .bad q /\ e = .panicked (refV 5 q) /\ Only (· = p.B) w w')
def StrPost (p : PP) (l : List Lx.T) (o : O ByteArray) (w : World) (e : Ending) (w' : World) : Prop :=
 (∃ y r, o = .ok y r /\ e = .returned (.string y) /\ Pst p r w' /\ Only (· = p.B) w w' /\ y.size <= maxLen /\ r.length <= l.length) ∨ (∃ q, o = .bad q /\ e = .panicked (refV 5 q) /\ Only (· = p.B) w w')
def NodePost (p : PP) (l : List Lx.T) (o : O Nd) (w : World) (e : Ending) (w' : World) : Prop :=
 (∃ x ks r v, o = .ok x r /\ e = .returned (ndV x v) /\ x.kids = ks.map (·.1) /\ KRow w.heap.size w' v ks /\ Pst p r w' /\ Only (· = p.B) w w' /\ x.ok1 /\ x.count + r.length <= l.length) ∨ (∃ q, o = .bad q /\ e = .panicked (refV 5 q) /\ Only (· = p.B) w w')
def ListPost (p : PP) (l : List Lx.T) (o : O (List Nd)) (w : World) (e : Ending) (w' : World) : Prop :=
 (∃ ks r v, o = .ok (ks.map (·.1)) r /\ e = .returned v /\ KRow w.heap.size w' v ks /\ Pst p r w' /\ Only (· = p.B) w w' /\ Nd.countL (ks.map (·.1)) + r.length < l.length) ∨ (∃ q, o = .bad q /\ e = .panicked (refV 5 q) /\ Only (· = p.B) w w')
theorem node_end {p : PP} {l r : List Lx.T} {o : O Nd} {fn : Func} {q : Tmp} {a : Act} {w W : World} {a0 a1 a2 a3 a4 a5 v : Value} {x : Nd} {ks : List (Nd × Value)} (hf : fn.results = #[.cell q nT]) (hd : a.defers = []) (hp : a.tmps.getD q undef = .pointer (some ⟨w.heap.size, 0, none⟩))
  (hb : Blk W w.heap.size nT #[a0, a1, a2, a3, a4, a5]) (ho : o = .ok x r) (hx : x.kids = ks.map (·.1)) (hk : KRow (w.heap.size + 1) W v ks) (hP : Pst p r W) (hN : p.N <= w.heap.size) (hO : Only (· = p.B) w W) (hok : x.ok1) (hc : x.count + r.length <= l.length) :
  bodyPost prog fn (NodePost p l o w) .ret a (put6n W w.heap.size x v) := by
 have h1 := put6n_only W w.heap.size x v;refine bodyPost_ret (nd_results hf _ _ hp (put6n_blk hb x v)) hd (.inl ⟨x, ks, r, v, ho, rfl, hx, ?_, ?_, ?_, hok, hc⟩)
 ·exact (hk.only h1 (fun k hk => by omega)).lower (by omega)
 ·exact hP.only h1 (fun b hb => by omega)
 ·exact ⟨h1.os.trans hO.os, h1.output.trans hO.output, Nat.le_trans hO.size h1.size, fun k hk hB => (h1.block k (Nat.lt_of_lt_of_le hk hO.size) (by omega)).trans (hO.block k hk hB)⟩
theorem nd_ok1 (k : Int) (t y : ByteArray) (n : Int) (ks : List Nd) (hk : 0 <= k /\ k <= 40) (ht : t.size <= maxLen) (hy : y.size <= maxLen) (hn : -9223372036854775808 <= n /\ n <= 9223372036854775807) : (Ps.nd k t y n ks).ok1 := ⟨⟨by show _ <= k; omega, by show k <= _; omega⟩, hn, ht, hy, Nat.zero_le _⟩
theorem e0_size : Ps.e0.size <= maxLen := Nat.zero_le _
section
variable {base : Nat} {w w' : World} {v : Value} {ks : List (Nd × Value)}
theorem KRow.onB {p : PP} (h : KRow base w v ks) (k : Only (· = p.B) w w') (hb : p.B < base) : KRow base w' v ks := h.only k (fun k hk => by omega)
theorem KRow.lit (ks : List (Nd × Value)) {X : World} {cs : Array Value} {g n : Nat} (hg : g = X.heap.size) (hn : n = ks.length) (hcs : cs = (ks.flatMap fun p => ndC p.1 p.2).toArray) (hb : base <= X.heap.size) (hm : ks.length <= 100)
  (h : ∀ p ∈ ks, p.1.ok1 /\ ∃ k2, p.1.kids = k2.map (·.1) /\ KRow base X p.2 k2) : KRow base (X.alloc (.cells cs nT)) (.slice (some ⟨g, 0, none⟩) n n) ks := by
 subst hg hn hcs;have hl := flat_len (fun p : Nd × Value => ndC p.1 p.2) ndC_len ks;refine ⟨⟨hl, .inr ⟨X.heap.size, ks.length, _, rfl, hb, Blk.new X nT _, Nat.le_refl _, by unfold maxLen; omega, by simpa using hl, by rw [List.take_of_length_le (by simpa using Nat.le_of_eq hl)]⟩⟩, fun q hq => ?_⟩;obtain ⟨h1, k2, e, h2⟩ := h q hq;refine ⟨h1, ?_⟩;have h3 : KidsD (fun k => base <= k) X q.2 q.1.kids := e ▸ h2.kids;refine (h3.mono (E := fun k => base <= k /\ (Value.slice (some ⟨X.heap.size, 0, none⟩) ks.length ks.length).ownBlock ≠ some k) fun k hk hd => ⟨hd, fun e => ?_⟩).kept ((Kept.refl X).alloc _);have : X.heap.size = k := by simpa [Value.ownBlock] using e
 omega
theorem KRowD.app {D : Nat -> Prop} {k2 : List (Nd × Value)} {v' : Value} {n : Nat} (h : KRowD D base w v ks) (h2 : ∀ q ∈ k2, q.1.ok1 /\ KidsD (fun k => D k /\ v.ownBlock ≠ some k) w q.2 q.1.kids)
  (hn : n = ks.length + k2.length) (ho : w'.ownsRow base nT 6 v' n ((ks.flatMap fun p => ndC p.1 p.2) ++ (k2.flatMap fun p => ndC p.1 p.2))) (hg : w.grownBy w' v.ownBlock) (hl : v'.ownBlock = v.ownBlock ∨ v'.ownBlock = some w.heap.size) :
  KRowD D base w' v' (ks ++ k2) := by
 subst hn;refine ⟨by rw [List.length_append, List.flatMap_append]; exact ho, fun q hq => ?_⟩;have hq' : q.1.ok1 /\ KidsD (fun k => D k /\ v.ownBlock ≠ some k) w q.2 q.1.kids := by
  rcases List.mem_append.1 hq with hq | hq
  ·exact h.2 q hq
  ·exact h2 q hq
 refine ⟨hq'.1, ?_⟩;have h3 : KidsD (fun k => k < w.heap.size /\ (D k /\ v.ownBlock ≠ some k)) w q.2 q.1.kids := hq'.2.mono fun k hk hd => ⟨hk, hd⟩;have ho' : Only (fun k => v.ownBlock = some k ∨ w.heap.size <= k) w w' := (Only.refl _ w).grown hg fun k hk => .inl (.inl hk);refine (h3.only ho' (fun k hk hd => ?_)).mono fun k _ hd => ⟨hd.2.1, fun e => ?_⟩
 ·rcases hd with e | e
  ·exact hk.2.2 e
  ·omega
 ·rcases hl with e2 | e2
  ·exact hd.2.2 (e2 ▸ e)
  ·rw [e2] at e; injection e with e; omega
theorem KRowD.behind {D : Nat -> Prop} {k2 : List (Nd × Value)} {vx : Value} {b2 : Nat} (h : KRowD D base w v ks) (h2 : KRow b2 w' vx k2) (hk : w.heap.size <= b2) (hD : ∀ k, b2 <= k -> D k) : ∀ q ∈ k2, q.1.ok1 /\ KidsD (fun k => D k /\ v.ownBlock ≠ some k) w' q.2 q.1.kids := fun q hq => by
 refine ⟨(h2.2 q hq).1, (h2.2 q hq).2.mono fun k _ hd => ⟨hD k hd.1, fun e => ?_⟩⟩;have hd1 := hd.1;rcases h.1.2 with ⟨rfl, _⟩ | ⟨g, cap, cur, rfl, hg1, hg2, _⟩
 ·cases e
 ·obtain rfl : g = k := by simpa [Value.ownBlock] using e
  have := (Array.getElem?_eq_some_iff.1 hg2).1;omega
theorem KRow.src (h : KRow base w v ks) : ∃ a n c, v = .slice a n c /\ Src prog 6 22 v ks.length (ks.flatMap fun p => ndC p.1 p.2) w := by
 rcases h.1.2 with ⟨rfl, hl0⟩ | ⟨g, cap, cur, rfl, hg1, hg2, hg3, hg4, hg5, hg6⟩
 ·obtain rfl : ks = [] := List.eq_nil_of_length_eq_zero hl0;exact ⟨_, _, _, rfl, Src.ofNil w underlying22 0⟩
 ·refine ⟨_, _, _, rfl, Src.ofSlice w underlying22 ⟨g, 0, none⟩ ks.length cap _ (flat_len _ ndC_len ks) (fun j u hu => h.1.cells (g := g) rfl j u hu) (fun u hu => ?_)⟩;obtain ⟨q, hq, hu⟩ := List.mem_flatMap.1 hu;simp only [ndC, List.mem_cons, List.not_mem_nil, or_false] at hu;obtain ⟨a, c, e, _⟩ := (h.2 q hq).2;rcases hu with rfl | rfl | rfl | rfl | rfl | rfl
  ·rfl
  ·rfl
  ·rfl
  ·rfl
  ·rfl
  ·rw [e]; rfl
end
structure FamC (p : PP) (F : Ps.Fam) (k : Nat) : Prop where
 expr : ∀ l w, l.length <= k -> Pst p l w -> Calls prog 147 #[.pointer (some ⟨p.B, 0, none⟩)] w (NodePost p l (F .expr l) w)
 oper : ∀ (i : Nat) l w, i <= 6 -> l.length <= k -> Pst p l w -> Calls prog 166 #[.pointer (some ⟨p.B, 0, none⟩), .int .i64 (i : Int)] w (NodePost p l (F (.oper i) l) w)
 unary : ∀ l w, l.length <= k -> Pst p l w -> Calls prog 179 #[.pointer (some ⟨p.B, 0, none⟩)] w (NodePost p l (F .unary l) w)
 block : ∀ l w, l.length <= k -> Pst p l w -> Calls prog 87 #[.pointer (some ⟨p.B, 0, none⟩)] w (NodePost p l (F .block l) w)
def WayC (p : PP) (k : Nat) (g : Nat) (way : Lx.T -> List Lx.T -> O Nd) : Prop :=
 ∀ t r w, r.length <= k -> Pst p (t :: r) w -> Ps.srt t ≠ Ps.theEnd -> Calls prog g #[.pointer (some ⟨p.B, 0, none⟩)] w (NodePost p (t :: r) (way t r) w)
theorem nd_six {W : World} {g : Nat} {a b c d e f : Value} (h : Blk W g nT #[a, b, c, d, e, f]) : (W.cell? ⟨g, 0, none⟩ = some a /\ W.cell? ⟨g, 1, none⟩ = some b /\ W.cell? ⟨g, 2, none⟩ = some c /\ W.cell? ⟨g, 3, none⟩ = some d /\ W.cell? ⟨g, 4, none⟩ = some e /\ W.cell? ⟨g, 5, none⟩ = some f) /\
  (W.frozen? ⟨g, 0, none⟩ = false /\ W.frozen? ⟨g, 1, none⟩ = false /\ W.frozen? ⟨g, 2, none⟩ = false /\ W.frozen? ⟨g, 3, none⟩ = false /\ W.frozen? ⟨g, 4, none⟩ = false /\ W.frozen? ⟨g, 5, none⟩ = false) :=
 ⟨(n6 h), h.frozen 0, h.frozen 1, h.frozen 2, h.frozen 3, h.frozen 4, h.frozen 5⟩
abbrev pzN : Array Value := #[.int .i64 0, .string ⟨#[]⟩, .string ⟨#[]⟩, .string ⟨#[]⟩, .int .i64 0, .slice none 0 0]
theorem count_nd (k : Int) (t y : ByteArray) (n : Int) (ks : List Nd) : (Ps.nd k t y n ks).count = 1 + Nd.countL ks := Nd.count_eq _
end Go.Proofs.YtegcgflhgfmkpaaGreatDoor
