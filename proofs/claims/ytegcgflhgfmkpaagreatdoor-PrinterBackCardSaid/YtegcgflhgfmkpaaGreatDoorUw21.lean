/- Texts. -/
import Derived.Test.YtegcgflhgfmkpaaGreatDoorUw11
import Derived.Test.YtegcgflhgfmkpaaGreatDoorUw20
import Derived.Carry
import Derived.StringKeys
import Derived.Test.YtegcgflhgfmkpaaGreatDoorUTkm
set_option linter.unusedSimpArgs false
set_option linter.unusedVariables false
set_option maxRecDepth 100000
set_option maxHeartbeats 16000000
namespace Go.Proofs.YtegcgflhgfmkpaaGreatDoor
open _root_.Go.Proofs.Tryz
open Go.ChangeShapes Go.WideShapes Go.ChangeAt Go.RowKit
attribute [local go_sem] Oper.semAt_some
open Ps (O W)
namespace Lx
def okR (k : Int) (x : ByteArray) (v : Int) : Prop := (1 <= k /\ k <= 7) /\ x.size <= maxLen /\ -9223372036854775808 <= v /\ v <= 9223372036854775807
theorem tok_okR {s : List UInt8} {k : Int} {x : ByteArray} {v : Int} {len : Nat} (h : tok s = .tok k x v len) : okR k x v := by
 unfold tok tokK at h
 split at h
 ·unfold word wordR at h
  split at h
  ·cases h
  ·rename_i h1
   injection h with h2 h3 h4 h5;subst h2 h3 h4;refine ⟨?_, by unfold maxLen; omega, by decide, by decide⟩
   split
   ·decide
   ·split <;> decide
 ·split at h
  ·unfold number numR at h
   split at h
   ·split at h
    ·cases h
    ·split at h
     ·cases h
     ·rename_i h1 h2
      injection h with h2 h3 h4 h5;subst h2 h3 h4;simp only [Bool.or_eq_true, decide_eq_true_eq, not_or] at h1;exact ⟨by decide, by decide, by omega, by omega⟩
   ·split at h
    ·cases h
    ·split at h
     ·cases h
     ·rename_i h1 h2
      injection h with h2 h3 h4 h5;subst h2 h3 h4;unfold wrong at h1;simp only [Bool.or_eq_true, decide_eq_true_eq, not_or] at h1;exact ⟨by decide, by decide, by omega, by omega⟩
  ·split at h
   ·unfold text textR at h
    split at h
    ·cases h
    ·split at h
     ·cases h
     ·split at h
      ·cases h
      ·rename_i h1 h2 h3
       injection h with h2 h3 h4 h5;subst h2 h3 h4;refine ⟨by decide, ?_, by decide, by decide⟩
       show (Array.size _) <= maxLen
       rw [List.size_toArray];unfold maxLen; omega
   ·unfold sign at h
    split at h
    ·rename_i y hy
     injection h with h2 h3 h4 h5;subst h2 h3 h4;have hm := List.mem_of_find?_eq_some hy;exact ⟨by decide, (show ∀ z ∈ sw, z.size <= maxLen by decide +kernel) _ hm, by decide, by decide⟩
    ·cases h
theorem seqF_okR : ∀ (n p : Nat) (s : List UInt8), ∀ q ∈ seqF n p s, q.2.1 = 0 -> okR q.1.kind q.1.text q.1.n
 | 0, _, _, q, hq, _ => by rw [seqF] at hq; cases hq
 | n + 1, p, s, q, hq, h0 => by
  rw [seqF] at hq
  split at hq
  ·cases hq
  ·split at hq
   ·rename_i e o he
    rw [List.mem_singleton] at hq;subst hq;exact absurd h0 (tok_bad he)
   ·rename_i k x v len he
    rcases List.mem_cons.1 hq with rfl | hq
    ·exact tok_okR he
    ·exact seqF_okR n _ _ q hq h0
theorem resOf_mem : ∀ (l : List Q) (t : T), t ∈ (resOf l).1 -> ∃ q ∈ l, q.1 = t /\ q.2.1 = 0
 | [], t, h => by rw [resOf] at h; cases h
 | (x, e, a) :: l, t, h => by
  rw [resOf] at h
  split at h
  ·rename_i he
   split at h
   ·rcases List.mem_cons.1 h with rfl | h
    ·exact ⟨_, List.mem_cons_self, rfl, he⟩
    ·obtain ⟨q, hq, h1⟩ := resOf_mem l t h;exact ⟨q, List.mem_cons_of_mem _ hq, h1⟩
   ·obtain ⟨q, hq, h1⟩ := resOf_mem l t h;exact ⟨q, List.mem_cons_of_mem _ hq, h1⟩
  ·cases h
theorem resOf_len : ∀ (l : List Q), (resOf l).1.length <= l.length
 | [] => by rw [resOf]; exact Nat.le_refl _
 | (x, e, a) :: l => by
  have := resOf_len l;rw [resOf]
  split
  ·split
   ·simpa using this
   ·rw [List.length_cons]; omega
  ·simp
theorem lex_good (l : List UInt8) (n : Int) (h : (lex l).2.1 = 0) : Ps.Good ((lex l).1 ++ [Ps.theEndT n]) := by
 have hl : ¬ 20000 < l.length := fun hc => by unfold lex at h; rw [if_pos hc] at h; cases h
 have e : lex l = resOf (seq l) := by unfold lex; rw [if_neg hl]
 refine ⟨fun t ht => ?_, ?_, ⟨_, n, rfl⟩⟩
 ·rcases List.mem_append.1 ht with ht | ht
  ·rw [e] at ht;obtain ⟨q, hq, rfl, h0⟩ := resOf_mem _ _ ht;obtain ⟨h1, h2, h3⟩ := seqF_okR _ _ _ q hq h0;exact ⟨⟨by omega, h1.2⟩, h2, h3⟩
  ·rw [List.mem_singleton] at ht;subst ht;exact ⟨by show (0 : Int) <= 0 /\ (0 : Int) <= 7; decide, Nat.zero_le _, by show (-9223372036854775808 : Int) <= 0; decide, by show (0 : Int) <= _; decide⟩
 ·rw [e, List.length_append];have h1 := resOf_len (seq l);have h2 := seq_len l;simp;omega
end Lx
theorem levelOf_c (a : Option Addr) (n c : Nat) (w : World) : Calls prog 127 #[.slice a n c] w fun e w' => e = .returned (.slice a n c) /\ w' = w := by
 go_enter func127, ntmps127;go_wp2_with fail;go_ret;exact ⟨rfl, rfl⟩
def levV (g : Nat) : Nat -> Value
 | 0 => .slice (some ⟨g, 0, none⟩) 1 1
 | 1 => .slice (some ⟨g + 1, 0, none⟩) 1 1
 | 2 => .slice (some ⟨g + 2, 0, none⟩) 2 2
 | 3 => .slice (some ⟨g + 3, 0, none⟩) 2 2
 | 4 => .slice (some ⟨g + 4, 0, none⟩) 2 2
 | 5 => .slice (some ⟨g + 5, 0, none⟩) 3 3
 | _ => .slice none 0 0
theorem lev_results {fn : Func} {q : Tmp} (h : fn.results = #[.cell q 117]) (tmps : Array Value) (W : World) {g : Nat} {v0 v1 v2 v3 v4 v5 : Value}
  (hp : tmps.getD q undef = .pointer (some ⟨g, 0, none⟩)) (hg : Blk W g 117 #[v0, v1, v2, v3, v4, v5]) : (results fn tmps).run prog W = .ok (.agg #[v0, v1, v2, v3, v4, v5]) W :=
 results_cell_row (P := prog) h tmps W g 117 #[v0, v1, v2, v3, v4, v5] (0, 0) _ hp hg underlying117 (by rfl) (by kernel_rfl)
theorem lev_row {D : Nat -> Prop} {w : World} {g : Nat} {t : TypeId} (l : List ByteArray) (hb : Blk w g t (l.map Value.string).toArray) (hm : l.length <= 100) (hD : D g) : LvR D w (.slice (some ⟨g, 0, none⟩) l.length l.length) l :=
 ⟨_, _, rfl, Nat.le_refl _, short_len hm, fun i x hx => ⟨g, 0, rfl, hD, by rw [hb.cell]; simp [hx]⟩⟩
theorem blk_new {w : World} {t : TypeId} {cs : Array Value} {g : Nat} (h : w.heap.size = g) : Blk (w.alloc (.cells cs t)) g t cs := h ▸ Blk.new w t cs
theorem levels_c (w : World) : Calls prog 84 #[] w fun e w' => e = .returned (.agg #[levV (w.heap.size + 1) 0, levV (w.heap.size + 1) 1, levV (w.heap.size + 1) 2, levV (w.heap.size + 1) 3, levV (w.heap.size + 1) 4, levV (w.heap.size + 1) 5]) /\
  (∀ j, j < 6 -> LvR (fun b => w.heap.size < b /\ b < w.heap.size + 7) w' (levV (w.heap.size + 1) j) (Ps.levels j)) /\ Kept w w' := by
 go_enter func84, ntmps84;go_wp2_with (go_at_call 127; refine (levelOf_c _ _ _ _).mono ?_; rintro e w1 ⟨rfl, rfl⟩);refine bodyPost_ret (lev_results (by rfl) _ _ rfl ((((((((Blk.new _ _ _).alloc _).alloc _).alloc _).alloc _).alloc _).alloc _))) rfl ⟨rfl, fun j hj => ?_, (((((((Kept.refl w).alloc _).alloc _).alloc _).alloc _).alloc _).alloc _).alloc _⟩
 match j, hj with
 | 0, _ => exact lev_row [_] ((((((blk_new (by simp)).alloc _).alloc _).alloc _).alloc _).alloc _) (by decide) (by omega)
 | 1, _ => exact lev_row [_] (((((blk_new (by simp)).alloc _).alloc _).alloc _).alloc _) (by decide) (by omega)
 | 2, _ => exact lev_row [_, _] ((((blk_new (by simp)).alloc _).alloc _).alloc _) (by decide) (by omega)
 | 3, _ => exact lev_row [_, _] (((blk_new (by simp)).alloc _).alloc _) (by decide) (by omega)
 | 4, _ => exact lev_row [_, _] ((blk_new (by simp)).alloc _) (by decide) (by omega)
 | 5, _ => exact lev_row [_, _, _] (blk_new (by simp)) (by decide) (by omega)
theorem wpList_insertF {P : Program} {w : World} {ops : Array Oper} {rest : List Oper} {o : Oper} {a : Act} {Q : Exit -> Act -> World -> Prop} {f : ByteArray -> Option Value}
  (hg : o.guard = none) (m x v : Operand) (t : TypeId) (hop : o.op = Op.insert t m x v) (k e : TypeId) (K : Maps.Keyed P k) (ht : P.underlying t = some (.map k e)) (b n : Nat)
  (hm : a.eval m = .map (some b)) (h : MapF P k b n f w) (hn : n < maxLen) (s : ByteArray) (val : Value) (hx : a.eval x = .string s) (hv : a.eval v = val) (hkey : keyOf P k (.string s) = some (.string s.data.toList))
  (hK : ∀ w', MapF P k b (n + 1) (fun y => if y = s then some val else f y) w' -> w.grownBy w' (some b) -> wpList P ops Q rest (a.put o.dst undef) w') : wpList P ops Q (o :: rest) a w := by
 obtain ⟨D, h1, h2, h3⟩ := h;refine wpList_insert_own w hg m x v t hop k e K ht b n D hm h1 hn (.string s) val (.string s.data.toList) hx hv hkey (fun w' ho hgr => hK w' ⟨_, ho, h2.put _ _, fun y => ?_⟩ hgr);by_cases hy : y = s
 ·subst hy;refine ⟨by rw [Maps.has_put_same (k := Lit.string y.data.toList) h2 trivial]; simp, fun u hu z => ?_⟩;rw [Maps.atKey_put_same (k := Lit.string y.data.toList) h2 trivial];simp at hu;rw [hu]
 ·refine ⟨by rw [Maps.has_put_other (str_ne hy)]; simp [hy, (h3 y).1], fun u hu z => ?_⟩;rw [Maps.atKey_put_other (str_ne hy)];simp [hy] at hu;exact (h3 y).2 u hu z
theorem prims_c (w : World) : Calls prog 83 #[] w fun e w' => e = .returned (.map (some w.heap.size)) /\ MapF prog 9 w.heap.size 20 wayF w' /\ Kept w w' := by
 have law := Maps.string_keyed (P := prog) underlying9;have h0 : MapF prog 9 w.heap.size 0 (fun _ => none) (w.alloc (.map #[] 0)) := MapF.made w _ _;have k0 : Kept w (w.alloc (.map #[] 0)) := (Kept.refl w).alloc _;have HM := Lib.hid (And.intro h0 k0);have LAW := Lib.hid law;clear h0 k0 law;have hmm := @run_makeMap prog;go_enter func83, ntmps83;go_wp2_with (refine wpList_insertF rfl _ _ _ 113 rfl 9 179 LAW.out underlying113 _ _ rfl HM.out.1 (by unfold maxLen; omega) _ _ rfl rfl (WideMaps.keyOf_string_mk underlying9 (by decide)) ?_; intro wn hn gn; replace HM := Lib.hid (And.intro hn (HM.out.2.grown gn (fun k e => by cases e; exact Nat.le_refl _))); clear hn gn);go_ret;exact ⟨rfl, HM.out.1, HM.out.2⟩
end Go.Proofs.YtegcgflhgfmkpaaGreatDoor
namespace Go.Proofs.YtegcgflhgfmkpaaGreatDoor
open Lib (hid)
open _root_.Go.Proofs.Tryz
open Go.ChangeShapes Go.WideShapes Go.ChangeAt Go.RowKit
attribute [local go_sem] Oper.semAt_some
open Ps (O W)
theorem src_tokP {W : World} {g : Nat} {n : Int} (h : Blk W g 70 #[.int .i64 0, .string ⟨#[]⟩, .int .i64 0, .int .i64 n]) : Src prog 4 41 (.slice (some ⟨g, 0, none⟩) 1 1) 1 (tCells (Ps.theEndT n)) W := by
 refine Src.ofSlice W underlying41 ⟨g, 0, none⟩ 1 1 _ rfl (fun j u hu => ?_) (fun u hu => ?_)
 ·rw [Addr.add_lit, Nat.zero_add, h.cell j]
  simpa [tCells, Ps.theEndT] using hu
 ·simp only [tCells, Ps.theEndT, List.mem_cons, List.not_mem_nil, or_false] at hu;rcases hu with rfl | rfl | rfl | rfl <;> rfl
theorem owns_tokB {D : Nat -> Prop} {w : World} {base : Nat} {a : Option Addr} {n c : Nat} {l : List Lx.T} (hn : n = l.length) (h : w.ownsRow base 70 4 (.slice a n c) n (l.flatMap tCells)) (hD : ∀ k, base <= k -> k < w.heap.size -> D k) : Row 4 (TokB D) w (.slice a n c) l := by
 subst hn;rcases h.2 with ⟨e, hl0⟩ | ⟨g, cap, cur, e, hg1, hg2, hg3, hg4, hg5, hg6⟩
 ·obtain rfl : l = [] := List.eq_nil_of_length_eq_zero hl0;injection e with e1 e2 e3;subst e1 e3;exact Row.nil
 ·injection e with e1 e2 e3;subst e1 e3;refine ⟨_, c, rfl, hg3, hg4, fun i x hx => ⟨g, 0, rfl, hD g hg1 (Array.getElem?_eq_some_iff.1 hg2).1, ?_⟩⟩;have c0 := h.cells (g := g) rfl _ _ (flat_at tCells tCells_len l i 0 x hx (by omega));have c1 := h.cells (g := g) rfl _ _ (flat_at tCells tCells_len l i 1 x hx (by omega));have c2 := h.cells (g := g) rfl _ _ (flat_at tCells tCells_len l i 2 x hx (by omega));have c3 := h.cells (g := g) rfl _ _ (flat_at tCells tCells_len l i 3 x hx (by omega));rw [addr_plainT] at c0 c1 c2 c3;exact ⟨by simpa using c0, by simpa [Nat.add_assoc] using c1, by simpa [Nat.add_assoc] using c2, by simpa [Nat.add_assoc] using c3⟩
theorem row_to {α : Type} {k : Nat} {R R' : World -> Nat -> Nat -> α -> Prop} {w w' : World} {v : Value} {l : List α} (h : Row k R w v l) (hR : ∀ b o x, R w b o x -> R' w' b o x) : Row k R' w' v l := by
 obtain ⟨a, c, e, h1, h2, h3⟩ := h;exact ⟨a, c, e, h1, h2, fun i x hx => by obtain ⟨b, o, e, r⟩ := h3 i x hx; exact ⟨b, o, e, hR _ _ _ r⟩⟩
def PofPost (tk : List Lx.T) (er ea : Int) (n : Nat) (w : World) (e : Ending) (w' : World) : Prop :=
 (er ≠ 0 /\ e = .panicked (refV er ea) /\ Kept w w') ∨
 (er = 0 /\ ∃ p : PP, e = .returned (.pointer (some ⟨p.B, 0, none⟩)) /\ p.f = wayF /\ Pst p (tk ++ [Ps.theEndT n]) w' /\ (w.heap.size <= p.B /\ p.L = w.heap.size) /\ Kept w w')
theorem parserOf_c (a : Option Addr) (c : Nat) (l : List UInt8) (tk : List Lx.T) (er ea : Int) (hL : Lx.lex l = (tk, er, ea)) (w : World) (hs : SrcAt w (.slice a l.length c) l) (hT : Tb w) (hE : Er w) (hS : Sorts w) :
  Calls prog 43 #[.slice a l.length c] w (PofPost tk er ea l.length w) := by
 have HLX := hid (show Calls prog 76 #[.slice a l.length c] w (fun e w' => ∃ (a' : Option Addr) (c' base : Nat), e = .returned (.tuple #[.slice a' tk.length c', fagg er ea]) /\ w.heap.size <= base /\ base <= w'.heap.size /\ w'.ownsRow base 70 4 (.slice a' tk.length c') tk.length (tk.flatMap tCells) /\ Kept w w') from
  (lex_o a c l w hs hT hE).mono fun e w' h => by
   obtain ⟨⟨_, _, _, _, k⟩, a', c', base, h1, h2, h3, h4⟩ := h;rw [hL] at h1 h4;exact ⟨a', c', base, h1, h2, h3, h4, k⟩)
 have HS := hid hS;obtain ⟨i0, hi, hi2⟩ := Option.map_eq_some_iff.1 info_tok;simp only [Prod.mk.injEq] at hi2;obtain ⟨hz0, hzz1, hzz2⟩ := hi2;have HI := hid (And.intro hi (And.intro hz0 (And.intro hzz1 hzz2)));have HLL := hid (show er = 0 -> tk.length <= 20001 from fun h => by
  have h0 : (Lx.lex l).2.1 = 0 := by rw [hL]; exact h
  have hl : ¬ 20000 < l.length := fun hc => by have e := hL; unfold Lx.lex at e; rw [if_pos hc] at e; injection e with _ e; injection e with e; omega
  have e : Lx.lex l = Lx.resOf (Lx.seq l) := by unfold Lx.lex; rw [if_neg hl]
  have h1 := Lx.resOf_len (Lx.seq l);have h2 := seq_len l;rw [<- e, hL] at h1;dsimp only at h1
  omega)
 have HGD := hid (show er = 0 -> Ps.Good (tk ++ [Ps.theEndT l.length]) from fun h => by
  have := Lx.lex_good l (l.length : Int) (by rw [hL]; exact h);rw [hL] at this;exact this)
 have hll : l.length <= maxLen := by obtain ⟨_, _, e, h1, h2, _⟩ := hs; injection e; omega
 have HLM := hid hll;clear hs hT hE hS hi hz0 hzz1 hzz2 hL hll;go_enter func43, ntmps43;go_wp2_with fail;refine HLX.o.mono ?_;rintro e w1 ⟨a', c', base, rfl, hb, hb2, ho, k1⟩;have HK1 := hid k1;have HO := hid ho;have HBB := hid (And.intro hb hb2);clear ho hb hb2 k1 HLX;by_cases h0 : er = 0
 ·subst h0;have HGD2 := hid (HGD.o rfl);have HLL2 := hid (HLL.o rfl);clear HGD HLL;obtain ⟨V1, hV1⟩ : ∃ V, w1.alloc (.cells #[.int .i64 0, .int .i64 ea] 29) = V := ⟨_, rfl⟩;obtain ⟨V2, hV2⟩ : ∃ V, V1.alloc (.cells #[.int .i64 0, .string ⟨#[]⟩, .int .i64 0, .int .i64 (l.length : Int)] 70) = V := ⟨_, rfl⟩;have kv1 := kpA hV1;have kv2 := kpA hV2;have HRW := hid (owns_keptT (owns_keptT HO.o kv1) kv2);have HSR := hid (src_tokP (n := (l.length : Int)) (show Blk V2 V1.heap.size 70 _ by rw [<- hV2]; exact Blk.new _ _ _));have HK2 := hid ((HK1.o.trans kv1).trans kv2);have HBZ := hid (show base <= V2.heap.size from Nat.le_trans HBB.o.2 (Nat.le_trans kv1.size kv2.size));have HF1 := hid (show V1.cell? ⟨w1.heap.size, 0, none⟩ = some (.int .i64 0) by rw [<- hV1]; exact (Blk.new w1 29 #[.int .i64 0, .int .i64 ea]).cell 0);have HV1 := hid hV1;have HV2 := hid hV2;have HLB := hid (show tk.length + 1 <= maxLen by have := HLL2.o; unfold maxLen; omega);have HLC := hid (show (tk.length + 1) * 40 <= 140737488355328 by have := HLL2.o; omega);clear hV1 hV2 kv1 kv2;have hf1 := HF1.o;go_wp2_with (first | rw [HV1.o] | rw [HV2.o] | (at_builtin; refine wpList_apk rfl (.tmp 15) (.tmp 19) 41 41 rfl base 4 70 i0 _ 40 underlying41 HI.o.1 HI.o.2.1 HI.o.2.2.1 HI.o.2.2.2 rfl rfl HRW.o rfl HSR.o HLB.o HLC.o HBZ.o ?_; intro v' w3 hown hgrow hlies; have HK3 := hid (HK2.o.grown hgrow (fun k hk => Nat.le_trans HBB.o.1 (rown_T HRW.o hk).1)); have HOW := hid hown; obtain ⟨va, vc, rfl⟩ := owns_valT hown; clear hown hgrow hlies) | (go_at_call 83; refine (prims_c _).mono ?_; rintro e w4 ⟨rfl, hm4, k4⟩; have HM4 := hid hm4; have HK4 := hid k4; clear hm4 k4) | (go_at_call 84; refine (levels_c _).mono ?_; rintro e w5 ⟨rfl, hl5, k5⟩; have HL5 := hid hl5; have HK5 := hid k5; clear hl5 k5));have h3 : Row 4 (TokB (fun k => w.heap.size <= k /\ k < w3.heap.size)) w3 (.slice va (tk.length + 1) vc) (tk ++ [Ps.theEndT (l.length : Int)]) :=
   owns_tokB (by simp) (by rw [List.flatMap_append]; simpa using HOW.o) (fun k hk h => ⟨Nat.le_trans HBB.o.1 hk, h⟩)
  have s34 := HK4.o.size;have s45 := HK5.o.size;have kb : Kept w5 (w5.alloc (.cells (pC (.slice va (tk.length + 1) vc) ⟨w5.heap.size, w3.heap.size, w5.heap.size + 1, w.heap.size, levV (w4.heap.size + 1), wayF⟩) pT)) := (Kept.refl _).alloc _;have hms : w3.heap.size < w4.heap.size := HM4.o.lt;have hso : Sorts w5 := by
   obtain ⟨t, fr, h⟩ := HS.o;exact ⟨t, fr, (((HK3.o.trans HK4.o).trans HK5.o).block _ (Array.getElem?_eq_some_iff.1 h).1).trans h⟩
  have hsl : 1 < w.heap.size := by obtain ⟨t, fr, h⟩ := HS.o; exact (Array.getElem?_eq_some_iff.1 h).1
  have hw5 : w.heap.size <= w5.heap.size := ((HK3.o.trans HK4.o).trans HK5.o).size;have hst : Sta ⟨w5.heap.size, w3.heap.size, w5.heap.size + 1, w.heap.size, levV (w4.heap.size + 1), wayF⟩ w5 := by
   refine ⟨HM4.o.only (S := fun _ => False) (Only.of_kept HK5.o) (fun h => h), ⟨?_, ?_, .inl ?_⟩, ⟨hso, ?_, ?_, .inr rfl⟩, fun j hj => row_to (HL5.o j hj) fun b o x h => ⟨⟨?_, ?_, .inl ?_⟩, h.2⟩⟩
   ·show w3.heap.size ≠ w5.heap.size; omega
   ·show w3.heap.size < w5.heap.size + 1; omega
   ·show w.heap.size <= w3.heap.size; exact HK3.o.size
   ·show 1 ≠ w5.heap.size; omega
   ·show 1 < w5.heap.size + 1; omega
   ·have h1 := World.block_lt_of_cell? w5 ⟨b, o, none⟩ h.2
    show b ≠ w5.heap.size
    have h1 : b < w5.heap.size := h1;omega
   ·have h1 : b < w5.heap.size := World.block_lt_of_cell? w5 ⟨b, o, none⟩ h.2
    show b < w5.heap.size + 1
    omega
   ·have h1 := h.1;have h2 := HK3.o.size
    show w.heap.size <= b
    omega
  have h5 : Row 4 (TokB (PP.far ⟨w5.heap.size, w3.heap.size, w5.heap.size + 1, w.heap.size, levV (w4.heap.size + 1), wayF⟩)) w5 (.slice va (tk.length + 1) vc) (tk ++ [Ps.theEndT (l.length : Int)]) :=
   row_to (R := TokB (fun k => w.heap.size <= k /\ k < w3.heap.size)) (toks_only (S := fun _ => False) h3 (Only.of_kept (HK4.o.trans HK5.o)) (fun _ _ h => h)) fun b o x h => ⟨⟨by have := h.1; show b ≠ w5.heap.size; omega, by have := h.1; show b < w5.heap.size + 1; omega, .inl h.1.1⟩, h.2⟩
  have hlen : (tk ++ [Ps.theEndT (l.length : Int)]).length = tk.length + 1 := by simp
  have HH := hid (show Pst ⟨w5.heap.size, w3.heap.size, w5.heap.size + 1, w.heap.size, levV (w4.heap.size + 1), wayF⟩ (tk ++ [Ps.theEndT (l.length : Int)]) (w5.alloc (.cells (pC (.slice va (tk.length + 1) vc) ⟨w5.heap.size, w3.heap.size, w5.heap.size + 1, w.heap.size, levV (w4.heap.size + 1), wayF⟩) pT)) from
   ⟨⟨va, vc, by rw [hlen]; exact Blk.new _ _ _, by rw [hlen]; exact toks_only (S := fun _ => False) h5 (Only.of_kept kb) (fun _ _ h => h)⟩, HGD2.o, hst.only (S := fun _ => False) (Only.of_kept kb) (fun _ _ h => h), by show w5.heap.size < w5.heap.size + 1; omega, by show w5.heap.size + 1 <= _; simp⟩)
  have HKF := hid (((HK3.o.trans HK4.o).trans HK5.o).trans kb);have HW5 := hid hw5;clear h3 s34 s45 kb hms hso hsl hw5 hst h5 hlen;go_ret;exact .inr ⟨rfl, _, rfl, rfl, HH.o, ⟨HW5.o, rfl⟩, HKF.o⟩
 ·have hb1 : (er == 0) = false := by simpa using h0
  have hb2 : (er != 0) = true := by simpa using h0
  have H0 := hid h0;clear h0;go_wp2_with fail;exact ⟨rfl, .inl ⟨H0.o, rfl, HK1.o.alloc _⟩⟩
end Go.Proofs.YtegcgflhgfmkpaaGreatDoor
