/- Texts. -/
import Derived.Test.YtegcgflhgfmkpaaGreatDoorUTkm
import Derived.Test.YtegcgflhgfmkpaaGreatDoorUw31
import Derived.Lib.ItoaLen
import Derived.Lib.ConvBytes
import Derived.Laws.StructEq
import Derived.Test.YtegcgflhgfmkpaaGreatDoorUw20
import Derived.Test.YtegcgflhgfmkpaaGreatDoorUw1
set_option linter.unusedSimpArgs false
set_option linter.unusedVariables false
set_option maxRecDepth 100000
set_option maxHeartbeats 16000000
namespace Go.Proofs.YtegcgflhgfmkpaaGreatDoor
open Lib (hid)
open _root_.Go.Proofs.Tryz
open Go.ChangeShapes Go.WideShapes Go.ChangeAt Go.RowKit Go.Shelf
attribute [local go_sem] Oper.semAt_some
abbrev tV (x : Lx.T) : Value := tagg x.kind x.text x.n x.pos
abbrev tC (x : Lx.T) : Array Value := #[.int .i64 x.kind, .string x.text, .int .i64 x.n, .int .i64 x.pos]
def TokOk (x : Lx.T) : Prop := -9223372036854775808 <= x.n /\ x.n <= 9223372036854775807 /\ x.text.size <= 100000
theorem cat_r (l : List UInt8) : (⟨l.toArray⟩ : ByteArray) ++ ⟨#[114]⟩ = ⟨(l ++ [114]).toArray⟩ := by
 apply ByteArray.ext;apply Array.toList_inj.1;simp
theorem spelling_c (x : Lx.T) (w : World) (hT : Tb w) (hP : Pw w) (hx : TokOk x) :
  Calls prog 75 #[tV x] w fun e w' => e = .returned (.string (Lx.spl x)) /\ Kept w w' := by
 obtain ⟨hn0, hn1, hsz⟩ := hx;obtain ⟨W1, hW1⟩ : ∃ W1, w.alloc (.cells (tC x) 70) = W1 := ⟨_, rfl⟩;have k1 := kpA hW1;have b1 : Blk W1 w.heap.size 70 (tC x) := by rw [<- hW1]; exact Blk.new w _ _
 have HW1 := hid hW1;have HK1 := hid k1;obtain ⟨c0, c1, c2, c3⟩ : W1.cell? ⟨w.heap.size, 0, none⟩ = some (.int .i64 x.kind) /\ W1.cell? ⟨w.heap.size, 1, none⟩ = some (.string x.text) /\ W1.cell? ⟨w.heap.size, 2, none⟩ = some (.int .i64 x.n) /\ W1.cell? ⟨w.heap.size, 3, none⟩ = some (.int .i64 x.pos) := ⟨b1.cell 0, b1.cell 1, b1.cell 2, b1.cell 3⟩;have HI := hid (itoa_c x.n hn0 hn1 W1 (hP.kept k1));have HQ := hid (quoted_c x.text W1 (hT.kept k1) hsz);have hil := Lib.itoa_length_le x.n hn0 hn1;obtain ⟨R, hR⟩ : ∃ R, Lx.spl x = R := ⟨_, rfl⟩;rw [hR];have HR := hid hR;clear hW1 k1 b1 hT hP hn0 hn1 hsz hR;have HSP : Hid (Lx.spl x = if x.kind = 4 then ⟨(Lib.itoa x.n).toArray⟩ else if x.kind = 5 then ⟨(Lib.itoa x.n ++ [114]).toArray⟩ else if x.kind = 6 then ⟨(34 :: x.text.data.toList.flatMap Lx.spelt ++ [34]).toArray⟩ else x.text) := hid rfl;obtain ⟨it, hit⟩ : ∃ it : ByteArray, ⟨(Lib.itoa x.n).toArray⟩ = it := ⟨_, rfl⟩;have hits : it.size <= 21 := by rw [<- hit]; show (Lib.itoa x.n).toArray.size <= 21; simpa using hil
 rw [hit] at HI HSP;have HIT := hid hit;clear hit hil;by_cases h4 : x.kind = 4
 ·obtain rfl : it = R := by rw [<- HR.o, HSP.o, if_pos h4]
  have e4 : (x.kind == 4) = true := by simp [h4]
  clear h4;go_enter func75, ntmps75;go_wp2_with (rw [HW1.o]);refine HI.o.mono ?_;rintro e w2 ⟨rfl, k2⟩;go_wp2_with fail;go_ret;exact ⟨rfl, HK1.o.trans k2⟩
 ·have e4 : (x.kind == 4) = false := by simp [h4]
  by_cases h5 : x.kind = 5
  ·obtain rfl : it ++ ⟨#[114]⟩ = R := by rw [<- HR.o, HSP.o, if_neg h4, if_pos h5, <- HIT.o]; exact cat_r _
   have e5 : (x.kind == 5) = true := by simp [h5]
   clear h4 h5;have hr1 : (⟨#[114]⟩ : ByteArray).size = 1 := rfl;go_enter func75, ntmps75;go_wp2_with (rw [HW1.o]);refine HI.o.mono ?_;rintro e w2 ⟨rfl, k2⟩;go_wp2_with fail;go_ret;exact ⟨rfl, HK1.o.trans k2⟩
  ·have e5 : (x.kind == 5) = false := by simp [h5]
   by_cases h6 : x.kind = 6
   ·rw [if_neg h4, if_neg h5, if_pos h6] at HSP;rw [HR.o] at HSP;rw [<- HSP.o] at HQ;have e6 : (x.kind == 6) = true := by simp [h6]
    clear h4 h5 h6;go_enter func75, ntmps75;go_wp2_with (rw [HW1.o]);refine HQ.o.mono ?_;rintro e w2 ⟨rfl, k2⟩;go_wp2_with fail;go_ret;exact ⟨rfl, HK1.o.trans k2⟩
   ·have e6 : (x.kind == 6) = false := by simp [h6]
    obtain rfl : x.text = R := by rw [<- HR.o, HSP.o, if_neg h4, if_neg h5, if_neg h6]
    clear h4 h5 h6;go_enter func75, ntmps75;go_wp2_with (rw [HW1.o]);go_ret;exact ⟨rfl, HK1.o⟩
theorem neqT (k n p k' n' p' : Int) (s t : ByteArray) (w : World) : (binOp .neq 70 (tagg k s n p) (tagg k' t n' p')).run prog w = .ok (.bool (!(k == k' && (decide (s = t) && (n == n' && p == p'))))) w := by
 have hp : prog.stoodInHeld 70 = false := by kernel_rfl
 have h0 : (part 3 #[.int .i64 k, .string s, .int .i64 n, .int .i64 p] 0).run prog w = .ok (.int .i64 k) w := by kernel_rfl
 have h1 : (part 9 #[.int .i64 k, .string s, .int .i64 n, .int .i64 p] 1).run prog w = .ok (.string s) w := by kernel_rfl
 have h2 : (part 3 #[.int .i64 k, .string s, .int .i64 n, .int .i64 p] 2).run prog w = .ok (.int .i64 n) w := by kernel_rfl
 have h3 : (part 3 #[.int .i64 k, .string s, .int .i64 n, .int .i64 p] 3).run prog w = .ok (.int .i64 p) w := by kernel_rfl
 have g0 : (part 3 #[.int .i64 k', .string t, .int .i64 n', .int .i64 p'] 0).run prog w = .ok (.int .i64 k') w := by kernel_rfl
 have g1 : (part 9 #[.int .i64 k', .string t, .int .i64 n', .int .i64 p'] 1).run prog w = .ok (.string t) w := by kernel_rfl
 have g2 : (part 3 #[.int .i64 k', .string t, .int .i64 n', .int .i64 p'] 2).run prog w = .ok (.int .i64 n') w := by kernel_rfl
 have g3 : (part 3 #[.int .i64 k', .string t, .int .i64 n', .int .i64 p'] 3).run prog w = .ok (.int .i64 p') w := by kernel_rfl
 have e1 := fun d => run_equalIn_string (P := prog) w d 9 s t underlying9;have e2 := fun d (m n : Int) => run_equalIn_int (P := prog) w d 3 .i64 .i64 m n underlying3;have hs : (s.toList == t.toList) = decide (s = t) := by
  by_cases e : s = t
  ·subst e; simp
  ·rw [decide_eq_false e];refine beq_eq_false_iff_ne.2 (fun h => e ?_);rw [ByteArray.toList_eq, ByteArray.toList_eq] at h;exact ByteArray.ext (Array.toList_inj.1 h)
 have hf : prog.fieldsOf 70 = #[{ name := "Kind", type := 3, offset := 0, embedded := false, tag := "", pkgPath := "", byteOffset := 0 }, { name := "Text", type := 9, offset := 1, embedded := false, tag := "", pkgPath := "", byteOffset := 8 }, { name := "N", type := 3, offset := 2, embedded := false, tag := "", pkgPath := "", byteOffset := 24 }, { name := "At", type := 3, offset := 3, embedded := false, tag := "", pkgPath := "", byteOffset := 32 }] := by kernel_rfl
 rw [run_neq_struct, show (10000 : Nat) = 9998 + 1 + 1 from rfl, run_equalIn_struct w _ _ _ _ (by rw [hf]; exact underlying70) hp, hf];simp only [Op.eqFields, Sem.run_bind, Sem.run_ite, h0, h1, h2, h3, g0, g1, g2, g3, e1, e2, Result.andThen_ok, hs]
 cases ha : (k == k') <;> cases h2 : decide (s = t) <;> cases h3 : (n == n') <;> cases h4 : (p == p') <;> simp [Op.eqFields, Result.andThen]
namespace Lx
def sameT (t : T) (k : Int) (x : ByteArray) (n p : Int) : Bool := t.kind == k && (decide (t.text = x) && (t.n == n && t.pos == p))
def oneT (l : List T) (x : T) : Bool := match l with
 | [t] => sameT t x.kind x.text x.n 0
 | _ => false
def isTok (x : T) : Bool := oneT (lex (spl x).data.toList).1 x
theorem oneT_len {l : List T} {x : T} (h : ¬ l.length = 1) : oneT l x = false := by
 match l, h with
 | [], _ => rfl
 | [t], h => exact absurd rfl h
 | _ :: _ :: _, _ => rfl
end Lx
def spellV (b : Bool) (s : ByteArray) : Value := match b with
 | true => .tuple #[.string s, .int .i64 0]
 | false => .tuple #[.string ⟨#[]⟩, .int .i64 5]
theorem src_of_text (s : ByteArray) (w : World) (hs : s.size <= 1000000) : SrcAt (Lib.bytesWorld w 5 s) (.slice (some ⟨w.heap.size, 0, none⟩) s.data.toList.length (grownCap w s.size 0 5)) s.data.toList := by
 have hl : s.data.toList.length = s.size := by rw [Array.length_toList]; rfl
 refine ⟨_, _, rfl, by rw [hl]; exact grownCap_ge _ _ _ _, grownCap_le_maxLen _ _ _ _ (by unfold maxLen; omega), fun i c hc => ⟨_, _, rfl, ?_⟩⟩;have hi : i < s.size := by have := (List.getElem?_eq_some_iff.1 hc).1; omega
 have := Lib.bytesWorld_cell w 5 s i hi;unfold ByteR;rw [Nat.zero_add, Nat.mul_one, this, List.getD_eq_getElem?_getD, hc]
 rfl
theorem spl_size {x : Lx.T} (hx : TokOk x) : (Lx.spl x).size <= 200010 := by
 obtain ⟨h0, h1, h2⟩ := hx;have hil := Lib.itoa_length_le x.n h0 h1;unfold Lx.spl
 split
 ·show (Lib.itoa x.n).toArray.size <= _; simp; omega
 ·split
  ·show (Lib.itoa x.n ++ [114]).toArray.size <= _; simp; omega
  ·split
   ·have h3 := quP_len x.text.data.toList x.text.size;unfold quP at h3;rw [List.take_of_length_le (by rw [Array.length_toList]; exact Nat.le_refl _), List.length_cons] at h3
    show (34 :: x.text.data.toList.flatMap Lx.spelt ++ [34]).toArray.size <= _
    rw [List.size_toArray, List.length_append, List.length_cons, List.length_singleton]; omega
   ·omega
theorem spell_c (x : Lx.T) (w : World) (hT : Tb w) (hP : Pw w) (hE : Er w) (hx : TokOk x) :
  Calls prog 29 #[tV x] w fun e w' => e = .returned (spellV (Lx.isTok x) (Lx.spl x)) /\ Kept w w' := by
 obtain ⟨W1, hW1⟩ : ∃ W1, w.alloc (.cells (tC x) 70) = W1 := ⟨_, rfl⟩;have k1 := kpA hW1;have b1 : Blk W1 w.heap.size 70 (tC x) := by rw [<- hW1]; exact Blk.new w _ _
 have HW1 := hid hW1;have HK1 := hid k1;have HB1 := hid b1;obtain ⟨c0, c1, c2, c3⟩ : W1.cell? ⟨w.heap.size, 0, none⟩ = some (.int .i64 x.kind) /\ W1.cell? ⟨w.heap.size, 1, none⟩ = some (.string x.text) /\ W1.cell? ⟨w.heap.size, 2, none⟩ = some (.int .i64 x.n) /\ W1.cell? ⟨w.heap.size, 3, none⟩ = some (.int .i64 x.pos) := ⟨b1.cell 0, b1.cell 1, b1.cell 2, b1.cell 3⟩;have HSP := hid (spelling_c x W1 (hT.kept k1) (hP.kept k1) hx);have hss := spl_size hx;have HTT := hid hT;have HEE := hid hE;obtain ⟨s, hs⟩ : ∃ s, Lx.spl x = s := ⟨_, rfl⟩;obtain ⟨R, hR⟩ : ∃ R, Lx.isTok x = R := ⟨_, rfl⟩;have HR : Hid (Lx.oneT (Lx.lex s.data.toList).1 x = R) := hid (by rw [<- hR, <- hs]; rfl);rw [hs] at HSP hss;rw [hs, hR];clear hs hR hW1 k1 b1 hT hP hE hx;go_enter func29, ntmps29;go_wp2_with (rw [HW1.o]);refine HSP.o.mono ?_;rintro e w2 ⟨rfl, k2⟩;have hb2 := HB1.o.kept k2;have f3 := hb2.frozen 3;have d3 := hb2.cell 3;simp at d3;obtain ⟨W3, hW3⟩ : ∃ W3, w2.setCell ⟨w.heap.size, 3, none⟩ (.int .i64 0) = W3 := ⟨_, rfl⟩;have hb3 : Blk W3 w.heap.size 70 #[.int .i64 x.kind, .string x.text, .int .i64 x.n, .int .i64 0] := by rw [<- hW3]; exact hb2.put 3 (.int .i64 0)
 have k3 : Kept w W3 := by rw [<- hW3]; exact (HK1.o.trans k2).setCell (by show w.heap.size <= w.heap.size; omega) _
 have hcv := Lib.run_convert_string_bytes (P := prog) W3 9 57 5 s underlying9 underlying57 underlying5;have hl : s.data.toList.length = s.size := by rw [Array.length_toList]; rfl
 have hsrc := src_of_text s W3 (by omega);obtain ⟨W4, hW4⟩ : ∃ W4, Lib.bytesWorld W3 5 s = W4 := ⟨_, rfl⟩;have k34 : Kept W3 W4 := by rw [<- hW4]; exact Kept.of_below (Lib.bytesWorld_below _ _ _)
 rw [hW4] at hcv hsrc;have HLX := hid (lex_c (some ⟨W3.heap.size, 0, none⟩) _ s.data.toList W4 hsrc (HTT.o.kept (k3.trans k34)) (HEE.o.kept (k3.trans k34)));rw [hl] at HLX;have HB4 := hid (hb3.kept k34);have HK4 := hid (k3.trans k34);have HW3 := hid hW3;clear hb2 hW3 hb3 k3 hsrc hW4 k34 k2 HSP HB1 HK1 c0 c1 c2 c3 hl;go_wp2_with (rw [HW3.o]);refine HLX.o.mono ?_;rintro e w5 ⟨a', c', rfl, hrow, k5⟩;have HB5 := hid (HB4.o.kept k5);have HK5 := hid (HK4.o.trans k5);clear k5 HB4 HK4 HLX hcv f3 d3;obtain ⟨L, hL⟩ : ∃ L, (Lx.lex s.data.toList).1 = L := ⟨_, rfl⟩;generalize (Lx.lex s.data.toList).2.1 = ev;generalize (Lx.lex s.data.toList).2.2 = av;rw [hL] at HR hrow ⊢;obtain ⟨W6, hW6⟩ : ∃ W6, w5.alloc (.cells #[.int .i64 ev, .int .i64 av] 29) = W6 := ⟨_, rfl⟩;have k6 := kpA hW6;have HW6 := hid hW6;have hb6 := HB5.o.kept k6;obtain ⟨e0, e1, e2, e3⟩ : W6.cell? ⟨w.heap.size, 0, none⟩ = some (.int .i64 x.kind) /\ W6.cell? ⟨w.heap.size, 1, none⟩ = some (.string x.text) /\ W6.cell? ⟨w.heap.size, 2, none⟩ = some (.int .i64 x.n) /\ W6.cell? ⟨w.heap.size, 3, none⟩ = some (.int .i64 0) := ⟨hb6.cell 0, hb6.cell 1, hb6.cell 2, hb6.cell 3⟩;have HK6 := hid (HK5.o.trans k6);by_cases h1 : L.length = 1
 ·obtain ⟨t, rfl⟩ : ∃ t, L = [t] := List.length_eq_one_iff.1 h1;obtain ⟨la, lc, e, _, _, hat⟩ := tks_kept hrow k6;injection e with ea _ ec;subst ea ec;obtain ⟨b, o, rfl, g0, g1, g2, g3⟩ := hat 0 t rfl;rw [Nat.zero_mul, Nat.add_zero] at g0 g1 g2 g3;have hne := fun W => neqT t.kind t.n t.pos x.kind x.n 0 t.text x.text W;have HRR : Hid (Lx.sameT t x.kind x.text x.n 0 = R) := HR;rw [show (t.kind == x.kind && (decide (t.text = x.text) && (t.n == x.n && t.pos == 0))) = R from HRR.o] at hne;clear hrow k6 hW6 hb6 hL HR HRR h1 hat HB5 HK5;have hlen : (([t] : List Lx.T).length : Int) = 1 := rfl
  cases R with
  | true =>
   simp only [Bool.not_true] at hne;go_wp2_with (rw [HW6.o]);go_quiet (fail)
   go_wp2_with fail;exact bodyPost_ret (results_tmp2 rfl _ _ _) rfl ⟨rfl, HK6.o.drewN _⟩
  | false =>
   simp only [Bool.not_false] at hne;go_wp2_with (rw [HW6.o]);go_quiet (fail)
   go_wp2_with fail;exact bodyPost_ret (results_tmp2 rfl _ _ _) rfl ⟨rfl, HK6.o.drewN _⟩
 ·obtain rfl : R = false := by rw [<- HR.o]; exact Lx.oneT_len h1
  have hlI : ((L.length : Int) != 1) = true := by simp; omega
  have hlI2 : ((L.length : Int) == 1) = false := by simp; omega
  clear hrow k6 hW6 hb6 hL HR h1 HB5 HK5;go_wp2_with (rw [HW6.o]);go_quiet (fail)
  go_wp2_with fail;exact bodyPost_ret (results_tmp2 rfl _ _ _) rfl ⟨rfl, HK6.o.drewN _⟩
end Go.Proofs.YtegcgflhgfmkpaaGreatDoor
namespace Go.Proofs.YtegcgflhgfmkpaaGreatDoor
open Lib (hid)
open Go.ChangeShapes Go.WideShapes Go.ChangeAt Go.RowKit Go.Shelf
attribute [local go_sem] Oper.semAt_some
namespace Lx
def joinB : List T -> List UInt8
 | [] => []
 | x :: r => (spl x).data.toList ++ r.flatMap fun y => 32 :: (spl y).data.toList
theorem joinB_snoc (l : List T) (x : T) : joinB (l ++ [x]) = joinB l ++ (if l.length = 0 then [] else [32]) ++ (spl x).data.toList := by
 cases l with
 | nil => simp [joinB]
 | cons y r => simp [joinB]
theorem joinB_le (l m : List T) : (joinB l).length <= (joinB (l ++ m)).length := by
 cases l with
 | nil => exact Nat.zero_le _
 | cons y r => simp only [joinB, List.cons_append, List.flatMap_append, List.length_append]; omega
end Lx
theorem join_c (l : List Lx.T) (a : Option Addr) (c : Nat) (w : World) (h : TksAt w (.slice a l.length c) l) (hT : Tb w) (hP : Pw w) (hE : Er w) (hx : ∀ x ∈ l, TokOk x) (hsum : (Lx.joinB l).length <= 900000) :
  Calls Tryz.prog 19 #[.slice a l.length c] w fun e w' => e = .returned (spellV (l.all Lx.isTok) ⟨(Lx.joinB l).toArray⟩) /\ Kept w w' := by
 have hcap : l.length <= c /\ c <= maxLen := by
  obtain ⟨a', c', e, h1, h2, h3⟩ := h;injection e with e1 e2 e3;subst e1 e3;exact ⟨h1, h2⟩
 unfold maxLen at hcap;have HAT : Hid (∀ i (hi : i < l.length) W, Kept w W -> ∃ b o, a = some ⟨b, o, none⟩ /\ TokR W b (o + i * 4) l[i]) := hid (by
  intro i hi W k;obtain ⟨a', c', e, h1, h2, h3⟩ := tks_kept h k;injection e with e1 e2 e3;subst e1 e3;exact h3 i l[i] (List.getElem?_eq_getElem hi))
 obtain ⟨W1, hW1⟩ : ∃ W1, w.alloc (.cells #[.pointer none, .slice none 0 0] 68) = W1 := ⟨_, rfl⟩;have hs1 : w.heap.size <= W1.heap.size := by rw [<- hW1]; simp
 have HB1 : Hid (Bld w.heap.size w.heap.size [] W1) := hid (.inl ⟨Nat.le_refl _, .slice none 0 0, by rw [<- hW1]; exact heap_alloc_new w _, World.ownsRow_nil _ _ _ _, by simp [Value.ownBlock]⟩);have HK1 : Hid (Kept w W1) := hid (by rw [<- hW1]; exact (Kept.refl w).alloc _);have HW1 := hid hW1;have HT := hid hT;have HP := hid hP;have HE := hid hE;have HX := hid hx;have HSUM := hid hsum;obtain ⟨R, hR⟩ : ∃ R, l.all Lx.isTok = R := ⟨_, rfl⟩;rw [hR];have HR := hid hR;obtain ⟨J, hJ⟩ : ∃ J : ByteArray, ⟨(Lx.joinB l).toArray⟩ = J := ⟨_, rfl⟩;rw [hJ];have HJ := hid hJ;clear h hW1 hT hP hE hx hsum hR hJ;go_enter Tryz.func19, Tryz.ntmps19;go_wp2_with (rw [HW1.o]);go_loopw [11] (fun i wr => ∃ k : Nat, k <= l.length /\ i = .int .i64 k /\ Hid (Bld w.heap.size w.heap.size (Lx.joinB (l.take k)) wr) /\ Hid (Kept w wr) /\ Hid (∀ x ∈ l.take k, Lx.isTok x = true) /\ w.heap.size <= wr.heap.size) (fun i wr => l.length - (intOf i).toNat)
 case atStart => exact ⟨0, Nat.zero_le _, rfl, HB1, HK1, hid (by simp), hs1⟩
 case round =>
  clear HB1 HK1 hs1 HW1;obtain ⟨k, hk, rfl, HB, HK, HA, hz⟩ := hrel;by_cases hlt : k < l.length
  ·have hltI : (k : Int) < (l.length : Int) := by omega
   obtain ⟨b, o, rfl, g0, g1, g2, g3⟩ := HAT.o k hlt wr HK.o;have HTK := hid (show l.take (k + 1) = l.take k ++ [l[k]] from List.take_succ_eq_append_getElem hlt);have HXK := hid (HX.o l[k] (List.getElem_mem hlt));have HMEM := hid (show l[k] ∈ l from List.getElem_mem hlt);generalize l[k] = x at *;have hkl : (l.take k).length = k := by rw [List.length_take]; omega
   have HSN := hid (show Lx.joinB (l.take (k + 1)) = Lx.joinB (l.take k) ++ (if k = 0 then [] else [32]) ++ (Lx.spl x).data.toList by rw [HTK.o, Lx.joinB_snoc, hkl]);have HLE := hid (show (Lx.joinB (l.take (k + 1))).length <= 900000 from Nat.le_trans (by have := Lx.joinB_le (l.take (k + 1)) (l.drop (k + 1)); rwa [List.take_append_drop] at this) HSUM.o);obtain ⟨W2, hW2⟩ : ∃ W2, wr.alloc (.cells (tC x) 70) = W2 := ⟨_, rfl⟩;have k2 := kpA hW2;have hb2 : Blk W2 wr.heap.size 70 (tC x) := by rw [<- hW2]; exact Blk.new wr _ _
   obtain ⟨d0, d1, d2, d3⟩ : W2.cell? ⟨wr.heap.size, 0, none⟩ = some (.int .i64 x.kind) /\ W2.cell? ⟨wr.heap.size, 1, none⟩ = some (.string x.text) /\ W2.cell? ⟨wr.heap.size, 2, none⟩ = some (.int .i64 x.n) /\ W2.cell? ⟨wr.heap.size, 3, none⟩ = some (.int .i64 x.pos) := ⟨hb2.cell 0, hb2.cell 1, hb2.cell 2, hb2.cell 3⟩;have HK2 := hid (HK.o.trans k2);have HSP := hid (spell_c x W2 (HT.o.kept HK2.o) (HP.o.kept HK2.o) (HE.o.kept HK2.o) HXK.o);have HB2 := hid (bld_kept HB.o k2);have HW2 := hid hW2;have hz2 := k2.size
   cases htk : Lx.isTok x with
   | false =>
    obtain rfl : R = false := by
     rw [<- HR.o, Bool.eq_false_iff];intro hall;rw [List.all_eq_true] at hall;rw [hall x HMEM.o] at htk
     cases htk
    rw [htk] at HSP;unfold spellV at HSP;clear htk hW2 k2 hb2 hkl;go_wp2_with (rw [HW2.o]);refine HSP.o.mono ?_;rintro e w3 ⟨rfl, k3⟩;go_wp2_with fail;exact bodyPost_ret (results_tmp2 rfl _ _ _) rfl ⟨rfl, HK2.o.trans k3⟩
   | true =>
    have HA2 := hid (show ∀ y ∈ l.take (k + 1), Lx.isTok y = true from fun y hy => by
     rw [HTK.o] at hy;rcases List.mem_append.1 hy with h | h
     ·exact HA.o y h
     ·rw [List.mem_singleton] at h; subst h; exact htk)
    rw [htk] at HSP;unfold spellV at HSP;clear htk hW2 k2 hb2 hkl;generalize Lx.spl x = sp at *;go_wp2_with (rw [HW2.o]);refine HSP.o.mono ?_;rintro e w3 ⟨rfl, k3⟩;have HB3 := hid (bld_kept HB2.o k3);have HK3 := hid (HK2.o.trans k3);have hz3 := k3.size;clear k3 HB2 HK2 HSP g0 g1 g2 g3 d0 d1 d2 d3;by_cases hk0 : k = 0
    ·subst hk0;have hlb : (Lx.joinB (l.take 0)).length + sp.size <= 1000000 := by
      have h1 := HLE.o;rw [HSN.o, if_pos rfl, List.append_nil, List.length_append] at h1;have hsp : sp.data.toList.length = sp.size := by rw [Array.length_toList]; rfl
      omega
     have HWS := hid (bstr_c w.heap.size w.heap.size _ sp w3 HB3.o hlb (by omega));rw [if_pos rfl, List.append_nil] at HSN;rw [<- HSN.o] at HWS;go_wp2_with fail;refine HWS.o.mono ?_;rintro e w4 ⟨rfl, hb4, hB4⟩;have HB4 := hid hb4;have HK4 := hid (kept_below HK3.o hB4);have hz4 := HK4.o.size;clear hb4 hB4;go_wp2_with fail;go_roundw
     case rel => exact ⟨1, by omega, rfl, HB4, HK4, HA2, hz4⟩
     case measure => simp [intOf]; omega
    ·have hk0I : (0 : Int) < (k : Int) := by omega
     rw [if_neg hk0] at HSN;have hlb : (Lx.joinB (l.take k) ++ [32]).length + sp.size <= 1000000 := by
      have h1 := HLE.o;rw [HSN.o, List.length_append] at h1;have hsp : sp.data.toList.length = sp.size := by rw [Array.length_toList]; rfl
      omega
     have HWB := hid (bbyte_z w.heap.size w.heap.size _ 32 32 rfl w3 HB3.o (by rw [List.length_append] at hlb; omega) (by omega));clear hk0;go_wp2_with fail;refine HWB.o.mono ?_;rintro e w4 ⟨rfl, hb4, hB4⟩;have HWS := hid (bstr_c w.heap.size w.heap.size _ sp w4 hb4 hlb (by have := hB4.size; omega));rw [<- HSN.o] at HWS;have HK4 := hid (kept_below HK3.o hB4);clear hb4 hB4 HWB;go_wp2_with fail;refine HWS.o.mono ?_;rintro e w5 ⟨rfl, hb5, hB5⟩;have HB5 := hid hb5;have HK5 := hid (kept_below HK4.o hB5);have hz5 := HK5.o.size;clear hb5 hB5 HWS;go_wp2_with fail;go_roundw
     case rel => exact ⟨k + 1, by omega, by go_num, HB5, HK5, HA2, hz5⟩
     case measure => simp [intOf]; omega
  ·obtain rfl : k = l.length := by omega
   have hltI : ¬ (l.length : Int) < (l.length : Int) := by omega
   obtain rfl : R = true := by
    rw [<- HR.o, List.all_eq_true];intro y hy;exact HA.o y (by rw [List.take_of_length_le (Nat.le_refl _)]; exact hy)
   have HBL := hid (show Bld w.heap.size w.heap.size (Lx.joinB l) wr by have := HB.o; rwa [List.take_of_length_le (Nat.le_refl _)] at this);have HST := hid (Tryz.Builder_String_any w.heap.size w.heap.size _ wr HBL.o hz);rw [HJ.o] at HST;go_wp2_with fail;refine HST.o.mono ?_;rintro e w4 ⟨rfl, hB4⟩;have HK4 := hid (kept_below HK.o hB4);clear hB4;go_wp2_with fail;exact bodyPost_ret (results_tmp2 rfl _ _ _) rfl ⟨rfl, HK4.o⟩
end Go.Proofs.YtegcgflhgfmkpaaGreatDoor
namespace Go.Proofs.YtegcgflhgfmkpaaGreatDoor
open _root_.Go.Proofs.Tryz
open Go.ChangeShapes Go.WideShapes Go.ChangeAt Go.RowKit Go.Shelf
attribute [local go_sem] Oper.semAt_some
theorem eqF (e a e' a' : Int) (w : World) : (binOp .eql 29 (fagg e a) (fagg e' a')).run prog w = .ok (.bool (e == e' && a == a')) w := by
 have hp : prog.stoodInHeld 29 = false := by kernel_rfl
 have h0 : (part 27 #[.int .i64 e, .int .i64 a] 0).run prog w = .ok (.int .i64 e) w := by kernel_rfl
 have h1 : (part 3 #[.int .i64 e, .int .i64 a] 1).run prog w = .ok (.int .i64 a) w := by kernel_rfl
 have g0 : (part 27 #[.int .i64 e', .int .i64 a'] 0).run prog w = .ok (.int .i64 e') w := by kernel_rfl
 have g1 : (part 3 #[.int .i64 e', .int .i64 a'] 1).run prog w = .ok (.int .i64 a') w := by kernel_rfl
 have e1 := fun d => run_equalIn_int (P := prog) w d 27 .i64 .i64 e e' underlying27;have e2 := fun d => run_equalIn_int (P := prog) w d 3 .i64 .i64 a a' underlying3;have hf : prog.fieldsOf 29 = #[{ name := "Err", type := 27, offset := 0, embedded := false, tag := "", pkgPath := "", byteOffset := 0 }, { name := "At", type := 3, offset := 1, embedded := false, tag := "", pkgPath := "", byteOffset := 8 }] := by kernel_rfl
 rw [run_eql_struct, show (10000 : Nat) = 9998 + 1 + 1 from rfl, run_equalIn_struct w _ _ _ _ (by rw [hf]; exact underlying29) hp, hf];simp only [Op.eqFields, Sem.run_bind, Sem.run_ite, h0, h1, g0, g1, e1, e2, Result.andThen_ok]
 cases ha : (e == e') <;> cases h2 : (a == a') <;> simp [Op.eqFields, Result.andThen]
namespace Lx
end Lx
end Go.Proofs.YtegcgflhgfmkpaaGreatDoor
namespace Go.Proofs.YtegcgflhgfmkpaaGreatDoor
open Go.ChangeShapes Go.WideShapes Go.ChangeAt Go.RowKit Go.Shelf
attribute [local go_sem] Oper.semAt_some
namespace Lx
end Lx
namespace Lx
theorem resOf_ok : ∀ (q : List Q), (∀ x ∈ q, x.2.1 = 0 -> x.2 = (0, 0)) -> (resOf q).2.1 = 0 -> ∀ x ∈ q, x.2 = (0, 0)
 | [], _, _, x, hx => by cases hx
 | (t, e, a) :: q, hz, h, x, hx => by
  rw [resOf] at h;by_cases he : e = 0
  ·rw [if_pos he] at h;have h2 : (resOf q).2.1 = 0 := by
    by_cases h3 : (resOf q).2.1 = 0
    ·exact h3
    ·rw [if_neg h3] at h; exact h
   rcases List.mem_cons.1 hx with rfl | hx
   ·exact hz _ (by simp) he
   ·exact resOf_ok q (fun y hy => hz y (by simp [hy])) h2 x hx
  ·rw [if_neg he] at h; exact absurd h he
theorem lex_ok {l : List UInt8} (h : (lex l).2.1 = 0) (hl : l.length <= 20000) : (∀ x ∈ seq l, x.2 = (0, 0)) /\ lex l = ((seq l).map (·.1), 0, 0) := by
 have hn : ¬ 20000 < l.length := by omega
 have e : lex l = resOf (seq l) := by unfold lex; rw [if_neg hn]
 rw [e] at h;have h2 := resOf_ok (seq l) (fun x hx => seqF_zero _ _ _ x hx) h;exact ⟨h2, by rw [e]; exact resOf_good _ h2⟩
end Lx
namespace Lx
theorem resOf_fault : ∀ (q : List Q), (resOf q).2.1 ≠ 0 -> (resOf q).1 = [] /\ ∃ x ∈ q, x.2.1 ≠ 0 /\ x.2.2 = (resOf q).2.2
 | [], h => absurd rfl h
 | (t, e, a) :: q, h => by
  rw [resOf] at h ⊢;by_cases he : e = 0
  ·rw [if_pos he] at h ⊢;by_cases h3 : (resOf q).2.1 = 0
   ·rw [if_pos h3] at h; exact absurd rfl h
   ·rw [if_neg h3];obtain ⟨h1, x, h4, h5⟩ := resOf_fault q h3;exact ⟨h1, x, List.mem_cons_of_mem _ h4, h5⟩
  ·rw [if_neg he];exact ⟨rfl, (t, e, a), List.mem_cons_self, he, rfl⟩
end Lx
namespace Lx
theorem word_appS {u r : List UInt8} {k : Int} {x : ByteArray} {v : Int} {len : Nat} (h : word u = .tok k x v len) (hr : len < u.length ∨ ∃ t, r = 32 :: t) : word (u ++ r) = .tok k x v len := by
 have hl := run_le an u;have he : run an u = len := by
  unfold word wordR at h;rw [take_size _ _ hl] at h;by_cases h1 : 20 < run an u
  ·rw [if_pos h1] at h; cases h
  ·rw [if_neg h1] at h; injection h
 have hrun : run an (u ++ r) = run an u := run_app u r (by
  rcases hr with hr | ⟨t, rfl⟩
  ·exact .inl (by omega)
  ·exact .inr (fun c t' e => by injection e with e1 _; subst e1; rfl))
 unfold word at h ⊢;rw [hrun, take_app hl];exact h
theorem number_appS {u r : List UInt8} {k : Int} {x : ByteArray} {v : Int} {len : Nat} (hu : 0 < u.length) (h : number u = .tok k x v len) (hr : len < u.length ∨ ∃ t, r = 32 :: t) : number (u ++ r) = .tok k x v len := by
 have hl := run_le dg u;unfold number at h ⊢;have hk : (((u.drop (run dg u)).headD 0).toNat = 114 /\ run dg u + 1 = len) ∨ (¬ ((u.drop (run dg u)).headD 0).toNat = 114 /\ run dg u = len) := by
  unfold numR at h;by_cases hq : ((u.drop (run dg u)).headD 0).toNat = 114
  ·rw [if_pos (by simpa using hq)] at h
   split at h
   ·cases h
   ·split at h
    ·cases h
    ·injection h; exact .inl ⟨hq, by omega⟩
  ·rw [if_neg (by simpa using hq)] at h
   split at h
   ·cases h
   ·split at h
    ·cases h
    ·injection h; exact .inr ⟨hq, by omega⟩
 have hlt : ((u.drop (run dg u)).headD 0).toNat = 114 -> run dg u < u.length := by
  intro hq;rcases Nat.lt_or_ge (run dg u) u.length with h | h
  ·exact h
  ·rw [List.drop_of_length_le h] at hq; simp at hq
 have hrun : run dg (u ++ r) = run dg u := run_app u r (by
  rcases hk with ⟨hq, _⟩ | ⟨_, he⟩
  ·exact .inl (hlt hq)
  ·rcases hr with hr | ⟨t, rfl⟩
   ·exact .inl (by omega)
   ·exact .inr (fun c t' e => by injection e with e1 _; subst e1; rfl))
 have hh : ((((u ++ r).drop (run dg u)).headD 0).toNat = 114) ↔ (((u.drop (run dg u)).headD 0).toNat = 114) := by
  rw [drop_app hl];rcases Nat.lt_or_ge (run dg u) u.length with h1 | h1
  ·rw [headD_app (by rw [List.length_drop]; omega)]
  ·rw [List.drop_of_length_le h1, List.nil_append];rcases hr with hr | ⟨t, rfl⟩
   ·rcases hk with ⟨hq, _⟩ | ⟨_, he⟩
    ·have := hlt hq; omega
    ·omega
   ·simp
 have hw : wrong (u ++ r) (run dg u) = wrong u (run dg u) := by
  unfold wrong; rw [take_app hl, headD_app hu]
 have han : ∀ j, j <= u.length -> (j < u.length ∨ ∃ t, r = 32 :: t) -> ¬ 0 < run an (u.drop j) -> ¬ 0 < run an ((u ++ r).drop j) := by
  intro j hj hr hz;rw [drop_app hj];have e : run an (u.drop j) = 0 := by omega
  rw [run_app (u.drop j) r (by
   rcases hr with hr | ⟨t, rfl⟩
   ·exact .inl (by rw [e, List.length_drop]; omega)
   ·exact .inr (fun c t' e => by injection e with e1 _; subst e1; rfl))]
  exact hz
 rw [hrun];unfold numR at h ⊢;rw [hw, take_app hl];rcases hk with ⟨hq, he⟩ | ⟨hq, he⟩
 ·rw [if_pos (by simpa using hq)] at h;rw [if_pos (by rw [decide_eq_true_iff, hh]; exact hq)];by_cases h1 : (wrong u (run dg u) || decide (9007199254740992 < val (u.take (run dg u)))) = true
  ·rw [if_pos h1] at h; cases h
  ·rw [if_neg h1] at h ⊢;by_cases h2 : 0 < run an (u.drop (run dg u + 1))
   ·rw [if_pos h2] at h; cases h
   ·rw [if_neg h2] at h;rw [if_neg (han _ (by have := hlt hq; omega) (by rw [he]; exact hr) h2)];exact h
 ·rw [if_neg (by simpa using hq)] at h;rw [if_neg (by rw [decide_eq_true_iff, hh]; exact hq)];by_cases h1 : wrong u (run dg u) = true
  ·rw [if_pos h1] at h; cases h
  ·rw [if_neg h1] at h ⊢;by_cases h2 : 0 < run an (u.drop (run dg u))
   ·rw [if_pos h2] at h; cases h
   ·rw [if_neg h2] at h;rw [if_neg (han _ hl (by rw [he]; exact hr) h2)];exact h
theorem sw_lineS : ∀ x ∈ sw, ∀ c ∈ x.data.toList, c ≠ 32 := by decide +kernel
theorem has_appS {u r : List UInt8} {x : ByteArray} (hx : x ∈ sw) (hu : 0 < u.length) (hr : 1 < u.length ∨ ∃ t, r = 32 :: t) : has (u ++ r) x = has u x := by
 have hs := sw_small x hx;have e : x.size = x.data.toList.length := by rw [Array.length_toList]; rfl
 unfold has;rw [Bool.eq_iff_iff, List.isPrefixOf_iff_prefix, List.isPrefixOf_iff_prefix]
 constructor
 ·intro h;rcases Nat.lt_or_ge u.length x.size with h1 | h1
  ·exfalso;rcases hr with hr | ⟨t, rfl⟩
   ·omega
   ·obtain ⟨t', ht⟩ := h;have h2 : x.size = 2 := by omega
    have h3 : u.length = 1 := by omega
    obtain ⟨c, rfl⟩ := List.length_eq_one_iff.1 h3;obtain ⟨a, b, hab⟩ : ∃ a b, x.data.toList = [a, b] := by
     match hm : x.data.toList, e with
     | [a, b], _ => exact ⟨a, b, rfl⟩
     | [], e => exact absurd (h2.symm.trans e) (by simp)
     | [a], e => exact absurd (h2.symm.trans e) (by simp)
     | _ :: _ :: _ :: _, e => exact absurd (h2.symm.trans e) (by simp)
    rw [hab] at ht;simp at ht;have := sw_lineS x hx b (by rw [hab]; simp);exact this ht.2.1
  ·exact List.prefix_of_prefix_length_le h (List.prefix_append u r) (by omega)
 ·intro h;exact h.trans (List.prefix_append u r)
theorem sign_appS {u r : List UInt8} {k : Int} {x : ByteArray} {v : Int} {len : Nat} (hu : 0 < u.length) (h : sign u = .tok k x v len) (hl : 0 < len) (hr : len < u.length ∨ ∃ t, r = 32 :: t) : sign (u ++ r) = .tok k x v len := by
 unfold sign at h ⊢;rw [find_same sw (fun y hy => has_appS hy hu (hr.imp (fun h => by omega) id))];exact h
theorem tok_appS {u r : List UInt8} {k : Int} {x : ByteArray} {v : Int} {len : Nat} (hu : 0 < u.length) (h0 : 0 < len) (h : tok u = .tok k x v len) (hr : len < u.length ∨ ∃ t, r = 32 :: t) : tok (u ++ r) = .tok k x v len := by
 unfold tok at h ⊢;rw [headD_app hu];unfold tokK at h ⊢;by_cases h2 : kd (u.headD 0) = 2
 ·rw [if_pos h2] at h ⊢; exact word_appS h hr
 ·rw [if_neg h2] at h ⊢;by_cases h3 : kd (u.headD 0) = 3
  ·rw [if_pos h3] at h ⊢; exact number_appS hu h hr
  ·rw [if_neg h3] at h ⊢;by_cases h4 : kd (u.headD 0) = 4
   ·rw [if_pos h4] at h ⊢; exact text_app hu h
   ·rw [if_neg h4] at h ⊢; exact sign_appS hu h h0 hr
theorem dg_of : ∀ d, d < 10 -> dg (UInt8.ofNat (48 + d)) = true := by decide
theorem dec_dg (u : Nat) : ∀ c ∈ Lib.decDigits u, dg c = true := by
 induction u using Nat.strongRecOn with
 | _ u ih =>
  intro c hc;rw [Lib.decDigits] at hc;by_cases h : u < 10
  ·rw [dif_pos h, List.mem_singleton] at hc;rw [hc]; exact dg_of u h
  ·rw [dif_neg h, List.mem_append, List.mem_singleton] at hc;rcases hc with hc | rfl
   ·exact ih _ (by omega) c hc
   ·exact dg_of _ (by omega)
theorem run_whole {f : UInt8 -> Bool} : ∀ s : List UInt8, (∀ c ∈ s, f c = true) -> run f s = s.length
 | [], _ => rfl
 | c :: s, h => by
  rw [run, if_pos (h c (by simp)), run_whole s (fun x hx => h x (by simp [hx]))]; rfl
theorem itoa_dg {n : Int} (h : 0 <= n) : ∀ c ∈ Lib.itoa n, dg c = true := by
 unfold Lib.itoa;rw [if_neg (by omega)];exact dec_dg _
theorem txt_spelt : ∀ (L R : List UInt8), (txt false (L.flatMap spelt ++ 34 :: R)).2.2 = 0 -> (txt false (L.flatMap spelt ++ 34 :: R)).2.1 = (L.flatMap spelt).length
 | [], R, h => by
  rw [List.flatMap_nil, List.nil_append, txt, if_neg (by decide), if_pos (by decide)]; rfl
 | c :: L, R, h => by
  have IH := txt_spelt L R;rw [List.flatMap_cons, List.append_assoc] at h ⊢;rw [List.length_append];generalize (L.flatMap spelt).length = n at *;generalize L.flatMap spelt ++ 34 :: R = r at *;unfold spelt at h ⊢;by_cases h1 : c.toNat = 34
  ·rw [if_pos h1] at h ⊢;have e : txt false ([92, 34] ++ r) = (34 :: (txt false r).1, (txt false r).2.1 + 1 + 1, (txt false r).2.2) := rfl;rw [e] at h ⊢;have := IH h;simp only [List.length_cons, List.length_nil];omega
  ·rw [if_neg h1] at h ⊢;by_cases h2 : c.toNat = 92
   ·rw [if_pos h2] at h ⊢;have e : txt false ([92, 92] ++ r) = (92 :: (txt false r).1, (txt false r).2.1 + 1 + 1, (txt false r).2.2) := rfl;rw [e] at h ⊢;have := IH h;simp only [List.length_cons, List.length_nil];omega
   ·rw [if_neg h2] at h ⊢;by_cases h3 : c.toNat = 10
    ·rw [if_pos h3] at h ⊢;have e : txt false ([92, 110] ++ r) = (10 :: (txt false r).1, (txt false r).2.1 + 1 + 1, (txt false r).2.2) := rfl;rw [e] at h ⊢;have := IH h;simp only [List.length_cons, List.length_nil];omega
    ·rw [if_neg h3] at h ⊢;have e : txt false ([c] ++ r) = if pr c then (c :: (txt false r).1, (txt false r).2.1 + 1, (txt false r).2.2) else ([], 0, 1) := by
      show txt false (c :: r) = _
      rw [txt, if_neg h2, if_neg h1]
     rw [e] at h ⊢
     cases hp : pr c with
     | true =>
      rw [hp] at h;rw [if_pos rfl] at h ⊢;have := IH h;simp only [List.length_cons, List.length_nil];omega
     | false =>
      rw [hp, if_neg (by decide)] at h
      cases h
theorem tok_kind {s : List UInt8} {k : Int} {x : ByteArray} {v : Int} {len : Nat} (h : tok s = .tok k x v len) :
  (k ≠ 4 /\ k ≠ 5 /\ k ≠ 6 /\ x.size = len) ∨ (k = 4 /\ 0 <= v /\ len = run dg s) ∨ (k = 5 /\ 0 <= v /\ len = run dg s + 1) ∨ (k = 6 /\ (txt false s.tail).2.2 = 0 /\ len = (txt false s.tail).2.1 + 2) := by
 unfold tok tokK at h;generalize kd (s.headD 0) = q at h;by_cases h2 : q = 2
 ·rw [if_pos h2] at h;unfold word wordR at h
  split at h
  ·cases h
  ·injection h with e1 e2 e3 e4;refine .inl ⟨?_, ?_, ?_, by rw [<- e2]; exact e4⟩ <;> (rw [<- e1]; (repeat' split) <;> decide)
 ·rw [if_neg h2] at h;by_cases h3 : q = 3
  ·rw [if_pos h3] at h;unfold number numR at h
   split at h
   ·split at h
    ·cases h
    ·split at h
     ·cases h
     ·injection h with e1 e2 e3 e4;exact .inr (.inr (.inl ⟨e1.symm, by omega, e4.symm⟩))
   ·split at h
    ·cases h
    ·split at h
     ·cases h
     ·injection h with e1 e2 e3 e4;exact .inr (.inl ⟨e1.symm, by omega, e4.symm⟩)
  ·rw [if_neg h3] at h;by_cases h4 : q = 4
   ·rw [if_pos h4] at h;have h5 := (txt_len false s.tail).2.2.2.2;unfold text textR at h
    split at h
    ·cases h
    ·split at h
     ·cases h
     ·split at h
      ·cases h
      ·injection h with e1 e2 e3 e4;exact .inr (.inr (.inr ⟨e1.symm, by omega, e4.symm⟩))
   ·rw [if_neg h4] at h;unfold sign at h
    split at h
    ·injection h with e1 e2 e3 e4;exact .inl ⟨by omega, by omega, by omega, by rw [<- e2]; exact e4⟩
    ·cases h
theorem isTok_tok {x : T} (h : isTok x = true) : skip false (spl x).data.toList = 0 /\ tok (spl x).data.toList = .tok x.kind x.text x.n (spl x).data.toList.length /\ 0 < (spl x).data.toList.length /\ (spl x).data.toList.length <= 20000 := by
 unfold isTok at h;obtain ⟨S, hS⟩ : ∃ S, (spl x).data.toList = S := ⟨_, rfl⟩;rw [hS] at h ⊢;have hl : S.length <= 20000 := by
  rcases Nat.lt_or_ge 20000 S.length with hl | hl
  ·unfold lex at h; rw [if_pos hl] at h; cases h
  ·exact hl
 have hlex : lex S = resOf (seq S) := by unfold lex; rw [if_neg (by omega)]
 have h0 : (lex S).2.1 = 0 := by
  rcases Decidable.em ((lex S).2.1 = 0) with h0 | h0
  ·exact h0
  ·rw [hlex] at h h0;rw [(resOf_fault _ h0).1] at h
   cases h
 obtain ⟨hg, hle⟩ := lex_ok h0 hl;rw [hle] at h;have h : oneT ((seq S).map (·.1)) x = true := h
 match hq : seq S, h with
 | [], h => cases h
 | _ :: _ :: _, h => cases h
 | [q], h =>
  rw [hq] at hg;have h : sameT q.1 x.kind x.text x.n 0 = true := h;unfold sameT at h;rw [Bool.and_eq_true, Bool.and_eq_true, Bool.and_eq_true, beq_iff_eq, decide_eq_true_iff, beq_iff_eq, beq_iff_eq] at h;obtain ⟨g1, g2, g3, g4⟩ := h;obtain ⟨k, y, v, len, ht, rfl, hr, hp, hle2⟩ := seqF_pos (g := S.length) (p := 0) (s := S) (q := q) (r := []) hq (by
   have : seqF (S.length + 1) 0 S = [q] := hq;rw [this]; exact hg)
  have g1 : k = x.kind := g1;have g2 : y = x.text := g2;have g3 : v = x.n := g3;have g4 : ((0 + skip false S : Nat) : Int) = 0 := g4;have hs0 : skip false S = 0 := by omega
  rw [hs0, List.drop_zero] at ht;rw [hs0] at hle2;subst g1 g2 g3;have hw : len = S.length := by
   unfold spl at hS;rcases tok_kind ht with ⟨k4, k5, k6, e⟩ | ⟨k4, hv, e⟩ | ⟨k5, hv, e⟩ | ⟨k6, hz, e⟩
   ·rw [if_neg k4, if_neg k5, if_neg k6] at hS;rw [<- hS, <- e, Array.length_toList]; rfl
   ·rw [if_pos k4] at hS;have hS : Lib.itoa x.n = S := hS;rw [<- hS] at e ⊢;rw [e, run_whole _ (itoa_dg hv)]
   ·rw [if_neg (by omega), if_pos k5] at hS;have hS : Lib.itoa x.n ++ [114] = S := hS;rw [<- hS] at e ⊢;rw [e, run_app _ _ (.inr (fun c t h => by injection h with h1 _; subst h1; decide)), run_whole _ (itoa_dg hv), List.length_append]; rfl
   ·rw [if_neg (by omega), if_neg (by omega), if_pos k6] at hS;have hS : 34 :: x.text.data.toList.flatMap spelt ++ [34] = S := hS;rw [<- hS] at e hz ⊢;have hz : (txt false (x.text.data.toList.flatMap spelt ++ 34 :: [])).2.2 = 0 := hz;have e : len = (txt false (x.text.data.toList.flatMap spelt ++ 34 :: [])).2.1 + 2 := e;rw [e, txt_spelt _ _ hz];simp only [List.length_append, List.length_cons, List.length_nil]
  rw [hw] at ht;exact ⟨hs0, ht, by omega, hl⟩
def tl (r : List T) : List UInt8 := r.flatMap fun y => 32 :: (spl y).data.toList
theorem tl_len : ∀ r : List T, r.length <= (tl r).length
 | [] => Nat.zero_le _
 | x :: r => by
  have := tl_len r
  show r.length + 1 <= (32 :: (spl x).data.toList ++ tl r).length
  rw [List.length_append, List.length_cons]; omega
theorem tl_head : ∀ r : List T, tl r = [] ∨ ∃ t, tl r = 32 :: t
 | [] => .inl rfl
 | x :: r => .inr ⟨(spl x).data.toList ++ tl r, rfl⟩
theorem spl_app {x : T} (h : isTok x = true) (r : List T) : skip false ((spl x).data.toList ++ tl r) = 0 /\ tok ((spl x).data.toList ++ tl r) = .tok x.kind x.text x.n (spl x).data.toList.length := by
 obtain ⟨h0, ht, hp, _⟩ := isTok_tok h;generalize (spl x).data.toList = S at *;rcases tl_head r with e | ⟨t, e⟩
 ·rw [e, List.append_nil]; exact ⟨h0, ht⟩
 ·rw [e];refine ⟨?_, tok_appS hp hp ht (.inr ⟨_, rfl⟩)⟩
  cases S with
  | nil => simp at hp
  | cons c s =>
   obtain ⟨g1, g2⟩ := skip_first h0 c s rfl;rw [List.cons_append, skip, if_neg g1, if_neg];rintro ⟨g3, g4⟩
   cases s with
   | nil => simp at g4
   | cons d s => exact g2 ⟨g3, g4⟩
end Lx
namespace Lx
theorem isTok_of {x : T} {S : List UInt8} (hS : (spl x).data.toList = S) (h0 : skip false S = 0) (ht : tok S = .tok x.kind x.text x.n S.length) (hp : 0 < S.length) (hl : S.length <= 20000) : isTok x = true := by
 unfold isTok;rw [hS];have e : seq S = [(⟨x.kind, x.text, x.n, ((0 + 0 : Nat) : Int)⟩, 0, 0)] := by
  unfold seq;rw [seqF, h0, List.drop_zero, if_neg (by omega), ht]
  show _ :: seqF S.length _ (S.drop S.length) = _
  rw [List.drop_length]
  cases hn : S.length with
  | zero => omega
  | succ n => rw [seqF, if_pos (by simp)]
 have e2 : lex S = ([⟨x.kind, x.text, x.n, ((0 + 0 : Nat) : Int)⟩], 0, 0) := by
  unfold lex;rw [if_neg (by omega), e]
  rfl
 rw [e2]
 show sameT _ x.kind x.text x.n 0 = true
 unfold sameT;simp
theorem dig_val : ∀ d, d < 10 -> (UInt8.ofNat (48 + d)).toNat = 48 + d := by decide
theorem val_snoc (l : List UInt8) (c : UInt8) : val (l ++ [c]) = 10 * val l + (c.toNat - 48) := by unfold val; rw [List.foldl_append]; rfl
theorem val_dec (u : Nat) : val (Lib.decDigits u) = u := by
 induction u using Nat.strongRecOn with
 | _ u ih =>
  rw [Lib.decDigits];by_cases h : u < 10
  ·rw [dif_pos h]
   show 10 * 0 + ((UInt8.ofNat (48 + u)).toNat - 48) = u
   rw [dig_val u h]; omega
  ·rw [dif_neg h, val_snoc, ih _ (by omega), dig_val _ (by omega)]; omega
theorem dec_pos (u : Nat) : 0 < (Lib.decDigits u).length := by
 rw [Lib.decDigits];by_cases h : u < 10
 ·rw [dif_pos h]; simp
 ·rw [dif_neg h]; simp
theorem dec_head (u : Nat) : 0 < u -> ((Lib.decDigits u).headD 0).toNat ≠ 48 := by
 induction u using Nat.strongRecOn with
 | _ u ih =>
  intro hu;have h2 := dec_pos (u / 10);rw [Lib.decDigits];by_cases h : u < 10
  ·rw [dif_pos h]
   show (UInt8.ofNat (48 + u)).toNat ≠ 48
   rw [dig_val u h]; omega
  ·have h1 := ih (u / 10) (by omega) (by omega);rw [dif_neg h]
   cases hd : Lib.decDigits (u / 10) with
   | nil => rw [hd] at h2; simp at h2
   | cons c r => rw [hd] at h1; exact h1
theorem dec_one (u : Nat) (h : u = 0) : (Lib.decDigits u).length = 1 := by
 subst h;rw [Lib.decDigits, dif_pos (by decide)]; rfl
theorem dec_wrong {u : Nat} (h : u <= 9223372036854775807) (R : List UInt8) : wrong (Lib.decDigits u ++ R) (Lib.decDigits u).length = false := by
 unfold wrong;rw [List.take_left, val_dec, headD_app (dec_pos u), decide_eq_false (by omega), Bool.false_or];by_cases h0 : u = 0
 ·rw [dec_one u h0]; simp
 ·rw [decide_eq_false (dec_head u (by omega))]; rfl
theorem dg_kd {c : UInt8} (h : dg c = true) : kd c = 3 := by unfold dg at h; simpa using h
theorem first_dg {S : List UInt8} (h : dg (S.headD 0) = true) : skip false S = 0 := by
 cases S with
 | nil => rfl
 | cons c r =>
  have hk : kd c = 3 := dg_kd h;have h1 : ¬ kd c = 1 := by omega
  rw [skip, if_neg h1, if_neg];rintro ⟨h2, _⟩;unfold kd at hk;simp [h2] at hk
theorem dec_dgh (u : Nat) (R : List UInt8) : dg ((Lib.decDigits u ++ R).headD 0) = true := by
 rw [headD_app (dec_pos u)];have h := dec_dg u;have h2 := dec_pos u
 cases hd : Lib.decDigits u with
 | nil => rw [hd] at h2; simp at h2
 | cons c r => exact h c (by rw [hd]; simp)
theorem tok_dg {S : List UInt8} (h : dg (S.headD 0) = true) : tok S = number S := by
 unfold tok tokK;rw [dg_kd h, if_neg (by decide), if_pos rfl]
theorem itoa_nat {n : Int} (h : 0 <= n) : Lib.itoa n = Lib.decDigits n.toNat := by
 unfold Lib.itoa;rw [if_neg (by omega)]
theorem dec_le (u : Nat) (h : u <= 9223372036854775807) : (Lib.decDigits u).length <= 21 := by
 have h1 := Lib.itoa_length_le (u : Int) (by omega) (by omega);rw [itoa_nat (by omega), Int.toNat_natCast] at h1;exact h1
theorem isTok_int {n p : Int} (h : 0 <= n /\ n <= 9223372036854775807) : isTok ⟨4, ⟨#[]⟩, n, p⟩ = true := by
 have hu : n.toNat <= 9223372036854775807 := by omega
 have hd := dec_dgh n.toNat [];have hw := dec_wrong hu [];rw [List.append_nil] at hd hw;refine isTok_of (S := Lib.decDigits n.toNat) ?_ (first_dg hd) ?_ (dec_pos _) (by have := dec_le _ hu; omega)
 ·show Lib.itoa n = _
  exact itoa_nat h.1
 ·rw [tok_dg hd];unfold number;rw [run_whole _ (dec_dg _), List.drop_length]
  show numR _ _ false = _
  unfold numR;rw [if_neg (by decide), hw, if_neg (by decide), List.drop_length, if_neg (by simp [run]), List.take_length, val_dec, Int.toNat_of_nonneg h.1]
theorem isTok_real {n p : Int} (h : 0 <= n /\ n <= 9007199254740992) : isTok ⟨5, ⟨#[]⟩, n, p⟩ = true := by
 have hu : n.toNat <= 9223372036854775807 := by omega
 have hd := dec_dgh n.toNat [114];have hw := dec_wrong hu [114];have hr : run dg (Lib.decDigits n.toNat ++ [114]) = (Lib.decDigits n.toNat).length := by
  rw [run_app _ _ (.inr (fun c t h => by injection h with h1 _; subst h1; decide)), run_whole _ (dec_dg _)]
 refine isTok_of (S := Lib.decDigits n.toNat ++ [114]) ?_ (first_dg hd) ?_ (by simp) (by have := dec_le _ hu; rw [List.length_append, List.length_singleton]; omega)
 ·show Lib.itoa n ++ [114] = _
  rw [itoa_nat h.1]
 ·rw [tok_dg hd];unfold number;rw [hr, List.drop_left]
  show numR _ _ true = _
  unfold numR;have e2 : (Lib.decDigits n.toNat ++ [114]).drop ((Lib.decDigits n.toNat).length + 1) = [] := List.drop_of_length_le (by simp);rw [if_pos rfl, hw, List.take_left, val_dec, decide_eq_false (by omega), Bool.or_false, if_neg (by decide), e2, if_neg (by simp [run]), Int.toNat_of_nonneg h.1, List.length_append]
  rfl
theorem run_take_all {f : UInt8 -> Bool} : ∀ (s : List UInt8), ∀ c ∈ s.take (run f s), f c = true
 | [], c, h => by simp at h
 | d :: s, c, h => by
  rw [run] at h;by_cases hd : f d = true
  ·rw [if_pos hd, List.take_succ_cons] at h;rcases List.mem_cons.1 h with rfl | h
   ·exact hd
   ·exact run_take_all s c h
  ·rw [if_neg hd] at h;simp at h
theorem isTok_word {w : ByteArray} {p : Int} (h1 : ∀ c ∈ w.data.toList, an c = true) (h2 : kd (w.data.toList.headD 0) = 2) (h3 : w.size <= 20) : isTok ⟨if Wrd.key w then 3 else if Wrd.name w then 1 else 2, w, 0, p⟩ = true := by
 have hl : w.data.toList.length = w.size := by rw [Array.length_toList]; rfl
 have hp : 0 < w.data.toList.length := by
  cases hd : w.data.toList with
  | nil => rw [hd] at h2; exact absurd h2 (by decide)
  | cons c r => simp
 refine isTok_of (S := w.data.toList) ?_ ?_ ?_ hp (by omega)
 ·unfold spl;have hk : ∀ k : Int, k = 3 ∨ k = 1 ∨ k = 2 -> ¬ k = 4 /\ ¬ k = 5 /\ ¬ k = 6 := by rintro k (rfl | rfl | rfl) <;> decide
  have := hk (if Wrd.key w then 3 else if Wrd.name w then 1 else 2) (by split; exact .inl rfl; split; exact .inr (.inl rfl); exact .inr (.inr rfl));dsimp only;rw [if_neg this.1, if_neg this.2.1, if_neg this.2.2]
 ·cases hd : w.data.toList with
  | nil => rfl
  | cons c r =>
   rw [hd] at h2;have h2 : kd c = 2 := h2;have h4 : ¬ kd c = 1 := by omega
   rw [skip, if_neg h4, if_neg];rintro ⟨h5, _⟩;unfold kd at h2;simp [h5] at h2
 ·unfold tok tokK;rw [h2, if_pos rfl];unfold word;rw [run_whole _ h1, List.take_length]
  show wordR w = _
  unfold wordR;rw [if_neg (by omega), hl]
theorem wrd_an {c : UInt8} (h : Wrd.kd c ≠ 3) : an c = true := by
 unfold Wrd.kd Wrd.smB Wrd.caB Wrd.diB at h;unfold an kd;by_cases h1 : (97 <= c.toNat /\ c.toNat <= 122) ∨ (65 <= c.toNat /\ c.toNat <= 90)
 ·have h0 : ¬ (c.toNat = 32 ∨ c.toNat = 9 ∨ c.toNat = 10 ∨ c.toNat = 13) := by omega
  rw [if_neg h0, if_pos h1]; rfl
 ·have h0 : ¬ (c.toNat = 32 ∨ c.toNat = 9 ∨ c.toNat = 10 ∨ c.toNat = 13) := by
   intro h0;apply h;simp only [Bool.and_eq_true, decide_eq_true_eq];rw [if_neg (by omega), if_neg (by omega), if_neg (by omega)]
  by_cases h2 : 48 <= c.toNat /\ c.toNat <= 57
  ·rw [if_neg h0, if_neg h1, if_pos h2]; rfl
  ·exfalso;apply h;simp only [Bool.and_eq_true, decide_eq_true_eq];rw [if_neg (by omega), if_neg (by omega), if_neg (by omega)]
theorem wrd_kd {c : UInt8} {k : Nat} (hk : k < 2) (h : Wrd.kd c = k) : kd c = 2 := by
 unfold Wrd.kd Wrd.smB Wrd.caB Wrd.diB at h;simp only [Bool.and_eq_true, decide_eq_true_eq] at h;have h1 : (97 <= c.toNat /\ c.toNat <= 122) ∨ (65 <= c.toNat /\ c.toNat <= 90) := by
  by_cases h1 : 97 <= c.toNat /\ c.toNat <= 122
  ·exact .inl h1
  ·rw [if_neg h1] at h;by_cases h2 : 65 <= c.toNat /\ c.toNat <= 90
   ·exact .inr h2
   ·rw [if_neg h2] at h
    split at h <;> omega
 unfold kd;rw [if_neg (by omega), if_pos h1]
theorem spelt_parts {s : ByteArray} {k : Nat} (h : Wrd.spelt s k = true) : s.size <= 20 /\ (∀ c ∈ s.data.toList, Wrd.kd c ≠ 3) /\ Wrd.kd (s.data.toList.headD 0) = k := by
 unfold Wrd.spelt at h;simp only [Bool.and_eq_true, decide_eq_true_eq, List.all_eq_true, bne_iff_ne, beq_iff_eq] at h;exact ⟨h.1.1.2, h.1.2, h.2⟩
theorem isTok_name {t : ByteArray} {p : Int} (h : Wrd.name t = true) : isTok ⟨1, t, 0, p⟩ = true := by
 have h0 := h;unfold Wrd.name at h;rw [Bool.and_eq_true] at h;obtain ⟨h1, h2, h3⟩ := spelt_parts h.1;have := isTok_word (p := p) (fun c hc => wrd_an (h2 c hc)) (wrd_kd (by decide) h3) h1;have hk : Wrd.key t = false := by simpa using h.2
 rw [hk, h0] at this;exact this
theorem key_no : ∀ x ∈ Wrd.ws, Wrd.spelt x 1 = false := by decide +kernel
theorem isTok_cls {t : ByteArray} {p : Int} (h : Wrd.cls t = true) : isTok ⟨2, t, 0, p⟩ = true := by
 obtain ⟨h1, h2, h3⟩ := spelt_parts (show Wrd.spelt t 1 = true from h);have := isTok_word (p := p) (fun c hc => wrd_an (h2 c hc)) (wrd_kd (by decide) h3) h1;have hk : Wrd.key t = false := by
  cases hk : Wrd.key t with
  | false => rfl
  | true =>
   unfold Wrd.key Wrd.has at hk;obtain ⟨x, hx, e⟩ := List.any_eq_true.1 hk;have e := of_decide_eq_true e;subst e;have := key_no x hx;rw [show Wrd.spelt x 1 = true from h] at this
   cases this
 have hn : Wrd.name t = false := by
  cases hn : Wrd.name t with
  | false => rfl
  | true =>
   unfold Wrd.name at hn;rw [Bool.and_eq_true] at hn;have := (spelt_parts hn.1).2.2;omega
 rw [hk, hn] at this;exact this
theorem isTok_keys : ∀ x ∈ Wrd.ws, isTok ⟨3, x, 0, 0⟩ = true := by decide +kernel
theorem isTok_sgns : ∀ x ∈ sw, isTok ⟨7, x, 0, 0⟩ = true := by decide +kernel
def ctX (c : UInt8) : Bool := pr c || decide (c.toNat = 10)
theorem txt_back : ∀ (L R : List UInt8), (∀ c ∈ L, ctX c = true) -> txt false (L.flatMap spelt ++ 34 :: R) = (L, (L.flatMap spelt).length, 0)
 | [], R, _ => by
  rw [List.flatMap_nil, List.nil_append, txt, if_neg (by decide), if_pos (by decide)]; rfl
 | c :: L, R, h => by
  have IH := txt_back L R (fun d hd => h d (List.mem_cons_of_mem _ hd));have hc := h c (by simp);rw [List.flatMap_cons, List.append_assoc, List.length_append];generalize (L.flatMap spelt).length = n at *;generalize L.flatMap spelt ++ 34 :: R = r at *;unfold spelt;by_cases h1 : c.toNat = 34
  ·rw [if_pos h1];have e : txt false ([92, 34] ++ r) = (34 :: (txt false r).1, (txt false r).2.1 + 1 + 1, (txt false r).2.2) := rfl;rw [e, IH];have : c = 34 := UInt8.toNat_inj.1 h1;subst this
   simp; omega
  ·rw [if_neg h1];by_cases h2 : c.toNat = 92
   ·rw [if_pos h2];have e : txt false ([92, 92] ++ r) = (92 :: (txt false r).1, (txt false r).2.1 + 1 + 1, (txt false r).2.2) := rfl;rw [e, IH];have : c = 92 := UInt8.toNat_inj.1 h2;subst this
    simp; omega
   ·rw [if_neg h2];by_cases h3 : c.toNat = 10
    ·rw [if_pos h3];have e : txt false ([92, 110] ++ r) = (10 :: (txt false r).1, (txt false r).2.1 + 1 + 1, (txt false r).2.2) := rfl;rw [e, IH];have : c = 10 := UInt8.toNat_inj.1 h3;subst this
     simp; omega
    ·rw [if_neg h3];have hp : pr c = true := by
      unfold ctX at hc;rw [Bool.or_eq_true, decide_eq_true_iff] at hc;exact hc.resolve_right h3
     show txt false (c :: r) = _
     rw [txt, if_neg h2, if_neg h1, if_pos hp, IH]
     simp; omega
theorem spelt_le (c : UInt8) : (spelt c).length <= 2 := by unfold spelt; split <;> (try split) <;> (try split) <;> simp
theorem flat_le : ∀ L : List UInt8, (L.flatMap spelt).length <= 2 * L.length
 | [] => by simp
 | c :: L => by rw [List.flatMap_cons, List.length_append, List.length_cons]; have := spelt_le c; have := flat_le L; omega
theorem isTok_str {t : ByteArray} {p : Int} (h : ∀ c ∈ t.data.toList, ctX c = true) (hs : t.size <= 1000) : isTok ⟨6, t, 0, p⟩ = true := by
 have hl : t.data.toList.length = t.size := by rw [Array.length_toList]; rfl
 have hf := flat_le t.data.toList;refine isTok_of (S := 34 :: (t.data.toList.flatMap spelt ++ [34])) rfl rfl ?_ (by simp) (by rw [List.length_cons, List.length_append, List.length_singleton]; omega)
 show text (34 :: (t.data.toList.flatMap spelt ++ [34])) = _
 unfold text;rw [List.tail_cons, txt_back _ _ h];unfold textR;rw [if_neg (show ¬ (0 : Nat) = 1 by decide), if_neg (by show ¬ 1000 < t.data.toList.length; omega), if_neg (show ¬ (0 : Nat) = 2 by decide)];rw [List.length_cons, List.length_append, List.length_singleton]
theorem txt_ct : ∀ (b : Bool) (l : List UInt8), ∀ c ∈ (txt b l).1, ctX c = true
 | true, [], c, h => by simp [txt] at h
 | false, [], c, h => by simp [txt] at h
 | true, d :: r, c, h => by
  rw [txt] at h
  cases hm : meant d with
  | none => rw [hm] at h; simp at h
  | some m =>
   rw [hm] at h;rcases List.mem_cons.1 h with rfl | h
   ·unfold meant at hm
    split at hm
    ·injection hm with hm; subst hm; decide
    ·split at hm
     ·injection hm with hm; subst hm; decide
     ·split at hm
      ·injection hm with hm; subst hm; decide
      ·cases hm
   ·exact txt_ct false r c h
 | false, d :: r, c, h => by
  rw [txt] at h
  split at h
  ·exact txt_ct true r c h
  ·split at h
   ·simp at h
   ·split at h
    ·rename_i hp
     rcases List.mem_cons.1 h with rfl | h
     ·unfold ctX; rw [hp]; rfl
     ·exact txt_ct false r c h
    ·simp at h
theorem tok_isTok {s : List UInt8} {k : Int} {x : ByteArray} {v : Int} {len : Nat} {p : Int} (h : tok s = .tok k x v len) : isTok ⟨k, x, v, p⟩ = true := by
 unfold tok tokK at h;by_cases h2 : kd (s.headD 0) = 2
 ·rw [if_pos h2] at h;unfold word wordR at h
  split at h
  ·cases h
  ·rename_i hs
   injection h with e1 e2 e3 e4;subst e1 e2 e3;have hr : 0 < run an s := by
    cases s with
    | nil => exact absurd h2 (by decide)
    | cons c r =>
     have h2 : kd c = 2 := h2;exact run_pos (by unfold an; rw [h2]; rfl)
   refine isTok_word (w := ⟨(s.take (run an s)).toArray⟩) (fun c hc => run_take_all s c (by simpa using hc)) ?_ (by omega)
   show kd ((s.take (run an s)).headD 0) = 2
   rw [headD_take s hr];exact h2
 ·rw [if_neg h2] at h;by_cases h3 : kd (s.headD 0) = 3
  ·rw [if_pos h3] at h;unfold number numR at h
   split at h
   ·split at h
    ·cases h
    ·rename_i hw
     split at h
     ·cases h
     ·injection h with e1 e2 e3 e4;subst e1 e2 e3;simp only [Bool.or_eq_true, decide_eq_true_eq, not_or] at hw;exact isTok_real ⟨by omega, by omega⟩
   ·split at h
    ·cases h
    ·rename_i hw
     split at h
     ·cases h
     ·injection h with e1 e2 e3 e4;subst e1 e2 e3;unfold wrong at hw;simp only [Bool.or_eq_true, decide_eq_true_eq, not_or] at hw;exact isTok_int ⟨by omega, by omega⟩
  ·rw [if_neg h3] at h;by_cases h4 : kd (s.headD 0) = 4
   ·rw [if_pos h4] at h;unfold text textR at h
    split at h
    ·cases h
    ·split at h
     ·cases h
     ·rename_i hl
      split at h
      ·cases h
      ·injection h with e1 e2 e3 e4;subst e1 e2 e3;refine isTok_str (fun c hc => txt_ct false s.tail c (by simpa using hc)) ?_
       show (Array.size _) <= 1000
       rw [List.size_toArray]; omega
   ·rw [if_neg h4] at h;unfold sign at h
    split at h
    ·rename_i y hy
     injection h with e1 e2 e3 e4;subst e1 e2 e3;exact isTok_sgns _ (List.mem_of_find?_eq_some hy)
    ·cases h
def placed : Nat -> List T -> List T
 | _, [] => []
 | p, x :: r => ⟨x.kind, x.text, x.n, (p : Int)⟩ :: placed (p + (spl x).data.toList.length + 1) r
theorem placed_len : ∀ (p : Nat) (r : List T), (placed p r).length = r.length
 | _, [] => rfl
 | p, x :: r => by rw [placed, List.length_cons, placed_len]; rfl
theorem seq_placed : ∀ (r : List T) (g p : Nat), r.length <= g -> (∀ x ∈ r, isTok x = true) -> seqF g p (tl r) = (placed (p + 1) r).map fun t => (t, 0, 0)
 | [], g, p, _, _ => by
  cases g with
  | zero => rfl
  | succ g => rw [seqF, if_pos (by simp [tl])]; rfl
 | x :: r, 0, p, h, _ => by simp at h
 | x :: r, g + 1, p, h, hx => by
  obtain ⟨h0, ht⟩ := spl_app (hx x (by simp)) r;have hp := (isTok_tok (hx x (by simp))).2.2.1;have e : tl (x :: r) = 32 :: ((spl x).data.toList ++ tl r) := rfl;have hs : skip false (tl (x :: r)) = 1 := by rw [e, skip, if_pos (by decide), h0]
  have hd : (tl (x :: r)).drop 1 = (spl x).data.toList ++ tl r := by rw [e]; rfl
  have ih := seq_placed r g (p + 1 + (spl x).data.toList.length) (by simp at h; omega) (fun y hy => hx y (by simp [hy]));rw [seqF, hs, hd, if_neg (by rw [List.length_append]; omega), ht]
  show _ :: seqF g _ (((spl x).data.toList ++ tl r).drop _) = _
  rw [List.drop_left, ih]
  rfl
theorem joined_lex {l : List T} (hx : ∀ x ∈ l, isTok x = true) (hl : (joinB l).length <= 20000) : lex (joinB l) = (placed 0 l, 0, 0) := by
 cases l with
 | nil => rfl
 | cons x r =>
  obtain ⟨h0, ht⟩ := spl_app (hx x (by simp)) r;have hp := (isTok_tok (hx x (by simp))).2.2.1;have e : joinB (x :: r) = (spl x).data.toList ++ tl r := rfl;rw [e] at hl ⊢;have hlen := tl_len r;have hL : (((spl x).data.toList ++ tl r).length) = (spl x).data.toList.length + (tl r).length := List.length_append;have hstep : seq ((spl x).data.toList ++ tl r) = (placed 0 (x :: r)).map fun t => (t, 0, 0) := by
   unfold seq;rw [seqF, h0, List.drop_zero, if_neg (by omega), ht]
   show _ :: seqF _ _ (((spl x).data.toList ++ tl r).drop _) = _
   rw [List.drop_left, seq_placed r _ _ (by omega) (fun y hy => hx y (by simp [hy]))]
   rfl
  unfold lex;rw [if_neg (by omega), hstep, resOf_good _ (fun q hq => by obtain ⟨t, _, rfl⟩ := List.mem_map.1 hq; rfl), List.map_map]
  congr 1
  exact List.map_id _
theorem joinB_sum : ∀ (l : List T), (joinB l).length + (if l = [] then 0 else 1) = (l.map fun y => (spl y).data.toList.length + 1).sum
 | [] => rfl
 | x :: r => by
  have : ∀ r : List T, (tl r).length = (r.map fun y => (spl y).data.toList.length + 1).sum := by
   intro r
   induction r with
   | nil => rfl
   | cons y r ih => rw [List.map_cons, List.sum_cons, <- ih]; show (32 :: (spl y).data.toList ++ tl r).length = _; rw [List.length_append, List.length_cons]
  rw [List.map_cons, List.sum_cons, <- this r]
  show ((spl x).data.toList ++ tl r).length + _ = _
  rw [List.length_append, if_neg (by simp)]; omega
theorem tok_small {s : List UInt8} {k : Int} {x : ByteArray} {v : Int} {len : Nat} (h : tok s = .tok k x v len) : (1 <= k /\ k <= 7) /\ x.size <= 1000 /\ 0 <= v /\ v <= 9223372036854775807 := by
 unfold tok tokK at h
 split at h
 ·unfold word wordR at h
  split at h
  ·cases h
  ·rename_i h1
   injection h with h2 h3 h4 h5;subst h2 h3 h4;refine ⟨?_, by omega, by decide, by decide⟩
   split
   ·decide
   ·split <;> decide
 ·split at h
  ·unfold number numR at h
   split at h
   ·split at h
    ·cases h
    ·split at h
     ·cases h
     ·rename_i h1 h2
      injection h with h2 h3 h4 h5;subst h2 h3 h4;simp only [Bool.or_eq_true, decide_eq_true_eq, not_or] at h1;exact ⟨by decide, by decide, by omega, by omega⟩
   ·split at h
    ·cases h
    ·split at h
     ·cases h
     ·rename_i h1 h2
      injection h with h2 h3 h4 h5;subst h2 h3 h4;unfold wrong at h1;simp only [Bool.or_eq_true, decide_eq_true_eq, not_or] at h1;exact ⟨by decide, by decide, by omega, by omega⟩
  ·split at h
   ·unfold text textR at h
    split at h
    ·cases h
    ·split at h
     ·cases h
     ·split at h
      ·cases h
      ·rename_i h1 h2 h3
       injection h with h2 h3 h4 h5;subst h2 h3 h4;refine ⟨by decide, ?_, by decide, by decide⟩
       show (Array.size _) <= 1000
       rw [List.size_toArray];omega
   ·unfold sign at h
    split at h
    ·rename_i y hy
     injection h with h2 h3 h4 h5;subst h2 h3 h4;have hm := List.mem_of_find?_eq_some hy;exact ⟨by decide, (show ∀ z ∈ sw, z.size <= 1000 by decide +kernel) _ hm, by decide, by decide⟩
    ·cases h
theorem isTok_small {x : T} (h : isTok x = true) : (1 <= x.kind /\ x.kind <= 7) /\ x.text.size <= 1000 /\ 0 <= x.n /\ x.n <= 9223372036854775807 := tok_small (isTok_tok h).2.1
end Lx
end Go.Proofs.YtegcgflhgfmkpaaGreatDoor
