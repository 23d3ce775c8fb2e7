import Derived.Test.YtegcgflhgfmkpaaGreatDoorUTkm
import Derived.Test.YtegcgflhgfmkpaaGreatDoorUw0
import Derived.Test.YtegcgflhgfmkpaaGreatDoorULx4
import Derived.Test.YtegcgflhgfmkpaaGreatDoorUw18
import Derived.Sort.QuietIn
set_option linter.unusedSimpArgs false
set_option linter.unusedVariables false
set_option maxRecDepth 100000
set_option maxHeartbeats 16000000
namespace Go.Proofs.YtegcgflhgfmkpaaGreatDoor
open Lib (hid)
open _root_.Go.Proofs.Tryz
open Go.ChangeShapes Go.WideShapes Go.ChangeAt Go.RowKit Go.Shelf
attribute [local go_sem] Oper.semAt_some
theorem sgn_results {fn : Func} {p u q : Tmp} (h : fn.results = #[.cell p 70, .cell u 3, .cell q 29]) (tmps : Array Value) (W : World) {g g' g3 : Nat} {k n po e a' : Value} {x : Value} {i : Int}
  (hp : tmps.getD p undef = .pointer (some ⟨g, 0, none⟩)) (hu : tmps.getD u undef = .pointer (some ⟨g3, 0, none⟩)) (hq : tmps.getD q undef = .pointer (some ⟨g', 0, none⟩))
  (hg : Blk W g 70 #[k, x, n, po]) (h3 : Blk W g3 3 #[.int .i64 i]) (hg' : Blk W g' 29 #[e, a']) :
  (results fn tmps).run prog W = .ok (.tuple #[.agg #[k, x, n, po], .int .i64 i, .agg #[e, a']]) W := by
 have hp' : tmps[p]?.getD undef = .pointer (some ⟨g, 0, none⟩) := by simpa using hp
 have hu' : tmps[u]?.getD undef = .pointer (some ⟨g3, 0, none⟩) := by simpa using hu
 have hq' : tmps[q]?.getD undef = .pointer (some ⟨g', 0, none⟩) := by simpa using hq
 have e1 := run_loadVar_row (P := prog) W g 70 70 #[k, x, n, po] (0, 0) _ hg underlying70 (by rfl) (by kernel_rfl);have e2 := run_loadVar_row (P := prog) W g' 29 29 #[e, a'] (0, 0) _ hg' underlying29 (by rfl) (by kernel_rfl);have c3 := h3.cell 0;simp at c3;have e3 : (loadVar 3 ⟨g3, 0, none⟩).run prog W = .ok (.int .i64 i) W := by simp [go_sem, c3]
 simp [results, h, hp', hq', hu', asAddr, e1, e2, e3]
def SgnI (w : World) (a : Option Addr) (c : Nat) (l : List UInt8) (p : Nat) (pre : List ByteArray) (W : World) : Prop :=
 (Blk W w.heap.size 138 #[.slice a l.length c] /\ Blk W (w.heap.size + 1) 3 #[.int .i64 p]) /\
 (Blk W (w.heap.size + 1 + 1) 70 #[.int .i64 0, .string ⟨#[]⟩, .int .i64 0, .int .i64 0] /\ Blk W (w.heap.size + 1 + 1 + 1) 3 #[.int .i64 0] /\ Blk W (w.heap.size + 1 + 1 + 1 + 1) 29 #[.int .i64 0, .int .i64 0]) /\
 Kept w W /\ w.heap.size + 5 <= W.heap.size /\ ∀ x ∈ pre, Lx.has (l.drop p) x = false
theorem SgnI.kept {w : World} {a : Option Addr} {c : Nat} {l : List UInt8} {p : Nat} {pre : List ByteArray} {W W' : World} (h : SgnI w a c l p pre W) (k : Kept W W') : SgnI w a c l p pre W' := by
 obtain ⟨⟨h1, h2⟩, ⟨h3, h4, h5⟩, h6, h7, h8⟩ := h;exact ⟨⟨h1.kept k, h2.kept k⟩, ⟨h3.kept k, h4.kept k, h5.kept k⟩, h6.trans k, Nat.le_trans h7 k.size, h8⟩
theorem has_any (x : ByteArray) (a : Option Addr) (c : Nat) (l : List UInt8) (p : Nat) (w : World) (h : SrcAt w (.slice a l.length c) l) (hp : p <= l.length) :
  Calls prog 157 #[.slice a l.length c, .int .i64 p, .string x] w fun r w' => r = .returned (.bool (Lx.has (l.drop p) x)) /\ w' = w := by
 by_cases hx : 0 < x.size
 ·exact has_c x a c l p w h hp hx
 ·have hcap := h.cap;unfold maxLen at hcap;have e : x = ⟨#[]⟩ := by
   apply ByteArray.ext;apply Array.toList_inj.1;have : x.data.toList.length = 0 := by rw [Array.length_toList]; show x.size = 0; omega
   rw [List.eq_nil_of_length_eq_zero this]
  subst e;have hv : Lx.has (l.drop p) ⟨#[]⟩ = true := rfl;rw [hv];have hcv : ∀ (a' : Option Addr) (c' : Nat) (W : World), (convert 138 9 (.slice a' 0 c')).run prog W = .ok (.string ⟨#[]⟩) W := fun a' c' W => by
   rw [run_convert_bytes_string (P := prog) W 138 9 5 a' 0 c' (by kernel_rfl) (by kernel_rfl) (by kernel_rfl)]
   cases a' <;> rfl
  have hleI : (0 : Int) <= (l.length : Int) - (p : Int) := by omega
  clear h hx hv;go_enter func157, ntmps157;go_wp2
  all_goals go_ret
  all_goals exact ⟨rfl, rfl⟩
def SgnX (w : World) (l : List UInt8) (p : Nat) (cd : Code) (pre : List ByteArray) (W : World) : Prop :=
 cd = .ret /\ ∃ (pre' : List ByteArray) (x : ByteArray), pre = pre' ++ [x] /\ (∀ y ∈ pre', Lx.has (l.drop p) y = false) /\ Lx.has (l.drop p) x = true /\
  Blk W (w.heap.size + 1 + 1) 70 #[.int .i64 7, .string x, .int .i64 0, .int .i64 p] /\ Blk W (w.heap.size + 1 + 1 + 1) 3 #[.int .i64 ((p + x.size : Nat) : Int)] /\ Blk W (w.heap.size + 1 + 1 + 1 + 1) 29 #[.int .i64 0, .int .i64 0] /\ Kept w W
theorem sgnI_from (w : World) (a : Option Addr) (c : Nat) (l : List UInt8) (p : Nat) (B : Nat) (hB : w.heap.size <= B) : OwnFrom B (SgnI w a c l p) := by
 rintro pre X Y row ⟨⟨h1, h2⟩, ⟨h3, h4, h5⟩, h6, h7, h8⟩ hg hr;exact ⟨⟨h1.grown hg fun r e => (hr r e).2, h2.grown hg fun r e => (hr r e).2⟩, ⟨h3.grown hg fun r e => (hr r e).2, h4.grown hg fun r e => (hr r e).2, h5.grown hg fun r e => (hr r e).2⟩, h6.grown hg (fun k e => Nat.le_trans hB (hr k e).1), Nat.le_trans h7 hg.size, h8⟩
theorem sgnX_from (w : World) (l : List UInt8) (p : Nat) (cd : Code) (B : Nat) (hB : w.heap.size <= B) : OwnFrom B (SgnX w l p cd) := by
 rintro pre X Y row ⟨h0, pre', x, h1, h2, h3, h4, h5, h6, h7⟩ hg hr;exact ⟨h0, pre', x, h1, h2, h3, h4.grown hg fun r e => (hr r e).2, h5.grown hg fun r e => (hr r e).2, h6.grown hg fun r e => (hr r e).2, h7.grown hg (fun k e => Nat.le_trans hB (hr k e).1)⟩
theorem find_at {P : ByteArray -> Bool} {l pre : List ByteArray} {x : ByteArray} (h : pre ++ [x] <+: l) (h1 : ∀ y ∈ pre, P y = false) (h2 : P x = true) : l.find? P = some x := by
 obtain ⟨t, rfl⟩ := h;rw [List.append_assoc, List.find?_append];rw [show pre.find? P = none from List.find?_eq_none.2 (fun y hy => by rw [h1 y hy]; decide)];simp [h2]
theorem sgnI_new (w : World) (a : Option Addr) (c : Nat) (l : List UInt8) (p : Nat) {W : World}
  (hW : ((((w.alloc (.cells #[.slice a l.length c] 138)).alloc (.cells #[.int .i64 p] 3)).alloc (.cells #[.int .i64 0, .string ⟨#[]⟩, .int .i64 0, .int .i64 0] 70)).alloc (.cells #[.int .i64 0] 3)).alloc (.cells #[.int .i64 0, .int .i64 0] 29) = W) :
  SgnI w a c l p [] W /\ W.heap.size = w.heap.size + 5 := by
 subst hW;have b1 := Blk.new w 138 #[.slice a l.length c];have b2 := Blk.new (w.alloc (.cells #[.slice a l.length c] 138)) 3 #[.int .i64 p];have b3 := Blk.new ((w.alloc (.cells #[.slice a l.length c] 138)).alloc (.cells #[.int .i64 p] 3)) 70 #[.int .i64 0, .string ⟨#[]⟩, .int .i64 0, .int .i64 0];have b4 := Blk.new (((w.alloc (.cells #[.slice a l.length c] 138)).alloc (.cells #[.int .i64 p] 3)).alloc (.cells #[.int .i64 0, .string ⟨#[]⟩, .int .i64 0, .int .i64 0] 70)) 3 #[.int .i64 0];have b5 := Blk.new ((((w.alloc (.cells #[.slice a l.length c] 138)).alloc (.cells #[.int .i64 p] 3)).alloc (.cells #[.int .i64 0, .string ⟨#[]⟩, .int .i64 0, .int .i64 0] 70)).alloc (.cells #[.int .i64 0] 3)) 29 #[.int .i64 0, .int .i64 0];simp only [World.size_alloc] at b2 b3 b4 b5;refine ⟨⟨⟨(((b1.alloc _).alloc _).alloc _).alloc _, ((b2.alloc _).alloc _).alloc _⟩, ⟨(b3.alloc _).alloc _, b4.alloc _, b5⟩, (((((Kept.refl w).alloc _).alloc _).alloc _).alloc _).alloc _, by simp, by simp⟩, by simp⟩
theorem SgnI.cel {w : World} {a : Option Addr} {c : Nat} {l : List UInt8} {p : Nat} {pre : List ByteArray} {W : World} (h : SgnI w a c l p pre W) :
  (W.cell? ⟨w.heap.size, 0, none⟩ = some (.slice a l.length c) /\ W.cell? ⟨w.heap.size + 1, 0, none⟩ = some (.int .i64 p)) /\
  (W.cell? ⟨w.heap.size + 1 + 1, 0, none⟩ = some (.int .i64 0) /\ W.cell? ⟨w.heap.size + 1 + 1, 1, none⟩ = some (.string ⟨#[]⟩) /\ W.cell? ⟨w.heap.size + 1 + 1, 2, none⟩ = some (.int .i64 0) /\ W.cell? ⟨w.heap.size + 1 + 1, 3, none⟩ = some (.int .i64 0)) /\
  W.cell? ⟨w.heap.size + 1 + 1 + 1, 0, none⟩ = some (.int .i64 0) /\ (W.cell? ⟨w.heap.size + 1 + 1 + 1 + 1, 0, none⟩ = some (.int .i64 0) /\ W.cell? ⟨w.heap.size + 1 + 1 + 1 + 1, 1, none⟩ = some (.int .i64 0)) := by
 obtain ⟨⟨h1, h2⟩, ⟨h3, h4, h5⟩, _⟩ := h;exact ⟨⟨h1.cell 0, h2.cell 0⟩, ⟨h3.cell 0, h3.cell 1, h3.cell 2, h3.cell 3⟩, h4.cell 0, h5.cell 0, h5.cell 1⟩
theorem SgnI.froz {w : World} {a : Option Addr} {c : Nat} {l : List UInt8} {p : Nat} {pre : List ByteArray} {W : World} (h : SgnI w a c l p pre W) :
  (W.frozen? ⟨w.heap.size + 1 + 1, 0, none⟩ = false /\ W.frozen? ⟨w.heap.size + 1 + 1, 1, none⟩ = false /\ W.frozen? ⟨w.heap.size + 1 + 1, 2, none⟩ = false /\ W.frozen? ⟨w.heap.size + 1 + 1, 3, none⟩ = false) /\
  W.frozen? ⟨w.heap.size + 1 + 1 + 1, 0, none⟩ = false /\ (W.frozen? ⟨w.heap.size + 1 + 1 + 1 + 1, 0, none⟩ = false /\ W.frozen? ⟨w.heap.size + 1 + 1 + 1 + 1, 1, none⟩ = false) := by
 obtain ⟨⟨h1, h2⟩, ⟨h3, h4, h5⟩, _⟩ := h;exact ⟨⟨h3.frozen 0, h3.frozen 1, h3.frozen 2, h3.frozen 3⟩, h4.frozen 0, h5.frozen 0, h5.frozen 1⟩
def put7 (W : World) (g2 g3 g4 : Nat) (k : Int) (x : ByteArray) (v po i e a : Int) : World :=
 ((((((W.setCell ⟨g2, 0, none⟩ (.int .i64 k)).setCell ⟨g2, 1, none⟩ (.string x)).setCell ⟨g2, 2, none⟩ (.int .i64 v)).setCell ⟨g2, 3, none⟩ (.int .i64 po)).setCell ⟨g3, 0, none⟩ (.int .i64 i)).setCell ⟨g4, 0, none⟩ (.int .i64 e)).setCell ⟨g4, 1, none⟩ (.int .i64 a)
theorem put7_keeps (W : World) (g2 g3 g4 : Nat) (k : Int) (x : ByteArray) (v po i e a : Int) : KeepsOthers W (put7 W g2 g3 g4 k x v po i e a) :=
 ((((((KeepsOthers.setCell W _ _).trans (KeepsOthers.setCell _ _ _)).trans (KeepsOthers.setCell _ _ _)).trans (KeepsOthers.setCell _ _ _)).trans (KeepsOthers.setCell _ _ _)).trans (KeepsOthers.setCell _ _ _)).trans (KeepsOthers.setCell _ _ _)
theorem put7_only (W : World) (g2 g3 g4 : Nat) (k : Int) (x : ByteArray) (v po i e a : Int) : Only (fun g => g = g2 ∨ g = g3 ∨ g = g4) W (put7 W g2 g3 g4 k x v po i e a) :=
 (((((((Only.refl _ W).setCell (.inl (.inl rfl)) _).setCell (.inl (.inl rfl)) _).setCell (.inl (.inl rfl)) _).setCell (.inl (.inl rfl)) _).setCell (.inl (.inr (.inl rfl))) _).setCell (.inl (.inr (.inr rfl))) _).setCell (.inl (.inr (.inr rfl))) _
theorem put7_blk {W : World} {g2 g3 g4 : Nat} {z0 z1 z2 z3 z4 z5 z6 : Value} (h2 : Blk W g2 70 #[z0, z1, z2, z3]) (h3 : Blk W g3 3 #[z4]) (h4 : Blk W g4 29 #[z5, z6]) (n1 : g2 ≠ g3) (n2 : g2 ≠ g4) (n3 : g3 ≠ g4) (k : Int) (x : ByteArray) (v po i e a : Int) :
  Blk (put7 W g2 g3 g4 k x v po i e a) g2 70 #[.int .i64 k, .string x, .int .i64 v, .int .i64 po] /\ Blk (put7 W g2 g3 g4 k x v po i e a) g3 3 #[.int .i64 i] /\ Blk (put7 W g2 g3 g4 k x v po i e a) g4 29 #[.int .i64 e, .int .i64 a] := by
 obtain ⟨W1, hW1⟩ : ∃ W1, (((W.setCell ⟨g2, 0, none⟩ (.int .i64 k)).setCell ⟨g2, 1, none⟩ (.string x)).setCell ⟨g2, 2, none⟩ (.int .i64 v)).setCell ⟨g2, 3, none⟩ (.int .i64 po) = W1 := ⟨_, rfl⟩;have o1 : Only (· = g2) W W1 := by rw [<- hW1]; exact ((((Only.refl _ W).put 0 _).put 1 _).put 2 _).put 3 _
 have b2 : Blk W1 g2 70 #[.int .i64 k, .string x, .int .i64 v, .int .i64 po] := by rw [<- hW1]; exact (((h2.put 0 (.int .i64 k)).put 1 (.string x)).put 2 (.int .i64 v)).put 3 (.int .i64 po)
 obtain ⟨W2, hW2⟩ : ∃ W2, W1.setCell ⟨g3, 0, none⟩ (.int .i64 i) = W2 := ⟨_, rfl⟩;have o2 : Only (· = g3) W1 W2 := by rw [<- hW2]; exact (Only.refl _ W1).put 0 _
 have b3 : Blk W2 g3 3 #[.int .i64 i] := by rw [<- hW2]; exact (h3.only o1 (fun h => n1 h.symm)).put 0 (.int .i64 i)
 obtain ⟨W3, hW3⟩ : ∃ W3, (W2.setCell ⟨g4, 0, none⟩ (.int .i64 e)).setCell ⟨g4, 1, none⟩ (.int .i64 a) = W3 := ⟨_, rfl⟩;have o3 : Only (· = g4) W2 W3 := by rw [<- hW3]; exact ((Only.refl _ W2).put 0 _).put 1 _
 have b4 : Blk W3 g4 29 #[.int .i64 e, .int .i64 a] := by rw [<- hW3]; exact (((h4.only o1 (fun h => n2 h.symm)).only o2 (fun h => n3 h.symm)).put 0 (.int .i64 e)).put 1 (.int .i64 a)
 unfold put7;rw [hW1, hW2, hW3];exact ⟨(b2.only o2 n1).only o3 n2, b3.only o3 n3, b4⟩
theorem SgnI.found {w : World} {a : Option Addr} {c : Nat} {l : List UInt8} {p : Nat} {pre : List ByteArray} {W : World} (h : SgnI w a c l p pre W) {x : ByteArray} (hx : Lx.has (l.drop p) x = true) :
  SgnX w l p .ret (pre ++ [x]) (put7 W (w.heap.size + 1 + 1) (w.heap.size + 1 + 1 + 1) (w.heap.size + 1 + 1 + 1 + 1) 7 x 0 p ((p : Int) + (x.size : Int)) 0 0).drew := by
 obtain ⟨⟨h1, h2⟩, ⟨h3, h4, h5⟩, h6, h7, h8⟩ := h;obtain ⟨b1, b2, b3⟩ := put7_blk h3 h4 h5 (by omega) (by omega) (by omega) 7 x 0 p ((p : Int) + (x.size : Int)) 0 0;have ho := put7_only W (w.heap.size + 1 + 1) (w.heap.size + 1 + 1 + 1) (w.heap.size + 1 + 1 + 1 + 1) 7 x 0 p ((p : Int) + (x.size : Int)) 0 0;exact ⟨rfl, pre, x, rfl, h8, hx, b1.drew, b2.drew, b3.drew, (h6.only ho rfl (fun k hk => by omega)).drew⟩
theorem SgnI.fin {w : World} {a : Option Addr} {c : Nat} {l : List UInt8} {p D : Nat} {pre : List ByteArray} {W : World} (h : SgnI w a c l p pre W) (hD : w.heap.size + 5 < D) (hK : W.heap[D]? = some (.deferred (some []))) :
  let W' := put7 W (w.heap.size + 1 + 1) (w.heap.size + 1 + 1 + 1) (w.heap.size + 1 + 1 + 1 + 1) 0 ⟨#[]⟩ 0 0 p 5 p
  Blk (W'.putObj D (.deferred none)) (w.heap.size + 1 + 1) 70 #[.int .i64 0, .string ⟨#[]⟩, .int .i64 0, .int .i64 0] /\ Blk (W'.putObj D (.deferred none)) (w.heap.size + 1 + 1 + 1) 3 #[.int .i64 p] /\ Blk (W'.putObj D (.deferred none)) (w.heap.size + 1 + 1 + 1 + 1) 29 #[.int .i64 5, .int .i64 p] /\
   W'.heap[D]? = some (.deferred (some [])) /\ Kept w (W'.putObj D (.deferred none)) := by
 intro W';obtain ⟨⟨h1, h2⟩, ⟨h3, h4, h5⟩, h6, h7, h8⟩ := h;obtain ⟨b1, b2, b3⟩ := put7_blk h3 h4 h5 (by omega) (by omega) (by omega) 0 ⟨#[]⟩ 0 0 p 5 p;have ho := put7_only W (w.heap.size + 1 + 1) (w.heap.size + 1 + 1 + 1) (w.heap.size + 1 + 1 + 1 + 1) 0 ⟨#[]⟩ 0 0 p 5 p;have hd : Only (· = D) W' (W'.putObj D (.deferred none)) := (Only.refl (· = D) W').putObj (.inl rfl) _;exact ⟨b1.only hd (by omega), b2.only hd (by omega), b3.only hd (by omega), ho.same hK (by omega), (h6.only ho rfl (fun k hk => by omega)).only hd rfl (fun k hk => by omega)⟩
theorem sign_c (a : Option Addr) (c : Nat) (l : List UInt8) (p : Nat) (w : World) (h : SrcAt w (.slice a l.length c) l) (hT : Tb w) (hp : p < l.length) (hl : l.length <= 20000) :
  Calls prog 162 #[.slice a l.length c, .int .i64 p] w fun r w' => r = .returned (wayV p (Lx.sign (l.drop p))) /\ Kept w w' := by
 have hcap := h.cap;unfold maxLen at hcap;obtain ⟨W1, hW1⟩ : ∃ W1, ((((w.alloc (.cells #[.slice a l.length c] 138)).alloc (.cells #[.int .i64 p] 3)).alloc (.cells #[.int .i64 0, .string ⟨#[]⟩, .int .i64 0, .int .i64 0] 70)).alloc (.cells #[.int .i64 0] 3)).alloc (.cells #[.int .i64 0, .int .i64 0] 29) = W1 := ⟨_, rfl⟩;obtain ⟨hI1, hsz1⟩ := sgnI_new w a c l p hW1;have HI1 := hid hI1;have HT := hid hT;have HS := hid h;have HW := hid hW1;have HSZ := hid hsz1;obtain ⟨R, hR⟩ : ∃ R, Lx.sign (l.drop p) = R := ⟨_, rfl⟩;rw [hR];have HRS := hid hR;clear hR;clear h hT hW1 hI1 hsz1;refine (callsIn_wide (n := 3)).1 (callsIn_of_wp_marks func162 rfl trivial (wpIn_wide.2 ?_) rfl);simp only [ntmps162, List.size_toArray, List.length_cons, List.length_nil, Nat.reduceAdd, Nat.reduceSub, Array.replicate_succ, Array.replicate_zero, List.push_toArray, List.append_toArray, List.nil_append, List.cons_append];go_wp2_with (rw [HW.o]);refine ((callsIn_wide (n := 1)).1 (fseq_in Fence.wide 1 trivial rfl Lx.sgs _)).mono ?_;rintro e w' ⟨rfl, rfl⟩;go_wp2_with fail;have b6 := Blk.new W1 9 #[.string Lx.sgs];have hk1 : Kept W1 (W1.alloc (.cells #[.string Lx.sgs] 9)) := (Kept.refl W1).alloc _;have hT1 := HT.o.kept HI1.o.2.2.1;have hT0 := hT1.kept hk1;have hI0 : SgnI w a c l p [] (W1.alloc (.cells #[.string Lx.sgs] 9)) := by
  obtain ⟨⟨h1, h2⟩, ⟨h3, h4, h5⟩, h6, h7, h8⟩ := HI1.o;exact ⟨⟨h1.kept hk1, h2.kept hk1⟩, ⟨h3.kept hk1, h4.kept hk1, h5.kept hk1⟩, h6.trans hk1, Nat.le_trans h7 hk1.size, h8⟩
 have hlt := hT1.lt;refine wpIn_wide.1 (wpIn_rangeFunc_ownG (F := Fence.wide) (n := 3) rfl (by omega) (gf := 141) (lb := #[.pointer (some ⟨W1.heap.size, 0, none⟩)]) rfl trivial (enters_of func141 (by kernel_rfl) rfl)
  (fseq_stops Fence.wide (3 - 1) trivial rfl (by omega) W1.heap.size Lx.sgs Lx.size_sgs Lx.ascii_sgs _ hT0 (by simp) (b6.cell 0)) kp3_t (kp3_b hT0 (by simp)) (Below.refl _ _) (fun _ => rfl)
  (SgnI w a c l p) (SgnX w l p) (sgnI_from w a c l p _ (by have := HSZ.o; simp; omega)) (fun c => sgnX_from w l p c _ (by have := HSZ.o; simp; omega))
  hI0
  (fun x => { tmps := #[.slice a l.length c, .int .i64 p, .pointer (some ⟨w.heap.size, 0, none⟩), .pointer (some ⟨w.heap.size + 1, 0, none⟩), .pointer (some ⟨w.heap.size + 1 + 1, 0, none⟩), .pointer (some ⟨w.heap.size + 1 + 1 + 1, 0, none⟩), .pointer (some ⟨w.heap.size + 1 + 1 + 1 + 1, 0, none⟩), .string x, .func (.func 141) #[] #[.pointer (some ⟨W1.heap.size, 0, none⟩)], .string x, undef, undef, undef, undef, undef, undef, undef, undef, undef, undef, undef, undef, undef, undef, undef, undef, undef], defers := [] }) ?assign ?body ?done ?stop)
 case assign =>
  intro l x W K hK
  gi_wp2
  exact hK
 case body =>
  rintro lr pre x W hI hlt';have HI := hid hI;have HSM := hid (src_kept HS.o hI.2.2.1);obtain ⟨⟨c1, c2⟩, _⟩ := hI.cel;clear hI b6 hk1 hT1 hT0 hI0 HW;have HH := hid (has_any x a c l p W HSM.o (by omega))
  cases hh : Lx.has (l.drop p) x with
  | false =>
   rw [hh] at HH;have HI2 := hid (show SgnI w a c l p (pre ++ [x]) W by
    obtain ⟨h1, h2, h3, h4, h5⟩ := HI.o;exact ⟨h1, h2, h3, h4, fun y hy => by
     rcases List.mem_append.1 hy with h | h
     ·exact h5 y h
     ·rw [List.mem_singleton] at h; subst h; exact hh⟩)
   clear hh
   gi_wp2
   refine ⟨trivial, (CallsIn.inRound lr (callsIn_wide.2 HH.o)).mono ?_⟩;rintro e w2 ⟨rfl, rfl⟩
   gi_wp2
   exact ⟨KeepsFrom.refl _ _, ⟨Nat.le_refl _, fun _ _ => rfl⟩, HI2.o⟩
  | true =>
   rw [hh] at HH;obtain ⟨⟨f0, f1, f2, f3⟩, f4, f5, f6⟩ := HI.o.froz
   gi_wp2
   refine ⟨trivial, (CallsIn.inRound lr (callsIn_wide.2 HH.o)).mono ?_⟩;rintro e w2 ⟨rfl, rfl⟩;obtain ⟨_, hd0, hd1, hd2⟩ := HI.o.cel;obtain ⟨g1, ⟨g2, g3, g4, g5⟩, g6, ⟨g7, g8⟩, _⟩ : (w2.drew.cell? ⟨w.heap.size + 1, 0, none⟩ = some (.int .i64 p)) /\ (w2.drew.cell? ⟨w.heap.size + 1 + 1, 0, none⟩ = some (.int .i64 0) /\ w2.drew.cell? ⟨w.heap.size + 1 + 1, 1, none⟩ = some (.string ⟨#[]⟩) /\ w2.drew.cell? ⟨w.heap.size + 1 + 1, 2, none⟩ = some (.int .i64 0) /\ w2.drew.cell? ⟨w.heap.size + 1 + 1, 3, none⟩ = some (.int .i64 0)) /\
    w2.drew.cell? ⟨w.heap.size + 1 + 1 + 1, 0, none⟩ = some (.int .i64 0) /\ (w2.drew.cell? ⟨w.heap.size + 1 + 1 + 1 + 1, 0, none⟩ = some (.int .i64 0) /\ w2.drew.cell? ⟨w.heap.size + 1 + 1 + 1 + 1, 1, none⟩ = some (.int .i64 0)) /\ True := ⟨c2, hd0, hd1, hd2, trivial⟩
   have HX := hid (HI.o.found hh);have hxl := (Lx.has_take hh).1;rw [List.length_drop] at hxl;have hwr : IntKind.i64.wrap ((p : Int) + (x.size : Int)) = (p : Int) + (x.size : Int) := IntWalk.i64_in _ (by omega);clear hh HI HSM HH HS HT hd0 hd1 hd2
   gi_wp2
   refine wpIn_region_of_any (by kernel_rfl) (by kernel_rfl) (by rintro ⟨_, _, h⟩; exact h) ?_;change wpAny _ _ _ _ _ _ _ (World.drew _);refine tkA 0 ?_;refine tkA 4 ?_;refine tkA 5 ?_;refine tkA 7 ?_;refine rdA [1, 3] ?_;refine aR (fun K hK => ?_) ?_
   ·go_simp;refine hK _ _ ?_; clear hK K;refine tkA 2 ?_;refine rdA [3, 8] ?_;refine aR (fun K hK => ?_) ?_
    ·go_simp;refine hK _ _ ?_; clear hK K;refine tkA 6 ?_;refine rdA [8] ?_;refine aR (fun K hK => ?_) ?_
     ·go_simp;refine hK _ _ ?_; clear hK K;refine rdA [9] ?_;refine aR (fun K hK => ?_) ?_
      ·go_simp;refine hK _ _ ?_; clear hK K;refine rdA [10] ?_;refine aR (fun K hK => ?_) ?_
       ·go_simp;refine hK _ _ ?_; clear hK K;refine wpAny_done (by kernel_rfl) ?_ _
        gi_wp2
        exact ⟨((put7_keeps _ _ _ _ _ _ _ _ _ _ _).trans (KeepsOthers.drew _)).from _, HX.o⟩
       exact AllReady.nil
      exact AllReady.nil
     exact AllReady.nil
    refine aR (fun K hK => ?_) ?_
    ·go_simp;refine hK _ _ ?_; clear hK K;refine rdA [3] ?_;refine aR (fun K hK => ?_) ?_
     ·go_simp;refine hK _ _ ?_; clear hK K;refine tkA 6 ?_;refine rdA [9] ?_;refine aR (fun K hK => ?_) ?_
      ·go_simp;refine hK _ _ ?_; clear hK K;refine rdA [10] ?_;refine aR (fun K hK => ?_) ?_
       ·go_simp;refine hK _ _ ?_; clear hK K;refine wpAny_done (by kernel_rfl) ?_ _
        gi_wp2
        exact ⟨((put7_keeps _ _ _ _ _ _ _ _ _ _ _).trans (KeepsOthers.drew _)).from _, HX.o⟩
       exact AllReady.nil
      exact AllReady.nil
     exact AllReady.nil
    exact AllReady.nil
   refine aR (fun K hK => ?_) ?_
   ·go_simp;refine hK _ _ ?_; clear hK K;refine tkA 6 ?_;refine rdA [1] ?_;refine aR (fun K hK => ?_) ?_
    ·go_simp;refine hK _ _ ?_; clear hK K;refine tkA 2 ?_;refine rdA [8] ?_;refine aR (fun K hK => ?_) ?_
     ·go_simp;refine hK _ _ ?_; clear hK K;refine rdA [9] ?_;refine aR (fun K hK => ?_) ?_
      ·go_simp;refine hK _ _ ?_; clear hK K;refine rdA [10] ?_;refine aR (fun K hK => ?_) ?_
       ·go_simp;refine hK _ _ ?_; clear hK K;refine wpAny_done (by kernel_rfl) ?_ _
        gi_wp2
        exact ⟨((put7_keeps _ _ _ _ _ _ _ _ _ _ _).trans (KeepsOthers.drew _)).from _, HX.o⟩
       exact AllReady.nil
      exact AllReady.nil
     exact AllReady.nil
    exact AllReady.nil
   exact AllReady.nil
 case done =>
  rintro D ys W hD hys hI hK;subst hys;rw [Lx.flds_sgs] at hI;have HI := hid hI;obtain ⟨⟨c1, c2⟩, ⟨d0, d1, d2, d3⟩, d4, d5, d6⟩ := hI.cel;obtain ⟨⟨f0, f1, f2, f3⟩, f4, f5, f6⟩ := hI.froz;have HE := hid (show R = .bad 5 0 by
   rw [<- HRS.o];unfold Lx.sign;rw [List.find?_eq_none.2 (fun y hy => by rw [hI.2.2.2.2 y hy]; decide)])
  clear hI;go_wp2_with fail;refine (refuse_y _ 5 p _ (by omega)).mono ?_;rintro e W2 ⟨rfl, k2⟩;have HI2 := hid (HI.o.kept k2);have hK2 := (k2.block D (Array.getElem?_eq_some_iff.1 hK).1).trans hK;clear c1 c2 d0 d1 d2 d3 d4 d5 d6 f0 f1 f2 f3 f4 f5 f6 HI k2 hK;have hDl : W1.heap.size + 1 <= D := by simpa using hD
  have HD := hid hDl;clear hD hDl;obtain ⟨_, ⟨d0, d1, d2, d3⟩, d4, d5, d6⟩ := HI2.o.cel;obtain ⟨⟨f0, f1, f2, f3⟩, f4, f5, f6⟩ := HI2.o.froz;go_wp2_with fail;have HF := hid (HI2.o.fin (by have := HD.o; have := HSZ.o; omega) hK2);obtain ⟨hb1, hb2, hb3, hb4, hb5⟩ := HF.o;refine ⟨by simp, .inl ⟨_, _, rfl, run_takeDeferred hb4, ?_⟩⟩;exact ⟨_, sgn_results (by rfl) _ _ rfl rfl rfl hb1 hb2 hb3, by rw [HE.o]; rfl, hb5⟩
 case stop =>
  rintro D cd pre W hD hpre ⟨rfl, pre', x, rfl, h2, h3, h4, h5, h6, h7⟩ hK;have HE := hid (show R = .tok 7 x 0 x.size by
   rw [<- HRS.o];unfold Lx.sign;rw [find_at (by rw [<- Lx.flds_sgs]; exact hpre) h2 h3])
  gi_wp2
  refine ⟨by simp, .inl ⟨_, _, rfl, run_takeDeferred hK, ?_⟩⟩;have hDl : W1.heap.size + 1 <= D := by simpa using hD
  have hz := HSZ.o;have ho : Only (· = D) W (W.putObj D (.deferred none)) := (Only.refl (· = D) W).putObj (.inl rfl) _;exact ⟨_, sgn_results (by rfl) _ _ rfl rfl rfl (h4.only ho (by omega)) (h5.only ho (by omega)) (h6.only ho (by omega)), by rw [HE.o]; rfl, h7.only ho rfl (fun k hk => by omega)⟩
end Go.Proofs.YtegcgflhgfmkpaaGreatDoor
