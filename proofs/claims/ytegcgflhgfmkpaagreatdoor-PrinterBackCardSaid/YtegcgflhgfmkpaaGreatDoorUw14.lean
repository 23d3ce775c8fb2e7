/- Texts. -/
import Derived.Test.YtegcgflhgfmkpaaGreatDoorUTkm
import Derived.Test.YtegcgflhgfmkpaaGreatDoorUw5
import Derived.Test.YtegcgflhgfmkpaaGreatDoorUNam
import Derived.Test.YtegcgflhgfmkpaaGreatDoorUw1
import Derived.Laws.BytesString
import Derived.Laws.Rows
import Derived.WalkMore
import Derived.Sort.LoopGhostIn
set_option linter.unusedSimpArgs false
set_option linter.unusedVariables false
set_option maxRecDepth 100000
set_option maxHeartbeats 16000000
namespace Go.Proofs.YtegcgflhgfmkpaaGreatDoor
open Lib (hid)
open _root_.Go.Proofs.Tryz
open Go.ChangeShapes Go.WideShapes Go.ChangeAt Go.RowKit Go.Shelf
attribute [local go_sem] Oper.semAt_some
theorem lkind_c (c : UInt8) (w : World) : Calls prog 156 #[.int .u8 c.toNat] w fun e w' => e = .returned (.int .i64 (Lx.kd c)) /\ w' = w := by
 have hn := c.toNat_lt;obtain ⟨k, hk⟩ : ∃ k, Lx.kd c = k := ⟨_, rfl⟩;rw [hk];unfold Lx.kd at hk;generalize c.toNat = n at *;by_cases x32 : n = 32
 ·subst x32;obtain rfl : 1 = k := by rw [<- hk]; rfl
  clear hk;go_enter func156, ntmps156;go_wp2
  go_ret;exact ⟨rfl, rfl⟩
 by_cases x9 : n = 9
 ·subst x9;obtain rfl : 1 = k := by rw [<- hk]; rfl
  clear hk;go_enter func156, ntmps156;go_wp2
  go_ret;exact ⟨rfl, rfl⟩
 by_cases x10 : n = 10
 ·subst x10;obtain rfl : 1 = k := by rw [<- hk]; rfl
  clear hk;go_enter func156, ntmps156;go_wp2
  go_ret;exact ⟨rfl, rfl⟩
 by_cases x13 : n = 13
 ·subst x13;obtain rfl : 1 = k := by rw [<- hk]; rfl
  clear hk;go_enter func156, ntmps156;go_wp2
  go_ret;exact ⟨rfl, rfl⟩
 by_cases x34 : n = 34
 ·subst x34;obtain rfl : 4 = k := by rw [<- hk]; rfl
  clear hk;go_enter func156, ntmps156;go_wp2
  go_ret;exact ⟨rfl, rfl⟩
 by_cases y97 : 97 <= n /\ n <= 122
 ·obtain rfl : 2 = k := by rw [<- hk]; rw [if_neg (by omega), if_pos (by omega)]
  clear hk;have e32 : ((n : Int) == 32) = false := by simp; omega
  have e9 : ((n : Int) == 9) = false := by simp; omega
  have e10 : ((n : Int) == 10) = false := by simp; omega
  have e13 : ((n : Int) == 13) = false := by simp; omega
  have e34 : ((n : Int) == 34) = false := by simp; omega
  have g97 : (97 : Int) <= (n : Int) := by omega
  have g65 : (65 : Int) <= (n : Int) := by omega
  have g48 : (48 : Int) <= (n : Int) := by omega
  have h122 : (n : Int) <= 122 := by omega
  have h90 : ¬ (n : Int) <= 90 := by omega
  have h57 : ¬ (n : Int) <= 57 := by omega
  clear x32 x9 x10 x13 x34;go_enter func156, ntmps156;go_wp2
  go_ret;exact ⟨rfl, rfl⟩
 by_cases y65 : 65 <= n /\ n <= 90
 ·obtain rfl : 2 = k := by rw [<- hk]; rw [if_neg (by omega), if_pos (by omega)]
  clear hk;have e32 : ((n : Int) == 32) = false := by simp; omega
  have e9 : ((n : Int) == 9) = false := by simp; omega
  have e10 : ((n : Int) == 10) = false := by simp; omega
  have e13 : ((n : Int) == 13) = false := by simp; omega
  have e34 : ((n : Int) == 34) = false := by simp; omega
  have g97 : ¬ (97 : Int) <= (n : Int) := by omega
  have g65 : (65 : Int) <= (n : Int) := by omega
  have g48 : (48 : Int) <= (n : Int) := by omega
  have h122 : (n : Int) <= 122 := by omega
  have h90 : (n : Int) <= 90 := by omega
  have h57 : ¬ (n : Int) <= 57 := by omega
  clear x32 x9 x10 x13 x34;go_enter func156, ntmps156;go_wp2
  go_ret;exact ⟨rfl, rfl⟩
 by_cases y48 : 48 <= n /\ n <= 57
 ·obtain rfl : 3 = k := by rw [<- hk]; rw [if_neg (by omega), if_neg (by omega), if_pos (by omega)]
  clear hk;have e32 : ((n : Int) == 32) = false := by simp; omega
  have e9 : ((n : Int) == 9) = false := by simp; omega
  have e10 : ((n : Int) == 10) = false := by simp; omega
  have e13 : ((n : Int) == 13) = false := by simp; omega
  have e34 : ((n : Int) == 34) = false := by simp; omega
  have g97 : ¬ (97 : Int) <= (n : Int) := by omega
  have g65 : ¬ (65 : Int) <= (n : Int) := by omega
  have g48 : (48 : Int) <= (n : Int) := by omega
  have h122 : (n : Int) <= 122 := by omega
  have h90 : (n : Int) <= 90 := by omega
  have h57 : (n : Int) <= 57 := by omega
  clear x32 x9 x10 x13 x34;go_enter func156, ntmps156;go_wp2
  go_ret;exact ⟨rfl, rfl⟩
 by_cases y123 : 123 <= n
 ·obtain rfl : 0 = k := by rw [<- hk]; rw [if_neg (by omega), if_neg (by omega), if_neg (by omega), if_neg (by omega)]
  clear hk;have e32 : ((n : Int) == 32) = false := by simp; omega
  have e9 : ((n : Int) == 9) = false := by simp; omega
  have e10 : ((n : Int) == 10) = false := by simp; omega
  have e13 : ((n : Int) == 13) = false := by simp; omega
  have e34 : ((n : Int) == 34) = false := by simp; omega
  have g97 : (97 : Int) <= (n : Int) := by omega
  have g65 : (65 : Int) <= (n : Int) := by omega
  have g48 : (48 : Int) <= (n : Int) := by omega
  have h122 : ¬ (n : Int) <= 122 := by omega
  have h90 : ¬ (n : Int) <= 90 := by omega
  have h57 : ¬ (n : Int) <= 57 := by omega
  clear x32 x9 x10 x13 x34;go_enter func156, ntmps156;go_wp2
  go_ret;exact ⟨rfl, rfl⟩
 by_cases y91 : 91 <= n
 ·obtain rfl : 0 = k := by rw [<- hk]; rw [if_neg (by omega), if_neg (by omega), if_neg (by omega), if_neg (by omega)]
  clear hk;have e32 : ((n : Int) == 32) = false := by simp; omega
  have e9 : ((n : Int) == 9) = false := by simp; omega
  have e10 : ((n : Int) == 10) = false := by simp; omega
  have e13 : ((n : Int) == 13) = false := by simp; omega
  have e34 : ((n : Int) == 34) = false := by simp; omega
  have g97 : ¬ (97 : Int) <= (n : Int) := by omega
  have g65 : (65 : Int) <= (n : Int) := by omega
  have g48 : (48 : Int) <= (n : Int) := by omega
  have h122 : (n : Int) <= 122 := by omega
  have h90 : ¬ (n : Int) <= 90 := by omega
  have h57 : ¬ (n : Int) <= 57 := by omega
  clear x32 x9 x10 x13 x34;go_enter func156, ntmps156;go_wp2
  go_ret;exact ⟨rfl, rfl⟩
 by_cases y58 : 58 <= n
 ·obtain rfl : 0 = k := by rw [<- hk]; rw [if_neg (by omega), if_neg (by omega), if_neg (by omega), if_neg (by omega)]
  clear hk;have e32 : ((n : Int) == 32) = false := by simp; omega
  have e9 : ((n : Int) == 9) = false := by simp; omega
  have e10 : ((n : Int) == 10) = false := by simp; omega
  have e13 : ((n : Int) == 13) = false := by simp; omega
  have e34 : ((n : Int) == 34) = false := by simp; omega
  have g97 : ¬ (97 : Int) <= (n : Int) := by omega
  have g65 : ¬ (65 : Int) <= (n : Int) := by omega
  have g48 : (48 : Int) <= (n : Int) := by omega
  have h122 : (n : Int) <= 122 := by omega
  have h90 : (n : Int) <= 90 := by omega
  have h57 : ¬ (n : Int) <= 57 := by omega
  clear x32 x9 x10 x13 x34;go_enter func156, ntmps156;go_wp2
  go_ret;exact ⟨rfl, rfl⟩
 obtain rfl : 0 = k := by rw [<- hk]; rw [if_neg (by omega), if_neg (by omega), if_neg (by omega), if_neg (by omega)]
 clear hk;have e32 : ((n : Int) == 32) = false := by simp; omega
 have e9 : ((n : Int) == 9) = false := by simp; omega
 have e10 : ((n : Int) == 10) = false := by simp; omega
 have e13 : ((n : Int) == 13) = false := by simp; omega
 have e34 : ((n : Int) == 34) = false := by simp; omega
 have g97 : ¬ (97 : Int) <= (n : Int) := by omega
 have g65 : ¬ (65 : Int) <= (n : Int) := by omega
 have g48 : ¬ (48 : Int) <= (n : Int) := by omega
 have h122 : (n : Int) <= 122 := by omega
 have h90 : (n : Int) <= 90 := by omega
 have h57 : (n : Int) <= 57 := by omega
 clear x32 x9 x10 x13 x34;go_enter func156, ntmps156;go_wp2
 go_ret;exact ⟨rfl, rfl⟩
theorem lpr_c (c : UInt8) (w : World) : Calls prog 175 #[.int .u8 c.toNat] w fun e w' => e = .returned (.bool (Lx.pr c)) /\ w' = w := by
 have hn := c.toNat_lt;obtain ⟨k, hk⟩ : ∃ k, Lx.pr c = k := ⟨_, rfl⟩;rw [hk];unfold Lx.pr at hk;generalize c.toNat = n at *;by_cases a : 32 <= n
 ·have a' : (32 : Int) <= (n : Int) := by omega
  by_cases b : n <= 126
  ·have b' : (n : Int) <= 126 := by omega
   obtain rfl : true = k := by rw [<- hk]; simp [a, b]
   clear hk;go_enter func175, ntmps175;go_wp2
   go_ret;exact ⟨rfl, rfl⟩
  ·have b' : ¬ (n : Int) <= 126 := by omega
   obtain rfl : false = k := by rw [<- hk]; simp [a, b]
   clear hk;go_enter func175, ntmps175;go_wp2
   go_ret;exact ⟨rfl, rfl⟩
 ·have a' : ¬ (32 : Int) <= (n : Int) := by omega
  obtain rfl : false = k := by rw [<- hk]; simp [a]
  clear hk;go_enter func175, ntmps175;go_wp2
  go_ret;exact ⟨rfl, rfl⟩
theorem eix_0 (W : World) : (Instr.index 171 (.agg #[.int .u8 34, .int .u8 34, .int .u8 92, .int .u8 92, .int .u8 110, .int .u8 10]) (.int .i64 0)).run prog W = .ok (.agg #[.int .u8 34, .int .u8 34]) W := rfl
theorem eix_1 (W : World) : (Instr.index 171 (.agg #[.int .u8 34, .int .u8 34, .int .u8 92, .int .u8 92, .int .u8 110, .int .u8 10]) (.int .i64 1)).run prog W = .ok (.agg #[.int .u8 92, .int .u8 92]) W := rfl
theorem eix_2 (W : World) : (Instr.index 171 (.agg #[.int .u8 34, .int .u8 34, .int .u8 92, .int .u8 92, .int .u8 110, .int .u8 10]) (.int .i64 2)).run prog W = .ok (.agg #[.int .u8 110, .int .u8 10]) W := rfl
theorem lmeant_c (c : UInt8) (w : World) (hT : Tb w) : Calls prog 174 #[.int .u8 c.toNat] w fun e w' => (match Lx.meant c with | some m => e = .returned (.tuple #[.int .u8 m.toNat, .bool true]) | none => e = .returned (.tuple #[.int .u8 0, .bool false])) /\ Kept w w' := by
 obtain ⟨t, fr, hc⟩ := hT.esc;have hc : w.heap[2]? = some (.cells #[.int .u8 34, .int .u8 34, .int .u8 92, .int .u8 92, .int .u8 110, .int .u8 10] t fr) := hc;have c0 := cell_of_row w _ 0 _ t fr hc;have c1 := cell_of_row w _ 1 _ t fr hc;have c2 := cell_of_row w _ 2 _ t fr hc;have c3 := cell_of_row w _ 3 _ t fr hc;have c4 := cell_of_row w _ 4 _ t fr hc;have c5 := cell_of_row w _ 5 _ t fr hc;simp at c0 c1 c2 c3 c4 c5;clear hc;have hn := c.toNat_lt;obtain ⟨q, hq⟩ : ∃ q, Lx.meant c = q := ⟨_, rfl⟩;rw [hq];have hqq := hq;unfold Lx.meant at hqq;generalize hcn : c.toNat = n at *;go_enter func174, ntmps174;go_wp2
 clear c0 c1 c2 c3 c4 c5;go_loopw [7] (fun i wr => ∃ k : Nat, k <= 3 /\ i = .int .i64 k /\ Kept w wr /\ (1 <= k -> n ≠ 34) /\ (2 <= k -> n ≠ 92) /\ (3 <= k -> n ≠ 110)) (fun i wr => 3 - (intOf i).toNat)
 case atStart => exact ⟨0, by omega, rfl, Kept.refl _, by omega, by omega, by omega⟩
 case round =>
  obtain ⟨k, hk, rfl, hkp, h1, h2, h3⟩ := hrel;have hk' : k = 0 ∨ k = 1 ∨ k = 2 ∨ k = 3 := by omega
  rcases hk' with rfl | rfl | rfl | rfl
  ·have hi := eix_0 wr;by_cases hx : n = 34
   ·subst hx;obtain rfl : some 34 = q := by rw [<- hqq]; rfl
    clear hqq h1 h2 h3;go_wp2
    go_ret2
    exact ⟨rfl, hkp.alloc _⟩
   ·have hb : (((34 : Nat) : Int) == (n : Int)) = false := by simp; omega
    have hb2 : ((n : Int) == 34) = false := by simp; omega
    have hb3 : (34 == (n : Int)) = false := by simp; omega
    go_wp2
    go_roundw
    case rel => exact ⟨1, by omega, rfl, hkp.alloc _, by omega, by omega, by omega⟩
    case measure => simp [intOf]
  ·have hi := eix_1 wr;by_cases hx : n = 92
   ·subst hx;obtain rfl : some 92 = q := by rw [<- hqq]; rfl
    clear hqq h1 h2 h3;go_wp2
    go_ret2
    exact ⟨rfl, hkp.alloc _⟩
   ·have hb : (((92 : Nat) : Int) == (n : Int)) = false := by simp; omega
    have hb2 : ((n : Int) == 92) = false := by simp; omega
    have hb3 : (92 == (n : Int)) = false := by simp; omega
    go_wp2
    go_roundw
    case rel => exact ⟨2, by omega, rfl, hkp.alloc _, by omega, by omega, by omega⟩
    case measure => simp [intOf]
  ·have hi := eix_2 wr;by_cases hx : n = 110
   ·subst hx;obtain rfl : some 10 = q := by rw [<- hqq]; rfl
    clear hqq h1 h2 h3;go_wp2
    go_ret2
    exact ⟨rfl, hkp.alloc _⟩
   ·have hb : (((110 : Nat) : Int) == (n : Int)) = false := by simp; omega
    have hb2 : ((n : Int) == 110) = false := by simp; omega
    have hb3 : (110 == (n : Int)) = false := by simp; omega
    go_wp2
    go_roundw
    case rel => exact ⟨3, by omega, rfl, hkp.alloc _, by omega, by omega, by omega⟩
    case measure => simp [intOf]
  ·obtain rfl : none = q := by rw [<- hqq, if_neg (h1 (by omega)), if_neg (h2 (by omega)), if_neg (h3 (by omega))]
   clear hqq;go_wp2
   go_ret2
   exact ⟨rfl, hkp⟩
def ByteR (w : World) (b o : Nat) (c : UInt8) : Prop := w.cell? ⟨b, o, none⟩ = some (.int .u8 c.toNat)
abbrev SrcAt (w : World) (v : Value) (l : List UInt8) : Prop := Row 1 ByteR w v l
theorem src_kept {w w' : World} {v : Value} {l : List UInt8} (h : SrcAt w v l) (k : Kept w w') : SrcAt w' v l := h.mono fun _ _ _ r => k.cell r
theorem SrcAt.at {w : World} {a : Option Addr} {c : Nat} {l : List UInt8} (h : SrcAt w (.slice a l.length c) l) {i : Nat} (hi : i < l.length) :
  ∃ b o, a = some ⟨b, o, none⟩ /\ w.cell? ⟨b, o + i, none⟩ = some (.int .u8 l[i].toNat) := by
 obtain ⟨a', c', e, h1, h2, h3⟩ := h;injection e with e1 e2 e3;subst e1 e3;obtain ⟨b, o, e, hc⟩ := h3 i l[i] (List.getElem?_eq_getElem hi);rw [Nat.mul_one] at hc;exact ⟨b, o, e, hc⟩
theorem SrcAt.cap {w : World} {a : Option Addr} {c : Nat} {l : List UInt8} (h : SrcAt w (.slice a l.length c) l) : l.length <= c /\ c <= maxLen := by
 obtain ⟨a', c', e, h1, h2, h3⟩ := h;injection e with e1 e2 e3;subst e1 e3;exact ⟨h1, h2⟩
abbrev tagg (k : Int) (x : ByteArray) (n p : Int) : Value := .agg #[.int .i64 k, .string x, .int .i64 n, .int .i64 p]
abbrev fagg (e a : Int) : Value := .agg #[.int .i64 e, .int .i64 a]
abbrev badV (e p : Int) : Value := .tuple #[tagg 0 ⟨#[]⟩ 0 0, .int .i64 p, fagg e p]
theorem way_results {fn : Func} {p u q : Tmp} (h : fn.results = #[.cell p 70, .tmp u, .cell q 29]) (tmps : Array Value) (W : World) {g g' : Nat} {k n po e a' : Value} {x : Value}
  (hp : tmps.getD p undef = .pointer (some ⟨g, 0, none⟩)) (hq : tmps.getD q undef = .pointer (some ⟨g', 0, none⟩))
  (hg : Blk W g 70 #[k, x, n, po]) (hg' : Blk W g' 29 #[e, a']) :
  (results fn tmps).run prog W = .ok (.tuple #[.agg #[k, x, n, po], tmps.getD u undef, .agg #[e, a']]) W := by
 have hp' : tmps[p]?.getD undef = .pointer (some ⟨g, 0, none⟩) := by simpa using hp
 have hq' : tmps[q]?.getD undef = .pointer (some ⟨g', 0, none⟩) := by simpa using hq
 have e1 := run_loadVar_row (P := prog) W g 70 70 #[k, x, n, po] (0, 0) _ hg underlying70 (by rfl) (by kernel_rfl);have e2 := run_loadVar_row (P := prog) W g' 29 29 #[e, a'] (0, 0) _ hg' underlying29 (by rfl) (by kernel_rfl);simp [results, h, hp', hq', asAddr, e1, e2]
theorem refuse_c (e p : Int) (w : World) : Calls prog 172 #[.int .i64 e, .int .i64 p] w fun r w' => r = .returned (badV e p) /\ Kept w w' := by
 go_enter func172, ntmps172;go_wp2
 refine bodyPost_ret (way_results (by rfl) _ _ rfl rfl ((Blk.new _ _ _).alloc _) ?_) rfl ⟨rfl, ((Kept.refl w).alloc _).alloc _⟩;have := Blk.new (w.alloc (.cells #[.int .i64 0, .string ⟨#[]⟩, .int .i64 0, .int .i64 0] 70)) 29 #[.int .i64 e, .int .i64 p]
 simpa using this
theorem drop_at {l : List UInt8} {k : Nat} (h : k < l.length) : l.drop k = l[k] :: l.drop (k + 1) := List.drop_eq_getElem_cons h
theorem lineEnd_c (a : Option Addr) (c : Nat) (l : List UInt8) (p : Nat) (w : World) (h : SrcAt w (.slice a l.length c) l) (hp : p <= l.length) :
  Calls prog 158 #[.slice a l.length c, .int .i64 p] w fun r w' => r = .returned (.int .i64 ((p + Lx.run Lx.nl (l.drop p) : Nat) : Int)) /\ Kept w w' := by
 have hcap := h.cap;unfold maxLen at hcap;have HS := hid h;clear h;obtain ⟨m, hm⟩ : ∃ m, p + Lx.run Lx.nl (l.drop p) = m := ⟨_, rfl⟩;rw [hm];have HM := hid hm.symm;clear hm;go_enter func158, ntmps158;go_wp2
 go_loopw [1] (fun i wr => ∃ k : Nat, p <= k /\ k <= l.length /\ i = .int .i64 k /\ Hid (m = k + Lx.run Lx.nl (l.drop k)) /\ Kept w wr) (fun i wr => l.length - (intOf i).toNat)
 case atStart => exact ⟨p, Nat.le_refl _, hp, rfl, HM, Kept.refl _⟩
 case round =>
  obtain ⟨k, hpk, hk, rfl, HE, hkp⟩ := hrel;by_cases hlt : k < l.length
  ·have hltI : (k : Int) < (l.length : Int) := by omega
   obtain ⟨b, o, rfl, y⟩ := HS.o.at hlt;have y0 := hkp.cell y;have HE2 := HE.o;rw [drop_at hlt, Lx.run] at HE2;clear y HE;generalize l[k] = ch at *;have hn := ch.toNat_lt
   cases hnl : Lx.nl ch with
   | true =>
    rw [hnl, if_pos rfl] at HE2;have HE := hid HE2;clear HE2;unfold Lx.nl at hnl;generalize ch.toNat = n at *;have f1 : ((n : Int) == 10) = false := by simp at hnl ⊢; omega
    have f2 : ((n : Int) != 10) = true := by simp at hnl ⊢; omega
    clear hnl;go_wp2
    go_roundw
    case rel => exact ⟨k + 1, by omega, by omega, by go_num, hid (by rw [HE.o]; omega), hkp⟩
    case measure => simp [intOf]; omega
   | false =>
    rw [hnl, if_neg (by decide)] at HE2;obtain rfl : m = k := HE2;unfold Lx.nl at hnl;generalize ch.toNat = n at *;have hn10 : n = 10 := by simpa using hnl
    subst hn10;clear hnl;go_wp2
    go_ret;exact ⟨rfl, hkp⟩
  ·obtain rfl : k = l.length := by omega
   have HE2 := HE.o;rw [List.drop_of_length_le (Nat.le_refl _)] at HE2;obtain rfl : m = l.length := HE2;have hltI : ¬ (l.length : Int) < (l.length : Int) := by omega
   clear HE HM;go_wp2
   go_ret;exact ⟨rfl, hkp⟩
theorem run_c (an : Bool) (a : Option Addr) (c : Nat) (l : List UInt8) (p : Nat) (w : World) (h : SrcAt w (.slice a l.length c) l) (hp : p <= l.length) :
  Calls prog 171 #[.slice a l.length c, .int .i64 p, .bool an] w fun r w' => r = .returned (.int .i64 ((p + Lx.run (if an then Lx.an else Lx.dg) (l.drop p) : Nat) : Int)) /\ Kept w w' := by
 obtain ⟨f, hf⟩ : ∃ f, (if an then Lx.an else Lx.dg) = f := ⟨_, rfl⟩;rw [hf];have hcap := h.cap;unfold maxLen at hcap;have HS := hid h;have HF := hid hf;obtain ⟨m, hm⟩ : ∃ m, p + Lx.run f (l.drop p) = m := ⟨_, rfl⟩;rw [hm];have HM := hid hm.symm;clear h hf hm;go_enter func171, ntmps171;go_wp2_with fail;go_step3
 go_wp2_with fail;go_step3
 go_wp2_with fail;go_loopw [1] (fun i wr => ∃ k : Nat, p <= k /\ k <= l.length /\ i = .int .i64 k /\ Hid (m = k + Lx.run f (l.drop k)) /\ Kept w wr) (fun i wr => l.length - (intOf i).toNat)
 case atStart => exact ⟨p, Nat.le_refl _, hp, rfl, HM, Kept.refl _⟩
 case round =>
  obtain ⟨k, hpk, hk, rfl, HE, hkp⟩ := hrel;by_cases hlt : k < l.length
  ·have hltI : (k : Int) < (l.length : Int) := by omega
   obtain ⟨b, o, rfl, y⟩ := HS.o.at hlt;have y0 := hkp.cell y;have HE2 := HE.o;rw [drop_at hlt, Lx.run] at HE2;have HC := hid (lkind_c l[k] wr);have hkd : f l[k] = (Lx.kd l[k] == 3 || (Lx.kd l[k] == 2 && an)) := by
    rw [<- HF.o]; cases an <;> simp [Lx.an, Lx.dg]
   clear y HE;generalize Lx.kd l[k] = q at HC hkd;by_cases h3 : q = 3
   ·subst h3;rw [hkd, if_pos (by simp)] at HE2;have HE := hid HE2;clear HE2 hkd;go_wp2_with fail;refine HC.o.mono ?_;rintro e w1 ⟨rfl, rfl⟩;go_wp2_with fail;go_roundw
    case rel => exact ⟨k + 1, by omega, by omega, by go_num, hid (by rw [HE.o]; omega), hkp⟩
    case measure => simp [intOf]; omega
   ·by_cases h2 : q = 2
    ·subst h2
     cases an with
     | true =>
      rw [hkd, if_pos (by simp)] at HE2;have HE := hid HE2;clear HE2 hkd h3;go_wp2_with fail;refine HC.o.mono ?_;rintro e w1 ⟨rfl, rfl⟩;go_wp2_with fail;go_roundw
      case rel => exact ⟨k + 1, by omega, by omega, by go_num, hid (by rw [HE.o]; omega), hkp⟩
      case measure => simp [intOf]; omega
     | false =>
      rw [hkd, if_neg (by simp)] at HE2;obtain rfl : m = k := HE2;clear hkd h3;go_wp2_with fail;refine HC.o.mono ?_;rintro e w1 ⟨rfl, rfl⟩;go_wp2_with fail
      try rw [Exit.noGoto_ret]
      exact bodyPost_ret (results_tmp rfl _ _ _) rfl ⟨rfl, hkp⟩
    ·have e3 : ((q : Int) == 3) = false := by simp; omega
     have e2 : ((q : Int) == 2) = false := by simp; omega
     rw [hkd, if_neg (by simp [h3, h2])] at HE2;obtain rfl : m = k := HE2;clear hkd h3 h2;go_wp2_with fail;refine HC.o.mono ?_;rintro e w1 ⟨rfl, rfl⟩;go_wp2_with fail
     try rw [Exit.noGoto_ret]
     exact bodyPost_ret (results_tmp rfl _ _ _) rfl ⟨rfl, hkp⟩
  ·obtain rfl : k = l.length := by omega
   have hltI : ¬ (l.length : Int) < (l.length : Int) := by omega
   have HE2 := HE.o;rw [List.drop_of_length_le (Nat.le_refl _)] at HE2;obtain rfl : m = l.length := HE2;clear HE HM;go_wp2_with fail
   try rw [Exit.noGoto_ret]
   exact bodyPost_ret (results_tmp rfl _ _ _) rfl ⟨rfl, hkp⟩
theorem cut_is {w : World} {a : Option Addr} {c : Nat} {l : List UInt8} {p k : Nat} (h : SrcAt w (.slice a l.length c) l) (hk : 0 < k) (hpk : p + k <= l.length) :
  ∃ b o, a = some ⟨b, o, none⟩ /\ ∀ W, Kept w W -> (convert 138 9 (.slice (some ⟨b, o + p, none⟩) k (c - p))).run prog W = .ok (.string ⟨((l.drop p).take k).toArray⟩) W := by
 obtain ⟨b, o, ha, _⟩ := h.at (i := p) (by omega);refine ⟨b, o, ha, fun W hW => ?_⟩;have hlen : ((l.drop p).take k).length = k := by simp; omega
 have := run_convert_bytes_back (P := prog) W 138 9 5 ⟨b, o + p, none⟩ (c - p) ((l.drop p).take k) (by kernel_rfl) (by kernel_rfl) (by kernel_rfl) (fun j hj => by
  have hjk : j < k := by omega
  obtain ⟨b', o', e, hc⟩ := h.at (i := p + j) (by omega);rw [ha] at e;injection e with e;injection e with e1 e2;subst e1 e2;rw [show (⟨b, o + p, none⟩ : Addr).add j = ⟨b, o + (p + j), none⟩ by unfold Addr.add; split <;> simp [Nat.add_assoc] <;> omega];rw [hW.cell hc]
  simp)
 rw [hlen] at this;exact this
theorem source_elem : prog.elem 138 = 5 := by kernel_rfl
theorem sliced_is {a : Option Addr} {b o c p k : Nat} (ha : a = some ⟨b, o, none⟩) (hk : 0 < k) (hpk : p + k <= c) (W : World) (P' H : Int) (e1 : P' = p) (e2 : H = (p + k : Nat)) (n : Nat) :
  (Instr.slice 138 (.slice a n c) (some (.int .i64 P')) (some (.int .i64 H)) none).run prog W = .ok (.slice (some ⟨b, o + p, none⟩) k (c - p)) W := by
 subst e1 e2 ha;have hu : prog.underlying 138 = some (.slice (prog.elem 138)) := by kernel_rfl
 rw [run_slice_lh (t := 138) (a := some ⟨b, o, none⟩) (len := n) (cap := c) W hu .i64 .i64 (p : Int) ((p + k : Nat) : Int) (by omega) (by omega) (by omega)];have hs : ∀ W, (sizeOf (prog.elem 138)).run prog W = .ok 1 W := fun W => by rw [source_elem]; kernel_rfl
 rw [hs]
 show Result.ok (sliced (some ⟨b, o, none⟩) ((p : Int)).toNat (((p + k : Nat) : Int)).toNat c 1) W = _
 rw [Int.toNat_natCast, Int.toNat_natCast];unfold sliced;rw [if_neg (by omega), Nat.add_sub_cancel_left, Nat.mul_one];simp only [Option.map_some];rw [show (⟨b, o, none⟩ : Addr).add p = ⟨b, o + p, none⟩ by unfold Addr.add; split <;> simp <;> omega]
theorem has_v {l : List UInt8} {p : Nat} {x : ByteArray} (h : p + x.size <= l.length) : Lx.has (l.drop p) x = ((((l.drop p).take x.size) == x.data.toList)) := by
 unfold Lx.has;rw [Bool.eq_iff_iff, List.isPrefixOf_iff_prefix, beq_iff_eq];have e : x.size = x.data.toList.length := by rw [Array.length_toList]; rfl
 constructor
 ·rintro ⟨t, ht⟩;rw [<- ht, e]; simp
 ·intro ht;exact ⟨(l.drop p).drop x.size, by rw [<- ht, List.take_append_drop]⟩
theorem has_far {l : List UInt8} {p : Nat} {x : ByteArray} (h : ¬ p + x.size <= l.length) (hx : 0 < x.size) : Lx.has (l.drop p) x = false := by
 cases hh : Lx.has (l.drop p) x with
 | false => rfl
 | true =>
  have := (Lx.has_take hh).1;rw [List.length_drop] at this;omega
theorem has_c (x : ByteArray) (a : Option Addr) (c : Nat) (l : List UInt8) (p : Nat) (w : World) (h : SrcAt w (.slice a l.length c) l) (hp : p <= l.length) (hx : 0 < x.size) :
  Calls prog 157 #[.slice a l.length c, .int .i64 p, .string x] w fun r w' => r = .returned (.bool (Lx.has (l.drop p) x)) /\ w' = w := by
 have hcap := h.cap;unfold maxLen at hcap;obtain ⟨v, hv⟩ : ∃ v, Lx.has (l.drop p) x = v := ⟨_, rfl⟩;rw [hv];by_cases hle : p + x.size <= l.length
 ·obtain ⟨b, o, ha, hcv⟩ := cut_is h hx hle;have hsl := fun W => sliced_is ha hx (show p + x.size <= c by omega) W (p : Int) ((p : Int) + (x.size : Int)) rfl (by omega) l.length;have hcw := hcv w (Kept.refl w);rw [has_v hle] at hv;have hleI : (x.size : Int) <= (l.length : Int) - (p : Int) := by omega
  have hbe : ((⟨((l.drop p).take x.size).toArray⟩ : ByteArray).toList == x.toList) = v := by
   rw [<- hv, ByteArray.toList_eq, ByteArray.toList_eq]
  clear h hcv hv;subst ha;generalize (⟨((l.drop p).take x.size).toArray⟩ : ByteArray) = y at *;go_enter func157, ntmps157;go_wp2
  go_ret;exact ⟨rfl, rfl⟩
 ·rw [has_far hle hx] at hv;subst hv;have hleI : ¬ (x.size : Int) <= (l.length : Int) - (p : Int) := by omega
  clear h;go_enter func157, ntmps157;go_wp2
  go_ret;exact ⟨rfl, rfl⟩
theorem wayOf_c (a : Option Addr) (c : Nat) (l : List UInt8) (p : Nat) (w : World) (h : SrcAt w (.slice a l.length c) l) (hp : p < l.length) :
  Calls prog 139 #[.slice a l.length c, .int .i64 p] w fun r w' => r = .returned (.func (.func (if Lx.kd l[p] = 2 then 159 else if Lx.kd l[p] = 3 then 160 else if Lx.kd l[p] = 4 then 161 else 162)) #[.slice a l.length c] #[]) /\ w' = w := by
 have hcap := h.cap;unfold maxLen at hcap;have hltI : (p : Int) < (l.length : Int) := by omega
 obtain ⟨b, o, rfl, y⟩ := h.at hp;have HC := hid (lkind_c l[p] w);clear h;generalize l[p] = ch at *;generalize Lx.kd ch = q at *;by_cases h2 : q = 2
 ·subst h2;rw [if_pos rfl];go_enter func139, ntmps139;go_wp2_with fail;refine HC.o.mono ?_;rintro e w1 ⟨rfl, rfl⟩;go_wp2_with fail;go_ret;exact ⟨rfl, rfl⟩
 ·have e2 : ((q : Int) == 2) = false := by simp; omega
  rw [if_neg h2];by_cases h3 : q = 3
  ·subst h3;rw [if_pos rfl];go_enter func139, ntmps139;go_wp2_with fail;refine HC.o.mono ?_;rintro e w1 ⟨rfl, rfl⟩;go_wp2_with fail;go_ret;exact ⟨rfl, rfl⟩
  ·have e3 : ((q : Int) == 3) = false := by simp; omega
   rw [if_neg h3];by_cases h4 : q = 4
   ·subst h4;rw [if_pos rfl];go_enter func139, ntmps139;go_wp2_with fail;refine HC.o.mono ?_;rintro e w1 ⟨rfl, rfl⟩;go_wp2_with fail;go_ret;exact ⟨rfl, rfl⟩
   ·have e4 : ((q : Int) == 4) = false := by simp; omega
    rw [if_neg h4];clear h2 h3 h4;go_enter func139, ntmps139;go_wp2_with fail;refine HC.o.mono ?_;rintro e w1 ⟨rfl, rfl⟩;go_wp2_with fail;go_ret;exact ⟨rfl, rfl⟩
abbrev cmt : ByteArray := ⟨#[47, 47]⟩
theorem has_cmt (c : UInt8) (r : List UInt8) : Lx.has (c :: r) cmt = (decide (c.toNat = 47) && decide ((r.headD 0).toNat = 47)) := by
 have e : ∀ d : UInt8, (47 == d) = decide (d.toNat = 47) := fun d => by
  rw [Bool.eq_iff_iff, beq_iff_eq, decide_eq_true_iff];exact ⟨fun h => by subst h; rfl, fun h => UInt8.toNat_inj.1 (by rw [h]; rfl)⟩
 unfold Lx.has
 cases r with
 | nil => show (47 == c && List.isPrefixOf [47] []) = _; rw [e]; simp
 | cons d r => show (47 == c && (47 == d && List.isPrefixOf [] r)) = _; rw [e, e]; simp
theorem skip_c (a : Option Addr) (c : Nat) (l : List UInt8) (p : Nat) (w : World) (h : SrcAt w (.slice a l.length c) l) (hp : p <= l.length) :
  Calls prog 138 #[.slice a l.length c, .int .i64 p] w fun r w' => r = .returned (.int .i64 ((p + Lx.skip false (l.drop p) : Nat) : Int)) /\ Kept w w' := by
 obtain ⟨m, hm⟩ : ∃ m, p + Lx.skip false (l.drop p) = m := ⟨_, rfl⟩;rw [hm];have hcap := h.cap;unfold maxLen at hcap;have HS := hid h;have HM := hid hm.symm;clear h hm;go_enter func138, ntmps138;go_wp2_with fail;go_step3
 go_wp2_with fail;go_step3
 go_wp2_with fail;go_loopw [1] (fun i wr => ∃ k : Nat, p <= k /\ k <= l.length /\ i = .int .i64 k /\ Hid (m = k + Lx.skip false (l.drop k)) /\ Kept w wr) (fun i wr => l.length - (intOf i).toNat)
 case atStart => exact ⟨p, Nat.le_refl _, hp, rfl, HM, Kept.refl _⟩
 case round =>
  obtain ⟨k, hpk, hk, rfl, HE, hkp⟩ := hrel;by_cases hlt : k < l.length
  ·have hltI : (k : Int) < (l.length : Int) := by omega
   have HH := hid (has_c cmt a c l k wr (src_kept HS.o hkp) hk (by decide));have HL := hid (lineEnd_c a c l k wr (src_kept HS.o hkp) hk);have HB := hid (Lx.run_le Lx.nl (l.drop k));obtain ⟨b, o, rfl, y⟩ := HS.o.at hlt;have y0 := hkp.cell y;have HE2 := HE.o;rw [drop_at hlt] at HE2 HH;rw [has_cmt] at HH;rw [Lx.skip] at HE2;have HC := hid (lkind_c l[k] wr);clear y HE;have hdr := drop_at hlt;generalize l[k] = ch at *;by_cases h1 : Lx.kd ch = 1
   ·rw [if_pos h1] at HE2;have HE := hid HE2;rw [h1] at HC;clear HE2 h1 HH hdr HL HB;go_wp2_with fail;refine HC.o.mono ?_;rintro e w1 ⟨rfl, rfl⟩;go_wp2_with fail;go_roundw
    case rel => exact ⟨k + 1, by omega, by omega, by go_num, hid (by rw [HE.o]; omega), hkp⟩
    case measure => simp [intOf]; omega
   ·rw [if_neg h1] at HE2;by_cases hcm : ch.toNat = 47 /\ ((l.drop (k + 1)).headD 0).toNat = 47
    ·rw [if_pos hcm, Lx.skip_line, ] at HE2;rw [show (decide (ch.toNat = 47) && decide (((l.drop (k + 1)).headD 0).toNat = 47)) = true by rw [Bool.and_eq_true, decide_eq_true_iff, decide_eq_true_iff]; exact hcm] at HH;have hnl : Lx.nl ch = true := by unfold Lx.nl; simp [hcm.1]
     have hr : Lx.run Lx.nl (l.drop k) = Lx.run Lx.nl (l.drop (k + 1)) + 1 := by rw [hdr, Lx.run, if_pos hnl]
     have HB2 := HB.o;rw [hr] at HL HB2;rw [List.length_drop] at HB2;obtain ⟨j, hj⟩ : ∃ j, Lx.run Lx.nl (l.drop (k + 1)) = j := ⟨_, rfl⟩;rw [hj] at HL HB2 HE2;rw [List.drop_drop] at HE2;have HE := hid HE2;have HC2 : Hid (Calls prog 156 #[.int .u8 ch.toNat] wr fun e w' => e = .returned (.int .i64 (Lx.kd ch)) /\ w' = wr) := HC;have e1 : ((Lx.kd ch : Int) == 1) = false := by simp; omega
     generalize Lx.kd ch = q at *;clear HE2 h1 hdr hr hj hnl hcm HB HC;go_wp2_with fail;refine HC2.o.mono ?_;rintro e w1 ⟨rfl, rfl⟩;go_wp2_with fail;refine HH.o.mono ?_;rintro e w1 ⟨rfl, rfl⟩;go_wp2_with fail;refine HL.o.mono ?_;rintro e w1 ⟨rfl, hk1⟩;go_wp2_with fail;go_roundw
     case rel => exact ⟨k + (j + 1), by omega, by omega, by go_num, hid (by rw [HE.o, show k + (j + 1) = k + 1 + j by omega]; omega), hkp.trans hk1⟩
     case measure => simp [intOf]; omega
    ·rw [if_neg hcm] at HE2;rw [show (decide (ch.toNat = 47) && decide (((l.drop (k + 1)).headD 0).toNat = 47)) = false by rw [Bool.eq_false_iff]; intro h; rw [Bool.and_eq_true, decide_eq_true_iff, decide_eq_true_iff] at h; exact hcm h] at HH;obtain rfl : m = k := HE2;have e1 : ((Lx.kd ch : Int) == 1) = false := by simp; omega
     generalize Lx.kd ch = q at *;clear h1 hdr hcm HB HL;go_wp2_with fail;refine HC.o.mono ?_;rintro e w1 ⟨rfl, rfl⟩;go_wp2_with fail;refine HH.o.mono ?_;rintro e w1 ⟨rfl, rfl⟩;go_wp2_with fail
     try rw [Exit.noGoto_ret]
     exact bodyPost_ret (results_tmp rfl _ _ _) rfl ⟨rfl, hkp⟩
  ·obtain rfl : k = l.length := by omega
   have hltI : ¬ (l.length : Int) < (l.length : Int) := by omega
   have HE2 := HE.o;rw [List.drop_of_length_le (Nat.le_refl _)] at HE2;obtain rfl : m = l.length := HE2;clear HE HM;go_wp2_with fail
   try rw [Exit.noGoto_ret]
   exact bodyPost_ret (results_tmp rfl _ _ _) rfl ⟨rfl, hkp⟩
end Go.Proofs.YtegcgflhgfmkpaaGreatDoor
namespace Go.Proofs.YtegcgflhgfmkpaaGreatDoor
open Lib (hid)
open Go.ChangeShapes Go.WideShapes Go.ChangeAt Go.RowKit Go.Shelf
attribute [local go_sem] Oper.semAt_some
def wayV (p : Nat) : Lx.R -> Value
 | .tok k x v len => .tuple #[tagg k x v p, .int .i64 ((p + len : Nat) : Int), fagg 0 0]
 | .bad e off => badV e ((p + off : Nat) : Int)
def Res2 (n : Nat) (W : World) : Prop := Blk W n 70 #[.int .i64 0, .string ⟨#[]⟩, .int .i64 0, .int .i64 0] /\ Blk W (n + 1) 29 #[.int .i64 0, .int .i64 0]
theorem Res2.new (w : World) : Res2 w.heap.size ((w.alloc (.cells #[.int .i64 0, .string ⟨#[]⟩, .int .i64 0, .int .i64 0] 70)).alloc (.cells #[.int .i64 0, .int .i64 0] 29)) := by
 refine ⟨(Blk.new _ _ _).alloc _, ?_⟩;have := Blk.new (w.alloc (.cells #[.int .i64 0, .string ⟨#[]⟩, .int .i64 0, .int .i64 0] 70)) 29 #[.int .i64 0, .int .i64 0]
 simpa using this
theorem Res2.kept {n : Nat} {W W' : World} (h : Res2 n W) (k : Kept W W') : Res2 n W' := ⟨h.1.kept k, h.2.kept k⟩
theorem Res2.froz {n : Nat} {W : World} (h : Res2 n W) : (W.frozen? ⟨n, 0, none⟩ = false /\ W.frozen? ⟨n, 1, none⟩ = false /\ W.frozen? ⟨n, 2, none⟩ = false /\ W.frozen? ⟨n, 3, none⟩ = false) /\ W.frozen? ⟨n + 1, 0, none⟩ = false /\ W.frozen? ⟨n + 1, 1, none⟩ = false :=
 ⟨⟨h.1.frozen 0, h.1.frozen 1, h.1.frozen 2, h.1.frozen 3⟩, h.2.frozen 0, h.2.frozen 1⟩
theorem Res2.cel {n : Nat} {W : World} (h : Res2 n W) : (W.cell? ⟨n, 0, none⟩ = some (.int .i64 0) /\ W.cell? ⟨n, 1, none⟩ = some (.string ⟨#[]⟩) /\ W.cell? ⟨n, 2, none⟩ = some (.int .i64 0) /\ W.cell? ⟨n, 3, none⟩ = some (.int .i64 0)) /\ W.cell? ⟨n + 1, 0, none⟩ = some (.int .i64 0) /\ W.cell? ⟨n + 1, 1, none⟩ = some (.int .i64 0) :=
 ⟨⟨h.1.cell 0, h.1.cell 1, h.1.cell 2, h.1.cell 3⟩, h.2.cell 0, h.2.cell 1⟩
def put6 (W : World) (n : Nat) (k : Int) (x : ByteArray) (v po e a : Int) : World := (((((W.setCell ⟨n, 0, none⟩ (.int .i64 k)).setCell ⟨n, 1, none⟩ (.string x)).setCell ⟨n, 2, none⟩ (.int .i64 v)).setCell ⟨n, 3, none⟩ (.int .i64 po)).setCell ⟨n + 1, 0, none⟩ (.int .i64 e)).setCell ⟨n + 1, 1, none⟩ (.int .i64 a)
theorem put6_blk {W : World} {n : Nat} (h : Res2 n W) (k : Int) (x : ByteArray) (v po e a : Int) : Blk (put6 W n k x v po e a) n 70 #[.int .i64 k, .string x, .int .i64 v, .int .i64 po] /\ Blk (put6 W n k x v po e a) (n + 1) 29 #[.int .i64 e, .int .i64 a] := by
 have h1 := (((h.1.put 0 (.int .i64 k)).put 1 (.string x)).put 2 (.int .i64 v)).put 3 (.int .i64 po);have o1 : Only (· = n) W ((((W.setCell ⟨n, 0, none⟩ (.int .i64 k)).setCell ⟨n, 1, none⟩ (.string x)).setCell ⟨n, 2, none⟩ (.int .i64 v)).setCell ⟨n, 3, none⟩ (.int .i64 po)) := ((((Only.refl _ W).put 0 _).put 1 _).put 2 _).put 3 _;have h2 := ((h.2.only o1 (by omega)).put 0 (.int .i64 e)).put 1 (.int .i64 a);refine ⟨?_, h2⟩;exact Blk.only h1 (((Only.refl (· = n + 1) _).put 0 (.int .i64 e)).put 1 (.int .i64 a)) (by omega)
theorem put6_kept {w W : World} {n : Nat} (h : Kept w W) (hn : n = w.heap.size) (k : Int) (x : ByteArray) (v po e a : Int) : Kept w (put6 W n k x v po e a) := by
 subst hn;unfold put6;exact (((((h.setCell (by simp) _).setCell (by simp) _).setCell (by simp) _).setCell (by simp) _).setCell (by simp) _).setCell (by simp) _
theorem way_end {fn : Func} (hf : fn.results = #[.cell 4 70, .tmp 5, .cell 6 29]) {tmps : Array Value} {w W : World} {k v po e a : Int} {x : ByteArray} {r : Value} (hr : Res2 w.heap.size W) (hk : Kept w W)
  (h4 : tmps.getD 4 undef = .pointer (some ⟨w.heap.size, 0, none⟩)) (h6 : tmps.getD 6 undef = .pointer (some ⟨w.heap.size + 1, 0, none⟩)) (h : .tuple #[tagg k x v po, tmps.getD 5 undef, fagg e a] = r) :
  bodyPost Tryz.prog fn (fun s w' => s = .returned r /\ Kept w w') .ret { tmps := tmps, defers := [] } (put6 W w.heap.size k x v po e a) := by
 subst h;obtain ⟨b1, b2⟩ := put6_blk hr k x v po e a;exact bodyPost_ret (way_results hf _ _ h4 h6 b1 b2) rfl ⟨rfl, put6_kept hk rfl k x v po e a⟩
theorem Res2.set {n : Nat} {W : World} (h : Res2 n W) {g : Nat} (hg : n + 1 < g) (i : Nat) (v : Value) : Res2 n (W.setCell ⟨g, i, none⟩ v) :=
 ⟨h.1.only ((Only.refl (· = g) W).put i v) (by omega), h.2.only ((Only.refl (· = g) W).put i v) (by omega)⟩
theorem word_c (a : Option Addr) (c : Nat) (l : List UInt8) (p : Nat) (w : World) (h : SrcAt w (.slice a l.length c) l) (hT : Tb w) (hp : p < l.length) (h2 : Lx.kd l[p] = 2) (hl : l.length <= 20000) :
  Calls Tryz.prog 159 #[.slice a l.length c, .int .i64 p] w fun r w' => r = .returned (wayV p (Lx.word (l.drop p))) /\ Kept w w' := by
 have hcap := h.cap;unfold maxLen at hcap;obtain ⟨k, hk⟩ : ∃ k, Lx.run Lx.an (l.drop p) = k := ⟨_, rfl⟩;have hk0 : 0 < k := by rw [<- hk, drop_at hp]; exact Lx.run_pos (by unfold Lx.an; simp [h2])
 have hkl : p + k <= l.length := by have := Lx.run_le Lx.an (l.drop p); rw [hk, List.length_drop] at this; omega
 obtain ⟨x, hx⟩ : ∃ x : ByteArray, ⟨((l.drop p).take k).toArray⟩ = x := ⟨_, rfl⟩;have hxs : x.size = k := by rw [<- hx]; exact Lx.take_size _ _ (by rw [List.length_drop]; omega)
 have HV := hid (show Lx.word (l.drop p) = Lx.wordR x by unfold Lx.word; rw [hk, hx]);obtain ⟨b, o, rfl, hcv⟩ := cut_is h hk0 hkl;rw [hx] at hcv;obtain ⟨W1, hW1⟩ : ∃ W1, (w.alloc (.cells #[.int .i64 0, .string ⟨#[]⟩, .int .i64 0, .int .i64 0] 70)).alloc (.cells #[.int .i64 0, .int .i64 0] 29) = W1 := ⟨_, rfl⟩;have k1 : Kept w W1 := by rw [<- hW1]; exact ((Kept.refl w).alloc _).alloc _
 have HR1 := hid (show Res2 w.heap.size W1 by rw [<- hW1]; exact Res2.new w);have HRUN := hid (run_c true (some ⟨b, o, none⟩) c l p W1 (src_kept h k1) (by omega));rw [if_pos rfl, hk] at HRUN;have HW := hid hW1;have HK1 := hid k1;have HCV := hid hcv;have HT := hid hT;rw [HV.o];clear h hT h2 hcv hk hx hW1 k1;go_enter Tryz.func159, Tryz.ntmps159;go_wp2_with (rw [HW.o]);refine HRUN.o.mono ?_;rintro e W2 ⟨rfl, k2⟩;have HK2 := hid (HK1.o.trans k2);have HR2 := hid (HR1.o.kept k2);clear k2 HR1 HRUN HK1;have e1 : (((p + k : Nat) : Int) - (p : Int)) = (k : Int) := by omega
 by_cases h20 : 20 < k
 ·have h20I : (20 : Int) < (k : Int) := by omega
  have HE := hid (show Lx.wordR x = .bad 4 0 by unfold Lx.wordR; rw [if_pos (by omega)]);go_wp2_with fail;refine (refuse_c 4 p W2).mono ?_;rintro e W3 ⟨rfl, k3⟩;have hr3 := HR2.o.kept k3;obtain ⟨⟨f0, f1, f2, f3⟩, f4, f5⟩ := hr3.froz;obtain ⟨⟨c0, c1, c2, c3⟩, c4, c5⟩ := hr3.cel;have HR3 := hid hr3;have HK3 := hid (HK2.o.trans k3);clear hr3 k3 HK2 HR2;go_wp2_with fail;exact way_end (by rfl) HR3.o HK3.o rfl rfl (by rw [HE.o]; rfl)
 ·have h20I : ¬ (20 : Int) < (k : Int) := by omega
  have hsl := fun W => sliced_is (a := some ⟨b, o, none⟩) rfl hk0 (show p + k <= c by omega) W (p : Int) ((p + k : Nat) : Int) rfl rfl l.length;have hcw := HCV.o W2 HK2.o;obtain ⟨W3, hW3⟩ : ∃ W3, W2.alloc (.cells #[.int .i64 2, .string x, .int .i64 0, .int .i64 p] 70) = W3 := ⟨_, rfl⟩;have k23 := kpA hW3;have hsz := (show w.heap.size + 1 < W2.heap.size from HR2.o.2.lt);have HB3 := hid (bkA hW3);have HK3 := hid (HK2.o.trans k23);have HR3 := hid (HR2.o.kept k23);have HKEY := hid (key_c x W3 (HT.o.kept HK3.o));have HNAM := hid (fun W (k : Kept w W) => name_c x W (HT.o.kept k) (by omega));have HW3 := hid hW3;have d1 := HB3.o.cell 1;simp at d1;clear hW3 k23 HK2 HR2;go_wp2_with (rw [HW3.o]);refine HKEY.o.mono ?_;rintro e W4 ⟨rfl, k4⟩;have HB4 := hid (HB3.o.kept k4);have HR4 := hid (HR3.o.kept k4);have HK4 := hid (HK3.o.trans k4);clear k4 HB3 HR3 HK3 HKEY d1;have g0 := HB4.o.frozen 0;have d0 := HB4.o.cell 0;have d1 := HB4.o.cell 1;have d2 := HB4.o.cell 2;have d3 := HB4.o.cell 3;simp at d0 d1 d2 d3
  cases hkey : Wrd.key x with
  | true =>
   have HE := hid (show Lx.wordR x = .tok 3 x 0 k by unfold Lx.wordR; rw [if_neg (by omega), hkey, if_pos rfl, hxs]);obtain ⟨⟨f0, f1, f2, f3⟩, f4, f5⟩ := HR4.o.froz;obtain ⟨⟨c0, c1, c2, c3⟩, c4, c5⟩ := HR4.o.cel;have HR5 := hid (HR4.o.set hsz 0 (.int .i64 3));have HK5 := hid (HK4.o.setCell (p := ⟨W2.heap.size, 0, none⟩) (by show w.heap.size <= W2.heap.size; omega) (.int .i64 3));clear hkey HR4 HK4;go_wp2_with fail;exact way_end (by rfl) HR5.o HK5.o rfl rfl (by rw [HE.o]; rfl)
  | false =>
   have HN := hid (HNAM.o W4 HK4.o);go_wp2_with fail;refine HN.o.mono ?_;rintro e W5 ⟨rfl, k5⟩;have HB5 := hid (HB4.o.kept k5);have HR5 := hid (HR4.o.kept k5);have HK5 := hid (HK4.o.trans k5);clear k5 HB4 HR4 HK4 HN HNAM g0 d0 d1 d2 d3;have g0 := HB5.o.frozen 0;have d0 := HB5.o.cell 0;have d1 := HB5.o.cell 1;have d2 := HB5.o.cell 2;have d3 := HB5.o.cell 3;simp at d0 d1 d2 d3;obtain ⟨⟨f0, f1, f2, f3⟩, f4, f5⟩ := HR5.o.froz;obtain ⟨⟨c0, c1, c2, c3⟩, c4, c5⟩ := HR5.o.cel
   cases hnm : Wrd.name x with
   | true =>
    have HE := hid (show Lx.wordR x = .tok 1 x 0 k by unfold Lx.wordR; rw [if_neg (by omega), hkey, hnm, if_neg (by decide), if_pos rfl, hxs]);have HR6 := hid (HR5.o.set hsz 0 (.int .i64 1));have HK6 := hid (HK5.o.setCell (p := ⟨W2.heap.size, 0, none⟩) (by show w.heap.size <= W2.heap.size; omega) (.int .i64 1));clear hkey hnm HR5 HK5;go_wp2_with fail;exact way_end (by rfl) HR6.o HK6.o rfl rfl (by rw [HE.o]; rfl)
   | false =>
    have HE := hid (show Lx.wordR x = .tok 2 x 0 k by unfold Lx.wordR; rw [if_neg (by omega), hkey, hnm, if_neg (by decide), if_neg (by decide), hxs]);clear hkey hnm;go_wp2_with fail;exact way_end (by rfl) HR5.o HK5.o rfl rfl (by rw [HE.o]; rfl)
end Go.Proofs.YtegcgflhgfmkpaaGreatDoor
