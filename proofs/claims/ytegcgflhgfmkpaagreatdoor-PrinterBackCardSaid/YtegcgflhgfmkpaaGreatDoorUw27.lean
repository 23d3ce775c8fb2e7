/- Texts. -/
import Derived.Test.YtegcgflhgfmkpaaGreatDoorUTkm
import Derived.Test.YtegcgflhgfmkpaaGreatDoorUTrw
import Derived.Test.YtegcgflhgfmkpaaGreatDoorUFlw
set_option linter.unusedSimpArgs false
set_option linter.unusedVariables false
set_option maxRecDepth 100000
set_option maxHeartbeats 16000000
namespace Go.Proofs.YtegcgflhgfmkpaaGreatDoor
open Lib (hid)
open _root_.Go.Proofs.Tryz
open Go.ChangeShapes Go.WideShapes Go.ChangeAt Go.RowKit
structure Pt where
 kinds : List Int
 cnt : Int
 more : Int
structure Ne where
 text : Int
 typ : Int
 words : ByteArray
 most : Int
 kids : List Pt
def exU (k : Nat) : List Int := ((List.range' 7 (k - 7)).filter (· != 15)).map Int.ofNat
def exprK : List Int := exU 30
def entK : List Int := exprK ++ [15]
def pOne : Pt := ⟨exprK, 1, 0⟩
def pTwo : Pt := ⟨exprK, 2, 0⟩
def pArgs : Pt := ⟨exprK, 0, 8⟩
def pBlock : Pt := ⟨[6], 1, 0⟩
def pUp (most kind : Int) : Pt := ⟨[kind], 0, most⟩
def pEnt : Pt := ⟨entK, 0, 5000⟩
def wNum : ByteArray := ⟨#[110, 97, 110, 32, 105, 110, 102]⟩
def wUn : ByteArray := ⟨#[45, 32, 33]⟩
def wBin : ByteArray := ⟨#[124, 124, 32, 38, 38, 32, 61, 61, 32, 33, 61, 32, 60, 32, 60, 61, 32, 43, 32, 45, 32, 42, 32, 47, 32, 37]⟩
def wConv : ByteArray := ⟨#[114, 101, 97, 108, 32, 105, 110, 116, 32, 108, 101, 110]⟩
def noW : ByteArray := ⟨#[]⟩
def needsT : List Ne := [⟨0, 0, noW, 0, []⟩, ⟨0, 0, noW, 0, [pUp 40 2, pBlock]⟩, ⟨2, 3, noW, 0, [pUp 20 3, pUp 20 4]⟩, ⟨1, 4, noW, 0, []⟩, ⟨1, 4, noW, 0, [pUp 8 5, pBlock]⟩, ⟨1, 4, noW, 0, []⟩,
 ⟨0, 0, noW, 0, [pEnt]⟩, ⟨0, 0, noW, 9223372036854775807, []⟩, ⟨6, 0, wNum, 9007199254740992, []⟩, ⟨0, 0, noW, 1, []⟩, ⟨7, 0, noW, 0, []⟩, ⟨0, 0, noW, 0, []⟩, ⟨0, 2, noW, 0, []⟩, ⟨0, 0, noW, 0, []⟩, ⟨1, 0, noW, 0, []⟩,
 ⟨1, 4, noW, 0, [pOne]⟩, ⟨1, 0, noW, 0, [pOne]⟩, ⟨1, 0, noW, 0, [pOne]⟩, ⟨1, 0, noW, 0, [pTwo]⟩, ⟨1, 0, noW, 0, [pOne, pArgs]⟩, ⟨1, 0, noW, 0, [pArgs]⟩, ⟨0, 2, noW, 0, [pArgs]⟩, ⟨0, 0, noW, 0, [pOne, pBlock, pBlock]⟩, ⟨0, 0, noW, 0, [pOne, pBlock]⟩,
 ⟨5, 0, wUn, 0, [pOne]⟩, ⟨5, 0, wBin, 0, [pTwo]⟩, ⟨0, 0, noW, 0, []⟩, ⟨0, 0, noW, 0, [pOne]⟩, ⟨0, 4, noW, 0, [pOne]⟩, ⟨5, 0, wConv, 0, [pOne]⟩]
def IntAt (w : World) (b o : Nat) (x : Int) : Prop := w.cell? ⟨b, o, none⟩ = some (.int .i64 x)
abbrev IntsR (w : World) (v : Value) (l : List Int) : Prop := Row 1 IntAt w v l
def PartAt (w : World) (b o : Nat) (p : Pt) : Prop := ∃ s, w.cell? ⟨b, o, none⟩ = some s /\ w.cell? ⟨b, o + 1, none⟩ = some (.int .i64 p.cnt) /\ w.cell? ⟨b, o + 2, none⟩ = some (.int .i64 p.more) /\ IntsR w s p.kinds
abbrev PartsR (w : World) (v : Value) (l : List Pt) : Prop := Row 3 PartAt w v l
def NeedAt (w : World) (b o : Nat) (n : Ne) : Prop := ∃ s, w.cell? ⟨b, o, none⟩ = some (.int .i64 n.text) /\ w.cell? ⟨b, o + 1, none⟩ = some (.int .i64 n.typ) /\ w.cell? ⟨b, o + 2, none⟩ = some (.string n.words) /\ w.cell? ⟨b, o + 3, none⟩ = some (.int .i64 n.most) /\ w.cell? ⟨b, o + 4, none⟩ = some s /\ PartsR w s n.kids
abbrev NeedsR (w : World) (v : Value) (l : List Ne) : Prop := Row 5 NeedAt w v l
section
variable {w w' : World} {b o : Nat}
theorem IntAt.kept {x : Int} (h : IntAt w b o x) (k : Kept w w') : IntAt w' b o x := k.cell h
theorem IntsR.kept {v : Value} {l : List Int} (h : IntsR w v l) (k : Kept w w') : IntsR w' v l := Row.mono h fun _ _ _ h => IntAt.kept h k
theorem PartAt.kept {p : Pt} (h : PartAt w b o p) (k : Kept w w') : PartAt w' b o p := by
 obtain ⟨s, h1, h2, h3, h4⟩ := h;exact ⟨s, k.cell h1, k.cell h2, k.cell h3, IntsR.kept h4 k⟩
theorem PartsR.kept {v : Value} {l : List Pt} (h : PartsR w v l) (k : Kept w w') : PartsR w' v l := Row.mono h fun _ _ _ h => PartAt.kept h k
theorem NeedAt.kept {n : Ne} (h : NeedAt w b o n) (k : Kept w w') : NeedAt w' b o n := by
 obtain ⟨s, h1, h2, h3, h4, h5, h6⟩ := h;exact ⟨s, k.cell h1, k.cell h2, k.cell h3, k.cell h4, k.cell h5, PartsR.kept h6 k⟩
theorem NeedsR.kept {v : Value} {l : List Ne} (h : NeedsR w v l) (k : Kept w w') : NeedsR w' v l := Row.mono h fun _ _ _ h => NeedAt.kept h k
end
def PartV (w : World) (v : Value) (p : Pt) : Prop := ∃ a c, v = .agg #[.slice a p.kinds.length c, .int .i64 p.cnt, .int .i64 p.more] /\ IntsR w (.slice a p.kinds.length c) p.kinds
def NeedV (w : World) (v : Value) (n : Ne) : Prop := ∃ a c, v = .agg #[.int .i64 n.text, .int .i64 n.typ, .string n.words, .int .i64 n.most, .slice a n.kids.length c] /\ PartsR w (.slice a n.kids.length c) n.kids
theorem PartV.kept {w w' : World} {v : Value} {p : Pt} (h : PartV w v p) (k : Kept w w') : PartV w' v p := by
 obtain ⟨a, c, e, h⟩ := h; exact ⟨a, c, e, IntsR.kept h k⟩
theorem NeedV.kept {w w' : World} {v : Value} {n : Ne} (h : NeedV w v n) (k : Kept w w') : NeedV w' v n := by
 obtain ⟨a, c, e, h⟩ := h; exact ⟨a, c, e, PartsR.kept h k⟩
theorem row_of_blk {α : Type} {k : Nat} {R : World -> Nat -> Nat -> α -> Prop} {w : World} {g c : Nat} {t : TypeId} {cs : Array Value} {l : List α} (hb : Blk w g t cs) (hc : l.length <= c) (hm : c <= maxLen) (hR : ∀ i x, l[i]? = some x -> R w g (i * k) x) :
  Row k R w (.slice (some ⟨g, 0, none⟩) l.length c) l := ⟨_, c, rfl, hc, hm, fun i x hx => ⟨g, 0, rfl, by rw [Nat.zero_add]; exact hR i x hx⟩⟩
theorem exU_next {k : Nat} (h7 : 7 <= k) : exU (k + 1) = exU k ++ (if k = 15 then [] else [(k : Int)]) := by
 unfold exU;rw [show k + 1 - 7 = (k - 7) + 1 by omega, List.range'_concat, List.filter_append, List.map_append, show 7 + 1 * (k - 7) = k by omega];by_cases h : k = 15
 ·subst h; rfl
 ·rw [if_neg h]; simp [h]
theorem exU_len (k : Nat) : (exU k).length <= k := by
 unfold exU;rw [List.length_map];refine Nat.le_trans (List.length_filter_le _ _) ?_;simp
theorem info_int : (prog.info? 3).map (fun i => (i.zero, i.size, i.bytes)) = some (some (.int .i64 0), 1, 8) := by kernel_rfl
def intC (x : Int) : List Value := [.int .i64 x]
theorem intC_len (x : Int) : (intC x).length = 1 := rfl
theorem src_int {w : World} {g : Nat} {x : Int} (h : Blk w g 3 #[.int .i64 x]) : Src prog 1 78 (.slice (some ⟨g, 0, none⟩) 1 1) 1 (intC x) w := by
 refine Src.ofSlice w underlying78 ⟨g, 0, none⟩ 1 1 _ rfl ?_ ?_
 ·intro j u hu;rw [Addr.add_lit, Nat.zero_add, h.cell j]
  simpa [intC] using hu
 ·intro u hu;simp only [intC, List.mem_cons, List.not_mem_nil, or_false] at hu;subst hu; rfl
theorem ints_of_owns {w : World} {base : Nat} {v : Value} {l : List Int} (h : w.ownsRow base 3 1 v l.length (l.flatMap intC)) : IntsR w v l := by
 have hc := fun g => h.cells (g := g);rcases h.2 with ⟨rfl, h0⟩ | ⟨g, cap, cur, rfl, hb, hh, hn, hm, hcs, htk⟩
 ·have : l = [] := List.eq_nil_of_length_eq_zero h0;subst this;exact ⟨none, 0, rfl, Nat.le_refl _, Nat.zero_le _, fun i x h => by simp at h⟩
 ·refine ⟨_, cap, rfl, hn, hm, fun i x hx => ⟨g, 0, rfl, ?_⟩⟩;have := hc g rfl i (.int .i64 x) (by
   have := flat_at intC intC_len l i 0 x hx (by omega);rw [Nat.mul_one, Nat.add_zero] at this;rw [this]; rfl)
  unfold IntAt
  simpa [Addr.add_lit] using this
theorem rown_ge {w : World} {base k : Nat} {e : TypeId} {v : Value} {n : Nat} {xs : List Value} (h : w.ownsRow base e k v n xs) {g : Nat} (hg : v.ownBlock = some g) : base <= g := by
 rcases h.2 with ⟨rfl, _⟩ | ⟨g', cap, cur, rfl, hb, _⟩
 ·simp [Value.ownBlock] at hg
 ·have : g' = g := by simpa [Value.ownBlock] using hg
  omega
theorem expr_c (w : World) : Calls prog 33 #[] w fun e w' => ∃ a c, e = .returned (.slice a exprK.length c) /\ w'.ownsRow w.heap.size 3 1 (.slice a exprK.length c) exprK.length (exprK.flatMap intC) /\ Kept w w' := by
 obtain ⟨i0, hi, hz0, hzz1, hzz2⟩ := info_parts info_int;go_enter func33, ntmps33;go_wp2_with fail;go_loopw [1, 2] (fun r i wr => ∃ (k : Nat) (a : Option Addr) (c : Nat), 7 <= k /\ k <= 30 /\ i = .int .i64 k /\ r = .slice a (exU k).length c /\ Hid (wr.ownsRow w.heap.size 3 1 (.slice a (exU k).length c) (exU k).length ((exU k).flatMap intC)) /\ Kept w wr) (fun r i wr => 30 - (intOf i).toNat)
 case atStart => exact ⟨7, none, 0, by omega, by omega, rfl, rfl, hid (World.ownsRow_nil _ _ _ _), Kept.refl _⟩
 case round =>
  obtain ⟨k, a, c, h7, h30, rfl, rfl, HR, hkp⟩ := hrel;have hex := exU_next h7;have hlen := exU_len k;have HK := hid hkp;have hsz := hkp.size;clear hkp;by_cases hlt : k < 30
  ·have hltI : (k : Int) <= 29 := by omega
   by_cases h15 : k = 15
   ·rw [if_pos h15, List.append_nil] at hex;have HE := hid hex;have hne : ((k : Int) != 15) = false := by simp; omega
    clear hex hlen;generalize hq : exU k = l at HR HE ⊢;clear hq;go_wp2_with fail;go_roundw
    case rel => exact ⟨k + 1, a, c, by omega, by omega, by go_num, by rw [HE.o], hid (by rw [HE.o]; exact HR.o), HK.o⟩
    case measure => simp [intOf]; omega
   ·rw [if_neg h15] at hex;have HE := hid hex;have hne : ((k : Int) != 15) = true := by simp; omega
    clear hex;generalize hq : exU k = l at HR HE hlen ⊢;clear hq;obtain ⟨W2, hW2⟩ : ∃ W2, wr.alloc (.cells #[.int .i64 (k : Int)] 3) = W2 := ⟨_, rfl⟩;have k2 := kpA hW2;have b2 : Blk W2 wr.heap.size 3 #[.int .i64 (k : Int)] := by rw [<- hW2]; exact Blk.new wr _ _
    have HSR := hid (src_int b2);have HR2 := hid (owns_kept HR.o k2);have HK2 := hid (HK.o.trans k2);have hsz2 : w.heap.size <= W2.heap.size := Nat.le_trans hsz k2.size;have HW2 := hid hW2;clear hW2 k2 b2;go_wp2_with (first | rw [HW2.o] | (at_builtin; refine wpList_apk rfl (.tmp 9) (.tmp 11) 78 78 rfl w.heap.size 1 3 i0 _ 8 underlying78 hi hz0 hzz1 hzz2 rfl rfl HR2.o rfl HSR.o (by unfold maxLen; omega) (by omega) hsz2 ?_; intro v' w4 hown' hgrow hlies; have HN := hid hown'; have HK4 := hid (HK2.o.grown hgrow fun k e => rown_ge HR2.o e); obtain ⟨va', vc', rfl⟩ := slice_of_owns hown'; clear hown' hgrow hlies));go_roundw
    case rel => exact ⟨k + 1, va', vc', by omega, by omega, by go_num, by rw [HE.o, List.length_append]; rfl, hid (by rw [HE.o, List.length_append, List.flatMap_append]; exact HN.o), HK4.o⟩
    case measure => simp [intOf]; omega
  ·obtain rfl : k = 30 := by omega
   have HRN := hid (show wr.ownsRow w.heap.size 3 1 (.slice a exprK.length c) exprK.length (exprK.flatMap intC) from HR.o);rw [show exU 30 = exprK from rfl];go_wp2_with fail;go_ret;exact ⟨a, c, rfl, HRN.o, HK.o⟩
theorem part_results {fn : Func} {p : Tmp} (h : fn.results = #[.cell p 81]) (tmps : Array Value) (W : World) {g : Nat} {x y z : Value}
  (hp : tmps.getD p undef = .pointer (some ⟨g, 0, none⟩)) (hg : Blk W g 81 #[x, y, z]) : (results fn tmps).run prog W = .ok (.agg #[x, y, z]) W :=
 results_cell_row (P := prog) h tmps W g 81 #[x, y, z] (0, 0) _ hp hg underlying81 (by rfl) (by kernel_rfl)
theorem ints_one {w : World} {g : Nat} {x : Int} {t : TypeId} (h : Blk w g t #[.int .i64 x]) : IntsR w (.slice (some ⟨g, 0, none⟩) 1 1) [x] :=
 row_of_blk (l := [x]) h (Nat.le_refl _) (by decide) fun i y hy => by
  have hi : i = 0 := by have := (List.getElem?_eq_some_iff.1 hy).1; simp at this; exact this
  subst hi;simp at hy;subst hy;exact h.cell 0
theorem up_c (m k : Int) (w : World) : Calls prog 34 #[.int .i64 m, .int .i64 k] w fun e w' => ∃ v, e = .returned v /\ PartV w' v (pUp m k) /\ Kept w w' := by
 go_enter func34, ntmps34;go_wp2_with fail;refine bodyPost_ret (part_results (by rfl) _ _ rfl ((Blk.new _ _ _).alloc _)) rfl ⟨_, rfl, ⟨_, _, rfl, ints_one (Blk.at (by simp))⟩, ((Kept.refl w).alloc _).alloc _⟩
inductive Vk where
 | fn
 | ints (l : List Int)
 | part (p : Pt)
 | parts (l : List Pt)
 | need (n : Ne)
 | needs (l : List Ne)
def Vk.ok : Vk -> World -> Value -> Prop
 | fn, _, v => v = .func (.func 34) #[] #[]
 | ints l, w, v => ∃ a c, v = .slice a l.length c /\ IntsR w (.slice a l.length c) l
 | part p, w, v => PartV w v p
 | parts l, w, v => ∃ a c, v = .slice a l.length c /\ PartsR w (.slice a l.length c) l
 | need n, w, v => NeedV w v n
 | needs l, w, v => ∃ a c, v = .slice a l.length c /\ NeedsR w (.slice a l.length c) l
theorem Vk.kept {k : Vk} {w w' : World} {v : Value} (h : k.ok w v) (hk : Kept w w') : k.ok w' v := by
 cases k with
 | fn => exact h
 | ints l => obtain ⟨a, c, e, h⟩ := h; exact ⟨a, c, e, IntsR.kept h hk⟩
 | part p => exact PartV.kept h hk
 | parts l => obtain ⟨a, c, e, h⟩ := h; exact ⟨a, c, e, PartsR.kept h hk⟩
 | need n => exact NeedV.kept h hk
 | needs l => obtain ⟨a, c, e, h⟩ := h; exact ⟨a, c, e, NeedsR.kept h hk⟩
def paC (q : Pt × Value) : List Value := [q.2, .int .i64 q.1.cnt, .int .i64 q.1.more]
def neC (q : Ne × Value) : List Value := [.int .i64 q.1.text, .int .i64 q.1.typ, .string q.1.words, .int .i64 q.1.most, q.2]
theorem parts_row {w : World} {g : Nat} {t : TypeId} (l : List (Pt × Value)) (h : ∀ q ∈ l, IntsR w q.2 q.1.kinds) (hb : Blk w g t (l.flatMap paC).toArray) (hm : l.length <= maxLen) : PartsR w (.slice (some ⟨g, 0, none⟩) (l.map (·.1)).length l.length) (l.map (·.1)) :=
 row_of_blk hb (by simp) hm fun i x hx => by
  rw [List.getElem?_map] at hx;obtain ⟨q, hq, rfl⟩ := Option.map_eq_some_iff.1 hx;have e : ∀ j v, (paC q)[j]? = some v -> w.cell? ⟨g, i * 3 + j, none⟩ = some v := fun j v hv => by
   have hj : j < 3 := (List.getElem?_eq_some_iff.1 hv).1;rw [hb.cell (i * 3 + j), List.getElem?_toArray, flat_at paC (fun _ => rfl) l i j q hq hj];exact hv
  exact ⟨q.2, e 0 _ rfl, e 1 _ rfl, e 2 _ rfl, h q (List.mem_of_getElem? hq)⟩
theorem needs_row {w : World} {g : Nat} {t : TypeId} (l : List (Ne × Value)) (h : ∀ q ∈ l, PartsR w q.2 q.1.kids) (hb : Blk w g t (l.flatMap neC).toArray) (hm : l.length <= maxLen) : NeedsR w (.slice (some ⟨g, 0, none⟩) (l.map (·.1)).length l.length) (l.map (·.1)) :=
 row_of_blk hb (by simp) hm fun i x hx => by
  rw [List.getElem?_map] at hx;obtain ⟨q, hq, rfl⟩ := Option.map_eq_some_iff.1 hx;have e : ∀ j v, (neC q)[j]? = some v -> w.cell? ⟨g, i * 5 + j, none⟩ = some v := fun j v hv => by
   have hj : j < 5 := (List.getElem?_eq_some_iff.1 hv).1;rw [hb.cell (i * 5 + j), List.getElem?_toArray, flat_at neC (fun _ => rfl) l i j q hq hj];exact hv
  exact ⟨q.2, e 0 _ rfl, e 1 _ rfl, e 2 _ rfl, e 3 _ rfl, e 4 _ rfl, h q (List.mem_of_getElem? hq)⟩
def noSlot (ops : Array Oper) (t : Tmp) : Bool := (List.range ops.size).all fun j => dstOf ops j != some t
theorem FlowAt.at {ops : Array Oper} {V : Nat -> World -> Value -> Prop} {a0 : Act} {w0 : World} {done : Nat -> Prop} {a : Act} {w : World} (h : FlowAt ops V a0 w0 done a w) {t : Tmp} (ht : noSlot ops t = true) : a.tmps[t]? = a0.tmps[t]? := by
 refine h.other t fun j hj => ?_;simp only [noSlot, List.all_eq_true, List.mem_range, bne_iff_ne] at ht;rcases Nat.lt_or_ge j ops.size with h' | h'
 ·exact ht j h' hj
 ·unfold dstOf at hj; rw [Array.getElem?_eq_none h'] at hj; cases hj
end Go.Proofs.YtegcgflhgfmkpaaGreatDoor
namespace Go.Proofs.YtegcgflhgfmkpaaGreatDoor
open Lib (hid)
open Go.ChangeShapes Go.WideShapes Go.ChangeAt Go.RowKit
def ndVk : List Vk := [.fn, .part (pUp 40 2), .part pBlock, .parts [pUp 40 2, pBlock], .need ⟨0, 0, noW, 0, [pUp 40 2, pBlock]⟩, .fn, .part (pUp 20 3), .fn, .part (pUp 20 4), .parts [pUp 20 3, pUp 20 4], .need ⟨2, 3, noW, 0, [pUp 20 3, pUp 20 4]⟩, .need ⟨1, 4, noW, 0, []⟩, .fn, .part (pUp 8 5), .part pBlock, .parts [pUp 8 5, pBlock], .need ⟨1, 4, noW, 0, [pUp 8 5, pBlock]⟩, .need ⟨1, 4, noW, 0, []⟩, .ints entK, .part pEnt, .parts [pEnt], .need ⟨0, 0, noW, 0, [pEnt]⟩, .need ⟨0, 0, noW, 9223372036854775807, []⟩, .need ⟨6, 0, wNum, 9007199254740992, []⟩, .need ⟨0, 0, noW, 1, []⟩, .need ⟨7, 0, noW, 0, []⟩, .need ⟨0, 0, noW, 0, []⟩, .need ⟨0, 2, noW, 0, []⟩, .need ⟨0, 0, noW, 0, []⟩, .need ⟨1, 0, noW, 0, []⟩, .part pOne, .parts [pOne], .need ⟨1, 4, noW, 0, [pOne]⟩, .part pOne, .parts [pOne], .need ⟨1, 0, noW, 0, [pOne]⟩, .part pOne, .parts [pOne], .need ⟨1, 0, noW, 0, [pOne]⟩, .part pTwo, .parts [pTwo], .need ⟨1, 0, noW, 0, [pTwo]⟩, .part pOne, .part pArgs, .parts [pOne, pArgs], .need ⟨1, 0, noW, 0, [pOne, pArgs]⟩, .part pArgs, .parts [pArgs], .need ⟨1, 0, noW, 0, [pArgs]⟩, .part pArgs, .parts [pArgs], .need ⟨0, 2, noW, 0, [pArgs]⟩, .part pOne, .part pBlock, .part pBlock, .parts [pOne, pBlock, pBlock], .need ⟨0, 0, noW, 0, [pOne, pBlock, pBlock]⟩, .part pOne, .part pBlock, .parts [pOne, pBlock], .need ⟨0, 0, noW, 0, [pOne, pBlock]⟩, .part pOne, .parts [pOne], .need ⟨5, 0, wUn, 0, [pOne]⟩, .part pTwo, .parts [pTwo], .need ⟨5, 0, wBin, 0, [pTwo]⟩, .need ⟨0, 0, noW, 0, []⟩, .part pOne, .parts [pOne], .need ⟨0, 0, noW, 0, [pOne]⟩, .part pOne, .parts [pOne], .need ⟨0, 4, noW, 0, [pOne]⟩, .part pOne, .parts [pOne], .need ⟨5, 0, wConv, 0, [pOne]⟩, .needs needsT, .needs needsT]
theorem needs_c (w : World) : Calls Tryz.prog 21 #[] w fun e w' => ∃ a c, e = .returned (.slice a needsT.length c) /\ NeedsR w' (.slice a needsT.length c) needsT /\ Kept w w' := by
 obtain ⟨i0, hi, hz0, hzz1, hzz2⟩ := info_parts info_int;have HX := hid (fun W => expr_c W);have hel : exprK.length <= 30 := exU_len 30;go_enter Tryz.func21, Tryz.ntmps21;go_wp2_with fail;refine (HX.o w).mono ?_;rintro e w1 ⟨a1, c1, rfl, ho1, k1⟩;have HO1 := hid ho1;have HK1 := hid k1;clear ho1 k1;go_wp2_with fail;refine (HX.o w1).mono ?_;rintro e w2 ⟨a2, c2, rfl, ho2, k2⟩;obtain ⟨W3, hW3⟩ : ∃ W3, w2.alloc (.cells #[.int .i64 15] 3) = W3 := ⟨_, rfl⟩;have k3 := kpA hW3;have b3 : Blk W3 w2.heap.size 3 #[.int .i64 15] := by rw [<- hW3]; exact Blk.new w2 _ _
 have HSR := hid (src_int b3);have HR3 := hid (owns_kept ho2 k3);have HK3 := hid (k2.trans k3);have hz3 : w1.heap.size <= W3.heap.size := HK3.o.size;have HW3 := hid hW3;clear hW3 k3 b3 ho2 k2;go_wp2_with (first | rw [HW3.o] | (at_builtin; refine wpList_apk rfl (.tmp 9) (.tmp 10) 78 78 rfl w1.heap.size 1 3 i0 _ 8 Tryz.underlying78 hi hz0 hzz1 hzz2 rfl rfl HR3.o rfl HSR.o (by unfold maxLen; omega) (by omega) hz3 ?_; intro v4 w4 hown' hgrow hlies; have HN := hid (ints_of_owns (l := entK) (by simpa [entK, List.flatMap_append] using hown')); have HK4 := hid (HK3.o.grown hgrow fun k e => rown_ge HR3.o e); obtain ⟨a4, c4, rfl⟩ := slice_of_owns hown'; clear hown' hgrow hlies));obtain ⟨n, hn⟩ : ∃ n, exprK.length = n := ⟨_, rfl⟩;have HI1 := hid (IntsR.kept (ints_of_owns HO1.o) HK4.o);obtain ⟨W8, hW8⟩ : ∃ W8, ((((w4.alloc (.cells #[.slice a1 exprK.length c1, .int .i64 1, .int .i64 0] 81)).alloc (.cells #[.slice a1 exprK.length c1, .int .i64 2, .int .i64 0] 81)).alloc (.cells #[.slice a1 exprK.length c1, .int .i64 0, .int .i64 8] 81)).alloc (.cells #[.int .i64 6] 3)).alloc (.cells #[.slice (some ⟨w4.heap.size + 3, 0, none⟩) 1 1, .int .i64 1, .int .i64 0] 81) = W8 := ⟨_, rfl⟩;have hk8 : Kept w4 W8 := by rw [<- hW8]; exact (((((Kept.refl w4).alloc _).alloc _).alloc _).alloc _).alloc _
 have HB3 := hid (show Blk W8.drew w4.heap.size 81 #[.slice a1 exprK.length c1, .int .i64 1, .int .i64 0] by rw [<- hW8]; exact ((((Blk.new w4 _ _).alloc _).alloc _).alloc _).alloc _);have HB4 := hid (show Blk W8.drew (w4.heap.size + 1) 81 #[.slice a1 exprK.length c1, .int .i64 2, .int .i64 0] by rw [<- hW8]; exact (((Blk.at (by simp)).alloc _).alloc _).alloc _);have HB5 := hid (show Blk W8.drew (w4.heap.size + 2) 81 #[.slice a1 exprK.length c1, .int .i64 0, .int .i64 8] by rw [<- hW8]; exact ((Blk.at (by simp)).alloc _).alloc _);have hb6i : Blk W8.drew (w4.heap.size + 3) 3 #[.int .i64 6] := by rw [<- hW8]; exact (Blk.at (by simp)).alloc _
 have HB6 := hid (show Blk W8.drew (w4.heap.size + 4) 81 #[.slice (some ⟨w4.heap.size + 3, 0, none⟩) 1 1, .int .i64 1, .int .i64 0] by rw [<- hW8]; exact Blk.at (by simp));have HI3 := hid (IntsR.kept HI1.o hk8.drew);have HI4 := HI3;have HI5 := HI3;have HI6 := hid (ints_one hb6i);have HEN := hid (IntsR.kept HN.o hk8.drew);have HKW := hid (((HK1.o.trans HK4.o).trans hk8).drew);have HW8 := hid hW8;clear hW8 hk8 hb6i HI1 HN HK1 HK3 HK4 HO1 hn;go_wp2_with fail;rw [HW8.o];refine flow_region (V := fun i w v => (ndVk.getD i .fn).ok w v) (by kernel_rfl) (fun i w w' v h hk => Vk.kept h hk) (by kernel_rfl) (by kernel_rfl) ?step ?done
 case done =>
  intro a w' hF;obtain ⟨na, nc, he, hn⟩ := show Vk.ok (.needs needsT) w' _ from hF.vals 78 0 (of_decide_eq_true (by kernel_rfl)) (by kernel_rfl);have hdf := hF.defers;obtain ⟨tm, df⟩ := a;dsimp only at he hdf;subst hdf;go_wp2_with fail;refine bodyPost_ret (results_tmp rfl _ _ _) rfl ?_;exact ⟨na, nc, by simp [he], hn, HKW.o.trans hF.kept⟩
 case step =>
  intro i o ho a w' hF K hK
  match i, ho, hF, hK with
  | 0, ho, hF, hK =>
   obtain rfl := Option.some.inj ho;have h7 := hF.at (t := 7) (by kernel_rfl);simp only [List.getElem?_toArray, List.getElem?_cons_zero, List.getElem?_cons_succ] at h7;go_simp;exact hK _ _ rfl (Kept.refl _)
  | 1, ho, hF, hK =>
   obtain rfl := Option.some.inj ho;have h1 := hF.vals 0 20 (by kernel_rfl) (by kernel_rfl);change _ = _ at h1;go_simp;refine (up_c 40 2 w').mono ?_;rintro e w2 ⟨v, rfl, hp, hk⟩;exact hK _ _ hp hk
  | 2, ho, hF, hK =>
   obtain rfl := Option.some.inj ho;have h1 := hF.at (t := 6) (by kernel_rfl);simp only [List.getElem?_toArray, List.getElem?_cons_zero, List.getElem?_cons_succ] at h1;have hb := HB6.o.kept hF.kept;have c0 := hb.cell 0;have c1 := hb.cell 1;have c2 := hb.cell 2;simp only [List.getElem?_toArray, List.getElem?_cons_zero, List.getElem?_cons_succ] at c0 c1 c2;go_simp;exact hK _ _ ⟨_, _, rfl, IntsR.kept HI6.o hF.kept⟩ (Kept.refl _)
  | 3, ho, hF, hK =>
   obtain rfl := Option.some.inj ho;obtain ⟨a0, c0, e0, i0⟩ : PartV w' _ (pUp 40 2) := hF.vals 1 21 (by kernel_rfl) (by kernel_rfl);obtain ⟨a1, c1, e1, i1⟩ : PartV w' _ (pBlock) := hF.vals 2 22 (by kernel_rfl) (by kernel_rfl);go_simp;refine hK _ _ ⟨_, _, rfl, parts_row [(pUp 40 2, .slice a0 (pUp 40 2).kinds.length c0), (pBlock, .slice a1 (pBlock).kinds.length c1)] (fun q hq => ?_) (Blk.new w' _ _) (by show 2 <= maxLen; decide)⟩ ((Kept.refl w').alloc _);simp only [List.mem_cons, List.not_mem_nil, or_false] at hq;rcases hq with rfl | rfl
   ·exact IntsR.kept i0 ((Kept.refl w').alloc _)
   ·exact IntsR.kept i1 ((Kept.refl w').alloc _)
  | 4, ho, hF, hK =>
   obtain rfl := Option.some.inj ho;obtain ⟨ka, kc, he, hp⟩ := show Vk.ok (.parts [pUp 40 2, pBlock]) w' _ from hF.vals 3 23 (by kernel_rfl) (by kernel_rfl);go_simp;exact hK _ _ ⟨ka, kc, rfl, hp⟩ (Kept.refl _)
  | 5, ho, hF, hK =>
   obtain rfl := Option.some.inj ho;have h7 := hF.at (t := 7) (by kernel_rfl);simp only [List.getElem?_toArray, List.getElem?_cons_zero, List.getElem?_cons_succ] at h7;go_simp;exact hK _ _ rfl (Kept.refl _)
  | 6, ho, hF, hK =>
   obtain rfl := Option.some.inj ho;have h1 := hF.vals 5 25 (by kernel_rfl) (by kernel_rfl);change _ = _ at h1;go_simp;refine (up_c 20 3 w').mono ?_;rintro e w2 ⟨v, rfl, hp, hk⟩;exact hK _ _ hp hk
  | 7, ho, hF, hK =>
   obtain rfl := Option.some.inj ho;have h7 := hF.at (t := 7) (by kernel_rfl);simp only [List.getElem?_toArray, List.getElem?_cons_zero, List.getElem?_cons_succ] at h7;go_simp;exact hK _ _ rfl (Kept.refl _)
  | 8, ho, hF, hK =>
   obtain rfl := Option.some.inj ho;have h1 := hF.vals 7 27 (by kernel_rfl) (by kernel_rfl);change _ = _ at h1;go_simp;refine (up_c 20 4 w').mono ?_;rintro e w2 ⟨v, rfl, hp, hk⟩;exact hK _ _ hp hk
  | 9, ho, hF, hK =>
   obtain rfl := Option.some.inj ho;obtain ⟨a0, c0, e0, i0⟩ : PartV w' _ (pUp 20 3) := hF.vals 6 26 (by kernel_rfl) (by kernel_rfl);obtain ⟨a1, c1, e1, i1⟩ : PartV w' _ (pUp 20 4) := hF.vals 8 28 (by kernel_rfl) (by kernel_rfl);go_simp;refine hK _ _ ⟨_, _, rfl, parts_row [(pUp 20 3, .slice a0 (pUp 20 3).kinds.length c0), (pUp 20 4, .slice a1 (pUp 20 4).kinds.length c1)] (fun q hq => ?_) (Blk.new w' _ _) (by show 2 <= maxLen; decide)⟩ ((Kept.refl w').alloc _);simp only [List.mem_cons, List.not_mem_nil, or_false] at hq;rcases hq with rfl | rfl
   ·exact IntsR.kept i0 ((Kept.refl w').alloc _)
   ·exact IntsR.kept i1 ((Kept.refl w').alloc _)
  | 10, ho, hF, hK =>
   obtain rfl := Option.some.inj ho;obtain ⟨ka, kc, he, hp⟩ := show Vk.ok (.parts [pUp 20 3, pUp 20 4]) w' _ from hF.vals 9 29 (by kernel_rfl) (by kernel_rfl);go_simp;exact hK _ _ ⟨ka, kc, rfl, hp⟩ (Kept.refl _)
  | 11, ho, hF, hK =>
   obtain rfl := Option.some.inj ho;go_simp;exact hK _ _ ⟨none, 0, rfl, Row.nil⟩ (Kept.refl _)
  | 12, ho, hF, hK =>
   obtain rfl := Option.some.inj ho;have h7 := hF.at (t := 7) (by kernel_rfl);simp only [List.getElem?_toArray, List.getElem?_cons_zero, List.getElem?_cons_succ] at h7;go_simp;exact hK _ _ rfl (Kept.refl _)
  | 13, ho, hF, hK =>
   obtain rfl := Option.some.inj ho;have h1 := hF.vals 12 32 (by kernel_rfl) (by kernel_rfl);change _ = _ at h1;go_simp;refine (up_c 8 5 w').mono ?_;rintro e w2 ⟨v, rfl, hp, hk⟩;exact hK _ _ hp hk
  | 14, ho, hF, hK =>
   obtain rfl := Option.some.inj ho;have h1 := hF.at (t := 6) (by kernel_rfl);simp only [List.getElem?_toArray, List.getElem?_cons_zero, List.getElem?_cons_succ] at h1;have hb := HB6.o.kept hF.kept;have c0 := hb.cell 0;have c1 := hb.cell 1;have c2 := hb.cell 2;simp only [List.getElem?_toArray, List.getElem?_cons_zero, List.getElem?_cons_succ] at c0 c1 c2;go_simp;exact hK _ _ ⟨_, _, rfl, IntsR.kept HI6.o hF.kept⟩ (Kept.refl _)
  | 15, ho, hF, hK =>
   obtain rfl := Option.some.inj ho;obtain ⟨a0, c0, e0, i0⟩ : PartV w' _ (pUp 8 5) := hF.vals 13 33 (by kernel_rfl) (by kernel_rfl);obtain ⟨a1, c1, e1, i1⟩ : PartV w' _ (pBlock) := hF.vals 14 34 (by kernel_rfl) (by kernel_rfl);go_simp;refine hK _ _ ⟨_, _, rfl, parts_row [(pUp 8 5, .slice a0 (pUp 8 5).kinds.length c0), (pBlock, .slice a1 (pBlock).kinds.length c1)] (fun q hq => ?_) (Blk.new w' _ _) (by show 2 <= maxLen; decide)⟩ ((Kept.refl w').alloc _);simp only [List.mem_cons, List.not_mem_nil, or_false] at hq;rcases hq with rfl | rfl
   ·exact IntsR.kept i0 ((Kept.refl w').alloc _)
   ·exact IntsR.kept i1 ((Kept.refl w').alloc _)
  | 16, ho, hF, hK =>
   obtain rfl := Option.some.inj ho;obtain ⟨ka, kc, he, hp⟩ := show Vk.ok (.parts [pUp 8 5, pBlock]) w' _ from hF.vals 15 35 (by kernel_rfl) (by kernel_rfl);go_simp;exact hK _ _ ⟨ka, kc, rfl, hp⟩ (Kept.refl _)
  | 17, ho, hF, hK =>
   obtain rfl := Option.some.inj ho;go_simp;exact hK _ _ ⟨none, 0, rfl, Row.nil⟩ (Kept.refl _)
  | 18, ho, hF, hK =>
   obtain rfl := Option.some.inj ho;have h2 := hF.at (t := 2) (by kernel_rfl);simp only [List.getElem?_toArray, List.getElem?_cons_zero, List.getElem?_cons_succ] at h2;go_simp;exact hK _ _ ⟨_, _, rfl, IntsR.kept HEN.o hF.kept⟩ (Kept.refl _)
  | 19, ho, hF, hK =>
   obtain rfl := Option.some.inj ho;obtain ⟨ea, ec, he, hi⟩ := show Vk.ok (.ints entK) w' _ from hF.vals 18 38 (by kernel_rfl) (by kernel_rfl);go_simp;exact hK _ _ ⟨ea, ec, rfl, hi⟩ (Kept.refl _)
  | 20, ho, hF, hK =>
   obtain rfl := Option.some.inj ho;obtain ⟨a0, c0, e0, i0⟩ : PartV w' _ (pEnt) := hF.vals 19 39 (by kernel_rfl) (by kernel_rfl);go_simp;refine hK _ _ ⟨_, _, rfl, parts_row [(pEnt, .slice a0 (pEnt).kinds.length c0)] (fun q hq => ?_) (Blk.new w' _ _) (by show 1 <= maxLen; decide)⟩ ((Kept.refl w').alloc _);simp only [List.mem_cons, List.not_mem_nil, or_false] at hq;rcases hq with rfl
   ·exact IntsR.kept i0 ((Kept.refl w').alloc _)
  | 21, ho, hF, hK =>
   obtain rfl := Option.some.inj ho;obtain ⟨ka, kc, he, hp⟩ := show Vk.ok (.parts [pEnt]) w' _ from hF.vals 20 40 (by kernel_rfl) (by kernel_rfl);go_simp;exact hK _ _ ⟨ka, kc, rfl, hp⟩ (Kept.refl _)
  | 22, ho, hF, hK =>
   obtain rfl := Option.some.inj ho;go_simp;exact hK _ _ ⟨none, 0, rfl, Row.nil⟩ (Kept.refl _)
  | 23, ho, hF, hK =>
   obtain rfl := Option.some.inj ho;go_simp;exact hK _ _ ⟨none, 0, rfl, Row.nil⟩ (Kept.refl _)
  | 24, ho, hF, hK =>
   obtain rfl := Option.some.inj ho;go_simp;exact hK _ _ ⟨none, 0, rfl, Row.nil⟩ (Kept.refl _)
  | 25, ho, hF, hK =>
   obtain rfl := Option.some.inj ho;go_simp;exact hK _ _ ⟨none, 0, rfl, Row.nil⟩ (Kept.refl _)
  | 26, ho, hF, hK =>
   obtain rfl := Option.some.inj ho;go_simp;exact hK _ _ ⟨none, 0, rfl, Row.nil⟩ (Kept.refl _)
  | 27, ho, hF, hK =>
   obtain rfl := Option.some.inj ho;go_simp;exact hK _ _ ⟨none, 0, rfl, Row.nil⟩ (Kept.refl _)
  | 28, ho, hF, hK =>
   obtain rfl := Option.some.inj ho;go_simp;exact hK _ _ ⟨none, 0, rfl, Row.nil⟩ (Kept.refl _)
  | 29, ho, hF, hK =>
   obtain rfl := Option.some.inj ho;go_simp;exact hK _ _ ⟨none, 0, rfl, Row.nil⟩ (Kept.refl _)
  | 30, ho, hF, hK =>
   obtain rfl := Option.some.inj ho;have h1 := hF.at (t := 3) (by kernel_rfl);simp only [List.getElem?_toArray, List.getElem?_cons_zero, List.getElem?_cons_succ] at h1;have hb := HB3.o.kept hF.kept;have c0 := hb.cell 0;have c1 := hb.cell 1;have c2 := hb.cell 2;simp only [List.getElem?_toArray, List.getElem?_cons_zero, List.getElem?_cons_succ] at c0 c1 c2;go_simp;exact hK _ _ ⟨_, _, rfl, IntsR.kept HI3.o hF.kept⟩ (Kept.refl _)
  | 31, ho, hF, hK =>
   obtain rfl := Option.some.inj ho;obtain ⟨a0, c0, e0, i0⟩ : PartV w' _ (pOne) := hF.vals 30 50 (by kernel_rfl) (by kernel_rfl);go_simp;refine hK _ _ ⟨_, _, rfl, parts_row [(pOne, .slice a0 (pOne).kinds.length c0)] (fun q hq => ?_) (Blk.new w' _ _) (by show 1 <= maxLen; decide)⟩ ((Kept.refl w').alloc _);simp only [List.mem_cons, List.not_mem_nil, or_false] at hq;rcases hq with rfl
   ·exact IntsR.kept i0 ((Kept.refl w').alloc _)
  | 32, ho, hF, hK =>
   obtain rfl := Option.some.inj ho;obtain ⟨ka, kc, he, hp⟩ := show Vk.ok (.parts [pOne]) w' _ from hF.vals 31 51 (by kernel_rfl) (by kernel_rfl);go_simp;exact hK _ _ ⟨ka, kc, rfl, hp⟩ (Kept.refl _)
  | 33, ho, hF, hK =>
   obtain rfl := Option.some.inj ho;have h1 := hF.at (t := 3) (by kernel_rfl);simp only [List.getElem?_toArray, List.getElem?_cons_zero, List.getElem?_cons_succ] at h1;have hb := HB3.o.kept hF.kept;have c0 := hb.cell 0;have c1 := hb.cell 1;have c2 := hb.cell 2;simp only [List.getElem?_toArray, List.getElem?_cons_zero, List.getElem?_cons_succ] at c0 c1 c2;go_simp;exact hK _ _ ⟨_, _, rfl, IntsR.kept HI3.o hF.kept⟩ (Kept.refl _)
  | 34, ho, hF, hK =>
   obtain rfl := Option.some.inj ho;obtain ⟨a0, c0, e0, i0⟩ : PartV w' _ (pOne) := hF.vals 33 53 (by kernel_rfl) (by kernel_rfl);go_simp;refine hK _ _ ⟨_, _, rfl, parts_row [(pOne, .slice a0 (pOne).kinds.length c0)] (fun q hq => ?_) (Blk.new w' _ _) (by show 1 <= maxLen; decide)⟩ ((Kept.refl w').alloc _);simp only [List.mem_cons, List.not_mem_nil, or_false] at hq;rcases hq with rfl
   ·exact IntsR.kept i0 ((Kept.refl w').alloc _)
  | 35, ho, hF, hK =>
   obtain rfl := Option.some.inj ho;obtain ⟨ka, kc, he, hp⟩ := show Vk.ok (.parts [pOne]) w' _ from hF.vals 34 54 (by kernel_rfl) (by kernel_rfl);go_simp;exact hK _ _ ⟨ka, kc, rfl, hp⟩ (Kept.refl _)
  | 36, ho, hF, hK =>
   obtain rfl := Option.some.inj ho;have h1 := hF.at (t := 3) (by kernel_rfl);simp only [List.getElem?_toArray, List.getElem?_cons_zero, List.getElem?_cons_succ] at h1;have hb := HB3.o.kept hF.kept;have c0 := hb.cell 0;have c1 := hb.cell 1;have c2 := hb.cell 2;simp only [List.getElem?_toArray, List.getElem?_cons_zero, List.getElem?_cons_succ] at c0 c1 c2;go_simp;exact hK _ _ ⟨_, _, rfl, IntsR.kept HI3.o hF.kept⟩ (Kept.refl _)
  | 37, ho, hF, hK =>
   obtain rfl := Option.some.inj ho;obtain ⟨a0, c0, e0, i0⟩ : PartV w' _ (pOne) := hF.vals 36 56 (by kernel_rfl) (by kernel_rfl);go_simp;refine hK _ _ ⟨_, _, rfl, parts_row [(pOne, .slice a0 (pOne).kinds.length c0)] (fun q hq => ?_) (Blk.new w' _ _) (by show 1 <= maxLen; decide)⟩ ((Kept.refl w').alloc _);simp only [List.mem_cons, List.not_mem_nil, or_false] at hq;rcases hq with rfl
   ·exact IntsR.kept i0 ((Kept.refl w').alloc _)
  | 38, ho, hF, hK =>
   obtain rfl := Option.some.inj ho;obtain ⟨ka, kc, he, hp⟩ := show Vk.ok (.parts [pOne]) w' _ from hF.vals 37 57 (by kernel_rfl) (by kernel_rfl);go_simp;exact hK _ _ ⟨ka, kc, rfl, hp⟩ (Kept.refl _)
  | 39, ho, hF, hK =>
   obtain rfl := Option.some.inj ho;have h1 := hF.at (t := 4) (by kernel_rfl);simp only [List.getElem?_toArray, List.getElem?_cons_zero, List.getElem?_cons_succ] at h1;have hb := HB4.o.kept hF.kept;have c0 := hb.cell 0;have c1 := hb.cell 1;have c2 := hb.cell 2;simp only [List.getElem?_toArray, List.getElem?_cons_zero, List.getElem?_cons_succ] at c0 c1 c2;go_simp;exact hK _ _ ⟨_, _, rfl, IntsR.kept HI4.o hF.kept⟩ (Kept.refl _)
  | 40, ho, hF, hK =>
   obtain rfl := Option.some.inj ho;obtain ⟨a0, c0, e0, i0⟩ : PartV w' _ (pTwo) := hF.vals 39 59 (by kernel_rfl) (by kernel_rfl);go_simp;refine hK _ _ ⟨_, _, rfl, parts_row [(pTwo, .slice a0 (pTwo).kinds.length c0)] (fun q hq => ?_) (Blk.new w' _ _) (by show 1 <= maxLen; decide)⟩ ((Kept.refl w').alloc _);simp only [List.mem_cons, List.not_mem_nil, or_false] at hq;rcases hq with rfl
   ·exact IntsR.kept i0 ((Kept.refl w').alloc _)
  | 41, ho, hF, hK =>
   obtain rfl := Option.some.inj ho;obtain ⟨ka, kc, he, hp⟩ := show Vk.ok (.parts [pTwo]) w' _ from hF.vals 40 60 (by kernel_rfl) (by kernel_rfl);go_simp;exact hK _ _ ⟨ka, kc, rfl, hp⟩ (Kept.refl _)
  | 42, ho, hF, hK =>
   obtain rfl := Option.some.inj ho;have h1 := hF.at (t := 3) (by kernel_rfl);simp only [List.getElem?_toArray, List.getElem?_cons_zero, List.getElem?_cons_succ] at h1;have hb := HB3.o.kept hF.kept;have c0 := hb.cell 0;have c1 := hb.cell 1;have c2 := hb.cell 2;simp only [List.getElem?_toArray, List.getElem?_cons_zero, List.getElem?_cons_succ] at c0 c1 c2;go_simp;exact hK _ _ ⟨_, _, rfl, IntsR.kept HI3.o hF.kept⟩ (Kept.refl _)
  | 43, ho, hF, hK =>
   obtain rfl := Option.some.inj ho;have h1 := hF.at (t := 5) (by kernel_rfl);simp only [List.getElem?_toArray, List.getElem?_cons_zero, List.getElem?_cons_succ] at h1;have hb := HB5.o.kept hF.kept;have c0 := hb.cell 0;have c1 := hb.cell 1;have c2 := hb.cell 2;simp only [List.getElem?_toArray, List.getElem?_cons_zero, List.getElem?_cons_succ] at c0 c1 c2;go_simp;exact hK _ _ ⟨_, _, rfl, IntsR.kept HI5.o hF.kept⟩ (Kept.refl _)
  | 44, ho, hF, hK =>
   obtain rfl := Option.some.inj ho;obtain ⟨a0, c0, e0, i0⟩ : PartV w' _ (pOne) := hF.vals 42 62 (by kernel_rfl) (by kernel_rfl);obtain ⟨a1, c1, e1, i1⟩ : PartV w' _ (pArgs) := hF.vals 43 63 (by kernel_rfl) (by kernel_rfl);go_simp;refine hK _ _ ⟨_, _, rfl, parts_row [(pOne, .slice a0 (pOne).kinds.length c0), (pArgs, .slice a1 (pArgs).kinds.length c1)] (fun q hq => ?_) (Blk.new w' _ _) (by show 2 <= maxLen; decide)⟩ ((Kept.refl w').alloc _);simp only [List.mem_cons, List.not_mem_nil, or_false] at hq;rcases hq with rfl | rfl
   ·exact IntsR.kept i0 ((Kept.refl w').alloc _)
   ·exact IntsR.kept i1 ((Kept.refl w').alloc _)
  | 45, ho, hF, hK =>
   obtain rfl := Option.some.inj ho;obtain ⟨ka, kc, he, hp⟩ := show Vk.ok (.parts [pOne, pArgs]) w' _ from hF.vals 44 64 (by kernel_rfl) (by kernel_rfl);go_simp;exact hK _ _ ⟨ka, kc, rfl, hp⟩ (Kept.refl _)
  | 46, ho, hF, hK =>
   obtain rfl := Option.some.inj ho;have h1 := hF.at (t := 5) (by kernel_rfl);simp only [List.getElem?_toArray, List.getElem?_cons_zero, List.getElem?_cons_succ] at h1;have hb := HB5.o.kept hF.kept;have c0 := hb.cell 0;have c1 := hb.cell 1;have c2 := hb.cell 2;simp only [List.getElem?_toArray, List.getElem?_cons_zero, List.getElem?_cons_succ] at c0 c1 c2;go_simp;exact hK _ _ ⟨_, _, rfl, IntsR.kept HI5.o hF.kept⟩ (Kept.refl _)
  | 47, ho, hF, hK =>
   obtain rfl := Option.some.inj ho;obtain ⟨a0, c0, e0, i0⟩ : PartV w' _ (pArgs) := hF.vals 46 66 (by kernel_rfl) (by kernel_rfl);go_simp;refine hK _ _ ⟨_, _, rfl, parts_row [(pArgs, .slice a0 (pArgs).kinds.length c0)] (fun q hq => ?_) (Blk.new w' _ _) (by show 1 <= maxLen; decide)⟩ ((Kept.refl w').alloc _);simp only [List.mem_cons, List.not_mem_nil, or_false] at hq;rcases hq with rfl
   ·exact IntsR.kept i0 ((Kept.refl w').alloc _)
  | 48, ho, hF, hK =>
   obtain rfl := Option.some.inj ho;obtain ⟨ka, kc, he, hp⟩ := show Vk.ok (.parts [pArgs]) w' _ from hF.vals 47 67 (by kernel_rfl) (by kernel_rfl);go_simp;exact hK _ _ ⟨ka, kc, rfl, hp⟩ (Kept.refl _)
  | 49, ho, hF, hK =>
   obtain rfl := Option.some.inj ho;have h1 := hF.at (t := 5) (by kernel_rfl);simp only [List.getElem?_toArray, List.getElem?_cons_zero, List.getElem?_cons_succ] at h1;have hb := HB5.o.kept hF.kept;have c0 := hb.cell 0;have c1 := hb.cell 1;have c2 := hb.cell 2;simp only [List.getElem?_toArray, List.getElem?_cons_zero, List.getElem?_cons_succ] at c0 c1 c2;go_simp;exact hK _ _ ⟨_, _, rfl, IntsR.kept HI5.o hF.kept⟩ (Kept.refl _)
  | 50, ho, hF, hK =>
   obtain rfl := Option.some.inj ho;obtain ⟨a0, c0, e0, i0⟩ : PartV w' _ (pArgs) := hF.vals 49 69 (by kernel_rfl) (by kernel_rfl);go_simp;refine hK _ _ ⟨_, _, rfl, parts_row [(pArgs, .slice a0 (pArgs).kinds.length c0)] (fun q hq => ?_) (Blk.new w' _ _) (by show 1 <= maxLen; decide)⟩ ((Kept.refl w').alloc _);simp only [List.mem_cons, List.not_mem_nil, or_false] at hq;rcases hq with rfl
   ·exact IntsR.kept i0 ((Kept.refl w').alloc _)
  | 51, ho, hF, hK =>
   obtain rfl := Option.some.inj ho;obtain ⟨ka, kc, he, hp⟩ := show Vk.ok (.parts [pArgs]) w' _ from hF.vals 50 70 (by kernel_rfl) (by kernel_rfl);go_simp;exact hK _ _ ⟨ka, kc, rfl, hp⟩ (Kept.refl _)
  | 52, ho, hF, hK =>
   obtain rfl := Option.some.inj ho;have h1 := hF.at (t := 3) (by kernel_rfl);simp only [List.getElem?_toArray, List.getElem?_cons_zero, List.getElem?_cons_succ] at h1;have hb := HB3.o.kept hF.kept;have c0 := hb.cell 0;have c1 := hb.cell 1;have c2 := hb.cell 2;simp only [List.getElem?_toArray, List.getElem?_cons_zero, List.getElem?_cons_succ] at c0 c1 c2;go_simp;exact hK _ _ ⟨_, _, rfl, IntsR.kept HI3.o hF.kept⟩ (Kept.refl _)
  | 53, ho, hF, hK =>
   obtain rfl := Option.some.inj ho;have h1 := hF.at (t := 6) (by kernel_rfl);simp only [List.getElem?_toArray, List.getElem?_cons_zero, List.getElem?_cons_succ] at h1;have hb := HB6.o.kept hF.kept;have c0 := hb.cell 0;have c1 := hb.cell 1;have c2 := hb.cell 2;simp only [List.getElem?_toArray, List.getElem?_cons_zero, List.getElem?_cons_succ] at c0 c1 c2;go_simp;exact hK _ _ ⟨_, _, rfl, IntsR.kept HI6.o hF.kept⟩ (Kept.refl _)
  | 54, ho, hF, hK =>
   obtain rfl := Option.some.inj ho;have h1 := hF.at (t := 6) (by kernel_rfl);simp only [List.getElem?_toArray, List.getElem?_cons_zero, List.getElem?_cons_succ] at h1;have hb := HB6.o.kept hF.kept;have c0 := hb.cell 0;have c1 := hb.cell 1;have c2 := hb.cell 2;simp only [List.getElem?_toArray, List.getElem?_cons_zero, List.getElem?_cons_succ] at c0 c1 c2;go_simp;exact hK _ _ ⟨_, _, rfl, IntsR.kept HI6.o hF.kept⟩ (Kept.refl _)
  | 55, ho, hF, hK =>
   obtain rfl := Option.some.inj ho;obtain ⟨a0, c0, e0, i0⟩ : PartV w' _ (pOne) := hF.vals 52 72 (by kernel_rfl) (by kernel_rfl);obtain ⟨a1, c1, e1, i1⟩ : PartV w' _ (pBlock) := hF.vals 53 73 (by kernel_rfl) (by kernel_rfl);obtain ⟨a2, c2, e2, i2⟩ : PartV w' _ (pBlock) := hF.vals 54 74 (by kernel_rfl) (by kernel_rfl);go_simp;refine hK _ _ ⟨_, _, rfl, parts_row [(pOne, .slice a0 (pOne).kinds.length c0), (pBlock, .slice a1 (pBlock).kinds.length c1), (pBlock, .slice a2 (pBlock).kinds.length c2)] (fun q hq => ?_) (Blk.new w' _ _) (by show 3 <= maxLen; decide)⟩ ((Kept.refl w').alloc _);simp only [List.mem_cons, List.not_mem_nil, or_false] at hq;rcases hq with rfl | rfl | rfl
   ·exact IntsR.kept i0 ((Kept.refl w').alloc _)
   ·exact IntsR.kept i1 ((Kept.refl w').alloc _)
   ·exact IntsR.kept i2 ((Kept.refl w').alloc _)
  | 56, ho, hF, hK =>
   obtain rfl := Option.some.inj ho;obtain ⟨ka, kc, he, hp⟩ := show Vk.ok (.parts [pOne, pBlock, pBlock]) w' _ from hF.vals 55 75 (by kernel_rfl) (by kernel_rfl);go_simp;exact hK _ _ ⟨ka, kc, rfl, hp⟩ (Kept.refl _)
  | 57, ho, hF, hK =>
   obtain rfl := Option.some.inj ho;have h1 := hF.at (t := 3) (by kernel_rfl);simp only [List.getElem?_toArray, List.getElem?_cons_zero, List.getElem?_cons_succ] at h1;have hb := HB3.o.kept hF.kept;have c0 := hb.cell 0;have c1 := hb.cell 1;have c2 := hb.cell 2;simp only [List.getElem?_toArray, List.getElem?_cons_zero, List.getElem?_cons_succ] at c0 c1 c2;go_simp;exact hK _ _ ⟨_, _, rfl, IntsR.kept HI3.o hF.kept⟩ (Kept.refl _)
  | 58, ho, hF, hK =>
   obtain rfl := Option.some.inj ho;have h1 := hF.at (t := 6) (by kernel_rfl);simp only [List.getElem?_toArray, List.getElem?_cons_zero, List.getElem?_cons_succ] at h1;have hb := HB6.o.kept hF.kept;have c0 := hb.cell 0;have c1 := hb.cell 1;have c2 := hb.cell 2;simp only [List.getElem?_toArray, List.getElem?_cons_zero, List.getElem?_cons_succ] at c0 c1 c2;go_simp;exact hK _ _ ⟨_, _, rfl, IntsR.kept HI6.o hF.kept⟩ (Kept.refl _)
  | 59, ho, hF, hK =>
   obtain rfl := Option.some.inj ho;obtain ⟨a0, c0, e0, i0⟩ : PartV w' _ (pOne) := hF.vals 57 77 (by kernel_rfl) (by kernel_rfl);obtain ⟨a1, c1, e1, i1⟩ : PartV w' _ (pBlock) := hF.vals 58 78 (by kernel_rfl) (by kernel_rfl);go_simp;refine hK _ _ ⟨_, _, rfl, parts_row [(pOne, .slice a0 (pOne).kinds.length c0), (pBlock, .slice a1 (pBlock).kinds.length c1)] (fun q hq => ?_) (Blk.new w' _ _) (by show 2 <= maxLen; decide)⟩ ((Kept.refl w').alloc _);simp only [List.mem_cons, List.not_mem_nil, or_false] at hq;rcases hq with rfl | rfl
   ·exact IntsR.kept i0 ((Kept.refl w').alloc _)
   ·exact IntsR.kept i1 ((Kept.refl w').alloc _)
  | 60, ho, hF, hK =>
   obtain rfl := Option.some.inj ho;obtain ⟨ka, kc, he, hp⟩ := show Vk.ok (.parts [pOne, pBlock]) w' _ from hF.vals 59 79 (by kernel_rfl) (by kernel_rfl);go_simp;exact hK _ _ ⟨ka, kc, rfl, hp⟩ (Kept.refl _)
  | 61, ho, hF, hK =>
   obtain rfl := Option.some.inj ho;have h1 := hF.at (t := 3) (by kernel_rfl);simp only [List.getElem?_toArray, List.getElem?_cons_zero, List.getElem?_cons_succ] at h1;have hb := HB3.o.kept hF.kept;have c0 := hb.cell 0;have c1 := hb.cell 1;have c2 := hb.cell 2;simp only [List.getElem?_toArray, List.getElem?_cons_zero, List.getElem?_cons_succ] at c0 c1 c2;go_simp;exact hK _ _ ⟨_, _, rfl, IntsR.kept HI3.o hF.kept⟩ (Kept.refl _)
  | 62, ho, hF, hK =>
   obtain rfl := Option.some.inj ho;obtain ⟨a0, c0, e0, i0⟩ : PartV w' _ (pOne) := hF.vals 61 81 (by kernel_rfl) (by kernel_rfl);go_simp;refine hK _ _ ⟨_, _, rfl, parts_row [(pOne, .slice a0 (pOne).kinds.length c0)] (fun q hq => ?_) (Blk.new w' _ _) (by show 1 <= maxLen; decide)⟩ ((Kept.refl w').alloc _);simp only [List.mem_cons, List.not_mem_nil, or_false] at hq;rcases hq with rfl
   ·exact IntsR.kept i0 ((Kept.refl w').alloc _)
  | 63, ho, hF, hK =>
   obtain rfl := Option.some.inj ho;obtain ⟨ka, kc, he, hp⟩ := show Vk.ok (.parts [pOne]) w' _ from hF.vals 62 82 (by kernel_rfl) (by kernel_rfl);go_simp;exact hK _ _ ⟨ka, kc, rfl, hp⟩ (Kept.refl _)
  | 64, ho, hF, hK =>
   obtain rfl := Option.some.inj ho;have h1 := hF.at (t := 4) (by kernel_rfl);simp only [List.getElem?_toArray, List.getElem?_cons_zero, List.getElem?_cons_succ] at h1;have hb := HB4.o.kept hF.kept;have c0 := hb.cell 0;have c1 := hb.cell 1;have c2 := hb.cell 2;simp only [List.getElem?_toArray, List.getElem?_cons_zero, List.getElem?_cons_succ] at c0 c1 c2;go_simp;exact hK _ _ ⟨_, _, rfl, IntsR.kept HI4.o hF.kept⟩ (Kept.refl _)
  | 65, ho, hF, hK =>
   obtain rfl := Option.some.inj ho;obtain ⟨a0, c0, e0, i0⟩ : PartV w' _ (pTwo) := hF.vals 64 84 (by kernel_rfl) (by kernel_rfl);go_simp;refine hK _ _ ⟨_, _, rfl, parts_row [(pTwo, .slice a0 (pTwo).kinds.length c0)] (fun q hq => ?_) (Blk.new w' _ _) (by show 1 <= maxLen; decide)⟩ ((Kept.refl w').alloc _);simp only [List.mem_cons, List.not_mem_nil, or_false] at hq;rcases hq with rfl
   ·exact IntsR.kept i0 ((Kept.refl w').alloc _)
  | 66, ho, hF, hK =>
   obtain rfl := Option.some.inj ho;obtain ⟨ka, kc, he, hp⟩ := show Vk.ok (.parts [pTwo]) w' _ from hF.vals 65 85 (by kernel_rfl) (by kernel_rfl);go_simp;exact hK _ _ ⟨ka, kc, rfl, hp⟩ (Kept.refl _)
  | 67, ho, hF, hK =>
   obtain rfl := Option.some.inj ho;go_simp;exact hK _ _ ⟨none, 0, rfl, Row.nil⟩ (Kept.refl _)
  | 68, ho, hF, hK =>
   obtain rfl := Option.some.inj ho;have h1 := hF.at (t := 3) (by kernel_rfl);simp only [List.getElem?_toArray, List.getElem?_cons_zero, List.getElem?_cons_succ] at h1;have hb := HB3.o.kept hF.kept;have c0 := hb.cell 0;have c1 := hb.cell 1;have c2 := hb.cell 2;simp only [List.getElem?_toArray, List.getElem?_cons_zero, List.getElem?_cons_succ] at c0 c1 c2;go_simp;exact hK _ _ ⟨_, _, rfl, IntsR.kept HI3.o hF.kept⟩ (Kept.refl _)
  | 69, ho, hF, hK =>
   obtain rfl := Option.some.inj ho;obtain ⟨a0, c0, e0, i0⟩ : PartV w' _ (pOne) := hF.vals 68 88 (by kernel_rfl) (by kernel_rfl);go_simp;refine hK _ _ ⟨_, _, rfl, parts_row [(pOne, .slice a0 (pOne).kinds.length c0)] (fun q hq => ?_) (Blk.new w' _ _) (by show 1 <= maxLen; decide)⟩ ((Kept.refl w').alloc _);simp only [List.mem_cons, List.not_mem_nil, or_false] at hq;rcases hq with rfl
   ·exact IntsR.kept i0 ((Kept.refl w').alloc _)
  | 70, ho, hF, hK =>
   obtain rfl := Option.some.inj ho;obtain ⟨ka, kc, he, hp⟩ := show Vk.ok (.parts [pOne]) w' _ from hF.vals 69 89 (by kernel_rfl) (by kernel_rfl);go_simp;exact hK _ _ ⟨ka, kc, rfl, hp⟩ (Kept.refl _)
  | 71, ho, hF, hK =>
   obtain rfl := Option.some.inj ho;have h1 := hF.at (t := 3) (by kernel_rfl);simp only [List.getElem?_toArray, List.getElem?_cons_zero, List.getElem?_cons_succ] at h1;have hb := HB3.o.kept hF.kept;have c0 := hb.cell 0;have c1 := hb.cell 1;have c2 := hb.cell 2;simp only [List.getElem?_toArray, List.getElem?_cons_zero, List.getElem?_cons_succ] at c0 c1 c2;go_simp;exact hK _ _ ⟨_, _, rfl, IntsR.kept HI3.o hF.kept⟩ (Kept.refl _)
  | 72, ho, hF, hK =>
   obtain rfl := Option.some.inj ho;obtain ⟨a0, c0, e0, i0⟩ : PartV w' _ (pOne) := hF.vals 71 91 (by kernel_rfl) (by kernel_rfl);go_simp;refine hK _ _ ⟨_, _, rfl, parts_row [(pOne, .slice a0 (pOne).kinds.length c0)] (fun q hq => ?_) (Blk.new w' _ _) (by show 1 <= maxLen; decide)⟩ ((Kept.refl w').alloc _);simp only [List.mem_cons, List.not_mem_nil, or_false] at hq;rcases hq with rfl
   ·exact IntsR.kept i0 ((Kept.refl w').alloc _)
  | 73, ho, hF, hK =>
   obtain rfl := Option.some.inj ho;obtain ⟨ka, kc, he, hp⟩ := show Vk.ok (.parts [pOne]) w' _ from hF.vals 72 92 (by kernel_rfl) (by kernel_rfl);go_simp;exact hK _ _ ⟨ka, kc, rfl, hp⟩ (Kept.refl _)
  | 74, ho, hF, hK =>
   obtain rfl := Option.some.inj ho;have h1 := hF.at (t := 3) (by kernel_rfl);simp only [List.getElem?_toArray, List.getElem?_cons_zero, List.getElem?_cons_succ] at h1;have hb := HB3.o.kept hF.kept;have c0 := hb.cell 0;have c1 := hb.cell 1;have c2 := hb.cell 2;simp only [List.getElem?_toArray, List.getElem?_cons_zero, List.getElem?_cons_succ] at c0 c1 c2;go_simp;exact hK _ _ ⟨_, _, rfl, IntsR.kept HI3.o hF.kept⟩ (Kept.refl _)
  | 75, ho, hF, hK =>
   obtain rfl := Option.some.inj ho;obtain ⟨a0, c0, e0, i0⟩ : PartV w' _ (pOne) := hF.vals 74 94 (by kernel_rfl) (by kernel_rfl);go_simp;refine hK _ _ ⟨_, _, rfl, parts_row [(pOne, .slice a0 (pOne).kinds.length c0)] (fun q hq => ?_) (Blk.new w' _ _) (by show 1 <= maxLen; decide)⟩ ((Kept.refl w').alloc _);simp only [List.mem_cons, List.not_mem_nil, or_false] at hq;rcases hq with rfl
   ·exact IntsR.kept i0 ((Kept.refl w').alloc _)
  | 76, ho, hF, hK =>
   obtain rfl := Option.some.inj ho;obtain ⟨ka, kc, he, hp⟩ := show Vk.ok (.parts [pOne]) w' _ from hF.vals 75 95 (by kernel_rfl) (by kernel_rfl);go_simp;exact hK _ _ ⟨ka, kc, rfl, hp⟩ (Kept.refl _)
  | 77, ho, hF, hK =>
   obtain rfl := Option.some.inj ho;obtain ⟨a1, c1, e1, i1⟩ : NeedV w' _ ⟨0, 0, noW, 0, [pUp 40 2, pBlock]⟩ := hF.vals 4 24 (by kernel_rfl) (by kernel_rfl);obtain ⟨a2, c2, e2, i2⟩ : NeedV w' _ ⟨2, 3, noW, 0, [pUp 20 3, pUp 20 4]⟩ := hF.vals 10 30 (by kernel_rfl) (by kernel_rfl);obtain ⟨a3, c3, e3, i3⟩ : NeedV w' _ ⟨1, 4, noW, 0, []⟩ := hF.vals 11 31 (by kernel_rfl) (by kernel_rfl);obtain ⟨a4, c4, e4, i4⟩ : NeedV w' _ ⟨1, 4, noW, 0, [pUp 8 5, pBlock]⟩ := hF.vals 16 36 (by kernel_rfl) (by kernel_rfl);obtain ⟨a5, c5, e5, i5⟩ : NeedV w' _ ⟨1, 4, noW, 0, []⟩ := hF.vals 17 37 (by kernel_rfl) (by kernel_rfl);obtain ⟨a6, c6, e6, i6⟩ : NeedV w' _ ⟨0, 0, noW, 0, [pEnt]⟩ := hF.vals 21 41 (by kernel_rfl) (by kernel_rfl);obtain ⟨a7, c7, e7, i7⟩ : NeedV w' _ ⟨0, 0, noW, 9223372036854775807, []⟩ := hF.vals 22 42 (by kernel_rfl) (by kernel_rfl);obtain ⟨a8, c8, e8, i8⟩ : NeedV w' _ ⟨6, 0, wNum, 9007199254740992, []⟩ := hF.vals 23 43 (by kernel_rfl) (by kernel_rfl);obtain ⟨a9, c9, e9, i9⟩ : NeedV w' _ ⟨0, 0, noW, 1, []⟩ := hF.vals 24 44 (by kernel_rfl) (by kernel_rfl);obtain ⟨a10, c10, e10, i10⟩ : NeedV w' _ ⟨7, 0, noW, 0, []⟩ := hF.vals 25 45 (by kernel_rfl) (by kernel_rfl);obtain ⟨a11, c11, e11, i11⟩ : NeedV w' _ ⟨0, 0, noW, 0, []⟩ := hF.vals 26 46 (by kernel_rfl) (by kernel_rfl);obtain ⟨a12, c12, e12, i12⟩ : NeedV w' _ ⟨0, 2, noW, 0, []⟩ := hF.vals 27 47 (by kernel_rfl) (by kernel_rfl);obtain ⟨a13, c13, e13, i13⟩ : NeedV w' _ ⟨0, 0, noW, 0, []⟩ := hF.vals 28 48 (by kernel_rfl) (by kernel_rfl);obtain ⟨a14, c14, e14, i14⟩ : NeedV w' _ ⟨1, 0, noW, 0, []⟩ := hF.vals 29 49 (by kernel_rfl) (by kernel_rfl);obtain ⟨a15, c15, e15, i15⟩ : NeedV w' _ ⟨1, 4, noW, 0, [pOne]⟩ := hF.vals 32 52 (by kernel_rfl) (by kernel_rfl);obtain ⟨a16, c16, e16, i16⟩ : NeedV w' _ ⟨1, 0, noW, 0, [pOne]⟩ := hF.vals 35 55 (by kernel_rfl) (by kernel_rfl);obtain ⟨a17, c17, e17, i17⟩ : NeedV w' _ ⟨1, 0, noW, 0, [pOne]⟩ := hF.vals 38 58 (by kernel_rfl) (by kernel_rfl);obtain ⟨a18, c18, e18, i18⟩ : NeedV w' _ ⟨1, 0, noW, 0, [pTwo]⟩ := hF.vals 41 61 (by kernel_rfl) (by kernel_rfl);obtain ⟨a19, c19, e19, i19⟩ : NeedV w' _ ⟨1, 0, noW, 0, [pOne, pArgs]⟩ := hF.vals 45 65 (by kernel_rfl) (by kernel_rfl);obtain ⟨a20, c20, e20, i20⟩ : NeedV w' _ ⟨1, 0, noW, 0, [pArgs]⟩ := hF.vals 48 68 (by kernel_rfl) (by kernel_rfl);obtain ⟨a21, c21, e21, i21⟩ : NeedV w' _ ⟨0, 2, noW, 0, [pArgs]⟩ := hF.vals 51 71 (by kernel_rfl) (by kernel_rfl);obtain ⟨a22, c22, e22, i22⟩ : NeedV w' _ ⟨0, 0, noW, 0, [pOne, pBlock, pBlock]⟩ := hF.vals 56 76 (by kernel_rfl) (by kernel_rfl);obtain ⟨a23, c23, e23, i23⟩ : NeedV w' _ ⟨0, 0, noW, 0, [pOne, pBlock]⟩ := hF.vals 60 80 (by kernel_rfl) (by kernel_rfl);obtain ⟨a24, c24, e24, i24⟩ : NeedV w' _ ⟨5, 0, wUn, 0, [pOne]⟩ := hF.vals 63 83 (by kernel_rfl) (by kernel_rfl);obtain ⟨a25, c25, e25, i25⟩ : NeedV w' _ ⟨5, 0, wBin, 0, [pTwo]⟩ := hF.vals 66 86 (by kernel_rfl) (by kernel_rfl);obtain ⟨a26, c26, e26, i26⟩ : NeedV w' _ ⟨0, 0, noW, 0, []⟩ := hF.vals 67 87 (by kernel_rfl) (by kernel_rfl);obtain ⟨a27, c27, e27, i27⟩ : NeedV w' _ ⟨0, 0, noW, 0, [pOne]⟩ := hF.vals 70 90 (by kernel_rfl) (by kernel_rfl);obtain ⟨a28, c28, e28, i28⟩ : NeedV w' _ ⟨0, 4, noW, 0, [pOne]⟩ := hF.vals 73 93 (by kernel_rfl) (by kernel_rfl);obtain ⟨a29, c29, e29, i29⟩ : NeedV w' _ ⟨5, 0, wConv, 0, [pOne]⟩ := hF.vals 76 96 (by kernel_rfl) (by kernel_rfl);go_simp;refine hK _ _ ⟨_, _, rfl, needs_row [(⟨0, 0, noW, 0, []⟩, .slice none 0 0), (⟨0, 0, noW, 0, [pUp 40 2, pBlock]⟩, .slice a1 ([pUp 40 2, pBlock] : List Pt).length c1), (⟨2, 3, noW, 0, [pUp 20 3, pUp 20 4]⟩, .slice a2 ([pUp 20 3, pUp 20 4] : List Pt).length c2), (⟨1, 4, noW, 0, []⟩, .slice a3 ([] : List Pt).length c3), (⟨1, 4, noW, 0, [pUp 8 5, pBlock]⟩, .slice a4 ([pUp 8 5, pBlock] : List Pt).length c4), (⟨1, 4, noW, 0, []⟩, .slice a5 ([] : List Pt).length c5), (⟨0, 0, noW, 0, [pEnt]⟩, .slice a6 ([pEnt] : List Pt).length c6), (⟨0, 0, noW, 9223372036854775807, []⟩, .slice a7 ([] : List Pt).length c7), (⟨6, 0, wNum, 9007199254740992, []⟩, .slice a8 ([] : List Pt).length c8), (⟨0, 0, noW, 1, []⟩, .slice a9 ([] : List Pt).length c9), (⟨7, 0, noW, 0, []⟩, .slice a10 ([] : List Pt).length c10), (⟨0, 0, noW, 0, []⟩, .slice a11 ([] : List Pt).length c11), (⟨0, 2, noW, 0, []⟩, .slice a12 ([] : List Pt).length c12), (⟨0, 0, noW, 0, []⟩, .slice a13 ([] : List Pt).length c13), (⟨1, 0, noW, 0, []⟩, .slice a14 ([] : List Pt).length c14), (⟨1, 4, noW, 0, [pOne]⟩, .slice a15 ([pOne] : List Pt).length c15), (⟨1, 0, noW, 0, [pOne]⟩, .slice a16 ([pOne] : List Pt).length c16), (⟨1, 0, noW, 0, [pOne]⟩, .slice a17 ([pOne] : List Pt).length c17), (⟨1, 0, noW, 0, [pTwo]⟩, .slice a18 ([pTwo] : List Pt).length c18), (⟨1, 0, noW, 0, [pOne, pArgs]⟩, .slice a19 ([pOne, pArgs] : List Pt).length c19), (⟨1, 0, noW, 0, [pArgs]⟩, .slice a20 ([pArgs] : List Pt).length c20), (⟨0, 2, noW, 0, [pArgs]⟩, .slice a21 ([pArgs] : List Pt).length c21), (⟨0, 0, noW, 0, [pOne, pBlock, pBlock]⟩, .slice a22 ([pOne, pBlock, pBlock] : List Pt).length c22), (⟨0, 0, noW, 0, [pOne, pBlock]⟩, .slice a23 ([pOne, pBlock] : List Pt).length c23), (⟨5, 0, wUn, 0, [pOne]⟩, .slice a24 ([pOne] : List Pt).length c24), (⟨5, 0, wBin, 0, [pTwo]⟩, .slice a25 ([pTwo] : List Pt).length c25), (⟨0, 0, noW, 0, []⟩, .slice a26 ([] : List Pt).length c26), (⟨0, 0, noW, 0, [pOne]⟩, .slice a27 ([pOne] : List Pt).length c27), (⟨0, 4, noW, 0, [pOne]⟩, .slice a28 ([pOne] : List Pt).length c28), (⟨5, 0, wConv, 0, [pOne]⟩, .slice a29 ([pOne] : List Pt).length c29)] (fun q hq => ?_) (Blk.new w' _ _) (by show 30 <= maxLen; decide)⟩ ((Kept.refl w').alloc _);simp only [List.mem_cons, List.not_mem_nil, or_false] at hq;rcases hq with rfl | rfl | rfl | rfl | rfl | rfl | rfl | rfl | rfl | rfl | rfl | rfl | rfl | rfl | rfl | rfl | rfl | rfl | rfl | rfl | rfl | rfl | rfl | rfl | rfl | rfl | rfl | rfl | rfl | rfl
   ·exact Row.nil
   ·exact PartsR.kept i1 ((Kept.refl w').alloc _)
   ·exact PartsR.kept i2 ((Kept.refl w').alloc _)
   ·exact PartsR.kept i3 ((Kept.refl w').alloc _)
   ·exact PartsR.kept i4 ((Kept.refl w').alloc _)
   ·exact PartsR.kept i5 ((Kept.refl w').alloc _)
   ·exact PartsR.kept i6 ((Kept.refl w').alloc _)
   ·exact PartsR.kept i7 ((Kept.refl w').alloc _)
   ·exact PartsR.kept i8 ((Kept.refl w').alloc _)
   ·exact PartsR.kept i9 ((Kept.refl w').alloc _)
   ·exact PartsR.kept i10 ((Kept.refl w').alloc _)
   ·exact PartsR.kept i11 ((Kept.refl w').alloc _)
   ·exact PartsR.kept i12 ((Kept.refl w').alloc _)
   ·exact PartsR.kept i13 ((Kept.refl w').alloc _)
   ·exact PartsR.kept i14 ((Kept.refl w').alloc _)
   ·exact PartsR.kept i15 ((Kept.refl w').alloc _)
   ·exact PartsR.kept i16 ((Kept.refl w').alloc _)
   ·exact PartsR.kept i17 ((Kept.refl w').alloc _)
   ·exact PartsR.kept i18 ((Kept.refl w').alloc _)
   ·exact PartsR.kept i19 ((Kept.refl w').alloc _)
   ·exact PartsR.kept i20 ((Kept.refl w').alloc _)
   ·exact PartsR.kept i21 ((Kept.refl w').alloc _)
   ·exact PartsR.kept i22 ((Kept.refl w').alloc _)
   ·exact PartsR.kept i23 ((Kept.refl w').alloc _)
   ·exact PartsR.kept i24 ((Kept.refl w').alloc _)
   ·exact PartsR.kept i25 ((Kept.refl w').alloc _)
   ·exact PartsR.kept i26 ((Kept.refl w').alloc _)
   ·exact PartsR.kept i27 ((Kept.refl w').alloc _)
   ·exact PartsR.kept i28 ((Kept.refl w').alloc _)
   ·exact PartsR.kept i29 ((Kept.refl w').alloc _)
  | 78, ho, hF, hK =>
   obtain rfl := Option.some.inj ho;obtain ⟨na, nc, he, hn⟩ := show Vk.ok (.needs needsT) w' _ from hF.vals 77 97 (by kernel_rfl) (by kernel_rfl);go_simp;exact hK _ _ ⟨na, nc, rfl, hn⟩ (Kept.refl _)
  | i + 79, ho, hF, hK => exact absurd ho (by simp)
end Go.Proofs.YtegcgflhgfmkpaaGreatDoor
