import Derived.Test.YtegcgflhgfmkpaaGreatDoorUTkm
import Derived.RangeFuncNested
import Derived.RangeFuncBound
import Derived.RangeFuncCalls
import Derived.RangeFuncLeaves
import Derived.RangeFuncBox
import Derived.Shelf.Abstract
import Derived.Shelf.RegionOpen
import Derived.WalkKit
import Derived.OwnWalkIn
import Derived.TacticsInMore
import Derived.LoopNIn
import Derived.LoopIn
import Derived.Maps.AppendAt
import Derived.WalkLawsBesides
import Derived.Test.YtegcgflhgfmkpaaGreatDoorUw1
import Derived.Test.YtegcgflhgfmkpaaGreatDoorUw5
set_option linter.unusedSimpArgs false
set_option linter.unusedVariables false
set_option maxHeartbeats 16000000
namespace Go.Proofs.YtegcgflhgfmkpaaGreatDoor
open Lib (hid)
open _root_.Go.Proofs.Tryz
open Go.RowKit Go.Shelf
attribute [local go_sem] Oper.semAt_some
def bcs : Array Value := (Wrd.bs.zipIdx.flatMap fun x => [Value.string x.1, Value.int .i64 (x.2 + 1)]).toArray
def ecs : Array Value := #[.int .u8 34, .int .u8 34, .int .u8 92, .int .u8 92, .int .u8 110, .int .u8 10]
def spl : List Int := (List.range 256).map fun c => if Wrd.spB (UInt8.ofNat c) then 1 else 0
def spcs : Array Value := (spl.map fun z => Value.int .u8 z).toArray
def Tb (w : World) : Prop := (∃ t fr, w.heap[4]? = some (.cells bcs t fr)) /\ (∃ t fr, w.heap[0]? = some (.cells spcs t fr)) /\ (∃ t fr, w.heap[2]? = some (.cells ecs t fr))
def TbP (k : Nat) : Prop := k = 4 ∨ k = 0 ∨ k = 2
theorem Tb.same {w w' : World} (h : Tb w) (hs : ∀ k, TbP k -> w'.heap[k]? = w.heap[k]?) : Tb w' := by
 obtain ⟨⟨t0, f0, a⟩, ⟨t1, f1, b⟩, ⟨t2, f2, c⟩⟩ := h;exact ⟨⟨t0, f0, (hs _ (.inl rfl)).trans a⟩, ⟨t1, f1, (hs _ (.inr (.inl rfl))).trans b⟩, ⟨t2, f2, (hs _ (.inr (.inr rfl))).trans c⟩⟩
theorem Tb.ltP {w : World} (h : Tb w) (k : Nat) (hk : TbP k) : k < w.heap.size := by
 obtain ⟨⟨t0, f0, a⟩, ⟨t1, f1, b⟩, ⟨t2, f2, c⟩⟩ := h;rcases hk with rfl | rfl | rfl
 ·exact (Array.getElem?_eq_some_iff.1 a).1
 ·exact (Array.getElem?_eq_some_iff.1 b).1
 ·exact (Array.getElem?_eq_some_iff.1 c).1
theorem Tb.lt {w : World} (h : Tb w) : 4 < w.heap.size /\ 0 < w.heap.size /\ 2 < w.heap.size := ⟨h.ltP _ (.inl rfl), h.ltP _ (.inr (.inl rfl)), h.ltP _ (.inr (.inr rfl))⟩
theorem Tb.blank {w : World} (h : Tb w) (c : UInt8) : w.cell? ⟨0, c.toNat, none⟩ = some (.int .u8 (if Wrd.spB c then 1 else 0)) := by
 obtain ⟨_, ⟨u, gr, b⟩, _⟩ := h;rw [cell_of_row w _ _ spcs u gr b];have hc := c.toNat_lt;unfold spcs spl;simp [List.getElem?_map, List.getElem?_range hc]
theorem Tb.esc {w : World} (h : Tb w) : ∃ t fr, w.heap[2]? = some (.cells ecs t fr) := by
 obtain ⟨_, _, h⟩ := h;exact h
theorem Tb.kept {w w' : World} (h : Tb w) (k : Kept w w') : Tb w' := h.same fun i hi => k.block i (h.ltP i hi)
def Kp3 (Bn : Nat) (W W' : World) : Prop := W.heap.size <= W'.heap.size /\ ∀ k, TbP k ∨ k = Bn -> W'.heap[k]? = W.heap[k]?
theorem kp3_t {Bn : Nat} {A B C : World} (h : Kp3 Bn A B) (k : Kp3 Bn B C) : Kp3 Bn A C := ⟨Nat.le_trans h.1 k.1, fun i hi => (k.2 i hi).trans (h.2 i hi)⟩
theorem kp3_b {Bn : Nat} {w : World} (hT : Tb w) (hB : Bn < w.heap.size) (W : World) (l : Nat) (o o' : Obj) (hl : w.heap.size <= l) (h : W.heap[l]? = some o) (_ : o.isCells = false) (_ : o.isWalk = false) : Kp3 Bn W (W.putObj l o') := by
 refine ⟨by simp [World.putObj], fun k hk => World.putObj_heap_other ?_⟩;rcases hk with hk | rfl
 ·have := hT.ltP k hk; omega
 ·omega
def stV : Option Nat -> Int
 | none => -1
 | some b => b
theorem yield_lt {s : ByteArray} {pre : List ByteArray} {x : ByteArray} (h : pre ++ [x] <+: Wrd.flds s) : pre.length < (Wrd.flds s).length := by
 have := h.length_le;simp at this;omega
theorem st_end {s : ByteArray} {k b : Nat} {pre : List ByteArray} (hk : k < s.size) (h : Wrd.st s k = (some b, pre)) (hc : Wrd.spB (s.data.toList.getD k 0) = true) : Wrd.st s (k + 1) = (none, pre ++ [s.extract b k]) := by
 conv => lhs; unfold Wrd.st
 rw [h]; dsimp only; rw [if_pos hc]
theorem st_goes {s : ByteArray} {k b : Nat} {pre : List ByteArray} (h : Wrd.st s k = (some b, pre)) (hc : Wrd.spB (s.data.toList.getD k 0) = false) : Wrd.st s (k + 1) = (some b, pre) := by
 conv => lhs; unfold Wrd.st
 rw [h]; dsimp only; rw [hc]; rfl
theorem st_none {s : ByteArray} {k : Nat} {pre : List ByteArray} (h : Wrd.st s k = (none, pre)) (hc : Wrd.spB (s.data.toList.getD k 0) = true) : Wrd.st s (k + 1) = (none, pre) := by
 conv => lhs; unfold Wrd.st
 rw [h]; dsimp only; rw [hc]; rfl
theorem st_opens {s : ByteArray} {k : Nat} {pre : List ByteArray} (h : Wrd.st s k = (none, pre)) (hc : Wrd.spB (s.data.toList.getD k 0) = false) : Wrd.st s (k + 1) = (some k, pre) := by
 conv => lhs; unfold Wrd.st
 rw [h]; dsimp only; rw [hc]; rfl
set_option maxRecDepth 100000 in
theorem fseq1_in (F : Fence) (n : Nat) (h6 : F.fn 141) (hro : F.round = none) (hn : 1 <= n) (l Bn : Nat) (s : ByteArray) (hs : s.size <= 9223372036854775807) (ha : ∀ c ∈ s.data.toList, c.toNat < 128) (J Jx : List ByteArray -> World -> Prop)
  (hY : ∀ pre (x : ByteArray) W, J pre W -> pre.length < (Wrd.flds s).length -> YieldAt F (n - 1) prog l #[.string x] W fun e W' =>
   (e = .returned (.bool true) /\ J (pre ++ [x]) W' /\ Kp3 Bn W W') ∨ (e = .returned (.bool false) /\ Jx (pre ++ [x]) W'))
  (W : World) (hT : Tb W) (hBn : W.cell? ⟨Bn, 0, none⟩ = some (.string s)) (h0 : J [] W) :
  CallsIn F n prog 141 #[.func (.yield l) #[] #[], .pointer (some ⟨Bn, 0, none⟩)] W fun e W' => (∃ v, e = .returned v) /\
   ((∃ ys : List ByteArray, ys = Wrd.flds s /\ J ys W') ∨ (∃ pre : List ByteArray, pre <+: Wrd.flds s /\ Jx pre W')) := by
 refine callsIn_of_wp func141 rfl h6 ?_ hro;simp only [ntmps141, List.size_toArray, List.length_cons, List.length_nil, Nat.reduceAdd, Nat.reduceSub, Array.replicate_succ, Array.replicate_zero, List.push_toArray, List.append_toArray, List.nil_append, List.cons_append]
 gi_wp2
 gi_loopw [3, 4] (fun b i wr => ∃ (k : Nat) (ob : Option Nat) (pre : List ByteArray), k <= s.size /\ i = .int .i64 k /\ b = .int .i64 (stV ob) /\ Wrd.st s k = (ob, pre) /\ J pre wr /\ Tb wr /\ wr.cell? ⟨Bn, 0, none⟩ = some (.string s))
  (fun b i wr => s.size - (intOf i).toNat)
 case atStart =>
  exact ⟨0, none, [], by omega, rfl, rfl, rfl, h0, hT, hBn⟩
 case round =>
  obtain ⟨k, ob, pre, hk, rfl, rfl, hst, hJ, hT, hB⟩ := hrel;clear h0 hBn;by_cases hlt : k < s.size
  ·have hge : s.data.toList.getD k 0 = s[k] := by simp [List.getD, hlt]; rfl
   have hcell := hT.blank s[k];have hac : (s[k].toNat : Int) < 128 := by
    have := ha s[k] (by rw [<- hge]; simp [List.getD, hlt]);omega
   cases hsp : Wrd.spB s[k] with
   | true =>
    rw [hsp] at hcell;rw [if_pos rfl] at hcell
    cases ob with
    | none =>
     have HS := hid (st_none hst (by rw [hge]; exact hsp));have HJ := hid hJ;have HT := hid hT;clear hst hJ hT hY ha hge hsp;simp only [stV]
     gi_wp2
     go_roundw
     case rel => exact ⟨k + 1, none, pre, by omega, by go_num, rfl, HS.o, HJ.o, HT.o, hB⟩
     case measure => simp [intOf]; omega
    | some b =>
     have hbk := Wrd.st_lt s k b pre hst;have hend := st_end hlt hst (by rw [hge]; exact hsp);have hpre : pre ++ [s.extract b k] <+: Wrd.flds s := by
      have := Wrd.st_flds s (k := k + 1) (by omega);rw [hend] at this; exact this
     obtain ⟨fn, tmps, assign, body, hy, hR⟩ := hY pre (s.extract b k) wr hJ (yield_lt hpre);have HS := hid hend;have HP := hid hpre;have HT := hid hT;have HB := hid hB;have hb0 : (0 : Int) <= (b : Int) := Int.natCast_nonneg b;have hbk' : (b : Int) <= (k : Int) := by omega
     have hks : (k : Int) <= (s.size : Int) := by omega
     clear hst hJ hT hY ha hge hsp hend hpre;simp only [stV]
     gi_wp2
     refine hR.mono ?_;rintro e W3 (⟨rfl, hJ3, hk3⟩ | ⟨rfl, hJx3⟩)
     ·have hT3 := HT.o.same (fun k hk => hk3.2 k (.inl hk));have hB3 : W3.cell? ⟨Bn, 0, none⟩ = some (.string s) := (World.cell?_of_block (w := wr) (hk3.2 Bn (.inr rfl))).trans HB.o;have HJ := hid hJ3;have HT3 := hid hT3;clear hJ3 hT3 hk3
      gi_wp2
      go_roundw
      case rel => exact ⟨k + 1, none, _, by omega, by go_num, rfl, HS.o, HJ.o, HT3.o, hB3⟩
      case measure => simp [intOf]; omega
     ·gi_wp2
      refine bodyPost_ret (results_none rfl _ _ _) rfl ?_;exact ⟨⟨_, rfl⟩, .inr ⟨_, HP.o, hJx3⟩⟩
   | false =>
    rw [hsp] at hcell;rw [if_neg (by decide)] at hcell
    cases ob with
    | none =>
     have HS := hid (st_opens hst (by rw [hge]; exact hsp));have HJ := hid hJ;have HT := hid hT;clear hst hJ hT hY ha hge hsp;simp only [stV]
     gi_wp2
     go_roundw
     case rel => exact ⟨k + 1, some k, pre, by omega, by go_num, rfl, HS.o, HJ.o, HT.o, hB⟩
     case measure => simp [intOf]; omega
    | some b =>
     have HS := hid (st_goes hst (by rw [hge]; exact hsp));have HJ := hid hJ;have HT := hid hT;have hb0 : (0 : Int) <= (b : Int) := Int.natCast_nonneg b;clear hst hJ hT hY ha hge hsp;simp only [stV]
     gi_wp2
     go_roundw
     case rel => exact ⟨k + 1, some b, pre, by omega, by go_num, rfl, HS.o, HJ.o, HT.o, hB⟩
     case measure => simp [intOf]; omega
  ·obtain rfl : k = s.size := by omega
   clear hlt
   cases ob with
   | none =>
    have HS := hid (show pre = Wrd.flds s by unfold Wrd.flds; rw [hst]);have HJ := hid hJ;clear hst hJ hY ha hT;simp only [stV]
    gi_wp2
    refine bodyPost_end (results_none rfl _ _ _) rfl ?_;exact ⟨⟨_, rfl⟩, .inl ⟨_, HS.o, HJ.o⟩⟩
   | some b =>
    have hbk := Wrd.st_lt s _ b pre hst;have hfl : pre ++ [s.extract b s.size] = Wrd.flds s := by unfold Wrd.flds; rw [hst]
    obtain ⟨fn, tmps, assign, body, hy, hR⟩ := hY pre (s.extract b s.size) wr hJ (yield_lt (by rw [hfl]; exact List.prefix_refl _));have HS := hid hfl;have hb0 : (0 : Int) <= (b : Int) := Int.natCast_nonneg b;have hbk' : (b : Int) <= (s.size : Int) := by omega
    clear hst hJ hT hY ha hfl;simp only [stV]
    gi_wp2
    refine hR.mono ?_;rintro e W3 (⟨rfl, hJ3, hk3⟩ | ⟨rfl, hJx3⟩)
    ·gi_wp2
     refine bodyPost_end (results_none rfl _ _ _) rfl ?_;exact ⟨⟨_, rfl⟩, .inl ⟨_, HS.o, hJ3⟩⟩
    ·gi_wp2
     refine bodyPost_end (results_none rfl _ _ _) rfl ?_;exact ⟨⟨_, rfl⟩, .inr ⟨_, by rw [HS.o]; exact List.prefix_refl _, hJx3⟩⟩
theorem fseq_in (F : Fence) (n : Nat) (h5 : F.fn 106) (hro : F.round = none) (s : ByteArray) (w : World) :
  CallsIn F n prog 106 #[.string s] w fun e w' => e = .returned (.func (.func 141) #[] #[.pointer (some ⟨w.heap.size, 0, none⟩)]) /\ w' = w.alloc (.cells #[.string s] 9) := by
 refine callsIn_of_wp func106 rfl h5 ?_ hro;simp only [ntmps106, List.size_toArray, List.length_cons, List.length_nil, Nat.reduceAdd, Nat.reduceSub, Array.replicate_succ, Array.replicate_zero, List.push_toArray, List.append_toArray, List.nil_append, List.cons_append]
 gi_wp2
 go_ret;exact ⟨rfl, rfl⟩
theorem fseq_stops (F : Fence) (n : Nat) (h6 : F.fn 141) (hro : F.round = none) (hn : 1 <= n) (Bn : Nat) (s : ByteArray) (hs : s.size <= 9223372036854775807) (ha : ∀ c ∈ s.data.toList, c.toNat < 128) (w : World) (hT : Tb w) (hBn : Bn < w.heap.size)
  (hc : w.cell? ⟨Bn, 0, none⟩ = some (.string s)) :
  SeqStopsK F n prog 141 #[.pointer (some ⟨Bn, 0, none⟩)] (fun x : ByteArray => #[Value.string x]) (Kp3 Bn) (fun ys => ys = Wrd.flds s) (fun pre => pre <+: Wrd.flds s) (Wrd.flds s).length w := fun l J Jx W hW _ _ hY h0 =>
 fseq1_in F n h6 hro hn l Bn s hs ha J Jx hY W (hT.kept (Kept.of_below hW)) ((hW.cell (p := ⟨Bn, 0, none⟩) hBn).trans hc) h0
end Go.Proofs.YtegcgflhgfmkpaaGreatDoor
namespace Go.Proofs.YtegcgflhgfmkpaaGreatDoor
open Lib (hid)
open _root_.Go.Proofs.Tryz
open Go.ChangeShapes Go.WideShapes Go.ChangeAt Go.RowKit Go.Shelf
attribute [local go_sem] Oper.semAt_some
def KeyI (w : World) (s : ByteArray) (pre : List ByteArray) (W : World) : Prop :=
 Blk W w.heap.size 9 #[.string s] /\ Blk W (w.heap.size + 1) 4 #[.bool false] /\ Below w.heap.size w W /\ s ∉ pre
def KeyX (w : World) (s : ByteArray) (c : Code) (pre : List ByteArray) (W : World) : Prop :=
 c = .ret /\ Blk W (w.heap.size + 1) 4 #[.bool true] /\ Below w.heap.size w W /\ s ∈ pre
theorem Blk.grown {W W' : World} {g : Nat} {t : TypeId} {cs : Array Value} {row : Option Nat} (h : Blk W g t cs) (hg : W.grownBy W' row) (hr : ∀ r, row = some r -> ∃ o : Obj, W.heap[r]? = some o /\ o.isCells = false) : Blk W' g t cs := by
 refine (hg.block g h.lt fun e => ?_).trans h;obtain ⟨o, ho, hc⟩ := hr g e.symm;unfold Blk at h;rw [h] at ho; cases ho; cases hc
theorem keyI_from (w : World) (s : ByteArray) (B : Nat) (hB : w.heap.size <= B) : OwnFrom B (KeyI w s) := by
 rintro pre X Y row ⟨h1, h2, h3, h4⟩ hg hr;exact ⟨h1.grown hg fun r e => (hr r e).2, h2.grown hg fun r e => (hr r e).2, h3.grown hg h3.size (fun k e => Nat.le_trans hB (hr k e).1), h4⟩
theorem keyX_from (w : World) (s : ByteArray) (c : Code) (B : Nat) (hB : w.heap.size <= B) : OwnFrom B (KeyX w s c) := by
 rintro pre X Y row ⟨h0, h2, h3, h4⟩ hg hr;exact ⟨h0, h2.grown hg fun r e => (hr r e).2, h3.grown hg h3.size (fun k e => Nat.le_trans hB (hr k e).1), h4⟩
theorem beq_no {x s : ByteArray} (h : ¬ x = s) : (x.toList == s.toList) = false := by
 cases e : x.toList == s.toList with
 | false => rfl
 | true =>
  have e' := eq_of_beq e;rw [ByteArray.toList_eq, ByteArray.toList_eq] at e';exact absurd (ByteArray.ext (Array.toList_inj.1 e')) h
set_option maxRecDepth 100000 in
theorem key_b (s : ByteArray) (w : World) (hT : Tb w) :
  Calls prog 145 #[.string s] w fun e w' => e = .returned (.bool (Wrd.key s)) /\ Below w.heap.size w w' := by
 refine (callsIn_wide (n := 3)).1 (callsIn_of_wp_marks func145 rfl trivial (wpIn_wide.2 ?_) rfl);simp only [ntmps145, List.size_toArray, List.length_cons, List.length_nil, Nat.reduceAdd, Nat.reduceSub, Array.replicate_succ, Array.replicate_zero, List.push_toArray, List.append_toArray, List.nil_append, List.cons_append];go_wp2_with fail;refine ((callsIn_wide (n := 1)).1 (fseq_in Fence.wide 1 trivial rfl Wrd.rs _)).mono ?_;rintro e w' ⟨rfl, rfl⟩;go_wp2_with fail;have hK0 : Kept w (((w.alloc (.cells #[.string s] 9)).alloc (.cells #[.bool false] 4)).alloc (.cells #[.string Wrd.rs] 9)) := (((Kept.refl w).alloc _).alloc _).alloc _;have hB0 : Below w.heap.size w (((w.alloc (.cells #[.string s] 9)).alloc (.cells #[.bool false] 4)).alloc (.cells #[.string Wrd.rs] 9)) := (((Below.refl _ w).alloc (Nat.le_refl _) _).alloc (by simp) _).alloc (by simp; omega) _;have b1 := ((Blk.new w 9 #[.string s]).alloc (.cells #[.bool false] 4)).alloc (.cells #[.string Wrd.rs] 9);have b2 := (Blk.new (w.alloc (.cells #[.string s] 9)) 4 #[.bool false]).alloc (.cells #[.string Wrd.rs] 9);have b3 := Blk.new ((w.alloc (.cells #[.string s] 9)).alloc (.cells #[.bool false] 4)) 9 #[.string Wrd.rs];simp only [World.size_alloc] at b2 b3;have hT0 := hT.kept hK0;have hlt := hT.lt;refine wpIn_wide.1 (wpIn_rangeFunc_ownG (F := Fence.wide) (n := 3) rfl (by omega) (gf := 141) (lb := #[.pointer (some ⟨w.heap.size + 1 + 1, 0, none⟩)]) rfl trivial (enters_of func141 (by kernel_rfl) rfl)
  (fseq_stops Fence.wide (3 - 1) trivial rfl (by omega) (w.heap.size + 1 + 1) Wrd.rs Wrd.size_rs Wrd.ascii_rs _ hT0 (by simp) (b3.cell 0)) kp3_t (kp3_b hT0 (by simp)) (Below.refl _ _) (fun _ => rfl)
  (KeyI w s) (KeyX w s) (keyI_from w s _ (by simp; omega)) (fun c => keyX_from w s c _ (by simp; omega))
  ⟨b1, b2, hB0, by simp⟩
  (fun x => { tmps := #[.string s, .pointer (some ⟨w.heap.size, 0, none⟩), .pointer (some ⟨w.heap.size + 1, 0, none⟩), .string x, .func (.func 141) #[] #[.pointer (some ⟨w.heap.size + 1 + 1, 0, none⟩)], .string x, undef, undef, undef], defers := [] }) ?assign ?body ?done ?stop)
 case assign =>
  intro l x W K hK
  gi_wp2
  exact hK
 case body =>
  rintro l pre x W ⟨h1, h2, h3, h4⟩ hlt';have c1 := h1.cell 0;have c2 := h2.cell 0;have f2 := h2.frozen 0;simp at c1 c2;by_cases hx : x = s
  ·subst hx;have HX := hid (show KeyX w x .ret (pre ++ [x]) (W.setCell ⟨w.heap.size + 1, 0, none⟩ (.bool true)) from
    ⟨rfl, h2.put 0 _, h3.setCell (by simp) _, by simp⟩)
   clear h1 h2 h3 h4 hT hT0 hK0 hB0 b1 b2 b3
   gi_wp2
   exact ⟨(KeepsOthers.setCell _ _ _).from _, HX.o⟩
  ·have HI := hid (show KeyI w s (pre ++ [x]) W from ⟨h1, h2, h3, by simp [h4]; exact fun e => hx e.symm⟩);clear h1 h2 h3 h4 hT hT0 hK0 hB0 b1 b2 b3;have hne := beq_no hx;clear hx
   gi_wp2
   exact ⟨KeepsFrom.refl _ _, ⟨Nat.le_refl _, fun _ _ => rfl⟩, HI.o⟩
 case done =>
  rintro D ys W hD hys ⟨h1, h2, h3, h4⟩ hK;subst hys;rw [Wrd.flds_rs] at h4;have hkey : Wrd.key s = false := Wrd.has_no h4;have c2 := h2.cell 0;have f2 := h2.frozen 0;simp at c2;go_wp2
  have hK2 : (W.setCell ⟨w.heap.size + 1, 0, none⟩ (.bool false)).heap[D]? = some (.deferred (some [])) := (Below.heap_setCell W _ _ D (by simp at hD; simp; omega)).trans hK;have h2' := h2.put 0 (.bool false);have h3' : Below w.heap.size w (W.setCell ⟨w.heap.size + 1, 0, none⟩ (.bool false)) := h3.setCell (by simp) _;refine ⟨by simp, .inl ⟨_, _, rfl, run_takeDeferred hK2, ?_⟩⟩;have c3 := (h2'.grown (grownBy_putObj' _ D (.deferred none)) (fun r e => by cases e; exact ⟨_, hK2, rfl⟩)).cell 0;simp at c3;exact ⟨_, by simp [results, Tryz.results145, go_sem, c3]; rfl, by rw [hkey], h3'.trans (belowK_b (w := w) (Nat.le_refl _) _ D _ _ (by simp at hD; omega) hK2 rfl rfl)⟩
 case stop =>
  rintro D c pre W hD hpre ⟨rfl, h2, h3, h4⟩ hK;have hkey : Wrd.key s = true := Wrd.has_iff.2 (by rw [<- Wrd.flds_rs]; exact hpre.subset h4);have c3 := (h2.grown (grownBy_putObj' _ D (.deferred none)) (fun r e => by cases e; exact ⟨_, hK, rfl⟩)).cell 0;simp at c3
  gi_wp2
  refine ⟨by simp, .inl ⟨_, _, rfl, run_takeDeferred hK, ?_⟩⟩;exact ⟨_, by simp [results, Tryz.results145, go_sem, c3]; rfl, by rw [hkey], h3.trans (belowK_b (w := w) (Nat.le_refl _) _ D _ _ (by simp at hD; omega) hK rfl rfl)⟩
theorem key_c (s : ByteArray) (w : World) (hT : Tb w) :
  Calls prog 145 #[.string s] w fun e w' => e = .returned (.bool (Wrd.key s)) /\ Kept w w' :=
 (key_b s w hT).mono fun _ _ ⟨h, k⟩ => ⟨h, Kept.of_below k⟩
end Go.Proofs.YtegcgflhgfmkpaaGreatDoor
