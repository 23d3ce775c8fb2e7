import Derived.Test.YtegcgflhgfmkpaaGreatDoorUTkm
import Derived.Test.YtegcgflhgfmkpaaGreatDoorUw0
import Derived.Test.YtegcgflhgfmkpaaGreatDoorUw4
import Derived.Test.YtegcgflhgfmkpaaGreatDoorUHlt
import Derived.Deep.RegionHeld3
import Derived.WalkKit
import Derived.OwnWalk
import Derived.Lib.OwnBridge
set_option linter.unusedSimpArgs false
set_option linter.unusedVariables false
set_option maxRecDepth 100000
set_option maxHeartbeats 16000000
namespace Go.Proofs.YtegcgflhgfmkpaaGreatDoor
open Lib (hid)
open _root_.Go.Proofs.Tryz
open Go.ChangeShapes Go.WideShapes Go.ChangeAt Go.RowKit
theorem info_row : (prog.info? 107).map (fun i => (i.zero, i.size, i.bytes)) = some (some (.agg #[.slice none 0 0, .int .i64 0]), 2, 32) := by kernel_rfl
def PerS (S : Nat -> Prop) (w : World) (R : World -> Prop) : Prop := ∀ w', Only S w w' -> R w'
abbrev Rw := Value × List Nd × Nat
def rowC (r : Rw) : List Value := [r.1, .int .i64 (r.2.2 : Int)]
theorem rowC_len (r : Rw) : (rowC r).length = 2 := rfl
def WalkAt (w : World) (n₁ g : Nat) (v : Value) (rs : List Rw) : Prop := Blk w g 110 #[v] /\ w.ownsRow n₁ 107 2 v rs.length (rs.flatMap rowC)
def walkS (g : Nat) (v : Value) (k : Nat) : Prop := k = g ∨ v.ownBlock = some k
theorem rows_take {w : World} {n₁ : Nat} {v : Value} {rs : List Rw} {r : Rw} (h : w.ownsRow n₁ 107 2 v (rs ++ [r]).length ((rs ++ [r]).flatMap rowC)) :
  ∃ B cap, v = .slice (some ⟨B, 0, none⟩) (rs.length + 1) cap /\ n₁ <= B /\ B < w.heap.size /\ w.ownsRow n₁ 107 2 (.slice (some ⟨B, 0, none⟩) rs.length cap) rs.length (rs.flatMap rowC) /\
   w.cell? ⟨B, rs.length * 2, none⟩ = some r.1 /\ w.cell? ⟨B, rs.length * 2 + 1, none⟩ = some (.int .i64 (r.2.2 : Int)) /\ rs.length + 1 <= cap := by
 have hl : (rs ++ [r]).length = rs.length + 1 := by simp
 have hc := fun g => h.cells (g := g);rcases h with ⟨h1, ⟨rfl, h2⟩ | ⟨B, cap, cur, rfl, hb, hh, hn, hm, hcs, htk⟩⟩
 ·rw [hl] at h2; omega
 ·have hBlt : B < w.heap.size := (Array.getElem?_eq_some_iff.1 hh).1;have c0 := hc B rfl (rs.length * 2) r.1 (by
   rw [List.flatMap_append, List.getElem?_append_right (by rw [flat_len rowC rowC_len]; exact Nat.le_refl _), flat_len rowC rowC_len];simp [rowC])
  have c1 := hc B rfl (rs.length * 2 + 1) (.int .i64 (r.2.2 : Int)) (by
   rw [List.flatMap_append, List.getElem?_append_right (by rw [flat_len rowC rowC_len]; omega), flat_len rowC rowC_len, Nat.add_sub_cancel_left];simp [rowC])
  simp only [Addr.add_lit, Nat.zero_add] at c0 c1;rw [hl] at hn htk h1 ⊢;refine ⟨B, cap, rfl, hb, hBlt, ⟨by rw [flat_len rowC rowC_len], .inr ⟨B, cap, cur, rfl, hb, hh, by omega, hm, hcs, ?_⟩⟩, c0, c1, hn⟩;have h3 : (cur.toList.take ((rs.length + 1) * 2)).take (rs.length * 2) = cur.toList.take (rs.length * 2) := by rw [List.take_take, Nat.min_eq_left (by omega)]
  rw [<- h3, htk, List.flatMap_append, List.take_append_of_le_length (by rw [flat_len rowC rowC_len]; exact Nat.le_refl _), List.take_of_length_le (by rw [flat_len rowC rowC_len]; exact Nat.le_refl _)]
theorem src_row {w : World} {g : Nat} {r : Rw} (hr : r.1.oneCell' = true) (h : Blk w g 107 (rowC r).toArray) : Src prog 2 108 (.slice (some ⟨g, 0, none⟩) 1 1) 1 (rowC r) w := by
 refine Src.ofSlice w underlying108 ⟨g, 0, none⟩ 1 1 _ rfl ?_ ?_
 ·intro j u hu;rw [Addr.add_lit, Nat.zero_add, h.cell j]
  simpa using hu
 ·intro u hu;simp only [rowC, List.mem_cons, List.not_mem_nil, or_false] at hu;rcases hu with rfl | rfl
  ·exact hr
  ·rfl
theorem Blk.at {w : World} {t : TypeId} {cs : Array Value} {g : Nat} (h : w.heap.size = g) : Blk (w.alloc (.cells cs t)) g t cs := h ▸ Blk.new w t cs
theorem slice_of_owns {w : World} {base k : Nat} {e : TypeId} {v : Value} {n : Nat} {xs : List Value} (h : w.ownsRow base e k v n xs) : ∃ a c, v = .slice a n c := by
 rcases h.2 with ⟨rfl, rfl⟩ | ⟨g, cap, cur, rfl, _⟩
 ·exact ⟨none, 0, rfl⟩
 ·exact ⟨_, _, rfl⟩
theorem owns_kept {w w' : World} {base k : Nat} {e : TypeId} {v : Value} {n : Nat} {xs : List Value} (h : w.ownsRow base e k v n xs) (hk : Kept w w') : w'.ownsRow base e k v n xs := by
 refine ⟨h.1, h.2.imp id ?_⟩;rintro ⟨g, cap, cur, e1, h1, h2, h3⟩;exact ⟨g, cap, cur, e1, h1, (hk.block g (Array.getElem?_eq_some_iff.1 h2).1).trans h2, h3⟩
theorem owns_only {S : Nat -> Prop} {w w' : World} {base k : Nat} {e : TypeId} {v : Value} {n : Nat} {xs : List Value} (h : w.ownsRow base e k v n xs) (hk : Only S w w') (hs : ∀ g, v.ownBlock = some g -> ¬ S g) : w'.ownsRow base e k v n xs := by
 refine ⟨h.1, h.2.imp id ?_⟩;rintro ⟨g, cap, cur, e1, h1, h2, h3⟩;exact ⟨g, cap, cur, e1, h1, (hk.block g (Array.getElem?_eq_some_iff.1 h2).1 (hs g (by rw [e1]; rfl))).trans h2, h3⟩
def moreR (b o : Nat) (c : Nat) (x : Nd) (r : List Nd) (a : Nat) (ad : Option Addr) (ck : Nat) : List Rw :=
 (if r = [] then [] else [(.slice (some ⟨b, o + 6, none⟩) r.length (c - 1), r, a)]) ++ (if x.kids = [] then [] else [(.slice ad x.kids.length ck, x.kids, a + 1)])
theorem walkOf_c (x : Nd) (ad : Option Addr) (ck : Nat) (w : World) :
  Calls prog 36 #[ndV x (.slice ad x.kids.length ck)] w fun e w' => ∃ B g R, e = .returned (.pointer (some ⟨g, 0, none⟩)) /\ w.heap.size < B /\ B < R /\ R < g /\ g < w'.heap.size /\ w.heap.size < w'.heap.size /\
   Blk w' B 24 (ndC x (.slice ad x.kids.length ck)).toArray /\ WalkAt w' R g (.slice (some ⟨R, 0, none⟩) 1 1) [(.slice (some ⟨B, 0, none⟩) 1 1, [x], 0)] /\ Kept w w' := by
 go_enter func36, ntmps36;go_wp2_with fail;go_ret;refine ⟨w.heap.size + 1, w.heap.size + 3, w.heap.size + 2, rfl, by omega, by omega, by omega, by simp, by simp; omega, ?_, ⟨?_, ?_⟩, ?_⟩
 ·exact ((Blk.at (by simp)).alloc _).alloc _
 ·exact Blk.at (by simp)
 ·exact ⟨rfl, .inr ⟨w.heap.size + 2, 1, _, rfl, by omega, (Blk.at (by simp)).alloc _, Nat.le_refl _, by decide, rfl, rfl⟩⟩
 ·exact ((((Kept.refl w).alloc _).alloc _).alloc _).alloc _
structure MidW (w W : World) (g n₁ : Nat) (v sl : Value) (n : Nat) (ys : List Value) (s : Value) (a b o : Nat) (sk : Value) : Prop where
 blk : Blk W g 110 #[sl]
 own : W.ownsRow n₁ 107 2 sl n ys
 box : Blk W w.heap.size 107 #[s, .int .i64 (a : Int)]
 kid : W.cell? ⟨b, o + 5, none⟩ = some sk
 only : Only (walkS g v) w W
 lies : ∀ k, sl.ownBlock = some k -> v.ownBlock = some k ∨ w.heap.size <= k
 far : sl.ownBlock ≠ some g
 apart : sl.ownBlock ≠ some w.heap.size
 here : g < w.heap.size
theorem MidW.app {w W w5 : World} {g n₁ : Nat} {v sl v' : Value} {n m : Nat} {ys zs : List Value} {s : Value} {a b o : Nat} {sk : Value} {cs : Array Value} {t : TypeId} (h : MidW w W g n₁ v sl n ys s a b o sk)
  (hx : PerS (walkS g v) w (fun W => W.cell? ⟨b, o + 5, none⟩ = some sk)) (ho : w5.ownsRow n₁ 107 2 v' m zs) (hg : (W.drew.alloc (.cells cs t)).grownBy w5 sl.ownBlock)
  (hl : v'.ownBlock = sl.ownBlock ∨ v'.ownBlock = some (W.drew.alloc (.cells cs t)).heap.size) :
  w5.cell? ⟨g, 0, none⟩ = some sl /\ w5.frozen? ⟨g, 0, none⟩ = false /\ (w5.cell? ⟨w.heap.size, 0, none⟩ = some s /\ w5.cell? ⟨w.heap.size, 1, none⟩ = some (.int .i64 (a : Int))) /\ (True /\ Only (walkS g v) w w5) /\ MidW w (w5.setCell ⟨g, 0, none⟩ v') g n₁ v v' m zs s a b o sk := by
 have hz : w.heap.size < W.heap.size := h.box.lt;have hsz : (W.drew.alloc (.cells cs t)).heap.size = W.heap.size + 1 := by simp
 have b5 : Blk w5 g 110 #[sl] := (h.blk.drew.alloc _).grownBy hg h.far;have x5 : Blk w5 w.heap.size 107 #[s, .int .i64 (a : Int)] := (h.box.drew.alloc _).grownBy hg h.apart;have hvg : v'.ownBlock ≠ some g := by
  rcases hl with e | e
  ·rw [e]; exact h.far
  ·rw [e, hsz]; intro hc; injection hc with hc; have := h.here; omega
 have hvw : v'.ownBlock ≠ some w.heap.size := by
  rcases hl with e | e
  ·rw [e]; exact h.apart
  ·rw [e, hsz]; intro hc; injection hc with hc; omega
 have o5 : Only (walkS g v) w w5 := ((h.only.drew.alloc _).grown hg fun k hk => (h.lies k hk).imp (fun e => .inr e) id);have o6 : Only (walkS g v) w (w5.setCell ⟨g, 0, none⟩ v') := o5.setCell (.inl (.inl rfl)) _;refine ⟨by have := b5.cell 0; simpa using this, b5.frozen 0, ⟨x5.cell 0, x5.cell 1⟩, ⟨trivial, o5⟩, ⟨by have := b5.put 0 v'; simpa using this, owns_only (S := (· = g)) ho ((Only.refl _ _).put 0 _) (fun k hk e => hvg (by rw [hk, e])), x5.only ((Only.refl (· = g) _).put 0 _) (by have := h.here; omega), hx _ o6, o6, ?_, hvg, hvw, h.here⟩⟩;intro k hk;rcases hl with e | e
 ·rw [e] at hk; exact h.lies k hk
 ·rw [e, hsz] at hk; injection hk with hk; right; omega
theorem next_end (g n₁ : Nat) (v : Value) (w : World) (hw : WalkAt w n₁ g v []) :
  Calls prog 37 #[.pointer (some ⟨g, 0, none⟩)] w fun e w' => e = .returned (.tuple #[.pointer none, .int .i64 0]) /\ w' = w := by
 obtain ⟨hb, ho⟩ := hw;obtain ⟨va, vc, rfl⟩ := slice_of_owns ho;have c0 := hb.cell 0;simp only [List.getElem?_toArray, List.getElem?_cons_zero, List.length_nil] at c0;go_enter func37, ntmps37;go_wp2_with fail;go_ret2
 exact ⟨rfl, rfl⟩
theorem next_c (g n₁ : Nat) (v : Value) (rs : List Rw) (b o c a : Nat) (x : Nd) (r : List Nd) (ad : Option Addr) (ck : Nat) (w : World)
  (hw : WalkAt w n₁ g v (rs ++ [(.slice (some ⟨b, o, none⟩) (r.length + 1) c, x :: r, a)])) (hx : PerS (walkS g v) w (fun W => W.cell? ⟨b, o + 5, none⟩ = some (.slice ad x.kids.length ck)))
  (hc : r.length + 1 <= c) (hn : n₁ <= w.heap.size) (ha : a <= 1000000000000) (hrs : rs.length <= 1000000000000) :
  Calls prog 37 #[.pointer (some ⟨g, 0, none⟩)] w fun e w' => e = .returned (.tuple #[.pointer (some ⟨b, o, none⟩), .int .i64 a]) /\
   ∃ v', WalkAt w' n₁ g v' (rs ++ moreR b o c x r a ad ck) /\ Only (walkS g v) w w' /\ (∀ k, v'.ownBlock = some k -> v.ownBlock = some k ∨ w.heap.size <= k) := by
 obtain ⟨i0, hi, hz0, hzz1, hzz2⟩ := info_parts info_row;obtain ⟨hb, ho⟩ := hw;have hvg := ne_row_blk hb (by decide) ho;obtain ⟨B, cap, rfl, hnB, hB, hown, r0, r1, hcap⟩ := rows_take ho;have hBg : B ≠ g := fun e => hvg (by rw [e]; rfl);have hgl := hb.lt;have c0 := hb.cell 0;simp only [List.getElem?_toArray, List.getElem?_cons_zero] at c0;obtain ⟨k, hk⟩ : ∃ k, rs.length = k := ⟨_, rfl⟩;obtain ⟨W1, hW1⟩ : ∃ W1, (w.setCell ⟨g, 0, none⟩ (.slice (some ⟨B, 0, none⟩) k cap)).alloc (.cells #[.slice (some ⟨b, o, none⟩) (r.length + 1) c, .int .i64 (a : Int)] 107) = W1 := ⟨_, rfl⟩;have hmid : MidW w W1 g n₁ (.slice (some ⟨B, 0, none⟩) (rs.length + 1) cap) (.slice (some ⟨B, 0, none⟩) rs.length cap) rs.length (rs.flatMap rowC) (.slice (some ⟨b, o, none⟩) (r.length + 1) c) a b o (.slice ad x.kids.length ck) := by
  have o1 : Only (walkS g (.slice (some ⟨B, 0, none⟩) (rs.length + 1) cap)) w W1 := by rw [<- hW1]; exact ((Only.refl _ w).setCell (.inl (.inl rfl)) _).alloc _
  have h1 : Only (· = g) w (w.setCell ⟨g, 0, none⟩ (.slice (some ⟨B, 0, none⟩) k cap)) := (Only.refl _ w).put 0 _;refine ⟨?_, ?_, ?_, hx _ o1, o1, fun k hk => .inl hk, fun e => hBg (by simpa [Value.ownBlock] using e), fun e => ?_, hgl⟩
  ·rw [<- hW1, hk]; have := (hb.put 0 (.slice (some ⟨B, 0, none⟩) k cap)).alloc (.cells #[.slice (some ⟨b, o, none⟩) (r.length + 1) c, .int .i64 (a : Int)] 107); simpa using this
  ·rw [<- hW1]; exact owns_kept (owns_only hown h1 (fun q e1 e2 => hBg (by rw [<- e2]; simpa [Value.ownBlock] using e1))) ((Kept.refl _).alloc _)
  ·rw [<- hW1]; exact Blk.at (by simp)
  ·have : B = w.heap.size := by simpa [Value.ownBlock] using e
   omega
 have hfz := hb.frozen 0;rw [hk] at r0 r1 hmid c0 hx hcap hown ⊢;have hrs' : k <= 1000000000000 := by omega
 dsimp only at r0 r1;have HW1 := hid hW1;have HM := hid hmid;have HX := hid hx;have HK := hid hk;have HC := hid hc;have gg := hmid.blk.cell 0;have x0 := hmid.box.cell 0;have x1 := hmid.box.cell 1;have kk := hmid.kid;simp only [List.getElem?_toArray, List.getElem?_cons_zero, List.getElem?_cons_succ] at gg x0 x1;clear hW1 hmid hx hk hb ho hvg hown hrs;obtain ⟨m, hm⟩ : ∃ m, x.kids.length = m := ⟨_, rfl⟩;rw [hm] at HM HX kk;have hnl : n₁ <= w.heap.size := hn;obtain ⟨q, hq⟩ : ∃ q, r.length + 1 = q := ⟨_, rfl⟩;rw [hq] at HM r0 x0 HC HW1;have hql : q - 1 = r.length := by omega
 have hqc : q <= c := by have := HC.o; omega
 have hq0 : (0 : Int) < (q : Int) := by omega
 have HQL := hid hql;have HQ := hid hq;by_cases hr : r = []
 ·have hrI : ¬ (1 : Int) < (q : Int) := by rw [hr] at hq; simp at hq; omega
  have HR := hid hr;clear hr hq hql hc;by_cases hm0 : m = 0
  ·have HMO := hid (show moreR b o c x r a ad ck = [] by unfold moreR; rw [<- HQL.o, if_pos HR.o, if_pos (List.eq_nil_of_length_eq_zero (by rw [hm, hm0]))]; rfl);have hmI : ¬ (0 : Int) < (m : Int) := by omega
   have HM0 := hid hm0;clear hm0;go_enter func37, ntmps37;go_wp2_with (rw [HW1.o]);refine wp_region_held_drew (S := (fun W => W.cell? ⟨w.heap.size, 1, none⟩ = some (.int .i64 (a : Int)))) (by kernel_rfl) ((HM.o.box.drew).cell 1) (fun hHeld0 => ?_);refine nkH 0 ?_;refine nkH 1 ?_;refine nkH 2 ?_;refine nkH 3 ?_;refine nkH 4 ?_;refine wpAnyH_done (by kernel_rfl) ?_ _;go_wp2_with fail;go_ret2
   refine ⟨rfl, .slice (some ⟨B, 0, none⟩) k cap, ⟨HM.o.blk.drew, ?_⟩, HM.o.only.drew, HM.o.lies⟩;have hh := HM.o.own.drew;rw [HMO.o, List.flatMap_append]
   first | (simpa [HK.o, Nat.add_assoc] using hh) | (rw [List.length_append, HK.o]; simpa [List.append_assoc] using hh)
  ·have hmI : (0 : Int) < (m : Int) := by omega
   have HMO := hid (show moreR b o c x r a ad ck = [] ++ [(.slice ad m ck, x.kids, a + 1)] by unfold moreR; rw [<- HQL.o, if_pos HR.o, if_neg (fun e => hm0 (by rw [<- hm, e]; rfl)), hm]);have hwr : IntKind.i64.wrap ((a : Int) + 1) = (a : Int) + 1 := IntWalk.i64_in _ (by omega);go_enter func37, ntmps37;go_wp2_with (rw [HW1.o]);refine wp_region_till (S := (fun W => W.cell? ⟨g, 0, none⟩ = some (.slice (some ⟨B, 0, none⟩) k cap) /\ W.cell? ⟨w.heap.size, 0, none⟩ = some (.slice (some ⟨b, o, none⟩) q c) /\ W.cell? ⟨w.heap.size, 1, none⟩ = some (.int .i64 (a : Int)) /\ W.cell? ⟨b, o + 5, none⟩ = some (.slice ad m ck))) 17 (by kernel_rfl) ⟨(Kept.refl W1).drew.cell gg, (Kept.refl W1).drew.cell x0, (Kept.refl W1).drew.cell x1, (Kept.refl W1).drew.cell kk⟩ (fun hHeld0 => ?_);refine nkT 0 ?_;refine nkT 1 ?_;refine nkT 2 ?_;refine nkT 3 ?_;refine nkT 4 ?_;refine nkT 5 ?_;refine nkT 6 ?_;refine nkT 7 ?_;refine nkT 8 ?_;refine nkT 9 ?_;refine nkT 10 ?_;refine nkT 11 ?_;refine nkT 12 ?_;refine r1T 13 (fun K hK => ?_);go_simp;refine hK.out _ _ ⟨((Kept.refl W1).drew.alloc _).cell gg, ((Kept.refl W1).drew.alloc _).cell x0, ((Kept.refl W1).drew.alloc _).cell x1, ((Kept.refl W1).drew.alloc _).cell kk⟩ (fun hHeld1 => ?_);clear hK K;(try simp only [Act.put, aL])
   have HSR := hid (src_row (w := W1.drew.alloc (.cells #[.slice ad m ck, .int .i64 ((a : Int) + 1)] 107)) (g := W1.heap.size) (r := (.slice ad m ck, x.kids, a + 1)) rfl (Blk.at (by simp)));have HRW := hid (owns_kept HM.o.own ((Kept.refl W1).drew.alloc (.cells #[.slice ad m ck, .int .i64 ((a : Int) + 1)] 107)));have HZ := hid HM.o.only.size;refine r1T 14 (fun K hK => ?_);refine step_apk rfl (.tmp 63) (.tmp 72) 108 108 rfl n₁ 2 107 i0 _ 32 underlying108 hi hz0 hzz1 hzz2 rfl rfl HRW.o rfl HSR.o (by unfold maxLen; omega) (by omega) (by have := HZ.o; simp; omega) ?_;intro v' w5 hown' hgrow hnl hlies;obtain ⟨q0, q1, q2, q3, hm5⟩ := HM.o.app HX.o hown' hgrow hlies;have HOW := hid hown';obtain ⟨va, vc, rfl⟩ := slice_of_owns hown';have hkid : w5.cell? ⟨b, o + 5, none⟩ = some (.slice ad m ck) := HX.o _ q3.2;refine hK.out _ _ ⟨q0, q2.1, q2.2, hkid⟩ (fun hHeld2 => ?_);clear hK K;(try simp only [Act.put, aL])
   clear hown' hgrow hnl hlies HSR HRW HZ hHeld0 hHeld1;refine nkT 15 ?_;refine nkT 16 ?_;clear hHeld2;refine lTT (fun K hK => ?_);go_simp;refine hK.out _ _ ?_;clear hK K;(try simp only [Act.put, aL])
   refine wpAnyT_done (by kernel_rfl) ?_ _;obtain ⟨W7, hW7⟩ : ∃ W7, w5.setCell ⟨g, 0, none⟩ (.slice va (k + 1) vc) = W7 := ⟨_, rfl⟩;rw [hW7] at hm5 ⊢;have HM7 := hid hm5;clear hW7 hkid q0 q1 q2 q3;clear gg x0 x1 kk;go_wp2_with fail;refine wp_region_held_drew (S := (fun W => W.cell? ⟨w.heap.size, 1, none⟩ = some (.int .i64 (a : Int)))) (by kernel_rfl) ((HM7.o.box.drew).cell 1) (fun hHeld0 => ?_);refine nkH 0 ?_;refine nkH 1 ?_;refine nkH 2 ?_;refine nkH 3 ?_;refine nkH 4 ?_;refine wpAnyH_done (by kernel_rfl) ?_ _;go_wp2_with fail;go_ret2
   refine ⟨rfl, .slice va (k + 1) vc, ⟨HM7.o.blk.drew, ?_⟩, HM7.o.only.drew, HM7.o.lies⟩;have hh := HM7.o.own.drew;rw [HMO.o, List.flatMap_append]
   first | (simpa [HK.o, Nat.add_assoc] using hh) | (rw [List.length_append, HK.o]; simpa [List.append_assoc] using hh)
 ·have hrI : (1 : Int) < (q : Int) := by have := List.length_pos_iff.2 hr; omega
  have hq1 : (1 : Int) <= (q : Int) := by omega
  have hc1 : ¬ c = 1 := by omega
  have HR := hid hr;clear hr hq hql hc;go_enter func37, ntmps37;go_wp2_with (rw [HW1.o]);refine wp_region_till (S := (fun W => W.cell? ⟨g, 0, none⟩ = some (.slice (some ⟨B, 0, none⟩) k cap) /\ W.cell? ⟨w.heap.size, 0, none⟩ = some (.slice (some ⟨b, o, none⟩) q c) /\ W.cell? ⟨w.heap.size, 1, none⟩ = some (.int .i64 (a : Int)))) 15 (by kernel_rfl) ⟨(Kept.refl W1).drew.cell gg, (Kept.refl W1).drew.cell x0, (Kept.refl W1).drew.cell x1⟩ (fun hHeld0 => ?_);refine nkT 0 ?_;refine nkT 1 ?_;refine nkT 2 ?_;refine nkT 3 ?_;refine nkT 4 ?_;refine nkT 5 ?_;refine nkT 6 ?_;refine nkT 7 ?_;refine nkT 8 ?_;refine nkT 9 ?_;refine nkT 10 ?_;refine r1T 11 (fun K hK => ?_);go_simp;refine hK.out _ _ ⟨((Kept.refl W1).drew.alloc _).cell gg, ((Kept.refl W1).drew.alloc _).cell x0, ((Kept.refl W1).drew.alloc _).cell x1⟩ (fun hHeld1 => ?_);clear hK K;(try simp only [Act.put, aL])
  have HSR := hid (src_row (w := W1.drew.alloc (.cells #[.slice (some ⟨b, o + 6, none⟩) (q - 1) (c - 1), .int .i64 (a : Int)] 107)) (g := W1.heap.size) (r := (.slice (some ⟨b, o + 6, none⟩) (q - 1) (c - 1), r, a)) rfl (Blk.at (by simp)));have HRW := hid (owns_kept HM.o.own ((Kept.refl W1).drew.alloc (.cells #[.slice (some ⟨b, o + 6, none⟩) (q - 1) (c - 1), .int .i64 (a : Int)] 107)));have HZ := hid HM.o.only.size;refine r1T 12 (fun K hK => ?_);refine step_apk rfl (.tmp 39) (.tmp 46) 108 108 rfl n₁ 2 107 i0 _ 32 underlying108 hi hz0 hzz1 hzz2 rfl rfl HRW.o rfl HSR.o (by unfold maxLen; omega) (by omega) (by have := HZ.o; simp; omega) ?_;intro v' w5 hown' hgrow hnl hlies;obtain ⟨q0, q1, q2, q3, hm5⟩ := HM.o.app HX.o hown' hgrow hlies;have HOW := hid hown';obtain ⟨va, vc, rfl⟩ := slice_of_owns hown';have hkid : w5.cell? ⟨b, o + 5, none⟩ = some (.slice ad m ck) := HX.o _ q3.2;refine hK.out _ _ ⟨q0, q2.1, q2.2⟩ (fun hHeld2 => ?_);clear hK K;(try simp only [Act.put, aL])
  clear hown' hgrow hnl hlies HSR HRW HZ hHeld0 hHeld1;refine nkT 13 ?_;refine nkT 14 ?_;clear hHeld2;refine lTT (fun K hK => ?_);go_simp;refine hK.out _ _ ?_;clear hK K;(try simp only [Act.put, aL])
  refine wpAnyT_done (by kernel_rfl) ?_ _;obtain ⟨W7, hW7⟩ : ∃ W7, w5.setCell ⟨g, 0, none⟩ (.slice va (k + 1) vc) = W7 := ⟨_, rfl⟩;rw [hW7] at hm5 ⊢;have HM7 := hid hm5;clear hW7 hkid q0 q1 q2 q3;clear gg x0 x1 kk;have gg7 := HM7.o.blk.cell 0;have x70 := HM7.o.box.cell 0;have x71 := HM7.o.box.cell 1;have kk7 := HM7.o.kid;simp only [List.getElem?_toArray, List.getElem?_cons_zero, List.getElem?_cons_succ] at gg7 x70 x71;by_cases hm0 : m = 0
  ·have HMO := hid (show moreR b o c x r a ad ck = [(.slice (some ⟨b, o + 6, none⟩) (q - 1) (c - 1), r, a)] by unfold moreR; rw [<- HQL.o, if_neg HR.o, if_pos (List.eq_nil_of_length_eq_zero (by rw [hm, hm0]))]; rfl);have hmI : ¬ (0 : Int) < (m : Int) := by omega
   have HM0 := hid hm0;clear hm0;go_wp2_with fail;refine wp_region_held_drew (S := (fun W => W.cell? ⟨w.heap.size, 1, none⟩ = some (.int .i64 (a : Int)))) (by kernel_rfl) ((HM7.o.box.drew).cell 1) (fun hHeld0 => ?_);refine nkH 0 ?_;refine nkH 1 ?_;refine nkH 2 ?_;refine nkH 3 ?_;refine nkH 4 ?_;refine wpAnyH_done (by kernel_rfl) ?_ _;go_wp2_with fail;go_ret2
   refine ⟨rfl, .slice va (k + 1) vc, ⟨HM7.o.blk.drew, ?_⟩, HM7.o.only.drew, HM7.o.lies⟩;have hh := HM7.o.own.drew;rw [HMO.o, List.flatMap_append]
   first | (simpa [HK.o, Nat.add_assoc] using hh) | (rw [List.length_append, HK.o]; simpa [List.append_assoc] using hh)
  ·have hmI : (0 : Int) < (m : Int) := by omega
   have HMO := hid (show moreR b o c x r a ad ck = [(.slice (some ⟨b, o + 6, none⟩) (q - 1) (c - 1), r, a)] ++ [(.slice ad m ck, x.kids, a + 1)] by unfold moreR; rw [<- HQL.o, if_neg HR.o, if_neg (fun e => hm0 (by rw [<- hm, e]; rfl)), hm]);have hwr : IntKind.i64.wrap ((a : Int) + 1) = (a : Int) + 1 := IntWalk.i64_in _ (by omega);go_wp2_with fail;refine wp_region_till (S := (fun W => W.cell? ⟨g, 0, none⟩ = some (.slice va (k + 1) vc) /\ W.cell? ⟨w.heap.size, 0, none⟩ = some (.slice (some ⟨b, o, none⟩) q c) /\ W.cell? ⟨w.heap.size, 1, none⟩ = some (.int .i64 (a : Int)) /\ W.cell? ⟨b, o + 5, none⟩ = some (.slice ad m ck))) 17 (by kernel_rfl) ⟨(Kept.refl W7).drew.cell gg7, (Kept.refl W7).drew.cell x70, (Kept.refl W7).drew.cell x71, (Kept.refl W7).drew.cell kk7⟩ (fun hHeld0 => ?_);refine nkT 0 ?_;refine nkT 1 ?_;refine nkT 2 ?_;refine nkT 3 ?_;refine nkT 4 ?_;refine nkT 5 ?_;refine nkT 6 ?_;refine nkT 7 ?_;refine nkT 8 ?_;refine nkT 9 ?_;refine nkT 10 ?_;refine nkT 11 ?_;refine nkT 12 ?_;refine r1T 13 (fun K hK => ?_);go_simp;refine hK.out _ _ ⟨((Kept.refl W7).drew.alloc _).cell gg7, ((Kept.refl W7).drew.alloc _).cell x70, ((Kept.refl W7).drew.alloc _).cell x71, ((Kept.refl W7).drew.alloc _).cell kk7⟩ (fun hHeld1 => ?_);clear hK K;(try simp only [Act.put, aL])
   have HSR := hid (src_row (w := W7.drew.alloc (.cells #[.slice ad m ck, .int .i64 ((a : Int) + 1)] 107)) (g := W7.heap.size) (r := (.slice ad m ck, x.kids, a + 1)) rfl (Blk.at (by simp)));have HRW := hid (owns_kept HM7.o.own ((Kept.refl W7).drew.alloc (.cells #[.slice ad m ck, .int .i64 ((a : Int) + 1)] 107)));have HZ := hid HM7.o.only.size;refine r1T 14 (fun K hK => ?_);refine step_apk rfl (.tmp 63) (.tmp 72) 108 108 rfl n₁ 2 107 i0 _ 32 underlying108 hi hz0 hzz1 hzz2 rfl rfl HRW.o rfl HSR.o (by unfold maxLen; omega) (by omega) (by have := HZ.o; simp; omega) ?_;intro v' w5 hown' hgrow hnl hlies;obtain ⟨q0, q1, q2, q3, hm5⟩ := HM7.o.app HX.o hown' hgrow hlies;have HOW := hid hown';obtain ⟨va, vc, rfl⟩ := slice_of_owns hown';have hkid : w5.cell? ⟨b, o + 5, none⟩ = some (.slice ad m ck) := HX.o _ q3.2;refine hK.out _ _ ⟨q0, q2.1, q2.2, hkid⟩ (fun hHeld2 => ?_);clear hK K;(try simp only [Act.put, aL])
   clear hown' hgrow hnl hlies HSR HRW HZ hHeld0 hHeld1;refine nkT 15 ?_;refine nkT 16 ?_;clear hHeld2;refine lTT (fun K hK => ?_);go_simp;refine hK.out _ _ ?_;clear hK K;(try simp only [Act.put, aL])
   refine wpAnyT_done (by kernel_rfl) ?_ _;obtain ⟨W7, hW7⟩ : ∃ W7, w5.setCell ⟨g, 0, none⟩ (.slice va ((k + 1) + 1) vc) = W7 := ⟨_, rfl⟩;rw [hW7] at hm5 ⊢;have HM7 := hid hm5;clear hW7 hkid q0 q1 q2 q3;clear gg7 x70 x71 kk7;go_wp2_with fail;refine wp_region_held_drew (S := (fun W => W.cell? ⟨w.heap.size, 1, none⟩ = some (.int .i64 (a : Int)))) (by kernel_rfl) ((HM7.o.box.drew).cell 1) (fun hHeld0 => ?_);refine nkH 0 ?_;refine nkH 1 ?_;refine nkH 2 ?_;refine nkH 3 ?_;refine nkH 4 ?_;refine wpAnyH_done (by kernel_rfl) ?_ _;go_wp2_with fail;go_ret2
   refine ⟨rfl, .slice va ((k + 1) + 1) vc, ⟨HM7.o.blk.drew, ?_⟩, HM7.o.only.drew, HM7.o.lies⟩;have hh := HM7.o.own.drew;rw [HMO.o, List.flatMap_append]
   first | (simpa [HK.o, Nat.add_assoc] using hh) | (rw [List.length_append, HK.o]; simpa [List.append_assoc] using hh)
end Go.Proofs.YtegcgflhgfmkpaaGreatDoor
