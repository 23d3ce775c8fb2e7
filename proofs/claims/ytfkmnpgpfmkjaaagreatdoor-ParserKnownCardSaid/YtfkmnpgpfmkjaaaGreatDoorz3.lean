/- The way through a tree: walkOf, next: what lies ahead, as rows of nodes beside one another. -/
import Derived.Test.YtfkmnpgpfmkjaaaGreatDoorz0
import Derived.Deep.RegionHeld3
import Derived.WalkKit
import Derived.OwnWalk
import Derived.Lib.OwnBridge
import Derived.Test.YtfkmnpgpfmkjaaaGreatDoorz2
import Derived.OwnWalkIn
import Derived.TacticsInMore
import Derived.LoopNIn
import Derived.LoopIn
import Derived.Sort.LoopGhostIn
import Derived.Shelf.Abstract
import Derived.WalkMore
import Derived.Laws.Rows
import Derived.Orders
import Derived.RegionTactic
import Derived.Test.YtfkmnpgpfmkjaaaGreatDoorz1
import Derived.Laws.BytesString
set_option linter.unusedSimpArgs false
set_option linter.unusedVariables false
set_option maxRecDepth 100000
namespace Go.Proofs.YtfkmnpgpfmkjaaaGreatDoor
open Go.ChangeShapes Go.WideShapes Go.ChangeAt Go.RowKit

theorem info_row : (Tryz.prog.info? 128).map (fun i => (i.zero, i.size, i.bytes)) = some (some (.agg #[.slice none 0 0, .int .i64 0]), 2, 32) := by kernel_rfl

/-- What is so in every later world in which only the blocks S are other ones. -/
def PerS (S : Nat → Prop) (w : World) (R : World → Prop) : Prop := ∀ w', Only S w w' → R w'
theorem PerS.here {S : Nat → Prop} {w : World} {R : World → Prop} (h : PerS S w R) : R w := h w (Only.refl _ _)
theorem PerS.only {S : Nat → Prop} {w w' : World} {R : World → Prop} (h : PerS S w R) (k : Only S w w') : PerS S w' R := fun w2 h2 => h w2 (k.trans h2)
theorem PerS.kept {S : Nat → Prop} {w w' : World} {R : World → Prop} (h : PerS S w R) (k : Kept w w') : PerS S w' R := h.only (Only.of_kept k)
theorem PerS.mono {S : Nat → Prop} {w : World} {R R' : World → Prop} (h : PerS S w R) (hr : ∀ w, R w → R' w) : PerS S w R' := fun w2 h2 => hr _ (h w2 h2)
theorem PerS.less {S T : Nat → Prop} {w : World} {R : World → Prop} (h : PerS S w R) (ht : ∀ k, k < w.heap.size → T k → S k) : PerS T w R := fun w2 h2 => h w2 (h2.mono ht)

/-- One row that lies ahead: the slice, its nodes, how many are above them. -/
abbrev Rw := Value × List Nd × Nat
def rowC (r : Rw) : List Value := [r.1, .int .i64 (r.2.2 : Int)]
theorem rowC_len (r : Rw) : (rowC r).length = 2 := rfl

/-- A way through a tree in memory: its block, its rows (the next one last). -/
def WalkAt (w : World) (n₁ g : Nat) (v : Value) (rs : List Rw) : Prop := Blk w g 131 #[v] ∧ w.ownsRow n₁ 128 2 v rs.length (rs.flatMap rowC)
/-- The blocks of a way. -/
def walkS (g : Nat) (v : Value) (k : Nat) : Prop := k = g ∨ v.ownBlock = some k

theorem rows_take {w : World} {n₁ : Nat} {v : Value} {rs : List Rw} {r : Rw} (h : w.ownsRow n₁ 128 2 v (rs ++ [r]).length ((rs ++ [r]).flatMap rowC)) :
    ∃ B cap, v = .slice (some ⟨B, 0, none⟩) (rs.length + 1) cap ∧ n₁ ≤ B ∧ B < w.heap.size ∧ w.ownsRow n₁ 128 2 (.slice (some ⟨B, 0, none⟩) rs.length cap) rs.length (rs.flatMap rowC) ∧
      w.cell? ⟨B, rs.length * 2, none⟩ = some r.1 ∧ w.cell? ⟨B, rs.length * 2 + 1, none⟩ = some (.int .i64 (r.2.2 : Int)) ∧ rs.length + 1 ≤ cap := by
  have hl : (rs ++ [r]).length = rs.length + 1 := by simp
  have hc := fun g => h.cells (g := g)
  rcases h with ⟨h1, ⟨rfl, h2⟩ | ⟨B, cap, cur, rfl, hb, hh, hn, hm, hcs, htk⟩⟩
  · rw [hl] at h2; omega
  · have hBlt : B < w.heap.size := (Array.getElem?_eq_some_iff.1 hh).1
    have c0 := hc B rfl (rs.length * 2) r.1 (by
      rw [List.flatMap_append, List.getElem?_append_right (by rw [flat_len rowC rowC_len]; exact Nat.le_refl _), flat_len rowC rowC_len]
      simp [rowC])
    have c1 := hc B rfl (rs.length * 2 + 1) (.int .i64 (r.2.2 : Int)) (by
      rw [List.flatMap_append, List.getElem?_append_right (by rw [flat_len rowC rowC_len]; omega), flat_len rowC rowC_len, Nat.add_sub_cancel_left]
      simp [rowC])
    simp only [Addr.add_lit, Nat.zero_add] at c0 c1
    rw [hl] at hn htk h1 ⊢
    refine ⟨B, cap, rfl, hb, hBlt, ⟨by rw [flat_len rowC rowC_len], .inr ⟨B, cap, cur, rfl, hb, hh, by omega, hm, hcs, ?_⟩⟩, c0, c1, hn⟩
    have h3 : (cur.toList.take ((rs.length + 1) * 2)).take (rs.length * 2) = cur.toList.take (rs.length * 2) := by rw [List.take_take, Nat.min_eq_left (by omega)]
    rw [← h3, htk, List.flatMap_append, List.take_append_of_le_length (by rw [flat_len rowC rowC_len]; exact Nat.le_refl _), List.take_of_length_le (by rw [flat_len rowC rowC_len]; exact Nat.le_refl _)]

/-- One row, as a slice literal. -/
theorem src_row {w : World} {g : Nat} {r : Rw} (hr : r.1.oneCell' = true) (h : Blk w g 128 (rowC r).toArray) : Src Tryz.prog 2 129 (.slice (some ⟨g, 0, none⟩) 1 1) 1 (rowC r) w := by
  refine Src.ofSlice w Tryz.underlying129 ⟨g, 0, none⟩ 1 1 _ rfl ?_ ?_
  · intro j u hu
    rw [Addr.add_lit, Nat.zero_add, h.cell j]
    simpa using hu
  · intro u hu
    simp only [rowC, List.mem_cons, List.not_mem_nil, or_false] at hu
    rcases hu with rfl | rfl
    · exact hr
    · rfl

theorem Blk.at {w : World} {t : TypeId} {cs : Array Value} {g : Nat} (h : w.heap.size = g) : Blk (w.alloc (.cells cs t)) g t cs := h ▸ Blk.new w t cs

theorem slice_of_owns {w : World} {base k : Nat} {e : TypeId} {v : Value} {n : Nat} {xs : List Value} (h : w.ownsRow base e k v n xs) : ∃ a c, v = .slice a n c := by
  rcases h.2 with ⟨rfl, rfl⟩ | ⟨g, cap, cur, rfl, _⟩
  · exact ⟨none, 0, rfl⟩
  · exact ⟨_, _, rfl⟩

theorem owns_kept {w w' : World} {base k : Nat} {e : TypeId} {v : Value} {n : Nat} {xs : List Value} (h : w.ownsRow base e k v n xs) (hk : Kept w w') : w'.ownsRow base e k v n xs := by
  refine ⟨h.1, h.2.imp id ?_⟩
  rintro ⟨g, cap, cur, e1, h1, h2, h3⟩
  exact ⟨g, cap, cur, e1, h1, (hk.block g (Array.getElem?_eq_some_iff.1 h2).1).trans h2, h3⟩
theorem owns_only {S : Nat → Prop} {w w' : World} {base k : Nat} {e : TypeId} {v : Value} {n : Nat} {xs : List Value} (h : w.ownsRow base e k v n xs) (hk : Only S w w') (hs : ∀ g, v.ownBlock = some g → ¬ S g) : w'.ownsRow base e k v n xs := by
  refine ⟨h.1, h.2.imp id ?_⟩
  rintro ⟨g, cap, cur, e1, h1, h2, h3⟩
  exact ⟨g, cap, cur, e1, h1, (hk.block g (Array.getElem?_eq_some_iff.1 h2).1 (hs g (by rw [e1]; rfl))).trans h2, h3⟩

/-- What comes behind the rows that lay ahead, when the next one's first node has been taken. -/
def moreR (b o : Nat) (c : Nat) (x : Nd) (r : List Nd) (a : Nat) (ad : Option Addr) (ck : Nat) : List Rw :=
  (if r = [] then [] else [(.slice (some ⟨b, o + 6, none⟩) r.length (c - 1), r, a)]) ++ (if x.kids = [] then [] else [(.slice ad x.kids.length ck, x.kids, a + 1)])

theorem walkOf_c (x : Nd) (ad : Option Addr) (ck : Nat) (w : World) :
    Calls Tryz.prog 50 #[ndV x (.slice ad x.kids.length ck)] w fun e w' => ∃ B g R, e = .returned (.pointer (some ⟨g, 0, none⟩)) ∧ w.heap.size < B ∧ B < R ∧ R < g ∧ g < w'.heap.size ∧ w.heap.size < w'.heap.size ∧
      Blk w' B 25 (ndC x (.slice ad x.kids.length ck)).toArray ∧ WalkAt w' R g (.slice (some ⟨R, 0, none⟩) 1 1) [(.slice (some ⟨B, 0, none⟩) 1 1, [x], 0)] ∧ Kept w w' := by
  go_enter Tryz.func50, Tryz.ntmps50
  go_wp2_with fail
  go_ret
  refine ⟨w.heap.size + 1, w.heap.size + 3, w.heap.size + 2, rfl, by omega, by omega, by omega, by simp, by simp; omega, ?_, ⟨?_, ?_⟩, ?_⟩
  · exact ((Blk.at (by simp)).alloc _).alloc _
  · exact Blk.at (by simp)
  · exact ⟨rfl, .inr ⟨w.heap.size + 2, 1, _, rfl, by omega, (Blk.at (by simp)).alloc _, Nat.le_refl _, by decide, rfl, rfl⟩⟩
  · exact ((((Kept.refl w).alloc _).alloc _).alloc _).alloc _

/-- What is so while next goes on: sl: the rows' slice as it is now. -/
structure MidW (w W : World) (g n₁ : Nat) (v sl : Value) (n : Nat) (ys : List Value) (s : Value) (a b o : Nat) (sk : Value) : Prop where
  blk : Blk W g 131 #[sl]
  own : W.ownsRow n₁ 128 2 sl n ys
  box : Blk W w.heap.size 128 #[s, .int .i64 (a : Int)]
  kid : W.cell? ⟨b, o + 5, none⟩ = some sk
  only : Only (walkS g v) w W
  lies : ∀ k, sl.ownBlock = some k → v.ownBlock = some k ∨ w.heap.size ≤ k
  far : sl.ownBlock ≠ some g
  apart : sl.ownBlock ≠ some w.heap.size
  here : g < w.heap.size
theorem MidW.drew {w W : World} {g n₁ : Nat} {v sl : Value} {n : Nat} {ys : List Value} {s : Value} {a b o : Nat} {sk : Value} (h : MidW w W g n₁ v sl n ys s a b o sk) : MidW w W.drew g n₁ v sl n ys s a b o sk :=
  ⟨h.blk.drew, h.own, h.box.drew, h.kid, h.only.drew, h.lies, h.far, h.apart, h.here⟩
theorem MidW.app {w W w5 : World} {g n₁ : Nat} {v sl v' : Value} {n m : Nat} {ys zs : List Value} {s : Value} {a b o : Nat} {sk : Value} {cs : Array Value} {t : TypeId} (h : MidW w W g n₁ v sl n ys s a b o sk)
    (hx : PerS (walkS g v) w (fun W => W.cell? ⟨b, o + 5, none⟩ = some sk)) (ho : w5.ownsRow n₁ 128 2 v' m zs) (hg : (W.drew.alloc (.cells cs t)).grownBy w5 sl.ownBlock)
    (hl : v'.ownBlock = sl.ownBlock ∨ v'.ownBlock = some (W.drew.alloc (.cells cs t)).heap.size) :
    w5.cell? ⟨g, 0, none⟩ = some sl ∧ w5.frozen? ⟨g, 0, none⟩ = false ∧ (w5.cell? ⟨w.heap.size, 0, none⟩ = some s ∧ w5.cell? ⟨w.heap.size, 1, none⟩ = some (.int .i64 (a : Int))) ∧ (True ∧ Only (walkS g v) w w5) ∧ MidW w (w5.setCell ⟨g, 0, none⟩ v') g n₁ v v' m zs s a b o sk := by
  have hz : w.heap.size < W.heap.size := h.box.lt
  have hsz : (W.drew.alloc (.cells cs t)).heap.size = W.heap.size + 1 := by simp
  have b5 : Blk w5 g 131 #[sl] := (h.blk.drew.alloc _).grownBy hg h.far
  have x5 : Blk w5 w.heap.size 128 #[s, .int .i64 (a : Int)] := (h.box.drew.alloc _).grownBy hg h.apart
  have hvg : v'.ownBlock ≠ some g := by
    rcases hl with e | e
    · rw [e]; exact h.far
    · rw [e, hsz]; intro hc; injection hc with hc; have := h.here; omega
  have hvw : v'.ownBlock ≠ some w.heap.size := by
    rcases hl with e | e
    · rw [e]; exact h.apart
    · rw [e, hsz]; intro hc; injection hc with hc; omega
  have o5 : Only (walkS g v) w w5 := ((h.only.drew.alloc _).grown hg fun k hk => (h.lies k hk).imp (fun e => .inr e) id)
  have o6 : Only (walkS g v) w (w5.setCell ⟨g, 0, none⟩ v') := o5.setCell (.inl (.inl rfl)) _
  refine ⟨by have := b5.cell 0; simpa using this, b5.frozen 0, ⟨x5.cell 0, x5.cell 1⟩, ⟨trivial, o5⟩, ⟨by have := b5.put 0 v'; simpa using this, owns_only (S := (· = g)) ho ((Only.refl _ _).put 0 _) (fun k hk e => hvg (by rw [hk, e])), x5.only ((Only.refl (· = g) _).put 0 _) (by have := h.here; omega), hx _ o6, o6, ?_, hvg, hvw, h.here⟩⟩
  intro k hk
  rcases hl with e | e
  · rw [e] at hk; exact h.lies k hk
  · rw [e, hsz] at hk; injection hk with hk; right; omega

theorem next_end (g n₁ : Nat) (v : Value) (w : World) (hw : WalkAt w n₁ g v []) :
    Calls Tryz.prog 51 #[.pointer (some ⟨g, 0, none⟩)] w fun e w' => e = .returned (.tuple #[.pointer none, .int .i64 0]) ∧ w' = w := by
  obtain ⟨hb, ho⟩ := hw
  obtain ⟨va, vc, rfl⟩ := slice_of_owns ho
  have c0 := hb.cell 0
  simp only [List.getElem?_toArray, List.getElem?_cons_zero, List.length_nil] at c0
  go_enter Tryz.func51, Tryz.ntmps51
  go_wp2_with fail
  go_ret2
  exact ⟨rfl, rfl⟩

set_option maxHeartbeats 8000000 in
theorem next_c (g n₁ : Nat) (v : Value) (rs : List Rw) (b o c a : Nat) (x : Nd) (r : List Nd) (ad : Option Addr) (ck : Nat) (w : World)
    (hw : WalkAt w n₁ g v (rs ++ [(.slice (some ⟨b, o, none⟩) (r.length + 1) c, x :: r, a)])) (hx : PerS (walkS g v) w (fun W => W.cell? ⟨b, o + 5, none⟩ = some (.slice ad x.kids.length ck)))
    (hc : r.length + 1 ≤ c) (hn : n₁ ≤ w.heap.size) (ha : a ≤ 1000000000000) (hrs : rs.length ≤ 1000000000000) :
    Calls Tryz.prog 51 #[.pointer (some ⟨g, 0, none⟩)] w fun e w' => e = .returned (.tuple #[.pointer (some ⟨b, o, none⟩), .int .i64 a]) ∧
      ∃ v', WalkAt w' n₁ g v' (rs ++ moreR b o c x r a ad ck) ∧ Only (walkS g v) w w' ∧ (∀ k, v'.ownBlock = some k → v.ownBlock = some k ∨ w.heap.size ≤ k) := by
  obtain ⟨i0, hi, hz0, hzz1, hzz2⟩ := info_parts info_row
  obtain ⟨hb, ho⟩ := hw
  have hvg := ne_row_blk hb (by decide) ho
  obtain ⟨B, cap, rfl, hnB, hB, hown, r0, r1, hcap⟩ := rows_take ho
  have hBg : B ≠ g := fun e => hvg (by rw [e]; rfl)
  have hgl := hb.lt
  have c0 := hb.cell 0
  simp only [List.getElem?_toArray, List.getElem?_cons_zero] at c0
  obtain ⟨k, hk⟩ : ∃ k, rs.length = k := ⟨_, rfl⟩
  obtain ⟨W1, hW1⟩ : ∃ W1, (w.setCell ⟨g, 0, none⟩ (.slice (some ⟨B, 0, none⟩) k cap)).alloc (.cells #[.slice (some ⟨b, o, none⟩) (r.length + 1) c, .int .i64 (a : Int)] 128) = W1 := ⟨_, rfl⟩
  have hmid : MidW w W1 g n₁ (.slice (some ⟨B, 0, none⟩) (rs.length + 1) cap) (.slice (some ⟨B, 0, none⟩) rs.length cap) rs.length (rs.flatMap rowC) (.slice (some ⟨b, o, none⟩) (r.length + 1) c) a b o (.slice ad x.kids.length ck) := by
    have o1 : Only (walkS g (.slice (some ⟨B, 0, none⟩) (rs.length + 1) cap)) w W1 := by rw [← hW1]; exact ((Only.refl _ w).setCell (.inl (.inl rfl)) _).alloc _
    have h1 : Only (· = g) w (w.setCell ⟨g, 0, none⟩ (.slice (some ⟨B, 0, none⟩) k cap)) := (Only.refl _ w).put 0 _
    refine ⟨?_, ?_, ?_, hx _ o1, o1, fun k hk => .inl hk, fun e => hBg (by simpa [Value.ownBlock] using e), fun e => ?_, hgl⟩
    · rw [← hW1, hk]; have := (hb.put 0 (.slice (some ⟨B, 0, none⟩) k cap)).alloc (.cells #[.slice (some ⟨b, o, none⟩) (r.length + 1) c, .int .i64 (a : Int)] 128); simpa using this
    · rw [← hW1]; exact owns_kept (owns_only hown h1 (fun q e1 e2 => hBg (by rw [← e2]; simpa [Value.ownBlock] using e1))) ((Kept.refl _).alloc _)
    · rw [← hW1]; exact Blk.at (by simp)
    · have : B = w.heap.size := by simpa [Value.ownBlock] using e
      omega
  have hfz := hb.frozen 0
  rw [hk] at r0 r1 hmid c0 hx hcap hown ⊢
  have hrs' : k ≤ 1000000000000 := by omega
  dsimp only at r0 r1
  have HW1 := Lib.hid hW1
  have HM := Lib.hid hmid
  have HX := Lib.hid hx
  have HK := Lib.hid hk
  have HC := Lib.hid hc
  have gg := hmid.blk.cell 0
  have x0 := hmid.box.cell 0
  have x1 := hmid.box.cell 1
  have kk := hmid.kid
  simp only [List.getElem?_toArray, List.getElem?_cons_zero, List.getElem?_cons_succ] at gg x0 x1
  clear hW1 hmid hx hk hb ho hvg hown hrs
  obtain ⟨m, hm⟩ : ∃ m, x.kids.length = m := ⟨_, rfl⟩
  rw [hm] at HM HX kk
  have hnl : n₁ ≤ w.heap.size := hn
  obtain ⟨q, hq⟩ : ∃ q, r.length + 1 = q := ⟨_, rfl⟩
  rw [hq] at HM r0 x0 HC HW1
  have hql : q - 1 = r.length := by omega
  have hqc : q ≤ c := by have := HC.out; omega
  have hq0 : (0 : Int) < (q : Int) := by omega
  have HQL := Lib.hid hql
  have HQ := Lib.hid hq
  by_cases hr : r = []
  · have hrI : ¬ (1 : Int) < (q : Int) := by rw [hr] at hq; simp at hq; omega
    have HR := Lib.hid hr
    clear hr hq hql hc
    by_cases hm0 : m = 0
    · have HMO := Lib.hid (show moreR b o c x r a ad ck = [] by unfold moreR; rw [← HQL.out, if_pos HR.out, if_pos (List.eq_nil_of_length_eq_zero (by rw [hm, hm0]))]; rfl)
      have hmI : ¬ (0 : Int) < (m : Int) := by omega
      have HM0 := Lib.hid hm0
      clear hm0
      go_enter Tryz.func51, Tryz.ntmps51
      go_wp2_with (rw [HW1.out])
      refine wp_region_held_drew (S := (fun W => W.cell? ⟨w.heap.size, 1, none⟩ = some (.int .i64 (a : Int)))) (by kernel_rfl) ((HM.out.box.drew).cell 1) (fun hHeld0 => ?_)
      refine wpAnyH_take (i := 0) (v := ?_) rfl (by kernel_rfl) (by kernel_rfl) (by kernel_rfl) (fun _ _ _ h => h) (Or.inl ⟨by kernel_rfl, ?_⟩) (by assumption) ?_
      rotate_left
      · intro w hSw; (try dsimp only at hSw); go_simp; (try with_reducible rfl)
      (try simp only [Act.put, List.getElem_toArray, List.getElem_cons_zero, List.getElem_cons_succ, List.setIfInBounds_toArray, List.set_cons_zero, List.set_cons_succ])
      refine wpAnyH_take (i := 1) (v := ?_) rfl (by kernel_rfl) (by kernel_rfl) (by kernel_rfl) (fun _ _ _ h => h) (Or.inl ⟨by kernel_rfl, ?_⟩) (by assumption) ?_
      rotate_left
      · intro w hSw; (try dsimp only at hSw); go_simp; (try with_reducible rfl)
      (try simp only [Act.put, List.getElem_toArray, List.getElem_cons_zero, List.getElem_cons_succ, List.setIfInBounds_toArray, List.set_cons_zero, List.set_cons_succ])
      refine wpAnyH_take (i := 2) (v := ?_) rfl (by kernel_rfl) (by kernel_rfl) (by kernel_rfl) (fun _ _ _ h => h) (Or.inl ⟨by kernel_rfl, ?_⟩) (by assumption) ?_
      rotate_left
      · intro w hSw; (try dsimp only at hSw); go_simp; (try with_reducible rfl)
      (try simp only [Act.put, List.getElem_toArray, List.getElem_cons_zero, List.getElem_cons_succ, List.setIfInBounds_toArray, List.set_cons_zero, List.set_cons_succ])
      refine wpAnyH_take (i := 3) (v := ?_) rfl (by kernel_rfl) (by kernel_rfl) (by kernel_rfl) (fun _ _ _ h => h) (Or.inl ⟨by kernel_rfl, ?_⟩) (by assumption) ?_
      rotate_left
      · intro w hSw; (try dsimp only at hSw); go_simp; (try with_reducible rfl)
      (try simp only [Act.put, List.getElem_toArray, List.getElem_cons_zero, List.getElem_cons_succ, List.setIfInBounds_toArray, List.set_cons_zero, List.set_cons_succ])
      refine wpAnyH_take (i := 4) (v := ?_) rfl (by kernel_rfl) (by kernel_rfl) (by kernel_rfl) (fun _ _ _ h => h) (Or.inl ⟨by kernel_rfl, ?_⟩) (by assumption) ?_
      rotate_left
      · intro w hSw; (try dsimp only at hSw); go_simp; (try with_reducible rfl)
      (try simp only [Act.put, List.getElem_toArray, List.getElem_cons_zero, List.getElem_cons_succ, List.setIfInBounds_toArray, List.set_cons_zero, List.set_cons_succ])
      refine wpAnyH_done (by kernel_rfl) ?_ _
      go_wp2_with fail
      go_ret2
      refine ⟨rfl, .slice (some ⟨B, 0, none⟩) k cap, ⟨HM.out.blk.drew, ?_⟩, HM.out.only.drew, HM.out.lies⟩
      have hh := HM.out.own.drew
      rw [HMO.out, List.flatMap_append]
      first | (simpa [HK.out, Nat.add_assoc] using hh) | (rw [List.length_append, HK.out]; simpa [List.append_assoc] using hh)
    · have hmI : (0 : Int) < (m : Int) := by omega
      have HMO := Lib.hid (show moreR b o c x r a ad ck = [] ++ [(.slice ad m ck, x.kids, a + 1)] by unfold moreR; rw [← HQL.out, if_pos HR.out, if_neg (fun e => hm0 (by rw [← hm, e]; rfl)), hm])
      have hwr : IntKind.i64.wrap ((a : Int) + 1) = (a : Int) + 1 := IntWalk.i64_in _ (by omega)
      go_enter Tryz.func51, Tryz.ntmps51
      go_wp2_with (rw [HW1.out])
      refine wp_region_till (S := (fun W => W.cell? ⟨g, 0, none⟩ = some (.slice (some ⟨B, 0, none⟩) k cap) ∧ W.cell? ⟨w.heap.size, 0, none⟩ = some (.slice (some ⟨b, o, none⟩) q c) ∧ W.cell? ⟨w.heap.size, 1, none⟩ = some (.int .i64 (a : Int)) ∧ W.cell? ⟨b, o + 5, none⟩ = some (.slice ad m ck))) 17 (by kernel_rfl) ⟨(Kept.refl W1).drew.cell gg, (Kept.refl W1).drew.cell x0, (Kept.refl W1).drew.cell x1, (Kept.refl W1).drew.cell kk⟩ (fun hHeld0 => ?_)
      refine wpAnyT_take (i := 0) (v := ?_) rfl (by kernel_rfl) (by kernel_rfl) (by kernel_rfl) (fun _ _ _ h => h) (Or.inl ⟨by kernel_rfl, ?_⟩) (by assumption) ?_
      rotate_left
      · intro w hSw; (try dsimp only at hSw); go_simp; (try with_reducible rfl)
      (try simp only [Act.put, List.getElem_toArray, List.getElem_cons_zero, List.getElem_cons_succ, List.setIfInBounds_toArray, List.set_cons_zero, List.set_cons_succ])
      refine wpAnyT_take (i := 1) (v := ?_) rfl (by kernel_rfl) (by kernel_rfl) (by kernel_rfl) (fun _ _ _ h => h) (Or.inl ⟨by kernel_rfl, ?_⟩) (by assumption) ?_
      rotate_left
      · intro w hSw; (try dsimp only at hSw); go_simp; (try with_reducible rfl)
      (try simp only [Act.put, List.getElem_toArray, List.getElem_cons_zero, List.getElem_cons_succ, List.setIfInBounds_toArray, List.set_cons_zero, List.set_cons_succ])
      refine wpAnyT_take (i := 2) (v := ?_) rfl (by kernel_rfl) (by kernel_rfl) (by kernel_rfl) (fun _ _ _ h => h) (Or.inl ⟨by kernel_rfl, ?_⟩) (by assumption) ?_
      rotate_left
      · intro w hSw; (try dsimp only at hSw); go_simp; (try with_reducible rfl)
      (try simp only [Act.put, List.getElem_toArray, List.getElem_cons_zero, List.getElem_cons_succ, List.setIfInBounds_toArray, List.set_cons_zero, List.set_cons_succ])
      refine wpAnyT_take (i := 3) (v := ?_) rfl (by kernel_rfl) (by kernel_rfl) (by kernel_rfl) (fun _ _ _ h => h) (Or.inl ⟨by kernel_rfl, ?_⟩) (by assumption) ?_
      rotate_left
      · intro w hSw; (try dsimp only at hSw); go_simp; (try with_reducible rfl)
      (try simp only [Act.put, List.getElem_toArray, List.getElem_cons_zero, List.getElem_cons_succ, List.setIfInBounds_toArray, List.set_cons_zero, List.set_cons_succ])
      refine wpAnyT_take (i := 4) (v := ?_) rfl (by kernel_rfl) (by kernel_rfl) (by kernel_rfl) (fun _ _ _ h => h) (Or.inl ⟨by kernel_rfl, ?_⟩) (by assumption) ?_
      rotate_left
      · intro w hSw; (try dsimp only at hSw); go_simp; (try with_reducible rfl)
      (try simp only [Act.put, List.getElem_toArray, List.getElem_cons_zero, List.getElem_cons_succ, List.setIfInBounds_toArray, List.set_cons_zero, List.set_cons_succ])
      refine wpAnyT_take (i := 5) (v := ?_) rfl (by kernel_rfl) (by kernel_rfl) (by kernel_rfl) (fun _ _ _ h => h) (Or.inl ⟨by kernel_rfl, ?_⟩) (by assumption) ?_
      rotate_left
      · intro w hSw; (try dsimp only at hSw); go_simp; (try with_reducible rfl)
      (try simp only [Act.put, List.getElem_toArray, List.getElem_cons_zero, List.getElem_cons_succ, List.setIfInBounds_toArray, List.set_cons_zero, List.set_cons_succ])
      refine wpAnyT_take (i := 6) (v := ?_) rfl (by kernel_rfl) (by kernel_rfl) (by kernel_rfl) (fun _ _ _ h => h) (Or.inl ⟨by kernel_rfl, ?_⟩) (by assumption) ?_
      rotate_left
      · intro w hSw; (try dsimp only at hSw); go_simp; (try with_reducible rfl)
      (try simp only [Act.put, List.getElem_toArray, List.getElem_cons_zero, List.getElem_cons_succ, List.setIfInBounds_toArray, List.set_cons_zero, List.set_cons_succ])
      refine wpAnyT_take (i := 7) (v := ?_) rfl (by kernel_rfl) (by kernel_rfl) (by kernel_rfl) (fun _ _ _ h => h) (Or.inl ⟨by kernel_rfl, ?_⟩) (by assumption) ?_
      rotate_left
      · intro w hSw; (try dsimp only at hSw); go_simp; (try with_reducible rfl)
      (try simp only [Act.put, List.getElem_toArray, List.getElem_cons_zero, List.getElem_cons_succ, List.setIfInBounds_toArray, List.set_cons_zero, List.set_cons_succ])
      refine wpAnyT_take (i := 8) (v := ?_) rfl (by kernel_rfl) (by kernel_rfl) (by kernel_rfl) (fun _ _ _ h => h) (Or.inl ⟨by kernel_rfl, ?_⟩) (by assumption) ?_
      rotate_left
      · intro w hSw; (try dsimp only at hSw); go_simp; (try with_reducible rfl)
      (try simp only [Act.put, List.getElem_toArray, List.getElem_cons_zero, List.getElem_cons_succ, List.setIfInBounds_toArray, List.set_cons_zero, List.set_cons_succ])
      refine wpAnyT_take (i := 9) (v := ?_) rfl (by kernel_rfl) (by kernel_rfl) (by kernel_rfl) (fun _ _ _ h => h) (Or.inl ⟨by kernel_rfl, ?_⟩) (by assumption) ?_
      rotate_left
      · intro w hSw; (try dsimp only at hSw); go_simp; (try with_reducible rfl)
      (try simp only [Act.put, List.getElem_toArray, List.getElem_cons_zero, List.getElem_cons_succ, List.setIfInBounds_toArray, List.set_cons_zero, List.set_cons_succ])
      refine wpAnyT_take (i := 10) (v := ?_) rfl (by kernel_rfl) (by kernel_rfl) (by kernel_rfl) (fun _ _ _ h => h) (Or.inl ⟨by kernel_rfl, ?_⟩) (by assumption) ?_
      rotate_left
      · intro w hSw; (try dsimp only at hSw); go_simp; (try with_reducible rfl)
      (try simp only [Act.put, List.getElem_toArray, List.getElem_cons_zero, List.getElem_cons_succ, List.setIfInBounds_toArray, List.set_cons_zero, List.set_cons_succ])
      refine wpAnyT_take (i := 11) (v := ?_) rfl (by kernel_rfl) (by kernel_rfl) (by kernel_rfl) (fun _ _ _ h => h) (Or.inl ⟨by kernel_rfl, ?_⟩) (by assumption) ?_
      rotate_left
      · intro w hSw; (try dsimp only at hSw); go_simp; (try with_reducible rfl)
      (try simp only [Act.put, List.getElem_toArray, List.getElem_cons_zero, List.getElem_cons_succ, List.setIfInBounds_toArray, List.set_cons_zero, List.set_cons_succ])
      refine wpAnyT_take (i := 12) (v := ?_) rfl (by kernel_rfl) (by kernel_rfl) (by kernel_rfl) (fun _ _ _ h => h) (Or.inl ⟨by kernel_rfl, ?_⟩) (by assumption) ?_
      rotate_left
      · intro w hSw; (try dsimp only at hSw); go_simp; (try with_reducible rfl)
      (try simp only [Act.put, List.getElem_toArray, List.getElem_cons_zero, List.getElem_cons_succ, List.setIfInBounds_toArray, List.set_cons_zero, List.set_cons_succ])
      refine wpAnyT_ready (rs := [13]) (by kernel_rfl) (by simp) ?_
      refine AllReadyT.cons rfl (fun K hK => ?_) AllReadyT.nil
      go_simp
      refine hK.out _ _ ⟨((Kept.refl W1).drew.alloc _).cell gg, ((Kept.refl W1).drew.alloc _).cell x0, ((Kept.refl W1).drew.alloc _).cell x1, ((Kept.refl W1).drew.alloc _).cell kk⟩ (fun hHeld1 => ?_)
      clear hK K
      (try simp only [Act.put, List.getElem_toArray, List.getElem_cons_zero, List.getElem_cons_succ, List.setIfInBounds_toArray, List.set_cons_zero, List.set_cons_succ])
      have HSR := Lib.hid (src_row (w := W1.drew.alloc (.cells #[.slice ad m ck, .int .i64 ((a : Int) + 1)] 128)) (g := W1.heap.size) (r := (.slice ad m ck, x.kids, a + 1)) rfl (Blk.at (by simp)))
      have HRW := Lib.hid (owns_kept HM.out.own ((Kept.refl W1).drew.alloc (.cells #[.slice ad m ck, .int .i64 ((a : Int) + 1)] 128)))
      have HZ := Lib.hid HM.out.only.size
      refine wpAnyT_ready (rs := [14]) (by kernel_rfl) (by simp) ?_
      refine AllReadyT.cons rfl (fun K hK => ?_) AllReadyT.nil
      refine step_apk rfl (.tmp 63) (.tmp 72) 129 129 rfl n₁ 2 128 i0 _ 32 Tryz.underlying129 hi hz0 hzz1 hzz2 rfl rfl HRW.out rfl HSR.out (by unfold maxLen; omega) (by omega) (by have := HZ.out; simp; omega) ?_
      intro v' w5 hown' hgrow hnl hlies
      obtain ⟨q0, q1, q2, q3, hm5⟩ := HM.out.app HX.out hown' hgrow hlies
      have HOW := Lib.hid hown'
      obtain ⟨va, vc, rfl⟩ := slice_of_owns hown'
      have hkid : w5.cell? ⟨b, o + 5, none⟩ = some (.slice ad m ck) := HX.out _ q3.2
      refine hK.out _ _ ⟨q0, q2.1, q2.2, hkid⟩ (fun hHeld2 => ?_)
      clear hK K
      (try simp only [Act.put, List.getElem_toArray, List.getElem_cons_zero, List.getElem_cons_succ, List.setIfInBounds_toArray, List.set_cons_zero, List.set_cons_succ])
      clear hown' hgrow hnl hlies HSR HRW HZ hHeld0 hHeld1
      refine wpAnyT_take (i := 15) (v := ?_) rfl (by kernel_rfl) (by kernel_rfl) (by kernel_rfl) (fun _ _ _ h => h) (Or.inl ⟨by kernel_rfl, ?_⟩) (by assumption) ?_
      rotate_left
      · intro w hSw; (try dsimp only at hSw); go_simp; (try with_reducible rfl)
      (try simp only [Act.put, List.getElem_toArray, List.getElem_cons_zero, List.getElem_cons_succ, List.setIfInBounds_toArray, List.set_cons_zero, List.set_cons_succ])
      refine wpAnyT_take (i := 16) (v := ?_) rfl (by kernel_rfl) (by kernel_rfl) (by kernel_rfl) (fun _ _ _ h => h) (Or.inl ⟨by kernel_rfl, ?_⟩) (by assumption) ?_
      rotate_left
      · intro w hSw; (try dsimp only at hSw); go_simp; (try with_reducible rfl)
      (try simp only [Act.put, List.getElem_toArray, List.getElem_cons_zero, List.getElem_cons_succ, List.setIfInBounds_toArray, List.set_cons_zero, List.set_cons_succ])
      clear hHeld2
      refine wpAnyT_ready (rs := [17]) (by kernel_rfl) (by simp) ?_
      refine AllReadyT.fin rfl (fun K hK => ?_)
      go_simp
      refine hK.out _ _ ?_
      clear hK K
      (try simp only [Act.put, List.getElem_toArray, List.getElem_cons_zero, List.getElem_cons_succ, List.setIfInBounds_toArray, List.set_cons_zero, List.set_cons_succ])
      refine wpAnyT_done (by kernel_rfl) ?_ _
      obtain ⟨W7, hW7⟩ : ∃ W7, w5.setCell ⟨g, 0, none⟩ (.slice va (k + 1) vc) = W7 := ⟨_, rfl⟩
      rw [hW7] at hm5 ⊢
      have HM7 := Lib.hid hm5
      clear hW7 hkid q0 q1 q2 q3
      clear gg x0 x1 kk
      go_wp2_with fail
      refine wp_region_held_drew (S := (fun W => W.cell? ⟨w.heap.size, 1, none⟩ = some (.int .i64 (a : Int)))) (by kernel_rfl) ((HM7.out.box.drew).cell 1) (fun hHeld0 => ?_)
      refine wpAnyH_take (i := 0) (v := ?_) rfl (by kernel_rfl) (by kernel_rfl) (by kernel_rfl) (fun _ _ _ h => h) (Or.inl ⟨by kernel_rfl, ?_⟩) (by assumption) ?_
      rotate_left
      · intro w hSw; (try dsimp only at hSw); go_simp; (try with_reducible rfl)
      (try simp only [Act.put, List.getElem_toArray, List.getElem_cons_zero, List.getElem_cons_succ, List.setIfInBounds_toArray, List.set_cons_zero, List.set_cons_succ])
      refine wpAnyH_take (i := 1) (v := ?_) rfl (by kernel_rfl) (by kernel_rfl) (by kernel_rfl) (fun _ _ _ h => h) (Or.inl ⟨by kernel_rfl, ?_⟩) (by assumption) ?_
      rotate_left
      · intro w hSw; (try dsimp only at hSw); go_simp; (try with_reducible rfl)
      (try simp only [Act.put, List.getElem_toArray, List.getElem_cons_zero, List.getElem_cons_succ, List.setIfInBounds_toArray, List.set_cons_zero, List.set_cons_succ])
      refine wpAnyH_take (i := 2) (v := ?_) rfl (by kernel_rfl) (by kernel_rfl) (by kernel_rfl) (fun _ _ _ h => h) (Or.inl ⟨by kernel_rfl, ?_⟩) (by assumption) ?_
      rotate_left
      · intro w hSw; (try dsimp only at hSw); go_simp; (try with_reducible rfl)
      (try simp only [Act.put, List.getElem_toArray, List.getElem_cons_zero, List.getElem_cons_succ, List.setIfInBounds_toArray, List.set_cons_zero, List.set_cons_succ])
      refine wpAnyH_take (i := 3) (v := ?_) rfl (by kernel_rfl) (by kernel_rfl) (by kernel_rfl) (fun _ _ _ h => h) (Or.inl ⟨by kernel_rfl, ?_⟩) (by assumption) ?_
      rotate_left
      · intro w hSw; (try dsimp only at hSw); go_simp; (try with_reducible rfl)
      (try simp only [Act.put, List.getElem_toArray, List.getElem_cons_zero, List.getElem_cons_succ, List.setIfInBounds_toArray, List.set_cons_zero, List.set_cons_succ])
      refine wpAnyH_take (i := 4) (v := ?_) rfl (by kernel_rfl) (by kernel_rfl) (by kernel_rfl) (fun _ _ _ h => h) (Or.inl ⟨by kernel_rfl, ?_⟩) (by assumption) ?_
      rotate_left
      · intro w hSw; (try dsimp only at hSw); go_simp; (try with_reducible rfl)
      (try simp only [Act.put, List.getElem_toArray, List.getElem_cons_zero, List.getElem_cons_succ, List.setIfInBounds_toArray, List.set_cons_zero, List.set_cons_succ])
      refine wpAnyH_done (by kernel_rfl) ?_ _
      go_wp2_with fail
      go_ret2
      refine ⟨rfl, .slice va (k + 1) vc, ⟨HM7.out.blk.drew, ?_⟩, HM7.out.only.drew, HM7.out.lies⟩
      have hh := HM7.out.own.drew
      rw [HMO.out, List.flatMap_append]
      first | (simpa [HK.out, Nat.add_assoc] using hh) | (rw [List.length_append, HK.out]; simpa [List.append_assoc] using hh)
  · have hrI : (1 : Int) < (q : Int) := by have := List.length_pos_iff.2 hr; omega
    have hq1 : (1 : Int) ≤ (q : Int) := by omega
    have hc1 : ¬ c = 1 := by omega
    have HR := Lib.hid hr
    clear hr hq hql hc
    go_enter Tryz.func51, Tryz.ntmps51
    go_wp2_with (rw [HW1.out])
    refine wp_region_till (S := (fun W => W.cell? ⟨g, 0, none⟩ = some (.slice (some ⟨B, 0, none⟩) k cap) ∧ W.cell? ⟨w.heap.size, 0, none⟩ = some (.slice (some ⟨b, o, none⟩) q c) ∧ W.cell? ⟨w.heap.size, 1, none⟩ = some (.int .i64 (a : Int)))) 15 (by kernel_rfl) ⟨(Kept.refl W1).drew.cell gg, (Kept.refl W1).drew.cell x0, (Kept.refl W1).drew.cell x1⟩ (fun hHeld0 => ?_)
    refine wpAnyT_take (i := 0) (v := ?_) rfl (by kernel_rfl) (by kernel_rfl) (by kernel_rfl) (fun _ _ _ h => h) (Or.inl ⟨by kernel_rfl, ?_⟩) (by assumption) ?_
    rotate_left
    · intro w hSw; (try dsimp only at hSw); go_simp; (try with_reducible rfl)
    (try simp only [Act.put, List.getElem_toArray, List.getElem_cons_zero, List.getElem_cons_succ, List.setIfInBounds_toArray, List.set_cons_zero, List.set_cons_succ])
    refine wpAnyT_take (i := 1) (v := ?_) rfl (by kernel_rfl) (by kernel_rfl) (by kernel_rfl) (fun _ _ _ h => h) (Or.inl ⟨by kernel_rfl, ?_⟩) (by assumption) ?_
    rotate_left
    · intro w hSw; (try dsimp only at hSw); go_simp; (try with_reducible rfl)
    (try simp only [Act.put, List.getElem_toArray, List.getElem_cons_zero, List.getElem_cons_succ, List.setIfInBounds_toArray, List.set_cons_zero, List.set_cons_succ])
    refine wpAnyT_take (i := 2) (v := ?_) rfl (by kernel_rfl) (by kernel_rfl) (by kernel_rfl) (fun _ _ _ h => h) (Or.inl ⟨by kernel_rfl, ?_⟩) (by assumption) ?_
    rotate_left
    · intro w hSw; (try dsimp only at hSw); go_simp; (try with_reducible rfl)
    (try simp only [Act.put, List.getElem_toArray, List.getElem_cons_zero, List.getElem_cons_succ, List.setIfInBounds_toArray, List.set_cons_zero, List.set_cons_succ])
    refine wpAnyT_take (i := 3) (v := ?_) rfl (by kernel_rfl) (by kernel_rfl) (by kernel_rfl) (fun _ _ _ h => h) (Or.inl ⟨by kernel_rfl, ?_⟩) (by assumption) ?_
    rotate_left
    · intro w hSw; (try dsimp only at hSw); go_simp; (try with_reducible rfl)
    (try simp only [Act.put, List.getElem_toArray, List.getElem_cons_zero, List.getElem_cons_succ, List.setIfInBounds_toArray, List.set_cons_zero, List.set_cons_succ])
    refine wpAnyT_take (i := 4) (v := ?_) rfl (by kernel_rfl) (by kernel_rfl) (by kernel_rfl) (fun _ _ _ h => h) (Or.inl ⟨by kernel_rfl, ?_⟩) (by assumption) ?_
    rotate_left
    · intro w hSw; (try dsimp only at hSw); go_simp; (try with_reducible rfl)
    (try simp only [Act.put, List.getElem_toArray, List.getElem_cons_zero, List.getElem_cons_succ, List.setIfInBounds_toArray, List.set_cons_zero, List.set_cons_succ])
    refine wpAnyT_take (i := 5) (v := ?_) rfl (by kernel_rfl) (by kernel_rfl) (by kernel_rfl) (fun _ _ _ h => h) (Or.inl ⟨by kernel_rfl, ?_⟩) (by assumption) ?_
    rotate_left
    · intro w hSw; (try dsimp only at hSw); go_simp; (try with_reducible rfl)
    (try simp only [Act.put, List.getElem_toArray, List.getElem_cons_zero, List.getElem_cons_succ, List.setIfInBounds_toArray, List.set_cons_zero, List.set_cons_succ])
    refine wpAnyT_take (i := 6) (v := ?_) rfl (by kernel_rfl) (by kernel_rfl) (by kernel_rfl) (fun _ _ _ h => h) (Or.inl ⟨by kernel_rfl, ?_⟩) (by assumption) ?_
    rotate_left
    · intro w hSw; (try dsimp only at hSw); go_simp; (try with_reducible rfl)
    (try simp only [Act.put, List.getElem_toArray, List.getElem_cons_zero, List.getElem_cons_succ, List.setIfInBounds_toArray, List.set_cons_zero, List.set_cons_succ])
    refine wpAnyT_take (i := 7) (v := ?_) rfl (by kernel_rfl) (by kernel_rfl) (by kernel_rfl) (fun _ _ _ h => h) (Or.inl ⟨by kernel_rfl, ?_⟩) (by assumption) ?_
    rotate_left
    · intro w hSw; (try dsimp only at hSw); go_simp; (try with_reducible rfl)
    (try simp only [Act.put, List.getElem_toArray, List.getElem_cons_zero, List.getElem_cons_succ, List.setIfInBounds_toArray, List.set_cons_zero, List.set_cons_succ])
    refine wpAnyT_take (i := 8) (v := ?_) rfl (by kernel_rfl) (by kernel_rfl) (by kernel_rfl) (fun _ _ _ h => h) (Or.inl ⟨by kernel_rfl, ?_⟩) (by assumption) ?_
    rotate_left
    · intro w hSw; (try dsimp only at hSw); go_simp; (try with_reducible rfl)
    (try simp only [Act.put, List.getElem_toArray, List.getElem_cons_zero, List.getElem_cons_succ, List.setIfInBounds_toArray, List.set_cons_zero, List.set_cons_succ])
    refine wpAnyT_take (i := 9) (v := ?_) rfl (by kernel_rfl) (by kernel_rfl) (by kernel_rfl) (fun _ _ _ h => h) (Or.inl ⟨by kernel_rfl, ?_⟩) (by assumption) ?_
    rotate_left
    · intro w hSw; (try dsimp only at hSw); go_simp; (try with_reducible rfl)
    (try simp only [Act.put, List.getElem_toArray, List.getElem_cons_zero, List.getElem_cons_succ, List.setIfInBounds_toArray, List.set_cons_zero, List.set_cons_succ])
    refine wpAnyT_take (i := 10) (v := ?_) rfl (by kernel_rfl) (by kernel_rfl) (by kernel_rfl) (fun _ _ _ h => h) (Or.inl ⟨by kernel_rfl, ?_⟩) (by assumption) ?_
    rotate_left
    · intro w hSw; (try dsimp only at hSw); go_simp; (try with_reducible rfl)
    (try simp only [Act.put, List.getElem_toArray, List.getElem_cons_zero, List.getElem_cons_succ, List.setIfInBounds_toArray, List.set_cons_zero, List.set_cons_succ])
    refine wpAnyT_ready (rs := [11]) (by kernel_rfl) (by simp) ?_
    refine AllReadyT.cons rfl (fun K hK => ?_) AllReadyT.nil
    go_simp
    refine hK.out _ _ ⟨((Kept.refl W1).drew.alloc _).cell gg, ((Kept.refl W1).drew.alloc _).cell x0, ((Kept.refl W1).drew.alloc _).cell x1⟩ (fun hHeld1 => ?_)
    clear hK K
    (try simp only [Act.put, List.getElem_toArray, List.getElem_cons_zero, List.getElem_cons_succ, List.setIfInBounds_toArray, List.set_cons_zero, List.set_cons_succ])
    have HSR := Lib.hid (src_row (w := W1.drew.alloc (.cells #[.slice (some ⟨b, o + 6, none⟩) (q - 1) (c - 1), .int .i64 (a : Int)] 128)) (g := W1.heap.size) (r := (.slice (some ⟨b, o + 6, none⟩) (q - 1) (c - 1), r, a)) rfl (Blk.at (by simp)))
    have HRW := Lib.hid (owns_kept HM.out.own ((Kept.refl W1).drew.alloc (.cells #[.slice (some ⟨b, o + 6, none⟩) (q - 1) (c - 1), .int .i64 (a : Int)] 128)))
    have HZ := Lib.hid HM.out.only.size
    refine wpAnyT_ready (rs := [12]) (by kernel_rfl) (by simp) ?_
    refine AllReadyT.cons rfl (fun K hK => ?_) AllReadyT.nil
    refine step_apk rfl (.tmp 39) (.tmp 46) 129 129 rfl n₁ 2 128 i0 _ 32 Tryz.underlying129 hi hz0 hzz1 hzz2 rfl rfl HRW.out rfl HSR.out (by unfold maxLen; omega) (by omega) (by have := HZ.out; simp; omega) ?_
    intro v' w5 hown' hgrow hnl hlies
    obtain ⟨q0, q1, q2, q3, hm5⟩ := HM.out.app HX.out hown' hgrow hlies
    have HOW := Lib.hid hown'
    obtain ⟨va, vc, rfl⟩ := slice_of_owns hown'
    have hkid : w5.cell? ⟨b, o + 5, none⟩ = some (.slice ad m ck) := HX.out _ q3.2
    refine hK.out _ _ ⟨q0, q2.1, q2.2⟩ (fun hHeld2 => ?_)
    clear hK K
    (try simp only [Act.put, List.getElem_toArray, List.getElem_cons_zero, List.getElem_cons_succ, List.setIfInBounds_toArray, List.set_cons_zero, List.set_cons_succ])
    clear hown' hgrow hnl hlies HSR HRW HZ hHeld0 hHeld1
    refine wpAnyT_take (i := 13) (v := ?_) rfl (by kernel_rfl) (by kernel_rfl) (by kernel_rfl) (fun _ _ _ h => h) (Or.inl ⟨by kernel_rfl, ?_⟩) (by assumption) ?_
    rotate_left
    · intro w hSw; (try dsimp only at hSw); go_simp; (try with_reducible rfl)
    (try simp only [Act.put, List.getElem_toArray, List.getElem_cons_zero, List.getElem_cons_succ, List.setIfInBounds_toArray, List.set_cons_zero, List.set_cons_succ])
    refine wpAnyT_take (i := 14) (v := ?_) rfl (by kernel_rfl) (by kernel_rfl) (by kernel_rfl) (fun _ _ _ h => h) (Or.inl ⟨by kernel_rfl, ?_⟩) (by assumption) ?_
    rotate_left
    · intro w hSw; (try dsimp only at hSw); go_simp; (try with_reducible rfl)
    (try simp only [Act.put, List.getElem_toArray, List.getElem_cons_zero, List.getElem_cons_succ, List.setIfInBounds_toArray, List.set_cons_zero, List.set_cons_succ])
    clear hHeld2
    refine wpAnyT_ready (rs := [15]) (by kernel_rfl) (by simp) ?_
    refine AllReadyT.fin rfl (fun K hK => ?_)
    go_simp
    refine hK.out _ _ ?_
    clear hK K
    (try simp only [Act.put, List.getElem_toArray, List.getElem_cons_zero, List.getElem_cons_succ, List.setIfInBounds_toArray, List.set_cons_zero, List.set_cons_succ])
    refine wpAnyT_done (by kernel_rfl) ?_ _
    obtain ⟨W7, hW7⟩ : ∃ W7, w5.setCell ⟨g, 0, none⟩ (.slice va (k + 1) vc) = W7 := ⟨_, rfl⟩
    rw [hW7] at hm5 ⊢
    have HM7 := Lib.hid hm5
    clear hW7 hkid q0 q1 q2 q3
    clear gg x0 x1 kk
    have gg7 := HM7.out.blk.cell 0
    have x70 := HM7.out.box.cell 0
    have x71 := HM7.out.box.cell 1
    have kk7 := HM7.out.kid
    simp only [List.getElem?_toArray, List.getElem?_cons_zero, List.getElem?_cons_succ] at gg7 x70 x71
    by_cases hm0 : m = 0
    · have HMO := Lib.hid (show moreR b o c x r a ad ck = [(.slice (some ⟨b, o + 6, none⟩) (q - 1) (c - 1), r, a)] by unfold moreR; rw [← HQL.out, if_neg HR.out, if_pos (List.eq_nil_of_length_eq_zero (by rw [hm, hm0]))]; rfl)
      have hmI : ¬ (0 : Int) < (m : Int) := by omega
      have HM0 := Lib.hid hm0
      clear hm0
      go_wp2_with fail
      refine wp_region_held_drew (S := (fun W => W.cell? ⟨w.heap.size, 1, none⟩ = some (.int .i64 (a : Int)))) (by kernel_rfl) ((HM7.out.box.drew).cell 1) (fun hHeld0 => ?_)
      refine wpAnyH_take (i := 0) (v := ?_) rfl (by kernel_rfl) (by kernel_rfl) (by kernel_rfl) (fun _ _ _ h => h) (Or.inl ⟨by kernel_rfl, ?_⟩) (by assumption) ?_
      rotate_left
      · intro w hSw; (try dsimp only at hSw); go_simp; (try with_reducible rfl)
      (try simp only [Act.put, List.getElem_toArray, List.getElem_cons_zero, List.getElem_cons_succ, List.setIfInBounds_toArray, List.set_cons_zero, List.set_cons_succ])
      refine wpAnyH_take (i := 1) (v := ?_) rfl (by kernel_rfl) (by kernel_rfl) (by kernel_rfl) (fun _ _ _ h => h) (Or.inl ⟨by kernel_rfl, ?_⟩) (by assumption) ?_
      rotate_left
      · intro w hSw; (try dsimp only at hSw); go_simp; (try with_reducible rfl)
      (try simp only [Act.put, List.getElem_toArray, List.getElem_cons_zero, List.getElem_cons_succ, List.setIfInBounds_toArray, List.set_cons_zero, List.set_cons_succ])
      refine wpAnyH_take (i := 2) (v := ?_) rfl (by kernel_rfl) (by kernel_rfl) (by kernel_rfl) (fun _ _ _ h => h) (Or.inl ⟨by kernel_rfl, ?_⟩) (by assumption) ?_
      rotate_left
      · intro w hSw; (try dsimp only at hSw); go_simp; (try with_reducible rfl)
      (try simp only [Act.put, List.getElem_toArray, List.getElem_cons_zero, List.getElem_cons_succ, List.setIfInBounds_toArray, List.set_cons_zero, List.set_cons_succ])
      refine wpAnyH_take (i := 3) (v := ?_) rfl (by kernel_rfl) (by kernel_rfl) (by kernel_rfl) (fun _ _ _ h => h) (Or.inl ⟨by kernel_rfl, ?_⟩) (by assumption) ?_
      rotate_left
      · intro w hSw; (try dsimp only at hSw); go_simp; (try with_reducible rfl)
      (try simp only [Act.put, List.getElem_toArray, List.getElem_cons_zero, List.getElem_cons_succ, List.setIfInBounds_toArray, List.set_cons_zero, List.set_cons_succ])
      refine wpAnyH_take (i := 4) (v := ?_) rfl (by kernel_rfl) (by kernel_rfl) (by kernel_rfl) (fun _ _ _ h => h) (Or.inl ⟨by kernel_rfl, ?_⟩) (by assumption) ?_
      rotate_left
      · intro w hSw; (try dsimp only at hSw); go_simp; (try with_reducible rfl)
      (try simp only [Act.put, List.getElem_toArray, List.getElem_cons_zero, List.getElem_cons_succ, List.setIfInBounds_toArray, List.set_cons_zero, List.set_cons_succ])
      refine wpAnyH_done (by kernel_rfl) ?_ _
      go_wp2_with fail
      go_ret2
      refine ⟨rfl, .slice va (k + 1) vc, ⟨HM7.out.blk.drew, ?_⟩, HM7.out.only.drew, HM7.out.lies⟩
      have hh := HM7.out.own.drew
      rw [HMO.out, List.flatMap_append]
      first | (simpa [HK.out, Nat.add_assoc] using hh) | (rw [List.length_append, HK.out]; simpa [List.append_assoc] using hh)
    · have hmI : (0 : Int) < (m : Int) := by omega
      have HMO := Lib.hid (show moreR b o c x r a ad ck = [(.slice (some ⟨b, o + 6, none⟩) (q - 1) (c - 1), r, a)] ++ [(.slice ad m ck, x.kids, a + 1)] by unfold moreR; rw [← HQL.out, if_neg HR.out, if_neg (fun e => hm0 (by rw [← hm, e]; rfl)), hm])
      have hwr : IntKind.i64.wrap ((a : Int) + 1) = (a : Int) + 1 := IntWalk.i64_in _ (by omega)
      go_wp2_with fail
      refine wp_region_till (S := (fun W => W.cell? ⟨g, 0, none⟩ = some (.slice va (k + 1) vc) ∧ W.cell? ⟨w.heap.size, 0, none⟩ = some (.slice (some ⟨b, o, none⟩) q c) ∧ W.cell? ⟨w.heap.size, 1, none⟩ = some (.int .i64 (a : Int)) ∧ W.cell? ⟨b, o + 5, none⟩ = some (.slice ad m ck))) 17 (by kernel_rfl) ⟨(Kept.refl W7).drew.cell gg7, (Kept.refl W7).drew.cell x70, (Kept.refl W7).drew.cell x71, (Kept.refl W7).drew.cell kk7⟩ (fun hHeld0 => ?_)
      refine wpAnyT_take (i := 0) (v := ?_) rfl (by kernel_rfl) (by kernel_rfl) (by kernel_rfl) (fun _ _ _ h => h) (Or.inl ⟨by kernel_rfl, ?_⟩) (by assumption) ?_
      rotate_left
      · intro w hSw; (try dsimp only at hSw); go_simp; (try with_reducible rfl)
      (try simp only [Act.put, List.getElem_toArray, List.getElem_cons_zero, List.getElem_cons_succ, List.setIfInBounds_toArray, List.set_cons_zero, List.set_cons_succ])
      refine wpAnyT_take (i := 1) (v := ?_) rfl (by kernel_rfl) (by kernel_rfl) (by kernel_rfl) (fun _ _ _ h => h) (Or.inl ⟨by kernel_rfl, ?_⟩) (by assumption) ?_
      rotate_left
      · intro w hSw; (try dsimp only at hSw); go_simp; (try with_reducible rfl)
      (try simp only [Act.put, List.getElem_toArray, List.getElem_cons_zero, List.getElem_cons_succ, List.setIfInBounds_toArray, List.set_cons_zero, List.set_cons_succ])
      refine wpAnyT_take (i := 2) (v := ?_) rfl (by kernel_rfl) (by kernel_rfl) (by kernel_rfl) (fun _ _ _ h => h) (Or.inl ⟨by kernel_rfl, ?_⟩) (by assumption) ?_
      rotate_left
      · intro w hSw; (try dsimp only at hSw); go_simp; (try with_reducible rfl)
      (try simp only [Act.put, List.getElem_toArray, List.getElem_cons_zero, List.getElem_cons_succ, List.setIfInBounds_toArray, List.set_cons_zero, List.set_cons_succ])
      refine wpAnyT_take (i := 3) (v := ?_) rfl (by kernel_rfl) (by kernel_rfl) (by kernel_rfl) (fun _ _ _ h => h) (Or.inl ⟨by kernel_rfl, ?_⟩) (by assumption) ?_
      rotate_left
      · intro w hSw; (try dsimp only at hSw); go_simp; (try with_reducible rfl)
      (try simp only [Act.put, List.getElem_toArray, List.getElem_cons_zero, List.getElem_cons_succ, List.setIfInBounds_toArray, List.set_cons_zero, List.set_cons_succ])
      refine wpAnyT_take (i := 4) (v := ?_) rfl (by kernel_rfl) (by kernel_rfl) (by kernel_rfl) (fun _ _ _ h => h) (Or.inl ⟨by kernel_rfl, ?_⟩) (by assumption) ?_
      rotate_left
      · intro w hSw; (try dsimp only at hSw); go_simp; (try with_reducible rfl)
      (try simp only [Act.put, List.getElem_toArray, List.getElem_cons_zero, List.getElem_cons_succ, List.setIfInBounds_toArray, List.set_cons_zero, List.set_cons_succ])
      refine wpAnyT_take (i := 5) (v := ?_) rfl (by kernel_rfl) (by kernel_rfl) (by kernel_rfl) (fun _ _ _ h => h) (Or.inl ⟨by kernel_rfl, ?_⟩) (by assumption) ?_
      rotate_left
      · intro w hSw; (try dsimp only at hSw); go_simp; (try with_reducible rfl)
      (try simp only [Act.put, List.getElem_toArray, List.getElem_cons_zero, List.getElem_cons_succ, List.setIfInBounds_toArray, List.set_cons_zero, List.set_cons_succ])
      refine wpAnyT_take (i := 6) (v := ?_) rfl (by kernel_rfl) (by kernel_rfl) (by kernel_rfl) (fun _ _ _ h => h) (Or.inl ⟨by kernel_rfl, ?_⟩) (by assumption) ?_
      rotate_left
      · intro w hSw; (try dsimp only at hSw); go_simp; (try with_reducible rfl)
      (try simp only [Act.put, List.getElem_toArray, List.getElem_cons_zero, List.getElem_cons_succ, List.setIfInBounds_toArray, List.set_cons_zero, List.set_cons_succ])
      refine wpAnyT_take (i := 7) (v := ?_) rfl (by kernel_rfl) (by kernel_rfl) (by kernel_rfl) (fun _ _ _ h => h) (Or.inl ⟨by kernel_rfl, ?_⟩) (by assumption) ?_
      rotate_left
      · intro w hSw; (try dsimp only at hSw); go_simp; (try with_reducible rfl)
      (try simp only [Act.put, List.getElem_toArray, List.getElem_cons_zero, List.getElem_cons_succ, List.setIfInBounds_toArray, List.set_cons_zero, List.set_cons_succ])
      refine wpAnyT_take (i := 8) (v := ?_) rfl (by kernel_rfl) (by kernel_rfl) (by kernel_rfl) (fun _ _ _ h => h) (Or.inl ⟨by kernel_rfl, ?_⟩) (by assumption) ?_
      rotate_left
      · intro w hSw; (try dsimp only at hSw); go_simp; (try with_reducible rfl)
      (try simp only [Act.put, List.getElem_toArray, List.getElem_cons_zero, List.getElem_cons_succ, List.setIfInBounds_toArray, List.set_cons_zero, List.set_cons_succ])
      refine wpAnyT_take (i := 9) (v := ?_) rfl (by kernel_rfl) (by kernel_rfl) (by kernel_rfl) (fun _ _ _ h => h) (Or.inl ⟨by kernel_rfl, ?_⟩) (by assumption) ?_
      rotate_left
      · intro w hSw; (try dsimp only at hSw); go_simp; (try with_reducible rfl)
      (try simp only [Act.put, List.getElem_toArray, List.getElem_cons_zero, List.getElem_cons_succ, List.setIfInBounds_toArray, List.set_cons_zero, List.set_cons_succ])
      refine wpAnyT_take (i := 10) (v := ?_) rfl (by kernel_rfl) (by kernel_rfl) (by kernel_rfl) (fun _ _ _ h => h) (Or.inl ⟨by kernel_rfl, ?_⟩) (by assumption) ?_
      rotate_left
      · intro w hSw; (try dsimp only at hSw); go_simp; (try with_reducible rfl)
      (try simp only [Act.put, List.getElem_toArray, List.getElem_cons_zero, List.getElem_cons_succ, List.setIfInBounds_toArray, List.set_cons_zero, List.set_cons_succ])
      refine wpAnyT_take (i := 11) (v := ?_) rfl (by kernel_rfl) (by kernel_rfl) (by kernel_rfl) (fun _ _ _ h => h) (Or.inl ⟨by kernel_rfl, ?_⟩) (by assumption) ?_
      rotate_left
      · intro w hSw; (try dsimp only at hSw); go_simp; (try with_reducible rfl)
      (try simp only [Act.put, List.getElem_toArray, List.getElem_cons_zero, List.getElem_cons_succ, List.setIfInBounds_toArray, List.set_cons_zero, List.set_cons_succ])
      refine wpAnyT_take (i := 12) (v := ?_) rfl (by kernel_rfl) (by kernel_rfl) (by kernel_rfl) (fun _ _ _ h => h) (Or.inl ⟨by kernel_rfl, ?_⟩) (by assumption) ?_
      rotate_left
      · intro w hSw; (try dsimp only at hSw); go_simp; (try with_reducible rfl)
      (try simp only [Act.put, List.getElem_toArray, List.getElem_cons_zero, List.getElem_cons_succ, List.setIfInBounds_toArray, List.set_cons_zero, List.set_cons_succ])
      refine wpAnyT_ready (rs := [13]) (by kernel_rfl) (by simp) ?_
      refine AllReadyT.cons rfl (fun K hK => ?_) AllReadyT.nil
      go_simp
      refine hK.out _ _ ⟨((Kept.refl W7).drew.alloc _).cell gg7, ((Kept.refl W7).drew.alloc _).cell x70, ((Kept.refl W7).drew.alloc _).cell x71, ((Kept.refl W7).drew.alloc _).cell kk7⟩ (fun hHeld1 => ?_)
      clear hK K
      (try simp only [Act.put, List.getElem_toArray, List.getElem_cons_zero, List.getElem_cons_succ, List.setIfInBounds_toArray, List.set_cons_zero, List.set_cons_succ])
      have HSR := Lib.hid (src_row (w := W7.drew.alloc (.cells #[.slice ad m ck, .int .i64 ((a : Int) + 1)] 128)) (g := W7.heap.size) (r := (.slice ad m ck, x.kids, a + 1)) rfl (Blk.at (by simp)))
      have HRW := Lib.hid (owns_kept HM7.out.own ((Kept.refl W7).drew.alloc (.cells #[.slice ad m ck, .int .i64 ((a : Int) + 1)] 128)))
      have HZ := Lib.hid HM7.out.only.size
      refine wpAnyT_ready (rs := [14]) (by kernel_rfl) (by simp) ?_
      refine AllReadyT.cons rfl (fun K hK => ?_) AllReadyT.nil
      refine step_apk rfl (.tmp 63) (.tmp 72) 129 129 rfl n₁ 2 128 i0 _ 32 Tryz.underlying129 hi hz0 hzz1 hzz2 rfl rfl HRW.out rfl HSR.out (by unfold maxLen; omega) (by omega) (by have := HZ.out; simp; omega) ?_
      intro v' w5 hown' hgrow hnl hlies
      obtain ⟨q0, q1, q2, q3, hm5⟩ := HM7.out.app HX.out hown' hgrow hlies
      have HOW := Lib.hid hown'
      obtain ⟨va, vc, rfl⟩ := slice_of_owns hown'
      have hkid : w5.cell? ⟨b, o + 5, none⟩ = some (.slice ad m ck) := HX.out _ q3.2
      refine hK.out _ _ ⟨q0, q2.1, q2.2, hkid⟩ (fun hHeld2 => ?_)
      clear hK K
      (try simp only [Act.put, List.getElem_toArray, List.getElem_cons_zero, List.getElem_cons_succ, List.setIfInBounds_toArray, List.set_cons_zero, List.set_cons_succ])
      clear hown' hgrow hnl hlies HSR HRW HZ hHeld0 hHeld1
      refine wpAnyT_take (i := 15) (v := ?_) rfl (by kernel_rfl) (by kernel_rfl) (by kernel_rfl) (fun _ _ _ h => h) (Or.inl ⟨by kernel_rfl, ?_⟩) (by assumption) ?_
      rotate_left
      · intro w hSw; (try dsimp only at hSw); go_simp; (try with_reducible rfl)
      (try simp only [Act.put, List.getElem_toArray, List.getElem_cons_zero, List.getElem_cons_succ, List.setIfInBounds_toArray, List.set_cons_zero, List.set_cons_succ])
      refine wpAnyT_take (i := 16) (v := ?_) rfl (by kernel_rfl) (by kernel_rfl) (by kernel_rfl) (fun _ _ _ h => h) (Or.inl ⟨by kernel_rfl, ?_⟩) (by assumption) ?_
      rotate_left
      · intro w hSw; (try dsimp only at hSw); go_simp; (try with_reducible rfl)
      (try simp only [Act.put, List.getElem_toArray, List.getElem_cons_zero, List.getElem_cons_succ, List.setIfInBounds_toArray, List.set_cons_zero, List.set_cons_succ])
      clear hHeld2
      refine wpAnyT_ready (rs := [17]) (by kernel_rfl) (by simp) ?_
      refine AllReadyT.fin rfl (fun K hK => ?_)
      go_simp
      refine hK.out _ _ ?_
      clear hK K
      (try simp only [Act.put, List.getElem_toArray, List.getElem_cons_zero, List.getElem_cons_succ, List.setIfInBounds_toArray, List.set_cons_zero, List.set_cons_succ])
      refine wpAnyT_done (by kernel_rfl) ?_ _
      obtain ⟨W7, hW7⟩ : ∃ W7, w5.setCell ⟨g, 0, none⟩ (.slice va ((k + 1) + 1) vc) = W7 := ⟨_, rfl⟩
      rw [hW7] at hm5 ⊢
      have HM7 := Lib.hid hm5
      clear hW7 hkid q0 q1 q2 q3
      clear gg7 x70 x71 kk7
      go_wp2_with fail
      refine wp_region_held_drew (S := (fun W => W.cell? ⟨w.heap.size, 1, none⟩ = some (.int .i64 (a : Int)))) (by kernel_rfl) ((HM7.out.box.drew).cell 1) (fun hHeld0 => ?_)
      refine wpAnyH_take (i := 0) (v := ?_) rfl (by kernel_rfl) (by kernel_rfl) (by kernel_rfl) (fun _ _ _ h => h) (Or.inl ⟨by kernel_rfl, ?_⟩) (by assumption) ?_
      rotate_left
      · intro w hSw; (try dsimp only at hSw); go_simp; (try with_reducible rfl)
      (try simp only [Act.put, List.getElem_toArray, List.getElem_cons_zero, List.getElem_cons_succ, List.setIfInBounds_toArray, List.set_cons_zero, List.set_cons_succ])
      refine wpAnyH_take (i := 1) (v := ?_) rfl (by kernel_rfl) (by kernel_rfl) (by kernel_rfl) (fun _ _ _ h => h) (Or.inl ⟨by kernel_rfl, ?_⟩) (by assumption) ?_
      rotate_left
      · intro w hSw; (try dsimp only at hSw); go_simp; (try with_reducible rfl)
      (try simp only [Act.put, List.getElem_toArray, List.getElem_cons_zero, List.getElem_cons_succ, List.setIfInBounds_toArray, List.set_cons_zero, List.set_cons_succ])
      refine wpAnyH_take (i := 2) (v := ?_) rfl (by kernel_rfl) (by kernel_rfl) (by kernel_rfl) (fun _ _ _ h => h) (Or.inl ⟨by kernel_rfl, ?_⟩) (by assumption) ?_
      rotate_left
      · intro w hSw; (try dsimp only at hSw); go_simp; (try with_reducible rfl)
      (try simp only [Act.put, List.getElem_toArray, List.getElem_cons_zero, List.getElem_cons_succ, List.setIfInBounds_toArray, List.set_cons_zero, List.set_cons_succ])
      refine wpAnyH_take (i := 3) (v := ?_) rfl (by kernel_rfl) (by kernel_rfl) (by kernel_rfl) (fun _ _ _ h => h) (Or.inl ⟨by kernel_rfl, ?_⟩) (by assumption) ?_
      rotate_left
      · intro w hSw; (try dsimp only at hSw); go_simp; (try with_reducible rfl)
      (try simp only [Act.put, List.getElem_toArray, List.getElem_cons_zero, List.getElem_cons_succ, List.setIfInBounds_toArray, List.set_cons_zero, List.set_cons_succ])
      refine wpAnyH_take (i := 4) (v := ?_) rfl (by kernel_rfl) (by kernel_rfl) (by kernel_rfl) (fun _ _ _ h => h) (Or.inl ⟨by kernel_rfl, ?_⟩) (by assumption) ?_
      rotate_left
      · intro w hSw; (try dsimp only at hSw); go_simp; (try with_reducible rfl)
      (try simp only [Act.put, List.getElem_toArray, List.getElem_cons_zero, List.getElem_cons_succ, List.setIfInBounds_toArray, List.set_cons_zero, List.set_cons_succ])
      refine wpAnyH_done (by kernel_rfl) ?_ _
      go_wp2_with fail
      go_ret2
      refine ⟨rfl, .slice va ((k + 1) + 1) vc, ⟨HM7.out.blk.drew, ?_⟩, HM7.out.only.drew, HM7.out.lies⟩
      have hh := HM7.out.own.drew
      rw [HMO.out, List.flatMap_append]
      first | (simpa [HK.out, Nat.add_assoc] using hh) | (rw [List.length_append, HK.out]; simpa [List.append_assoc] using hh)

end Go.Proofs.YtfkmnpgpfmkjaaaGreatDoor
namespace Go.Proofs.YtfkmnpgpfmkjaaaGreatDoor
open Go.RowKit

/-- An iterator's contract: J s W O: behind the things s, in the world W, where the blocks O are the body's. -/
def SeqOwnO {α : Type} (F : Fence) (n : Nat) (P : Program) (g : Nat) (lb : Array Value) (encs : α → Array Value) (S Sp : List α → Prop) (G : List α → World → (Nat → Prop) → Prop) (b0 : Nat) (W : World) : Prop :=
  ∀ (l : Nat) (J : List α → World → (Nat → Prop) → Prop) (Jx : List α → World → Prop) (O0 : Nat → Prop), l + 1 = W.heap.size → (∀ k, O0 k → b0 ≤ k ∧ k < l) →
    (∀ s A B O, J s A O → Only (fun k => W.heap.size ≤ k ∧ ¬ O k) A B → J s B O) → (∀ s A B, Jx s A → Kept A B → Jx s B) →
    (∀ pre x W1 O, J pre W1 O → G (pre ++ [x]) W1 O → W.heap.size ≤ W1.heap.size → (∀ k, O k → k < W1.heap.size ∧ k ≠ l) → YieldAt F (n - 1) P l (encs x) W1 fun e W' =>
      (e = .returned (.bool true) ∧ ∃ O', J (pre ++ [x]) W' O' ∧ Only (fun k => O k ∨ k = l) W1 W' ∧ (∀ k, O' k → O k ∨ (W1.heap.size ≤ k ∧ k < W'.heap.size))) ∨ (e = .returned (.bool false) ∧ Jx (pre ++ [x]) W')) →
    J [] W O0 →
    CallsIn F n P g (#[.func (.yield l) #[] #[]] ++ lb) W fun e W' => (∃ v, e = .returned v) ∧ ((∃ xs O, S xs ∧ J xs W' O) ∨ (∃ pre, Sp pre ∧ Jx pre W'))

/-- How a round's body may be left; n₀: the heap's size where the round began. -/
def ownPostO {α : Type} (O : Nat → Prop) (n₀ : Nat) (I : List α → World → (Nat → Prop) → Prop) (Ix : Code → List α → World → Prop) (xs : List α) (W : World) : Exit → Act → World → Prop
  | .normal, _, W' => Only (fun k => O k ∨ n₀ ≤ k) W W' ∧ ∃ O', (∀ k, O' k → O k ∨ (n₀ ≤ k ∧ k < W'.heap.size)) ∧ I xs W' O'
  | .ret, _, W' => Only (fun k => O k ∨ n₀ ≤ k) W W' ∧ Ix .ret xs W'
  | .exit id, _, W' => Only (fun k => O k ∨ n₀ ≤ k) W W' ∧ Ix (.exit id) xs W'
  | .goto t, _, W' => Only (fun k => O k ∨ n₀ ≤ k) W W' ∧ Ix (.goto t) xs W'
  | .panic _, _, _ => False
  | .outgrown, _, _ => False

theorem Only.viaO {O : Nat → Prop} {W0 W Wb W3 W4 : World} {l : Nat} (hk : Kept W0 W) (hb : Only (· = l) W Wb) (ho : Only (fun k => O k ∨ W0.heap.size ≤ k) Wb W3) (h4 : Only (· = l) W3 W4) :
    Only (fun k => O k ∨ k = l) W0 W4 := by
  refine ⟨h4.os.trans (ho.os.trans (hb.os.trans hk.os)), h4.output.trans (ho.output.trans (hb.output.trans hk.output)), Nat.le_trans hk.size (Nat.le_trans hb.size (Nat.le_trans ho.size h4.size)), fun k h hs => ?_⟩
  have hkl : ¬ k = l := fun e => hs (.inr e)
  have e1 := hk.block k h
  have e2 := (hb.block k (Nat.lt_of_lt_of_le h hk.size) hkl).trans e1
  have e3 := ho.block k (Nat.lt_of_lt_of_le h (Nat.le_trans hk.size hb.size)) (fun u => u.elim (fun u => hs (.inl u)) (fun u => by omega))
  exact (h4.block k (Nat.lt_of_lt_of_le h (Nat.le_trans hk.size (Nat.le_trans hb.size ho.size))) hkl).trans (e3.trans e2)

section
variable {F : Fence} {n : Nat} {P : Program}
theorem wpIn_rangeFunc_ownO {α : Type} {g : Operand} {ps : Array Tmp} {assign body : Code} {Q : Exit → Act → World → Prop} {a : Act} {w : World}
    (hro : F.round = none) (h1 : 1 ≤ n) {gf : Nat} {lb : Array Value} (hg : a.eval g = .func (.func gf) #[] lb) (hFg : F.fn gf) (eg : ∀ args w, (callFunc gf args).run P w = .ok (.enter gf args) w)
    {encs : α → Array Value} {S Sp : List α → Prop} {G : List α → World → (Nat → Prop) → Prop} {b0 : Nat} (O0 : Nat → Prop) (hO0 : ∀ k, O0 k → b0 ≤ k ∧ k < w.heap.size)
    (hseq : ∀ W1, Kept w W1 → W1.heap.size = w.heap.size + 2 → SeqOwnO F (n - 1) P gf lb encs S Sp G b0 W1)
    (hG : ∀ s A B O, G s A O → Only (fun k => w.heap.size ≤ k ∧ k < w.heap.size + 2) A B → G s B O) (hps : ∀ x, (encs x).size = ps.size)
    (I : List α → World → (Nat → Prop) → Prop) (Ix : Code → List α → World → Prop)
    (hI : ∀ s A B O, I s A O → Only (fun k => w.heap.size ≤ k ∧ ¬ O k) A B → I s B O)
    (hIx : ∀ c s A B, Ix c s A → Only (fun k => w.heap.size ≤ k ∧ k < w.heap.size + 2) A B → Ix c s B)
    (h0 : I [] w O0) (a₁ : α → World → Act) (wa : α → World → World) (hwa : ∀ x W, Kept W (wa x W))
    (hassign : ∀ (l : Nat) (x : α) (W : World) (K : Act → World → Prop), K (a₁ x W) (wa x W) →
      assign.wpIn (F.inRound l) (n - 1 - 1) P (Exit.then K (fun _ _ _ => False)) { tmps := (ps.zip (encs x)).foldl (fun t (p, v) => t.setIfInBounds p v) a.tmps, defers := [] } W)
    (hbody : ∀ (l : Nat) (pre : List α) (x : α) (W0 W : World) (O : Nat → Prop), l = w.heap.size + 1 → l < W0.heap.size → Only (· = l) (wa x W0) W → (∀ k, O k → k < W0.heap.size ∧ ¬ (w.heap.size ≤ k ∧ k < w.heap.size + 2)) → I pre W O → G (pre ++ [x]) W O → w.heap.size + 2 ≤ W.heap.size →
      body.wpIn (F.inRound l) (n - 1 - 1) P (ownPostO O W0.heap.size I Ix (pre ++ [x]) W) (a₁ x W0) W)
    (hdone : ∀ (D : Nat) (xs : List α) (W : World) (O : Nat → Prop), D = w.heap.size → S xs → I xs W O → W.heap[D]? = some (.deferred (some [])) → Q .normal { a with defers := { target := .collected D, args := #[] } :: a.defers } W)
    (hstop : ∀ (D : Nat) (c : Code) (pre : List α) (W : World), D = w.heap.size → Sp pre → Ix c pre W → W.heap[D]? = some (.deferred (some [])) → c.wpIn F n P Q { a with defers := { target := .collected D, args := #[] } :: a.defers } W) :
    (Code.rangeFunc g ps assign body).wpIn F n P Q a w := by
  refine wpIn_rangeFunc fun fn hfn => ?_
  rw [hro]
  obtain ⟨rc, hrc⟩ : ∃ rc : LoopState → Option Code → Loop, ∀ st pe, rc st pe = { state := st, pending := pe, fn, tmps := a.tmps, params := ps, assign, body, defers := w.heap.size } := ⟨fun st pe => _, fun _ _ => rfl⟩
  obtain ⟨W1, hW1⟩ : ∃ W1, (w.alloc (.deferred (some []))).alloc (.loop (rc .ready none)) = W1 := ⟨_, rfl⟩
  have hk1 : Kept w W1 := by rw [← hW1]; exact ((Kept.refl w).alloc _).alloc _
  have hs1 : W1.heap.size = w.heap.size + 2 := by rw [← hW1]; simp
  have hL1 : W1.heap[w.heap.size + 1]? = some (.loop (rc .ready none)) := by
    rw [← hW1]; have := heap_alloc_new (w.alloc (.deferred (some []))) (.loop (rc .ready none)); rwa [World.size_alloc] at this
  have hD1 : W1.heap[w.heap.size]? = some (.deferred (some [])) := by
    rw [← hW1]; exact (Below.heap_alloc _ _ _ (by simp)).trans (heap_alloc_new w _)
  refine ⟨w.heap.size + 1, [{ target := .collected w.heap.size, args := #[] }], W1, { target := .fn (.func gf) lb, args := #[.func (.yield (w.heap.size + 1)) #[] #[]] }, W1, gf,
    #[.func (.yield (w.heap.size + 1)) #[] #[]] ++ lb, W1, by rw [← hW1, hrc]; exact run_enterLoop_outer _ _ _ _ _, ?_, ?_, ?_, fun _ => h1, ?_⟩
  · simp only [resolve, hg]
    simp [go_sem]
  · intro f' hf'; simp [Target.leads] at hf'; subst hf'; exact hFg
  · simp [invoke, go_sem, eg]
  · refine (hseq W1 hk1 hs1 (w.heap.size + 1)
      (fun pre W O => I pre W O ∧ (∀ k, O k → ¬ (w.heap.size ≤ k ∧ k < w.heap.size + 2)) ∧ W.heap[w.heap.size + 1]? = some (.loop (rc .ready none)) ∧ W.heap[w.heap.size]? = some (.deferred (some [])))
      (fun pre W => ∃ c, Ix c pre W ∧ W.heap[w.heap.size + 1]? = some (.loop (rc .done (some c))) ∧ W.heap[w.heap.size]? = some (.deferred (some [])))
      O0 (by omega) (fun k hk => ⟨(hO0 k hk).1, by have := (hO0 k hk).2; omega⟩) ?abJ ?abJx ?round ⟨hI _ _ _ _ h0 (Only.of_kept hk1), fun k hk => by have := (hO0 k hk).2; omega, hL1, hD1⟩).mono ?behind
    case abJ =>
      rintro s A B O ⟨hi, hn, hl, hd⟩ ho
      exact ⟨hI _ _ _ _ hi (ho.mono fun k _ h => ⟨by have := h.1; omega, h.2⟩), hn, (ho.block _ (Array.getElem?_eq_some_iff.1 hl).1 (fun h => by have := h.1; omega)).trans hl, (ho.block _ (Array.getElem?_eq_some_iff.1 hd).1 (fun h => by have := h.1; omega)).trans hd⟩
    case abJx =>
      rintro s A B ⟨c, hi, hl, hd⟩ ho
      exact ⟨c, hIx _ _ _ _ hi (Only.of_kept ho), (ho.block _ (Array.getElem?_eq_some_iff.1 hl).1).trans hl, (ho.block _ (Array.getElem?_eq_some_iff.1 hd).1).trans hd⟩
    case round =>
      rintro pre x W0 O ⟨hi0, hn0, hl0, hd0⟩ hlen hsz hOl
      have hlt0 : w.heap.size + 1 < W0.heap.size := (Array.getElem?_eq_some_iff.1 hl0).1
      have hy := run_yield (P := P) (args := encs x) hl0 (by rw [hrc]; exact hps x)
      rw [hrc] at hy
      obtain ⟨W, hW⟩ : ∃ W, W = wa x W0 := ⟨_, rfl⟩
      have hkW : Kept W0 W := by rw [hW]; exact hwa x W0
      have hl : W.heap[w.heap.size + 1]? = some (.loop (rc .ready none)) := (hkW.block _ hlt0).trans hl0
      have hd : W.heap[w.heap.size]? = some (.deferred (some [])) := (hkW.block _ (by omega)).trans hd0
      have hi : I pre W O := hI _ _ _ _ hi0 (Only.of_kept hkW)
      have hlt : w.heap.size + 1 < W.heap.size := (Array.getElem?_eq_some_iff.1 hl).1
      have hszW := hkW.size
      have hOn : ∀ k, O k → k < W0.heap.size ∧ ¬ (w.heap.size ≤ k ∧ k < w.heap.size + 2) := fun k hk => ⟨(hOl k hk).1, hn0 k hk⟩
      have loopI : ∀ (s : List α) (A : World) (O : Nat → Prop) (o : Obj), (∀ k, O k → ¬ (w.heap.size ≤ k ∧ k < w.heap.size + 2)) → I s A O → I s (A.putObj (w.heap.size + 1) o) O := fun s A O o hn h =>
        hI _ _ _ _ h ((Only.refl _ _).putObj (.inl ⟨by omega, fun h => hn _ h (by omega)⟩) _)
      have loopG : ∀ (s : List α) (A : World) (O : Nat → Prop) (o : Obj), G s A O → G s (A.putObj (w.heap.size + 1) o) O := fun s A O o h => hG _ _ _ _ h ((Only.refl _ _).putObj (.inl ⟨by omega, by omega⟩) _)
      refine ⟨fn, _, assign, body, hy, roundIn_of_wpIn hfn (hassign _ x W0 _ ⟨_, by rw [← hW]; exact run_beginRound hl (by rw [hrc]), ?_⟩)⟩
      have hl2 : (W.putObj (w.heap.size + 1) (.loop { rc .ready none with state := .busy })).heap[w.heap.size + 1]? = some (.loop { rc .ready none with state := .busy }) := World.putObj_heap_same hlt
      have hd2 : (W.putObj (w.heap.size + 1) (.loop { rc .ready none with state := .busy })).heap[w.heap.size]? = some (.deferred (some [])) := (World.putObj_heap_other (by omega)).trans hd
      have hob : Only (· = w.heap.size + 1) (wa x W0) (W.putObj (w.heap.size + 1) (.loop { rc .ready none with state := .busy })) := by rw [← hW]; exact (Only.refl (· = w.heap.size + 1) W).putObj (.inl rfl) _
      refine wpIn_mono (hbody _ pre x W0 _ O rfl hlt0 hob hOn (loopI _ _ _ _ hn0 hi) (loopG _ _ _ _ (hG _ _ _ _ hlen (Only.of_kept hkW))) (by simp [World.putObj]; omega)) ?_
      have ends : ∀ (jump : Option Code) (W3 : World), Only (fun k => O k ∨ W0.heap.size ≤ k) (W.putObj (w.heap.size + 1) (.loop { rc .ready none with state := .busy })) W3 →
          (Instr.endRound (w.heap.size + 1) jump).run P W3 = .ok (.bool jump.isNone) (W3.putObj (w.heap.size + 1) (.loop (rc (if jump.isNone then .ready else .done) jump))) ∧
          (W3.putObj (w.heap.size + 1) (.loop (rc (if jump.isNone then .ready else .done) jump))).heap[w.heap.size + 1]? = some (.loop (rc (if jump.isNone then .ready else .done) jump)) ∧
          (W3.putObj (w.heap.size + 1) (.loop (rc (if jump.isNone then .ready else .done) jump))).heap[w.heap.size]? = some (.deferred (some [])) ∧
          Only (fun k => O k ∨ k = w.heap.size + 1) W0 (W3.putObj (w.heap.size + 1) (.loop (rc (if jump.isNone then .ready else .done) jump))) := fun jump W3 ho => by
        have hl3 := ho.same hl2 (fun h => h.elim (fun h => hn0 _ h (by omega)) (fun h => by omega))
        have hd3 := ho.same hd2 (fun h => h.elim (fun h => hn0 _ h (by omega)) (fun h => by omega))
        have hr := run_endRound (P := P) jump hl3
        refine ⟨?_, World.putObj_heap_same (Array.getElem?_eq_some_iff.1 hl3).1, (World.putObj_heap_other (by omega)).trans hd3, ?_⟩
        · rw [hrc] at hr ⊢; exact hr
        · exact Only.viaO hkW ((Only.refl (· = w.heap.size + 1) W).putObj (.inl rfl) _) ho ((Only.refl (· = w.heap.size + 1) W3).putObj (.inl rfl) _)
      rintro e a3 W3 hp
      cases e with
      | normal =>
        obtain ⟨hr, hl4, hd4, ho4⟩ := ends none W3 hp.1
        obtain ⟨O', hO', hi'⟩ := hp.2
        have hn' : ∀ k, O' k → ¬ (w.heap.size ≤ k ∧ k < w.heap.size + 2) := fun k hk => (hO' k hk).elim (hn0 k) (fun h => by omega)
        exact ⟨_, _, hr, .inl ⟨rfl, O', ⟨loopI _ _ _ _ hn' hi', hn', hl4, hd4⟩, ho4, fun k hk => (hO' k hk).imp id (fun h => ⟨h.1, by simp [World.putObj]; exact h.2⟩)⟩⟩
      | ret =>
        obtain ⟨hr, hl4, hd4, ho4⟩ := ends (some .ret) W3 hp.1
        exact ⟨_, _, hr, .inr ⟨rfl, .ret, hIx _ _ _ _ hp.2 ((Only.refl _ _).putObj (.inl ⟨by omega, by omega⟩) _), hl4, hd4⟩⟩
      | exit id =>
        obtain ⟨hr, hl4, hd4, ho4⟩ := ends (some (.exit id)) W3 hp.1
        exact ⟨_, _, hr, .inr ⟨rfl, .exit id, hIx _ _ _ _ hp.2 ((Only.refl _ _).putObj (.inl ⟨by omega, by omega⟩) _), hl4, hd4⟩⟩
      | goto t =>
        obtain ⟨hr, hl4, hd4, ho4⟩ := ends (some (.goto t)) W3 hp.1
        exact ⟨_, _, hr, .inr ⟨rfl, .goto t, hIx _ _ _ _ hp.2 ((Only.refl _ _).putObj (.inl ⟨by omega, by omega⟩) _), hl4, hd4⟩⟩
      | panic ch => exact hp.elim
      | outgrown => exact hp.elim
    case behind =>
      rintro e W2 ⟨⟨v, rfl⟩, (⟨xs, O, hS, hi, hn, hl, hd⟩ | ⟨pre, hSp, c, hi, hl, hd⟩)⟩
      · refine ⟨none, _, by have := run_endLoop (P := P) hl (by rw [hrc]; simp); rw [hrc] at this; exact this, hdone _ xs _ O rfl hS (hI _ _ _ _ hi ((Only.refl _ _).putObj (.inl ⟨by omega, fun h => hn _ h (by omega)⟩) _)) ((World.putObj_heap_other (by omega)).trans hd)⟩
      · refine ⟨some c, _, by have := run_endLoop (P := P) hl (by rw [hrc]; simp); rw [hrc] at this; exact this, hstop _ c pre _ rfl hSp (hIx _ _ _ _ hi ((Only.refl _ _).putObj (.inl ⟨by omega, by omega⟩) _)) ((World.putObj_heap_other (by omega)).trans hd)⟩
end

end Go.Proofs.YtfkmnpgpfmkjaaaGreatDoor
namespace Go.Proofs.YtfkmnpgpfmkjaaaGreatDoor
open Go.ChangeShapes Go.WideShapes Go.ChangeAt Go.RowKit
attribute [local go_sem] Oper.semAt_some

/-- What a range gets in a round: a place, how many nodes are above, where the node lies, the node. -/
abbrev ItN := (Nat × Nat) × (Nat × Nat) × Nd
abbrev encN : ItN → Array Value := fun i => #[.agg #[.int .i64 i.1.1, .int .i64 i.1.2], .pointer (some ⟨i.2.1.1, i.2.1.2, none⟩)]
def plN (i : ItN) : Nat × Nd := (i.1.2, i.2.2)
/-- The first ones of a tree's nodes, at their places. -/
def itOk (x : Nd) (pre : List ItN) : Prop := pre.map plN <+: x.all 0 ∧ ∀ (i : Nat) (it : ItN), pre[i]? = some it → it.1.1 = i
def itAll (x : Nd) (pre : List ItN) : Prop := pre.map plN = x.all 0 ∧ ∀ (i : Nat) (it : ItN), pre[i]? = some it → it.1.1 = i
/-- The node at hand lies where the body does not write. -/
def itG (x : Nd) (d : Nat) (pre : List ItN) (W : World) (O : Nat → Prop) : Prop :=
  itOk x pre ∧ ∀ p it, pre = p ++ [it] → ∃ D : Nat → Prop, NdD D W it.2.1.1 it.2.1.2 it.2.2 ∧ (∀ k, O k → ¬ D k) ∧ (∀ k, D k → ¬ (d ≤ k ∧ k < d + 2))
theorem itG.stay {x : Nd} {d : Nat} {pre : List ItN} {A B : World} {O : Nat → Prop} (h : itG x d pre A O) (k : Only (fun k => d ≤ k ∧ k < d + 2) A B) : itG x d pre B O :=
  ⟨h.1, fun p it e => by obtain ⟨D, h1, h2, h3⟩ := h.2 p it e; exact ⟨D, h1.only k h3, h2, h3⟩⟩

/-- What rows that lie ahead come to. -/
def restR (rs : List Rw) : List (Nat × Nd) := rs.reverse.flatMap fun r => Nd.allL r.2.1 r.2.2
theorem restR_snoc (rs : List Rw) (r : Rw) : restR (rs ++ [r]) = Nd.allL r.2.1 r.2.2 ++ restR rs := by unfold restR; simp
theorem restR_app (rs ts : List Rw) : restR (rs ++ ts) = restR ts ++ restR rs := by unfold restR; simp [List.flatMap_append]
theorem restR_more (rs : List Rw) (b o c : Nat) (x : Nd) (r : List Nd) (a : Nat) (ad : Option Addr) (ck : Nat) (s : Value) :
    restR (rs ++ [(s, x :: r, a)]) = (a, x) :: restR (rs ++ moreR b o c x r a ad ck) := by
  rw [restR_snoc, restR_app, Nd.allL_cons, Nd.all_eq]
  unfold moreR restR
  by_cases h1 : r = [] <;> by_cases h2 : x.kids = [] <;> simp [h1, h2, Nd.allL_nil]
theorem allL_ne {l : List Nd} (h : l ≠ []) (a : Nat) : 0 < (Nd.allL l a).length := by
  cases l with
  | nil => exact absurd rfl h
  | cons x r => rw [Nd.allL_cons, Nd.all_eq]; simp
theorem restR_len : ∀ (rs : List Rw), (∀ r ∈ rs, r.2.1 ≠ []) → rs.length ≤ (restR rs).length := by
  intro rs h
  induction rs with
  | nil => simp
  | cons r t ih =>
    have e : restR (r :: t) = restR t ++ Nd.allL r.2.1 r.2.2 := by
      have := restR_app [r] t
      rw [show restR [r] = Nd.allL r.2.1 r.2.2 by unfold restR; simp] at this
      exact this
    rw [e, List.length_append, List.length_cons]
    have h1 := ih fun q hq => h q (List.mem_cons_of_mem _ hq)
    have h2 := allL_ne (h r (by simp)) r.2.2
    omega

theorem nodes_c (x : Nd) (ad : Option Addr) (ck : Nat) (w : World) :
    Calls Tryz.prog 33 #[ndV x (.slice ad x.kids.length ck)] w fun e w' => e = .returned (.func (.func 49) #[] #[.pointer (some ⟨w.heap.size, 0, none⟩)]) ∧ w' = w.alloc (.cells (ndC x (.slice ad x.kids.length ck)).toArray 25) := by
  go_enter Tryz.func33, Tryz.ntmps33
  go_wp2_with fail
  go_ret
  exact ⟨rfl, rfl⟩

/-- A way's rows in memory: none is empty; where they lie; how many nodes are above them. -/
def RowsOk (D : Nat → Prop) (w : World) (m : Nat) (rs : List Rw) : Prop := ∀ r ∈ rs, r.2.1 ≠ [] ∧ KidsD D w r.1 r.2.1 ∧ r.2.2 ≤ m
theorem RowsOk.only {D : Nat → Prop} {S : Nat → Prop} {w w' : World} {m : Nat} {rs : List Rw} (h : RowsOk D w m rs) (k : Only S w w') (hs : ∀ k, D k → ¬ S k) : RowsOk D w' m rs := fun r hr => ⟨(h r hr).1, (h r hr).2.1.only k hs, (h r hr).2.2⟩
theorem RowsOk.more {D : Nat → Prop} {w : World} {m b o c a : Nat} {rs : List Rw} {x : Nd} {r : List Nd} {ad : Option Addr} {ck : Nat} (h : RowsOk D w m rs) (h1 : KidsD D w (.slice (some ⟨b, o + 6, none⟩) r.length (c - 1)) r) (h2 : KidsD D w (.slice ad x.kids.length ck) x.kids) (ha : a ≤ m) :
    RowsOk D w (m + 1) (rs ++ moreR b o c x r a ad ck) := by
  intro q hq
  rcases List.mem_append.1 hq with hq | hq
  · exact ⟨(h q hq).1, (h q hq).2.1, Nat.le_succ_of_le (h q hq).2.2⟩
  · unfold moreR at hq
    rcases List.mem_append.1 hq with hq | hq
    · split at hq
      · cases hq
      · rename_i hne; obtain rfl := List.mem_singleton.1 hq; exact ⟨hne, h1, Nat.le_succ_of_le ha⟩
    · split at hq
      · cases hq
      · rename_i hne; obtain rfl := List.mem_singleton.1 hq; exact ⟨hne, h2, Nat.succ_le_succ ha⟩

set_option maxHeartbeats 8000000 in
theorem nodes1_o (n : Nat) (hn : 1 ≤ n) (x : Nd) (ad : Option Addr) (ck bs b0 d : Nat) (W1 : World) (hb : Blk W1 bs 25 (ndC x (.slice ad x.kids.length ck)).toArray) (hok : x.ok1)
    (hk : KidsD (· < b0) W1 (.slice ad x.kids.length ck) x.kids) (hd : d + 2 = W1.heap.size) (hbd : b0 ≤ d) (hcnt : x.count ≤ 1000000000) :
    SeqOwnO Fence.wide n Tryz.prog 49 #[.pointer (some ⟨bs, 0, none⟩)] encN (itAll x) (itOk x) (itG x d) b0 W1 := by
  intro l J Jx O0 hl hO0 abJ abX hY h0
  have c0 := hb.cell 0
  have c1 := hb.cell 1
  have c2 := hb.cell 2
  have c3 := hb.cell 3
  have c4 := hb.cell 4
  have c5 := hb.cell 5
  simp only [ndC, List.getElem?_toArray, List.getElem?_cons_zero, List.getElem?_cons_succ] at c0 c1 c2 c3 c4 c5
  have HWO := Lib.hid (walkOf_c x ad ck W1)
  have HABJ := Lib.hid abJ
  have HABX := Lib.hid abX
  have HY := Lib.hid hY
  have H0 := Lib.hid h0
  have HK := Lib.hid hk
  have HOK := Lib.hid hok
  have HO0 := Lib.hid hO0
  clear abJ abX hY h0 hk hb hO0
  refine callsIn_of_wp Tryz.func49 rfl trivial ?_ rfl
  simp only [Tryz.ntmps49, List.size_toArray, List.length_cons, List.length_nil, Nat.reduceAdd, Nat.reduceSub, Array.replicate_succ, Array.replicate_zero, List.push_toArray, List.append_toArray, List.nil_append, List.cons_append]
  gi_wp2
  refine ⟨trivial, (callsIn_wide.2 HWO.out).mono ?_⟩
  rintro e w2 ⟨B, g, R, rfl, hB1, hBR, hRg, hgw, hw12, hB, hW, k2⟩
  clear c0 c1 c2 c3 c4 c5 HWO
  have HJ2 := Lib.hid (HABJ.out _ _ _ _ H0.out (Only.of_kept k2))
  have hBn : NdD (fun k => k < b0 ∨ k = B) w2 B 0 x := blk_node HOK.out ((HK.out.kept k2).mono fun _ _ h => .inl h) hB (.inr rfl)
  have HR2 := Lib.hid (show RowsOk (fun k => k < b0 ∨ k = B) w2 0 [(.slice (some ⟨B, 0, none⟩) 1 1, [x], 0)] from fun r hr => by
    obtain rfl := List.mem_singleton.1 hr
    exact ⟨by simp, KidsD.one hBn (Nat.le_refl _) (by decide), Nat.le_refl _⟩)
  have HW2 := Lib.hid hW
  have HA2 := Lib.hid (show x.all 0 = ([] : List ItN).map plN ++ restR [(.slice (some ⟨B, 0, none⟩) 1 1, [x], 0)] by unfold restR; simp [Nd.allL_cons, Nd.allL_nil])
  have hc := Nd.count_all x 0
  have HC := Lib.hid hc
  clear hc hBn hB hW k2 H0
  gi_wp2
  gi_loopg [4] (x.count + 1) (fun q i4 wr => ∃ (pre : List ItN) (rs : List Rw) (v : Value) (O : Nat → Prop), i4 = .int .i64 (pre.length : Int) ∧ Hid (∀ (i : Nat) (it : ItN), pre[i]? = some it → it.1.1 = i) ∧ Hid (x.all 0 = pre.map plN ++ restR rs) ∧ Hid (J pre wr O) ∧ Hid (WalkAt wr R g v rs) ∧
    Hid (RowsOk (fun k => k < b0 ∨ k = B) wr pre.length rs) ∧ Hid (∀ k, O k → b0 ≤ k ∧ k ≠ B ∧ k ≠ g ∧ k < wr.heap.size ∧ k ≠ l) ∧ Hid (∀ k, v.ownBlock = some k → B < k ∧ ¬ O k) ∧ Hid (W1.heap.size ≤ wr.heap.size ∧ g < wr.heap.size ∧ R ≤ wr.heap.size) ∧ Hid (x.count < q + pre.length))
  case atStart =>
    refine ⟨[], _, _, O0, by simp, Lib.hid (fun i it h => by simp at h), HA2, HJ2, HW2, HR2, Lib.hid (fun k hk => ?_), Lib.hid (fun k hk => ?_), Lib.hid ⟨by omega, by omega, by omega⟩, Lib.hid (by simp)⟩
    · have := HO0.out k hk; omega
    · have e : R = k := by simpa [Value.ownBlock] using hk
      subst e
      exact ⟨hBR, fun ho => by have := (HO0.out _ ho).2; omega⟩
  case round =>
    clear HJ2 HW2 HR2 HA2
    obtain ⟨pre, rs, v, O, rfl, HI, HA, HJ, HWK, HRW, HO, HV, HZ, HQ⟩ := hrel
    rcases List.eq_nil_or_concat rs with hrs | ⟨rs0, r, hrs⟩
    · subst hrs
      have HNX := Lib.hid (next_end g R v wr HWK.out)
      gi_wp2
      refine ⟨trivial, (callsIn_wide.2 HNX.out).mono ?_⟩
      rintro e w3 ⟨rfl, rfl⟩
      gi_wp2
      refine ⟨by first | trivial | exact fun _ _ => trivial, ?_⟩
      gi_wp2
      refine bodyPost_ret (results_none rfl _ _ _) rfl ?_
      have hal := HA.out
      rw [show restR [] = [] from rfl, List.append_nil] at hal
      exact ⟨⟨_, rfl⟩, .inl ⟨pre, O, ⟨hal.symm, HI.out⟩, HJ.out⟩⟩
    · rw [List.concat_eq_append] at hrs
      subst hrs
      obtain ⟨hne, hkd, hab⟩ := HRW.out r (by simp)
      obtain ⟨rv, rl, ra⟩ := r
      dsimp only at hne hkd hab
      obtain ⟨y, ys, rfl⟩ : ∃ y ys, rl = y :: ys := by cases rl with
        | nil => exact absurd rfl hne
        | cons y ys => exact ⟨y, ys, rfl⟩
      obtain ⟨ra', rc, rfl, _⟩ := id hkd
      obtain ⟨b, o, rfl, hnl, hnc, hcm, hy, hys⟩ := hkd.head
      obtain ⟨kad, kc, ⟨_, _, _, _, _, hk5⟩, hyok, hyk, hyD⟩ := hy.cells
      have hwS : ∀ k, (k < b0 ∨ k = B) → ¬ walkS g v k := fun k hk hs => by
        rcases hs with e | e
        · omega
        · have := (HV.out k e).1; omega
      have HX := Lib.hid (show PerS (walkS g v) wr (fun W => W.cell? ⟨b, o + 5, none⟩ = some (.slice kad y.kids.length kc)) from fun w' hw' => by
        show w'.cell? _ = _
        rw [World.cell?_of_block (w := wr) (a := ⟨b, o + 5, none⟩) (hw'.block b hy.lt (hwS b hyD))]; exact hk5)
      have hall := HA.out
      have hlen := restR_len (rs0 ++ [(.slice (some ⟨b, o, none⟩) (y :: ys).length rc, y :: ys, ra)]) (fun q hq => (HRW.out q hq).1)
      have hlen2 := congrArg List.length hall
      rw [HC.out, List.length_append, List.length_map] at hlen2
      rw [List.length_append, List.length_singleton] at hlen
      have HNX := Lib.hid (next_c g R v rs0 b o rc ra y ys kad kc wr HWK.out HX.out hnc (by have := HZ.out.2.2; omega) (by omega) (by omega))
      obtain ⟨it, hit⟩ : ∃ it : ItN, it = ((pre.length, ra), (b, o), y) := ⟨_, rfl⟩
      have HIT := Lib.hid (show encN it = #[.agg #[.int .i64 (pre.length : Int), .int .i64 (ra : Int)], .pointer (some ⟨b, o, none⟩)] by rw [hit])
      have HA2 := Lib.hid (show x.all 0 = (pre ++ [it]).map plN ++ restR (rs0 ++ moreR b o rc y ys ra kad kc) by rw [HA.out, restR_more rs0 b o rc y ys ra kad kc, List.map_append, hit]; simp [plN])
      have HI2 := Lib.hid (show ∀ (i : Nat) (q : ItN), (pre ++ [it])[i]? = some q → q.1.1 = i from fun i q hq => by
        rw [List.getElem?_append] at hq
        split at hq
        · exact HI.out i q hq
        · have h0 : i - pre.length = 0 := by
            have := (List.getElem?_eq_some_iff.1 hq).1
            simp at this; omega
          rw [h0] at hq
          simp at hq
          subst hq
          rw [hit]; dsimp only; omega)
      have HY1 := Lib.hid hy
      have HYS := Lib.hid hys
      have HYK := Lib.hid hyk
      have HWS := Lib.hid hwS
      have HAB := Lib.hid hab
      have HL2 := Lib.hid (show pre.length < x.count by
        have : 0 < (restR (rs0 ++ [(.slice (some ⟨b, o, none⟩) (y :: ys).length rc, y :: ys, ra)])).length := by rw [restR_more rs0 b o rc y ys ra kad kc]; simp
        omega)
      have hpl : pre.length ≤ 1000000000 := by have := HL2.out; omega
      have HIT2 := Lib.hid hit
      clear hit hne hkd hab hnl hnc hcm hy hys hyk hk5 hyok hyD hwS hall hlen hlen2 HA
      gi_wp2
      refine ⟨trivial, (callsIn_wide.2 HNX.out).mono ?_⟩
      rintro e w3 ⟨rfl, v', hwk3, ho3, hv3⟩
      have hOS : Only (fun k => W1.heap.size ≤ k ∧ ¬ O k) wr w3 := ho3.mono fun k hk hs => by
        rcases hs with e | e
        · exact ⟨by omega, fun h => (HO.out k h).2.2.1 e⟩
        · have := HV.out k e; exact ⟨by omega, this.2⟩
      have HJ3 := Lib.hid (HABJ.out _ _ _ _ HJ.out hOS)
      have HWK3 := Lib.hid hwk3
      have HRW3 := Lib.hid (RowsOk.more (a := ra) (b := b) (o := o) (c := rc) (x := y) (r := ys) (ad := kad) (ck := kc) ((show RowsOk (fun k => k < b0 ∨ k = B) wr pre.length rs0 from fun q hq => HRW.out q (List.mem_append_left _ hq)).only ho3 HWS.out) (HYS.out.only ho3 HWS.out) (HYK.out.only ho3 HWS.out) HAB.out)
      have HG := Lib.hid (show itG x d (pre ++ [it]) w3 O from ⟨⟨⟨_, HA2.out.symm⟩, HI2.out⟩, fun p q hpq => by
        obtain ⟨_, e⟩ := List.append_inj' hpq rfl
        injection e with e
        subst e
        refine ⟨fun k => k < b0 ∨ k = B, by rw [HIT2.out]; exact HY1.out.only ho3 HWS.out, fun k hk hD => ?_, fun k hD => by omega⟩
        have := HO.out k hk
        omega⟩)
      have hz3 := ho3.size
      have HO3 := Lib.hid (show ∀ k, O k → k < w3.heap.size ∧ k ≠ l from fun k hk => ⟨by have := (HO.out k hk).2.2.2.1; omega, (HO.out k hk).2.2.2.2⟩)
      have HV3 := Lib.hid (show ∀ k, v'.ownBlock = some k → B < k ∧ ¬ O k from fun k hk => by
        rcases hv3 k hk with e | e
        · exact HV.out k e
        · exact ⟨by have := HZ.out; omega, fun h => by have := (HO.out k h).2.2.2.1; omega⟩)
      obtain ⟨fn, tmps, assign, body, hyy, hR⟩ := HY.out pre it w3 O HJ3.out HG.out (by have := HZ.out.1; omega) HO3.out
      rw [HIT.out] at hyy
      clear hwk3 ho3 hv3 hOS HNX HX HJ HWK HRW HJ3
      gi_wp2
      refine hR.mono ?_
      rintro e W6 (⟨rfl, O2, hJ6, ho6, hO2⟩ | ⟨rfl, hJx6⟩)
      · have hg3 : g < w3.heap.size := by have := HZ.out.2.1; omega
        have hz6 := ho6.size
        have hDO : ∀ k, (k < b0 ∨ k = B) → ¬ (O k ∨ k = l) := fun k hk hs => by
          rcases hs with e | e
          · have := HO.out k e; omega
          · omega
        have HW6 := Lib.hid (show WalkAt W6 R g v' (rs0 ++ moreR b o rc y ys ra kad kc) from ⟨HWK3.out.1.only ho6 (fun h => h.elim (fun h => (HO.out g h).2.2.1 rfl) (fun h => by omega)), owns_only HWK3.out.2 ho6 (fun k hk h => h.elim (HV3.out k hk).2 (fun h => by have := (HV3.out k hk).1; omega))⟩)
        have HR6 := Lib.hid (HRW3.out.only ho6 hDO)
        have HJ6 := Lib.hid hJ6
        have HO6 := Lib.hid (show ∀ k, O2 k → b0 ≤ k ∧ k ≠ B ∧ k ≠ g ∧ k < W6.heap.size ∧ k ≠ l from fun k hk => by
          rcases hO2 k hk with e | ⟨e1, e2⟩
          · have := HO.out k e; have := (HO3.out k e).1; exact ⟨by omega, by omega, by omega, by omega, by omega⟩
          · exact ⟨by omega, by omega, by omega, by omega, by omega⟩)
        have hRv := HWK3.out.2
        have HV6 := Lib.hid (show ∀ k, v'.ownBlock = some k → B < k ∧ ¬ O2 k from fun k hk => ⟨(HV3.out k hk).1, fun h => by
          rcases hO2 k h with e | ⟨e1, e2⟩
          · exact (HV3.out k hk).2 e
          · have hlt : k < w3.heap.size := by
              rcases hRv.2 with ⟨rfl, _⟩ | ⟨gg, cap, cur, rfl, _, hh, _⟩
              · simp [Value.ownBlock] at hk
              · have : gg = k := by simpa [Value.ownBlock] using hk
                subst this
                exact (Array.getElem?_eq_some_iff.1 hh).1
            omega⟩)
        obtain ⟨g', rfl⟩ : ∃ g', gk = g' + 1 := ⟨gk - 1, by have := HQ.out; have := HL2.out; omega⟩
        clear hR hyy hJ6 ho6 hO2 hRv hDO HY HG HO3
        gi_wp2
        gi_roundg g'
        case measure => omega
        case rel =>
          refine ⟨pre ++ [it], _, v', O2, ?_, HI2, HA2, HJ6, HW6, ?_, HO6, HV6, Lib.hid ⟨by have := HZ.out; omega, by omega, by have := HZ.out; omega⟩, Lib.hid (by rw [List.length_append]; have := HQ.out; simp; omega)⟩
          · rw [List.length_append]; simp
          · rw [List.length_append]; exact HR6
      · gi_wp2
        refine bodyPost_ret (results_none rfl _ _ _) rfl ?_
        exact ⟨⟨_, rfl⟩, .inr ⟨_, ⟨⟨_, HA2.out.symm⟩, HI2.out⟩, hJx6⟩⟩

end Go.Proofs.YtfkmnpgpfmkjaaaGreatDoor
namespace Go.Proofs.YtfkmnpgpfmkjaaaGreatDoor
open Go.ChangeShapes Go.WideShapes Go.ChangeAt Go.RowKit Go.Shelf
attribute [local go_sem] Oper.semAt_some

/-- The greatest number of nodes below one another, of the first ones. -/
def depN (l : List (Nat × Nd)) : Nat := l.foldl (fun d p => max d (p.1 + 1)) 0
theorem depN_snoc (l : List (Nat × Nd)) (p : Nat × Nd) : depN (l ++ [p]) = max (depN l) (p.1 + 1) := by unfold depN; simp
def Nd.depth (x : Nd) : Nat := depN (x.all 0)
theorem depN_le {l : List (Nat × Nd)} {n : Nat} (h : ∀ p ∈ l, p.1 < n) : depN l ≤ n := by
  suffices H : ∀ (l : List (Nat × Nd)) (d : Nat), d ≤ n → (∀ p ∈ l, p.1 < n) → l.foldl (fun d p => max d (p.1 + 1)) d ≤ n from H l 0 (Nat.zero_le _) h
  intro l
  induction l with
  | nil => intro d hd _; exact hd
  | cons q r ih => intro d hd h; exact ih _ (by have := h q (by simp); show max d (q.1 + 1) ≤ n; omega) fun p hp => h p (List.mem_cons_of_mem _ hp)

/-- The world behind the box, the counter and the iterator's box. -/
theorem box_kids {w W : World} {s : Value} {l : List Nd} (hk : KidsAt w s l) (k : Kept w W) : KidsD (· < w.heap.size) W s l := (KidsD.low hk).kept k

/-- What holds of count's counter. -/
def countI (x : Nd) (w : World) (cb : Nat) (pre : List ItN) (W : World) (O : Nat → Prop) : Prop := (O = fun k => k = cb) ∧ Blk W cb 3 #[.int .i64 (pre.length : Nat)] ∧ Kept w W ∧ itOk x pre
theorem countI.stay {x : Nd} {w : World} {cb n : Nat} {pre : List ItN} {A B : World} {O : Nat → Prop} (h : countI x w cb pre A O) (k : Only (fun k => n ≤ k ∧ ¬ O k) A B) (hn : w.heap.size ≤ n) : countI x w cb pre B O := by
  obtain ⟨h1, h2, h3, h4⟩ := h
  subst h1
  exact ⟨rfl, h2.only k (fun h => h.2 rfl), h3.only k rfl (fun k h => by have := h.1; omega), h4⟩

mutual
theorem Nd.above_lt : ∀ (x : Nd) (a : Nat), ∀ p ∈ x.all a, p.1 < a + x.count
  | .mk k t y f n ks, a, p, hp => by
    rw [Nd.all_eq] at hp
    rw [Nd.count_eq]
    rcases List.mem_cons.1 hp with rfl | hp
    · dsimp only; omega
    · have := Nd.aboveL_lt ks (a + 1) p hp
      show p.1 < a + (1 + Nd.countL ks)
      omega
theorem Nd.aboveL_lt : ∀ (l : List Nd) (a : Nat), ∀ p ∈ Nd.allL l a, p.1 < a + Nd.countL l
  | [], a, p, hp => by rw [Nd.allL_nil] at hp; cases hp
  | x :: r, a, p, hp => by
    rw [Nd.allL_cons] at hp
    rw [Nd.countL_cons]
    rcases List.mem_append.1 hp with hp | hp
    · have := Nd.above_lt x a p hp; omega
    · have := Nd.aboveL_lt r a p hp; omega
end

/-- What holds of depth's counter. -/
def depthI (x : Nd) (w : World) (cb : Nat) (pre : List ItN) (W : World) (O : Nat → Prop) : Prop := (O = fun k => k = cb) ∧ Blk W cb 3 #[.int .i64 (depN (pre.map plN) : Nat)] ∧ Kept w W ∧ itOk x pre
theorem depthI.stay {x : Nd} {w : World} {cb n : Nat} {pre : List ItN} {A B : World} {O : Nat → Prop} (h : depthI x w cb pre A O) (k : Only (fun k => n ≤ k ∧ ¬ O k) A B) (hn : w.heap.size ≤ n) : depthI x w cb pre B O := by
  obtain ⟨h1, h2, h3, h4⟩ := h
  subst h1
  exact ⟨rfl, h2.only k (fun h => h.2 rfl), h3.only k rfl (fun k h => by have := h.1; omega), h4⟩

end Go.Proofs.YtfkmnpgpfmkjaaaGreatDoor
namespace Go.Proofs.YtfkmnpgpfmkjaaaGreatDoor
open Go.ChangeShapes Go.WideShapes Go.ChangeAt Go.RowKit Go.Shelf
attribute [local go_sem] Oper.semAt_some

/-- The first node, from place k on, that is too deep. -/
def deepF : Nat → List (Nat × Nd) → Int × Int
  | _, [] => (0, 0)
  | k, p :: r => if 60 ≤ p.1 then (11, (k : Int)) else deepF (k + 1) r
theorem deepF_snoc : ∀ (l : List (Nat × Nd)) (k : Nat) (p : Nat × Nd), deepF k (l ++ [p]) = if (deepF k l).1 = 0 ∧ 60 ≤ p.1 then (11, ((k + l.length : Nat) : Int)) else deepF k l
  | [], k, p => by
    by_cases h : 60 ≤ p.1 <;> simp [deepF, h]
  | q :: r, k, p => by
    rw [List.cons_append, deepF, deepF]
    by_cases h : 60 ≤ q.1
    · simp [h]
    · rw [if_neg h, if_neg h, deepF_snoc r (k + 1) p, List.length_cons, show k + 1 + r.length = k + (r.length + 1) by omega]
/-- What checkSize tells. -/
def sizeE (x : Nd) : Int × Int := if 5000 < x.count then (12, 0) else deepF 0 (x.all 0)

theorem fault_results {fn : Func} {p : Tmp} (h : fn.results = #[.cell p 36]) (tmps : Array Value) (W : World) {g : Nat} {x y : Value}
    (hp : tmps.getD p undef = .pointer (some ⟨g, 0, none⟩)) (hg : Blk W g 36 #[x, y]) : (results fn tmps).run Tryz.prog W = .ok (.agg #[x, y]) W :=
  results_cell_row (P := Tryz.prog) h tmps W g 36 #[x, y] (0, 0) _ hp hg Tryz.underlying36 (by rfl) (by kernel_rfl)

def szF (pre : List ItN) : Int × Int := deepF 0 (pre.map plN)
def szI (x : Nd) (w : World) (pre : List ItN) (W : World) (O : Nat → Prop) : Prop :=
  (O = fun k => w.heap.size < k ∧ k < w.heap.size + 3) ∧ Blk W (w.heap.size + 1) 36 #[.int .i64 0, .int .i64 0] ∧ Blk W (w.heap.size + 2) 36 #[.int .i64 (szF pre).1, .int .i64 (szF pre).2] ∧ Kept w W ∧ itOk x pre ∧ pre.length ≤ 5000
def szX (x : Nd) (w : World) (c : Code) (pre : List ItN) (W : World) : Prop :=
  c = .exit 0 ∧ Blk W (w.heap.size + 1) 36 #[.int .i64 0, .int .i64 0] ∧ Blk W (w.heap.size + 2) 36 #[.int .i64 12, .int .i64 0] ∧ Kept w W ∧ 5000 < x.count
theorem szI.stay {x : Nd} {w : World} {n : Nat} {pre : List ItN} {A B : World} {O : Nat → Prop} (h : szI x w pre A O) (k : Only (fun k => n ≤ k ∧ ¬ O k) A B) (hn : w.heap.size ≤ n) : szI x w pre B O := by
  obtain ⟨h1, h2, h3, h4, h5, h6⟩ := h
  subst h1
  exact ⟨rfl, h2.only k (fun h => h.2 ⟨by omega, by omega⟩), h3.only k (fun h => h.2 ⟨by omega, by omega⟩), h4.only k rfl (fun k h => by have := h.1; omega), h5, h6⟩
theorem szX.stay {x : Nd} {w : World} {c : Code} {n : Nat} {pre : List ItN} {A B : World} (h : szX x w c pre A) (k : Only (fun k => n ≤ k ∧ k < n + 2) A B) (hn : w.heap.size + 3 ≤ n) : szX x w c pre B := by
  obtain ⟨h1, h2, h3, h4, h5⟩ := h
  exact ⟨h1, h2.only k (fun h => by omega), h3.only k (fun h => by omega), h4.only k rfl (fun k h => by omega), h5⟩

set_option maxHeartbeats 8000000 in
theorem size_c (x : Nd) (ad : Option Addr) (ck : Nat) (w : World) (hok : x.ok1) (hk : KidsAt w (.slice ad x.kids.length ck) x.kids) (hcnt : x.count ≤ 1000000000) :
    Calls Tryz.prog 31 #[ndV x (.slice ad x.kids.length ck)] w fun e w' => e = .returned (.agg #[.int .i64 (sizeE x).1, .int .i64 (sizeE x).2]) ∧ Kept w w' := by
  obtain ⟨W1, hW1⟩ : ∃ W1, ((w.alloc (.cells #[.int .i64 x.kind, .string x.text, .string x.typ, .string x.frm, .int .i64 x.n, .slice ad x.kids.length ck] 25)).alloc (.cells #[.int .i64 0, .int .i64 0] 36)).alloc (.cells #[.int .i64 0, .int .i64 0] 36) = W1 := ⟨_, rfl⟩
  obtain ⟨W2, hW2⟩ : ∃ W2, W1.alloc (.cells (ndC x (.slice ad x.kids.length ck)).toArray 25) = W2 := ⟨_, rfl⟩
  have k1 : Kept w W1 := by rw [← hW1]; exact (((Kept.refl w).alloc _).alloc _).alloc _
  have k2 : Kept W1 W2 := by rw [← hW2]; exact (Kept.refl W1).alloc _
  have hs1 : W1.heap.size = w.heap.size + 3 := by rw [← hW1]; simp
  have hs2 : W2.heap.size = w.heap.size + 4 := by rw [← hW2]; simp [hs1]
  have hc1 : Blk W1 (w.heap.size + 1) 36 #[.int .i64 0, .int .i64 0] := by rw [← hW1]; exact (Blk.at (by simp)).alloc _
  have hc2 : Blk W1 (w.heap.size + 2) 36 #[.int .i64 0, .int .i64 0] := by rw [← hW1]; exact Blk.at (by simp)
  have hb2 : Blk W2 W1.heap.size 25 (ndC x (.slice ad x.kids.length ck)).toArray := by rw [← hW2]; exact Blk.new _ _ _
  have HN := Lib.hid (nodes_c x ad ck W1)
  rw [hW2] at HN
  have HK := Lib.hid (fun W k => box_kids (W := W) hk k)
  have HKW := Lib.hid (k1.trans k2)
  have HS1 := Lib.hid hs1
  have HS2 := Lib.hid hs2
  have HB2 := Lib.hid hb2
  have HI0 := Lib.hid (show szI x w [] W2 (fun k => w.heap.size < k ∧ k < w.heap.size + 3) from ⟨rfl, hc1.kept k2, hc2.kept k2, k1.trans k2, ⟨List.nil_prefix, fun i it h => by simp at h⟩, by simp⟩)
  have HW1 := Lib.hid hW1
  have HOK := Lib.hid hok
  have HC := Lib.hid hcnt
  have hlab : ∃ q, x.count = q := ⟨_, rfl⟩
  clear hW1 hW2 k1 k2 hs1 hs2 hc1 hc2 hb2 hk hok hlab
  refine (callsIn_wide (n := 3)).1 (callsIn_of_wp_marks Tryz.func31 rfl trivial (wpIn_wide.2 ?_) rfl)
  simp only [Tryz.ntmps31, List.size_toArray, List.length_cons, List.length_nil, Nat.reduceAdd, Nat.reduceSub, Array.replicate_succ, Array.replicate_zero, List.push_toArray, List.append_toArray, List.nil_append, List.cons_append]
  go_wp2_with fail
  go_step3
  go_wp2_with fail
  go_step3
  go_wp2_with fail
  rw [HW1.out]
  refine HN.out.mono ?_
  rintro e w2 ⟨rfl, rfl⟩
  clear HN HW1
  go_wp2_with fail
  refine wpIn_wide.1 (wpIn_rangeFunc_ownO (F := Fence.wide) (n := 3) rfl (by omega) (gf := 49) (lb := #[.pointer (some ⟨W1.heap.size, 0, none⟩)]) rfl trivial (enters_of Tryz.func49 (by kernel_rfl) rfl)
    (encs := encN) (S := itAll x) (Sp := itOk x) (G := itG x w2.heap.size) (b0 := w.heap.size) (fun k => w.heap.size < k ∧ k < w.heap.size + 3) (fun k hk => by have := HS2.out; omega)
    (fun Wq hkq hsq => nodes1_o (3 - 1) (by omega) x ad ck W1.heap.size w.heap.size w2.heap.size Wq (HB2.out.kept hkq) HOK.out (HK.out Wq (HKW.out.trans hkq)) (by omega) (by have := HS2.out; omega) HC.out)
    (fun s A B O h k => h.stay k) (fun _ => rfl) (szI x w) (szX x w) (fun s A B O h k => h.stay k (by have := HS2.out; omega)) (fun c s A B h k => h.stay k (by have := HS2.out; omega)) HI0.out
    (fun i W => { tmps := #[ndV x (.slice ad x.kids.length ck), .pointer (some ⟨w.heap.size, 0, none⟩), .pointer (some ⟨w.heap.size + 1, 0, none⟩), .pointer (some ⟨w.heap.size + 1 + 1, 0, none⟩), .pointer (some ⟨W.heap.size, 0, none⟩), ndV x (.slice ad x.kids.length ck), .func (.func 49) #[] #[.pointer (some ⟨W1.heap.size, 0, none⟩)], .agg #[.int .i64 i.1.1, .int .i64 i.1.2], .pointer (some ⟨i.2.1.1, i.2.1.2, none⟩), undef, undef, undef, undef, undef, undef, undef, undef, undef, undef, undef, undef, undef, undef, undef, undef, undef, undef], defers := [] })
    (fun i W => W.alloc (.cells #[.int .i64 i.1.1, .int .i64 i.1.2] 79)) (fun i W => (Kept.refl W).alloc _) ?assign ?body ?done ?stop)
  case assign =>
    intro lr i W K hK
    gi_wp2
    first | exact hK | simpa using hK
  case body =>
    intro lr pre i W0 W O hlr hl0 hob hOl hI hG hsz
    obtain ⟨hO, hI1, hI2, hI3, hI4, hI5⟩ := hI
    subst hO
    have hb5 : Blk W W0.heap.size 79 #[.int .i64 i.1.1, .int .i64 i.1.2] := (Blk.new W0 _ _).only hob (by omega)
    have d0 := hb5.cell 0
    have d1 := hb5.cell 1
    have c0 := hI2.cell 0
    have c1 := hI2.cell 1
    have f0 := hI2.frozen 0
    have f1 := hI2.frozen 1
    simp only [List.getElem?_toArray, List.getElem?_cons_succ, List.getElem?_cons_zero] at d0 d1 c0 c1
    have hat : i.1.1 = pre.length := hG.1.2 pre.length i (by simp)
    have hcl : pre.length + 1 ≤ x.count := by
      have h1 := hG.1.1.length_le
      rw [List.length_map, Nd.count_all, List.length_append] at h1
      simpa using h1
    have hsn : szF (pre ++ [i]) = if (szF pre).1 = 0 ∧ 60 ≤ i.1.2 then (11, (pre.length : Int)) else szF pre := by
      unfold szF
      rw [List.map_append, List.map_singleton, deepF_snoc, List.length_map, Nat.zero_add]; rfl
    have hok2 : itOk x (pre ++ [i]) := hG.1
    rw [hat] at d0
    obtain ⟨a, ha⟩ : ∃ a, i.1.2 = a := ⟨_, rfl⟩
    rw [ha] at d1 hsn
    obtain ⟨er, he⟩ : ∃ er, (szF pre).1 = er := ⟨_, rfl⟩
    obtain ⟨ea, hea⟩ : ∃ ea, (szF pre).2 = ea := ⟨_, rfl⟩
    rw [he] at c0 hsn
    rw [hea] at c1
    have hz : w.heap.size + 4 < W0.heap.size := by have := HS2.out; omega
    have hom : ∀ u v, Only (fun k => (w.heap.size < k ∧ k < w.heap.size + 3) ∨ W0.heap.size ≤ k) W ((W.setCell ⟨w.heap.size + 2, 0, none⟩ u).setCell ⟨w.heap.size + 2, 1, none⟩ v) := fun u v => ((Only.refl _ W).setCell (.inl (.inl ⟨by simp, by simp⟩)) _).setCell (.inl (.inl ⟨by simp, by simp⟩)) _
    have hbp : ∀ u v, Blk ((W.setCell ⟨w.heap.size + 2, 0, none⟩ u).setCell ⟨w.heap.size + 2, 1, none⟩ v) (w.heap.size + 2) 36 #[u, v] := fun u v => by
      have := (hI2.put 0 u).put 1 v
      simpa using this
    have hbr : ∀ u v, Blk ((W.setCell ⟨w.heap.size + 2, 0, none⟩ u).setCell ⟨w.heap.size + 2, 1, none⟩ v) (w.heap.size + 1) 36 #[.int .i64 0, .int .i64 0] := fun u v =>
      (hI1.only (S := (· = w.heap.size + 2)) (((Only.refl _ W).put 0 u).put 1 v) (by omega))
    have hkp : ∀ u v, Kept w ((W.setCell ⟨w.heap.size + 2, 0, none⟩ u).setCell ⟨w.heap.size + 2, 1, none⟩ v) := fun u v => hI3.only (hom u v) rfl (fun k hk => by omega)
    by_cases h5 : pre.length = 5000
    · have HX := Lib.hid (show szX x w (.exit 0) (pre ++ [i]) ((W.setCell ⟨w.heap.size + 2, 0, none⟩ (.int .i64 12)).setCell ⟨w.heap.size + 2, 1, none⟩ (.int .i64 0)) from ⟨rfl, hbr _ _, hbp _ _, hkp _ _, by omega⟩)
      have HO := Lib.hid (hom (.int .i64 12) (.int .i64 0))
      have hb : ((pre.length : Int) == 5000) = true := by simp; omega
      clear hI1 hI2 hI3 hI4 hI5 hG hob HI0 hb5 hsn hok2 hom hbp hbr hkp he hea h5 hat ha
      gi_wp2
      exact ⟨HO.out, HX.out⟩
    · have hb : ((pre.length : Int) == 5000) = false := by simp; omega
      have hl2 : (pre ++ [i]).length ≤ 5000 := by simp; omega
      by_cases h60 : 60 ≤ a
      · have hgb : decide ((60 : Int) ≤ (a : Int)) = true := decide_eq_true (by omega)
        by_cases h0 : er = 0
        · rw [if_pos ⟨h0, h60⟩] at hsn
          have HR := Lib.hid (show szI x w (pre ++ [i]) ((W.setCell ⟨w.heap.size + 2, 0, none⟩ (.int .i64 11)).setCell ⟨w.heap.size + 2, 1, none⟩ (.int .i64 (pre.length : Int))) (fun k => w.heap.size < k ∧ k < w.heap.size + 3) from ⟨rfl, hbr _ _, by rw [hsn]; exact hbp _ _, hkp _ _, hok2, hl2⟩)
          have HO := Lib.hid (hom (.int .i64 11) (.int .i64 (pre.length : Int)))
          have hb0 : (er == 0) = true := by simp [h0]
          clear hI1 hI2 hI3 hI4 hI5 hG hob HI0 hb5 hsn hok2 hom hbp hbr hkp he hea h5 hat ha h0
          gi_wp2
          exact ⟨HO.out, _, fun k hk => .inl hk, HR.out⟩
        · rw [if_neg (fun h => h0 h.1)] at hsn
          have HR := Lib.hid (show szI x w (pre ++ [i]) W (fun k => w.heap.size < k ∧ k < w.heap.size + 3) from ⟨rfl, hI1, by rw [hsn]; exact hI2, hI3, hok2, hl2⟩)
          have hb0 : (er == 0) = false := by simp [h0]
          clear hI1 hI2 hI3 hI4 hI5 hG hob HI0 hb5 hsn hok2 hom hbp hbr hkp he hea h5 hat ha h0
          gi_wp2
          exact ⟨Only.refl _ _, _, fun k hk => .inl hk, HR.out⟩
      · have hgb : decide ((60 : Int) ≤ (a : Int)) = false := decide_eq_false (by omega)
        rw [if_neg (fun h => h60 h.2)] at hsn
        have HR := Lib.hid (show szI x w (pre ++ [i]) W (fun k => w.heap.size < k ∧ k < w.heap.size + 3) from ⟨rfl, hI1, by rw [hsn]; exact hI2, hI3, hok2, hl2⟩)
        clear hI1 hI2 hI3 hI4 hI5 hG hob HI0 hb5 hsn hok2 hom hbp hbr hkp he hea h5 hat ha
        gi_wp2
        refine ⟨Only.refl _ _, _, fun k hk => .inl hk, HR.out⟩
  case done =>
    rintro D xs W O hD hS ⟨hO, hI1, hI2, hI3, hI4, hI5⟩ hK
    subst hO
    have c0 := hI2.cell 0
    have c1 := hI2.cell 1
    simp only [List.getElem?_toArray, List.getElem?_cons_succ, List.getElem?_cons_zero] at c0 c1
    have hsz : sizeE x = szF xs := by
      unfold sizeE szF
      rw [hS.1, if_neg]
      have h1 := congrArg List.length hS.1
      rw [List.length_map, Nd.count_all] at h1
      omega
    rw [← hsz] at c0 c1
    obtain ⟨f0, f1⟩ := (⟨hI1.frozen 0, hI1.frozen 1⟩ : W.frozen? ⟨w.heap.size + 1, 0, none⟩ = false ∧ W.frozen? ⟨w.heap.size + 1, 1, none⟩ = false)
    have e0 := hI1.cell 0
    have e1 := hI1.cell 1
    simp only [List.getElem?_toArray, List.getElem?_cons_succ, List.getElem?_cons_zero] at e0 e1
    have b3 := (hI1.put 0 (.int .i64 (sizeE x).1)).put 1 (.int .i64 (sizeE x).2)
    have ho3 : Only (· = w.heap.size + 1) W ((W.setCell ⟨w.heap.size + 1, 0, none⟩ (.int .i64 (sizeE x).1)).setCell ⟨w.heap.size + 1, 1, none⟩ (.int .i64 (sizeE x).2)) := ((Only.refl _ W).put 0 _).put 1 _
    have hD2 : D = w.heap.size + 4 := by have := HS2.out; omega
    have hK2 := ho3.same hK (by omega)
    have hd : Only (· = D) ((W.setCell ⟨w.heap.size + 1, 0, none⟩ (.int .i64 (sizeE x).1)).setCell ⟨w.heap.size + 1, 1, none⟩ (.int .i64 (sizeE x).2)) (((W.setCell ⟨w.heap.size + 1, 0, none⟩ (.int .i64 (sizeE x).1)).setCell ⟨w.heap.size + 1, 1, none⟩ (.int .i64 (sizeE x).2)).putObj D (.deferred none)) := (Only.refl (· = D) _).putObj (.inl rfl) _
    have HB := Lib.hid (show Blk (((W.setCell ⟨w.heap.size + 1, 0, none⟩ (.int .i64 (sizeE x).1)).setCell ⟨w.heap.size + 1, 1, none⟩ (.int .i64 (sizeE x).2)).putObj D (.deferred none)) (w.heap.size + 1) 36 #[.int .i64 (sizeE x).1, .int .i64 (sizeE x).2] from by have := b3.only hd (by omega); simpa using this)
    have HZ := Lib.hid ((hI3.only ho3 rfl (fun k hk => by omega)).only hd rfl (fun k hk => by omega))
    have HK2 := Lib.hid hK2
    clear hI1 hI2 hI3 hI4 hI5 hsz b3 ho3 hK hK2 hd hD hD2 hS
    go_wp2_with fail
    rw [Exit.noGoto_ret]
    refine ⟨by simp, .inl ⟨_, _, rfl, run_takeDeferred HK2.out, ?_⟩⟩
    exact ⟨_, fault_results (by rfl) _ _ rfl HB.out, rfl, HZ.out⟩
  case stop => 
    rintro D cd pre W hD hpre ⟨rfl, h1, h2, h3, h4⟩ hK
    have c0 := h2.cell 0
    have c1 := h2.cell 1
    obtain ⟨f0, f1⟩ := (⟨h1.frozen 0, h1.frozen 1⟩ : W.frozen? ⟨w.heap.size + 1, 0, none⟩ = false ∧ W.frozen? ⟨w.heap.size + 1, 1, none⟩ = false)
    have e0 := h1.cell 0
    have e1 := h1.cell 1
    simp only [List.getElem?_toArray, List.getElem?_cons_succ, List.getElem?_cons_zero] at c0 c1 e0 e1
    have hsz : sizeE x = (12, 0) := by unfold sizeE; rw [if_pos h4]
    have b3 := (h1.put 0 (.int .i64 12)).put 1 (.int .i64 0)
    have ho3 : Only (· = w.heap.size + 1) W ((W.setCell ⟨w.heap.size + 1, 0, none⟩ (.int .i64 12)).setCell ⟨w.heap.size + 1, 1, none⟩ (.int .i64 0)) := ((Only.refl _ W).put 0 _).put 1 _
    have hD2 : D = w.heap.size + 4 := by have := HS2.out; omega
    have hK2 := ho3.same hK (by omega)
    have hd : Only (· = D) ((W.setCell ⟨w.heap.size + 1, 0, none⟩ (.int .i64 12)).setCell ⟨w.heap.size + 1, 1, none⟩ (.int .i64 0)) (((W.setCell ⟨w.heap.size + 1, 0, none⟩ (.int .i64 12)).setCell ⟨w.heap.size + 1, 1, none⟩ (.int .i64 0)).putObj D (.deferred none)) := (Only.refl (· = D) _).putObj (.inl rfl) _
    have HB := Lib.hid (show Blk (((W.setCell ⟨w.heap.size + 1, 0, none⟩ (.int .i64 12)).setCell ⟨w.heap.size + 1, 1, none⟩ (.int .i64 0)).putObj D (.deferred none)) (w.heap.size + 1) 36 #[.int .i64 12, .int .i64 0] from by have := b3.only hd (by omega); simpa using this)
    have HZ := Lib.hid ((h3.only ho3 rfl (fun k hk => by omega)).only hd rfl (fun k hk => by omega))
    have HK2 := Lib.hid hK2
    have HSZ := Lib.hid hsz
    clear h1 h2 h3 h4 b3 ho3 hK hK2 hd hD hD2 hsz
    gi_wp2
    go_wp2_with fail
    rw [Exit.noGoto_ret]
    refine ⟨by simp, .inl ⟨_, _, rfl, run_takeDeferred HK2.out, ?_⟩⟩
    exact ⟨_, fault_results (by rfl) _ _ rfl HB.out, by rw [HSZ.out], HZ.out⟩


section
variable {P : Program} {ops : Array Oper} {Q : Exit → Act → World → Prop} {md : Region.Mode}

def dstOf (ops : Array Oper) (j : Nat) : Option Tmp := (ops[j]?).bind (·.dst)
/-- Does i wait for j? -/
def waitsOn (md : Region.Mode) (ops : Array Oper) (i j : Nat) : Bool := ((ops[i]?).map fun o => o.after.any fun e => Region.binds md e && e.on == j).getD false
/-- Each operation has a slot of its own. -/
def ownSlots (ops : Array Oper) : Bool := (List.range ops.size).all fun i => (dstOf ops i).isSome && (List.range ops.size).all fun j => i == j || dstOf ops i != dstOf ops j

/-- What is kept while the operations come up. -/
structure FlowAt (ops : Array Oper) (V : Nat → World → Value → Prop) (a0 : Act) (w0 : World) (done : Nat → Prop) (a : Act) (w : World) : Prop where
  kept : Kept w0 w
  defers : a.defers = a0.defers
  size : a.tmps.size = a0.tmps.size
  other : ∀ t, (∀ j, dstOf ops j ≠ some t) → a.tmps[t]? = a0.tmps[t]?
  vals : ∀ j d, done j → dstOf ops j = some d → V j w (a.tmps[d]?.getD undef)

/-- What comes up waits for earlier ones alone. -/
def lowDeps (md : Region.Mode) (ops : Array Oper) : Bool := (List.range ops.size).all fun i => ((ops[i]?).map fun o => o.after.all fun e => !Region.binds md e || decide (e.on < i)).getD true
def stillOut (listed : Array Bool) (i : Nat) : Bool := !listed.getD i true

theorem countP_less {α : Type} {p p' : α → Bool} {l : List α} {x : α} (hx : x ∈ l) (h : ∀ y, p' y = true → p y = true) (h1 : p x = true) (h2 : p' x = false) : l.countP p' < l.countP p := by
  induction l with
  | nil => cases hx
  | cons y r ih =>
    rw [List.countP_cons, List.countP_cons]
    rcases List.mem_cons.1 hx with rfl | hx
    · rw [h1, h2]
      have := List.countP_mono_left (p := p') (q := p) (l := r) (fun y _ => h y)
      simp; omega
    · have := ih hx
      have h3 := h y
      cases hp' : p' y <;> cases hp : p y <;> simp_all <;> omega

theorem ready_of_out {listed : Array Bool} (hl : lowDeps md ops = true) : ∀ n i, i < n → i < ops.size → stillOut listed i = true → listed.size = ops.size → ∃ j, j ∈ Region.ready md ops listed := by
  intro n
  induction n with
  | zero => intro i h; omega
  | succ n ih =>
    intro i hi hio hout hsz
    by_cases hr : i ∈ Region.ready md ops listed
    · exact ⟨i, hr⟩
    · rw [mem_ready] at hr
      have ho := Array.getElem?_eq_getElem hio
      simp only [lowDeps, List.all_eq_true, List.mem_range] at hl
      have h1 := hl i hio
      rw [ho] at h1
      simp only [Option.map_some, Option.getD_some, Array.all_eq_true_iff_forall_mem, Bool.or_eq_true, Bool.not_eq_true', decide_eq_true_eq] at h1
      have h2 : ∃ e ∈ ops[i].after, Region.binds md e = true ∧ listed.getD e.on false = false := by
        refine Classical.byContradiction fun hc => hr ⟨by simpa [stillOut] using hout, ops[i], ho, fun e he hb => ?_⟩
        cases hq : listed.getD e.on false with
        | true => rfl
        | false => exact absurd ⟨e, he, hb, hq⟩ hc
      obtain ⟨e, he, hb, hq⟩ := h2
      have h3 : e.on < i := (h1 e he).resolve_left (by rw [hb]; simp)
      refine ih e.on (by omega) (by omega) ?_ hsz
      have hlt : e.on < listed.size := by omega
      simp [stillOut, hlt] at hq ⊢
      exact hq

theorem flow_any {V : Nat → World → Value → Prop} (hV : ∀ i w w' v, V i w v → Kept w w' → V i w' v) (hslots : (ownSlots ops && lowDeps md ops) = true) (a0 : Act) (w0 : World) (hsz : ∀ j d, dstOf ops j = some d → d < a0.tmps.size)
    (hstep : ∀ i o, ops[i]? = some o → ∀ a w, FlowAt ops V a0 w0 (fun j => waitsOn md ops i j = true) a w →
      ∀ K : Act → World → Prop, (∀ v w', V i w' v → Kept w w' → K (a.put o.dst v) w') → if Region.wanted o (yielded ops a.tmps) = true then Oper.wp P o a w K Q else K (a.put o.dst undef) w)
    (hdone : ∀ a w, FlowAt ops V a0 w0 (fun j => j < ops.size) a w → Q .normal a w) :
    ∀ (fuel : Nat) (listed : Array Bool) (a : Act) (w : World), listed.size = ops.size → (List.range ops.size).countP (stillOut listed) ≤ fuel → FlowAt ops V a0 w0 (fun j => listed[j]? = some true) a w → wpAny P md ops Q fuel listed a w := by
  rw [Bool.and_eq_true] at hslots
  obtain ⟨hown, hlow⟩ := hslots
  have fin : ∀ (listed : Array Bool) (a : Act) (w : World), listed.size = ops.size → Region.ready md ops listed = [] → FlowAt ops V a0 w0 (fun j => listed[j]? = some true) a w → Q .normal a w := by
    intro listed a w hls hr h
    refine hdone a w ⟨h.kept, h.defers, h.size, h.other, fun j d hj hd => h.vals j d ?_ hd⟩
    rcases Bool.eq_false_or_eq_true (stillOut listed j) with hq | hq
    · obtain ⟨k, hk⟩ := ready_of_out (md := md) hlow (j + 1) j (by omega) hj hq hls
      rw [hr] at hk; cases hk
    · have : j < listed.size := by omega
      simp [stillOut, this] at hq ⊢
      exact hq
  intro fuel
  induction fuel with
  | zero =>
    intro listed a w hls hc h
    have hr : Region.ready md ops listed = [] := by
      cases hr : Region.ready md ops listed with
      | nil => rfl
      | cons i r =>
        have hi : i ∈ Region.ready md ops listed := by rw [hr]; simp
        obtain ⟨h0, o, ho, _⟩ := mem_ready.1 hi
        have h1 : i < ops.size := (Array.getElem?_eq_some_iff.1 ho).1
        have : 0 < (List.range ops.size).countP (stillOut listed) := List.countP_pos_iff.2 ⟨i, List.mem_range.2 h1, by simp only [stillOut, h0]; rfl⟩
        omega
    exact ⟨hr, fin listed a w hls hr h⟩
  | succ fuel ih =>
    intro listed a w hls hc h
    refine ⟨fun hr => fin listed a w hls hr h, fun i hi => ?_⟩
    obtain ⟨h0, o, ho, hall⟩ := mem_ready.1 hi
    have hio : i < ops.size := (Array.getElem?_eq_some_iff.1 ho).1
    have hbefore : FlowAt ops V a0 w0 (fun j => waitsOn md ops i j = true) a w := by
      refine ⟨h.kept, h.defers, h.size, h.other, fun j d hj hd => h.vals j d ?_ hd⟩
      unfold waitsOn at hj
      rw [ho] at hj
      obtain ⟨e, he, hb⟩ := Array.any_eq_true'.1 hj
      simp only [Bool.and_eq_true, beq_iff_eq] at hb
      have h1 := hall e he hb.1
      rw [hb.2] at h1
      rcases Nat.lt_or_ge j listed.size with h' | h'
      · simp [h'] at h1 ⊢; exact h1
      · simp [Array.getElem?_eq_none h'] at h1
    refine wpOp_step ho fun K' hK => hstep i o ho a w hbefore K' fun v w' hv hk => hK _ _ ?_
    simp only [ownSlots, List.all_eq_true, List.mem_range, Bool.and_eq_true, Bool.or_eq_true, beq_iff_eq, bne_iff_ne] at hown
    have hoi := hown i hio
    obtain ⟨d, hd⟩ := Option.isSome_iff_exists.1 hoi.1
    have hod : o.dst = some d := by have := hd; unfold dstOf at this; rw [ho] at this; exact this
    have hdl : d < a.tmps.size := by rw [h.size]; exact hsz i d hd
    refine ih (listed.setIfInBounds i true) (a.put o.dst v) w' (by simpa using hls) ?_ ?_
    · have : (List.range ops.size).countP (stillOut (listed.setIfInBounds i true)) < (List.range ops.size).countP (stillOut listed) := by
        refine countP_less (x := i) (List.mem_range.2 hio) (fun y hy => ?_) (by simp only [stillOut, h0]; rfl) (by have hil : i < listed.size := by { omega }; simp [stillOut, hil])
        by_cases hiy : i = y
        · subst hiy; simp only [stillOut, h0]; rfl
        · simp only [stillOut] at hy ⊢; rw [getD_set_ne true hiy] at hy; exact hy
      omega
    · refine ⟨h.kept.trans hk, by rw [hod]; exact h.defers, by rw [hod]; simpa [Act.put] using h.size, fun t ht => ?_, fun j e hj he => ?_⟩
      · have hne : d ≠ t := fun q => ht i (by rw [hd, q])
        rw [hod]
        simp only [Act.put]
        rw [Array.getElem?_setIfInBounds_ne hne]
        exact h.other t ht
      · by_cases hij : i = j
        · subst hij
          obtain rfl : d = e := Option.some.inj (hd.symm.trans he)
          rw [hod]
          simp only [Act.put, Array.getElem?_setIfInBounds_self_of_lt hdl, Option.getD_some]
          exact hv
        · have hjo : j < ops.size := by
            unfold dstOf at he
            rcases Nat.lt_or_ge j ops.size with h' | h'
            · exact h'
            · rw [Array.getElem?_eq_none h'] at he; cases he
          have hde : d ≠ e := fun q => by
            have := (hoi.2 j hjo).resolve_left hij
            exact this (by rw [hd, he, q])
          rw [hod]
          simp only [Act.put]
          rw [Array.getElem?_setIfInBounds_ne hde]
          refine hV j w w' _ (h.vals j e ?_ he) hk
          rw [Array.getElem?_setIfInBounds_ne hij] at hj
          exact hj

/-- The region. -/
theorem flow_region {V : Nat → World → Value → Prop} {id : Nat} {a0 : Act} {w : World} (hm : P.follows .mixedOrders = true) (hV : ∀ i w w' v, V i w v → Kept w w' → V i w' v) (hslots : (ownSlots ops && lowDeps .any ops) = true)
    (hsz : ((List.range ops.size).all fun j => ((dstOf ops j).map fun d => decide (d < a0.tmps.size)).getD true) = true)
    (hstep : ∀ i o, ops[i]? = some o → ∀ a w', FlowAt ops V a0 w.drew (fun j => waitsOn .any ops i j = true) a w' →
      ∀ K : Act → World → Prop, (∀ v w'', V i w'' v → Kept w' w'' → K (a.put o.dst v) w'') → if Region.wanted o (yielded ops a.tmps) = true then Oper.wp P o a w' K Q else K (a.put o.dst undef) w')
    (hdone : ∀ a w', FlowAt ops V a0 w.drew (fun j => j < ops.size) a w' → Q .normal a w') : (Code.region id ops true).wp P Q a0 w := by
  refine wp_region_any hm ?_
  refine flow_any hV hslots a0 w.drew (fun j d hd => ?_) hstep hdone ops.size _ a0 w.drew (by simp) (Nat.le_trans List.countP_le_length (by simp)) ⟨Kept.refl _, rfl, rfl, fun _ _ => rfl, fun j d hj hd => ?_⟩
  · simp only [List.all_eq_true, List.mem_range] at hsz
    have hj : j < ops.size := by
      unfold dstOf at hd
      rcases Nat.lt_or_ge j ops.size with h' | h'
      · exact h'
      · rw [Array.getElem?_eq_none h'] at hd; cases hd
    have := hsz j hj
    rw [hd] at this
    simpa using this
  · have : ops.size ≠ 0 ∧ (Array.replicate ops.size false)[j]? = some true := ⟨fun h => by rw [h] at hj; simp at hj, hj⟩
    rcases Nat.lt_or_ge j ops.size with h' | h'
    · simp [h'] at hj
    · simp [h'] at hj
end
end Go.Proofs.YtfkmnpgpfmkjaaaGreatDoor
namespace Go.Proofs.YtfkmnpgpfmkjaaaGreatDoor
open Go.ChangeShapes Go.WideShapes Go.ChangeAt Go.RowKit

/-- Kids beside one another: their kinds, how many, and how many more at most. -/
structure Pt where
  kinds : List Int
  cnt : Int
  more : Int
/-- What a kind requires. -/
structure Ne where
  text : Int
  typ : Int
  words : ByteArray
  most : Int
  kids : List Pt

/-- The kinds of expressions below k. -/
def exU (k : Nat) : List Int := ((List.range' 7 (k - 7)).filter (· != 15)).map Int.ofNat
def exprK : List Int := exU 30
def entK : List Int := exprK ++ [15]
def pOne : Pt := ⟨exprK, 1, 0⟩
def pTwo : Pt := ⟨exprK, 2, 0⟩
def pArgs : Pt := ⟨exprK, 0, 8⟩
def pBlock : Pt := ⟨[6], 1, 0⟩
def pUp (most kind : Int) : Pt := ⟨[kind], 0, most⟩
def pEnt : Pt := ⟨entK, 0, 5000⟩
def wNum : ByteArray := ⟨#[110, 97, 110, 32, 105, 110, 102]⟩
def wUn : ByteArray := ⟨#[45, 32, 33]⟩
def wBin : ByteArray := ⟨#[124, 124, 32, 38, 38, 32, 61, 61, 32, 33, 61, 32, 60, 32, 60, 61, 32, 43, 32, 45, 32, 42, 32, 47, 32, 37]⟩
def wConv : ByteArray := ⟨#[114, 101, 97, 108, 32, 105, 110, 116, 32, 108, 101, 110]⟩
def noW : ByteArray := ⟨#[]⟩
def needsT : List Ne := [⟨0, 0, noW, 0, []⟩, ⟨0, 0, noW, 0, [pUp 40 2, pBlock]⟩, ⟨2, 3, noW, 0, [pUp 20 3, pUp 20 4]⟩, ⟨1, 4, noW, 0, []⟩, ⟨1, 4, noW, 0, [pUp 8 5, pBlock]⟩, ⟨1, 4, noW, 0, []⟩,
  ⟨0, 0, noW, 0, [pEnt]⟩, ⟨0, 0, noW, 9223372036854775807, []⟩, ⟨6, 0, wNum, 9007199254740992, []⟩, ⟨0, 0, noW, 1, []⟩, ⟨7, 0, noW, 0, []⟩, ⟨0, 0, noW, 0, []⟩, ⟨0, 2, noW, 0, []⟩, ⟨0, 0, noW, 0, []⟩, ⟨1, 0, noW, 0, []⟩,
  ⟨1, 4, noW, 0, [pOne]⟩, ⟨1, 0, noW, 0, [pOne]⟩, ⟨1, 0, noW, 0, [pOne]⟩, ⟨1, 0, noW, 0, [pTwo]⟩, ⟨1, 0, noW, 0, [pOne, pArgs]⟩, ⟨1, 0, noW, 0, [pArgs]⟩, ⟨0, 2, noW, 0, [pArgs]⟩, ⟨0, 0, noW, 0, [pOne, pBlock, pBlock]⟩, ⟨0, 0, noW, 0, [pOne, pBlock]⟩,
  ⟨5, 0, wUn, 0, [pOne]⟩, ⟨5, 0, wBin, 0, [pTwo]⟩, ⟨0, 0, noW, 0, []⟩, ⟨0, 0, noW, 0, [pOne]⟩, ⟨0, 4, noW, 0, [pOne]⟩, ⟨5, 0, wConv, 0, [pOne]⟩]

/-- Numbers in memory. -/
def IntAt (w : World) (b o : Nat) (x : Int) : Prop := w.cell? ⟨b, o, none⟩ = some (.int .i64 x)
abbrev IntsR (w : World) (v : Value) (l : List Int) : Prop := Row 1 IntAt w v l
def PartAt (w : World) (b o : Nat) (p : Pt) : Prop := ∃ s, w.cell? ⟨b, o, none⟩ = some s ∧ w.cell? ⟨b, o + 1, none⟩ = some (.int .i64 p.cnt) ∧ w.cell? ⟨b, o + 2, none⟩ = some (.int .i64 p.more) ∧ IntsR w s p.kinds
abbrev PartsR (w : World) (v : Value) (l : List Pt) : Prop := Row 3 PartAt w v l
def NeedAt (w : World) (b o : Nat) (n : Ne) : Prop := ∃ s, w.cell? ⟨b, o, none⟩ = some (.int .i64 n.text) ∧ w.cell? ⟨b, o + 1, none⟩ = some (.int .i64 n.typ) ∧ w.cell? ⟨b, o + 2, none⟩ = some (.string n.words) ∧ w.cell? ⟨b, o + 3, none⟩ = some (.int .i64 n.most) ∧ w.cell? ⟨b, o + 4, none⟩ = some s ∧ PartsR w s n.kids
abbrev NeedsR (w : World) (v : Value) (l : List Ne) : Prop := Row 5 NeedAt w v l
section
variable {w w' : World} {b o : Nat}
theorem IntAt.kept {x : Int} (h : IntAt w b o x) (k : Kept w w') : IntAt w' b o x := k.cell h
theorem IntsR.kept {v : Value} {l : List Int} (h : IntsR w v l) (k : Kept w w') : IntsR w' v l := Row.mono h fun _ _ _ h => IntAt.kept h k
theorem PartAt.kept {p : Pt} (h : PartAt w b o p) (k : Kept w w') : PartAt w' b o p := by
  obtain ⟨s, h1, h2, h3, h4⟩ := h
  exact ⟨s, k.cell h1, k.cell h2, k.cell h3, IntsR.kept h4 k⟩
theorem PartsR.kept {v : Value} {l : List Pt} (h : PartsR w v l) (k : Kept w w') : PartsR w' v l := Row.mono h fun _ _ _ h => PartAt.kept h k
theorem NeedAt.kept {n : Ne} (h : NeedAt w b o n) (k : Kept w w') : NeedAt w' b o n := by
  obtain ⟨s, h1, h2, h3, h4, h5, h6⟩ := h
  exact ⟨s, k.cell h1, k.cell h2, k.cell h3, k.cell h4, k.cell h5, PartsR.kept h6 k⟩
theorem NeedsR.kept {v : Value} {l : List Ne} (h : NeedsR w v l) (k : Kept w w') : NeedsR w' v l := Row.mono h fun _ _ _ h => NeedAt.kept h k
end

/-- As values. -/
def PartV (w : World) (v : Value) (p : Pt) : Prop := ∃ a c, v = .agg #[.slice a p.kinds.length c, .int .i64 p.cnt, .int .i64 p.more] ∧ IntsR w (.slice a p.kinds.length c) p.kinds
def NeedV (w : World) (v : Value) (n : Ne) : Prop := ∃ a c, v = .agg #[.int .i64 n.text, .int .i64 n.typ, .string n.words, .int .i64 n.most, .slice a n.kids.length c] ∧ PartsR w (.slice a n.kids.length c) n.kids
theorem PartV.kept {w w' : World} {v : Value} {p : Pt} (h : PartV w v p) (k : Kept w w') : PartV w' v p := by
  obtain ⟨a, c, e, h⟩ := h; exact ⟨a, c, e, IntsR.kept h k⟩
theorem NeedV.kept {w w' : World} {v : Value} {n : Ne} (h : NeedV w v n) (k : Kept w w') : NeedV w' v n := by
  obtain ⟨a, c, e, h⟩ := h; exact ⟨a, c, e, PartsR.kept h k⟩

/-- A block's cells are a list of things, k cells each. -/
theorem row_of_blk {α : Type} {k : Nat} {R : World → Nat → Nat → α → Prop} {w : World} {g c : Nat} {t : TypeId} {cs : Array Value} {l : List α} (hb : Blk w g t cs) (hc : l.length ≤ c) (hm : c ≤ maxLen) (hR : ∀ i x, l[i]? = some x → R w g (i * k) x) :
    Row k R w (.slice (some ⟨g, 0, none⟩) l.length c) l := ⟨_, c, rfl, hc, hm, fun i x hx => ⟨g, 0, rfl, by rw [Nat.zero_add]; exact hR i x hx⟩⟩

theorem exU_next {k : Nat} (h7 : 7 ≤ k) : exU (k + 1) = exU k ++ (if k = 15 then [] else [(k : Int)]) := by
  unfold exU
  rw [show k + 1 - 7 = (k - 7) + 1 by omega, List.range'_concat, List.filter_append, List.map_append, show 7 + 1 * (k - 7) = k by omega]
  by_cases h : k = 15
  · subst h; rfl
  · rw [if_neg h]; simp [h]
theorem exU_len (k : Nat) : (exU k).length ≤ k := by
  unfold exU
  rw [List.length_map]
  refine Nat.le_trans (List.length_filter_le _ _) ?_
  simp

theorem info_int : (Tryz.prog.info? 3).map (fun i => (i.zero, i.size, i.bytes)) = some (some (.int .i64 0), 1, 8) := by kernel_rfl
def intC (x : Int) : List Value := [.int .i64 x]
theorem intC_len (x : Int) : (intC x).length = 1 := rfl
theorem src_int {w : World} {g : Nat} {x : Int} (h : Blk w g 3 #[.int .i64 x]) : Src Tryz.prog 1 100 (.slice (some ⟨g, 0, none⟩) 1 1) 1 (intC x) w := by
  refine Src.ofSlice w Tryz.underlying100 ⟨g, 0, none⟩ 1 1 _ rfl ?_ ?_
  · intro j u hu
    rw [Addr.add_lit, Nat.zero_add, h.cell j]
    simpa [intC] using hu
  · intro u hu
    simp only [intC, List.mem_cons, List.not_mem_nil, or_false] at hu
    subst hu; rfl
theorem ints_of_owns {w : World} {base : Nat} {v : Value} {l : List Int} (h : w.ownsRow base 3 1 v l.length (l.flatMap intC)) : IntsR w v l := by
  have hc := fun g => h.cells (g := g)
  rcases h.2 with ⟨rfl, h0⟩ | ⟨g, cap, cur, rfl, hb, hh, hn, hm, hcs, htk⟩
  · have : l = [] := List.eq_nil_of_length_eq_zero h0
    subst this
    exact ⟨none, 0, rfl, Nat.le_refl _, Nat.zero_le _, fun i x h => by simp at h⟩
  · refine ⟨_, cap, rfl, hn, hm, fun i x hx => ⟨g, 0, rfl, ?_⟩⟩
    have := hc g rfl i (.int .i64 x) (by
      have := flat_at intC intC_len l i 0 x hx (by omega)
      rw [Nat.mul_one, Nat.add_zero] at this
      rw [this]; rfl)
    unfold IntAt
    simpa [Addr.add_lit] using this
theorem rown_ge {w : World} {base k : Nat} {e : TypeId} {v : Value} {n : Nat} {xs : List Value} (h : w.ownsRow base e k v n xs) {g : Nat} (hg : v.ownBlock = some g) : base ≤ g := by
  rcases h.2 with ⟨rfl, _⟩ | ⟨g', cap, cur, rfl, hb, _⟩
  · simp [Value.ownBlock] at hg
  · have : g' = g := by simpa [Value.ownBlock] using hg
    omega

set_option maxHeartbeats 4000000 in
theorem expr_c (w : World) : Calls Tryz.prog 47 #[] w fun e w' => ∃ a c, e = .returned (.slice a exprK.length c) ∧ w'.ownsRow w.heap.size 3 1 (.slice a exprK.length c) exprK.length (exprK.flatMap intC) ∧ Kept w w' := by
  obtain ⟨i0, hi, hz0, hzz1, hzz2⟩ := info_parts info_int
  go_enter Tryz.func47, Tryz.ntmps47
  go_wp2_with fail
  go_loopw [1, 2] (fun r i wr => ∃ (k : Nat) (a : Option Addr) (c : Nat), 7 ≤ k ∧ k ≤ 30 ∧ i = .int .i64 k ∧ r = .slice a (exU k).length c ∧ Hid (wr.ownsRow w.heap.size 3 1 (.slice a (exU k).length c) (exU k).length ((exU k).flatMap intC)) ∧ Kept w wr) (fun r i wr => 30 - (intOf i).toNat)
  case atStart => exact ⟨7, none, 0, by omega, by omega, rfl, rfl, Lib.hid (World.ownsRow_nil _ _ _ _), Kept.refl _⟩
  case round =>
    obtain ⟨k, a, c, h7, h30, rfl, rfl, HR, hkp⟩ := hrel
    have hex := exU_next h7
    have hlen := exU_len k
    have HK := Lib.hid hkp
    have hsz := hkp.size
    clear hkp
    by_cases hlt : k < 30
    · have hltI : (k : Int) ≤ 29 := by omega
      by_cases h15 : k = 15
      · rw [if_pos h15, List.append_nil] at hex
        have HE := Lib.hid hex
        have hne : ((k : Int) != 15) = false := by simp; omega
        clear hex hlen
        generalize hq : exU k = l at HR HE ⊢
        clear hq
        go_wp2_with fail
        go_roundw
        case rel => exact ⟨k + 1, a, c, by omega, by omega, by go_num, by rw [HE.out], Lib.hid (by rw [HE.out]; exact HR.out), HK.out⟩
        case measure => simp [intOf]; omega
      · rw [if_neg h15] at hex
        have HE := Lib.hid hex
        have hne : ((k : Int) != 15) = true := by simp; omega
        clear hex
        generalize hq : exU k = l at HR HE hlen ⊢
        clear hq
        obtain ⟨W2, hW2⟩ : ∃ W2, wr.alloc (.cells #[.int .i64 (k : Int)] 3) = W2 := ⟨_, rfl⟩
        have k2 : Kept wr W2 := by rw [← hW2]; exact (Kept.refl wr).alloc _
        have b2 : Blk W2 wr.heap.size 3 #[.int .i64 (k : Int)] := by rw [← hW2]; exact Blk.new wr _ _
        have HSR := Lib.hid (src_int b2)
        have HR2 := Lib.hid (owns_kept HR.out k2)
        have HK2 := Lib.hid (HK.out.trans k2)
        have hsz2 : w.heap.size ≤ W2.heap.size := Nat.le_trans hsz k2.size
        have HW2 := Lib.hid hW2
        clear hW2 k2 b2
        go_wp2_with (first | rw [HW2.out] | (at_builtin; refine wpList_apk rfl (.tmp 9) (.tmp 11) 100 100 rfl w.heap.size 1 3 i0 _ 8 Tryz.underlying100 hi hz0 hzz1 hzz2 rfl rfl HR2.out rfl HSR.out (by unfold maxLen; omega) (by omega) hsz2 ?_; intro v' w4 hown' hgrow hlies; have HN := Lib.hid hown'; have HK4 := Lib.hid (HK2.out.grown hgrow fun k e => rown_ge HR2.out e); obtain ⟨va', vc', rfl⟩ := slice_of_owns hown'; clear hown' hgrow hlies))
        go_roundw
        case rel => exact ⟨k + 1, va', vc', by omega, by omega, by go_num, by rw [HE.out, List.length_append]; rfl, Lib.hid (by rw [HE.out, List.length_append, List.flatMap_append]; exact HN.out), HK4.out⟩
        case measure => simp [intOf]; omega
    · obtain rfl : k = 30 := by omega
      have HRN := Lib.hid (show wr.ownsRow w.heap.size 3 1 (.slice a exprK.length c) exprK.length (exprK.flatMap intC) from HR.out)
      rw [show exU 30 = exprK from rfl]
      go_wp2_with fail
      go_ret
      exact ⟨a, c, rfl, HRN.out, HK.out⟩

theorem part_results {fn : Func} {p : Tmp} (h : fn.results = #[.cell p 103]) (tmps : Array Value) (W : World) {g : Nat} {x y z : Value}
    (hp : tmps.getD p undef = .pointer (some ⟨g, 0, none⟩)) (hg : Blk W g 103 #[x, y, z]) : (results fn tmps).run Tryz.prog W = .ok (.agg #[x, y, z]) W :=
  results_cell_row (P := Tryz.prog) h tmps W g 103 #[x, y, z] (0, 0) _ hp hg Tryz.underlying103 (by rfl) (by kernel_rfl)

theorem ints_one {w : World} {g : Nat} {x : Int} {t : TypeId} (h : Blk w g t #[.int .i64 x]) : IntsR w (.slice (some ⟨g, 0, none⟩) 1 1) [x] :=
  row_of_blk (l := [x]) h (Nat.le_refl _) (by decide) fun i y hy => by
    have hi : i = 0 := by have := (List.getElem?_eq_some_iff.1 hy).1; simp at this; exact this
    subst hi
    simp at hy
    subst hy
    exact h.cell 0

theorem up_c (m k : Int) (w : World) : Calls Tryz.prog 48 #[.int .i64 m, .int .i64 k] w fun e w' => ∃ v, e = .returned v ∧ PartV w' v (pUp m k) ∧ Kept w w' := by
  go_enter Tryz.func48, Tryz.ntmps48
  go_wp2_with fail
  refine bodyPost_ret (part_results (by rfl) _ _ rfl ((Blk.new _ _ _).alloc _)) rfl ⟨_, rfl, ⟨_, _, rfl, ints_one (Blk.at (by simp))⟩, ((Kept.refl w).alloc _).alloc _⟩

/-- What an operation of needs' last row tells. -/
inductive Vk where
  | fn
  | ints (l : List Int)
  | part (p : Pt)
  | parts (l : List Pt)
  | need (n : Ne)
  | needs (l : List Ne)
def Vk.ok : Vk → World → Value → Prop
  | fn, _, v => v = .func (.func 48) #[] #[]
  | ints l, w, v => ∃ a c, v = .slice a l.length c ∧ IntsR w (.slice a l.length c) l
  | part p, w, v => PartV w v p
  | parts l, w, v => ∃ a c, v = .slice a l.length c ∧ PartsR w (.slice a l.length c) l
  | need n, w, v => NeedV w v n
  | needs l, w, v => ∃ a c, v = .slice a l.length c ∧ NeedsR w (.slice a l.length c) l
theorem Vk.kept {k : Vk} {w w' : World} {v : Value} (h : k.ok w v) (hk : Kept w w') : k.ok w' v := by
  cases k with
  | fn => exact h
  | ints l => obtain ⟨a, c, e, h⟩ := h; exact ⟨a, c, e, IntsR.kept h hk⟩
  | part p => exact PartV.kept h hk
  | parts l => obtain ⟨a, c, e, h⟩ := h; exact ⟨a, c, e, PartsR.kept h hk⟩
  | need n => exact NeedV.kept h hk
  | needs l => obtain ⟨a, c, e, h⟩ := h; exact ⟨a, c, e, NeedsR.kept h hk⟩

def paC (q : Pt × Value) : List Value := [q.2, .int .i64 q.1.cnt, .int .i64 q.1.more]
def neC (q : Ne × Value) : List Value := [.int .i64 q.1.text, .int .i64 q.1.typ, .string q.1.words, .int .i64 q.1.most, q.2]
theorem parts_row {w : World} {g : Nat} {t : TypeId} (l : List (Pt × Value)) (h : ∀ q ∈ l, IntsR w q.2 q.1.kinds) (hb : Blk w g t (l.flatMap paC).toArray) (hm : l.length ≤ maxLen) : PartsR w (.slice (some ⟨g, 0, none⟩) (l.map (·.1)).length l.length) (l.map (·.1)) :=
  row_of_blk hb (by simp) hm fun i x hx => by
    rw [List.getElem?_map] at hx
    obtain ⟨q, hq, rfl⟩ := Option.map_eq_some_iff.1 hx
    have e : ∀ j v, (paC q)[j]? = some v → w.cell? ⟨g, i * 3 + j, none⟩ = some v := fun j v hv => by
      have hj : j < 3 := (List.getElem?_eq_some_iff.1 hv).1
      rw [hb.cell (i * 3 + j), List.getElem?_toArray, flat_at paC (fun _ => rfl) l i j q hq hj]
      exact hv
    exact ⟨q.2, e 0 _ rfl, e 1 _ rfl, e 2 _ rfl, h q (List.mem_of_getElem? hq)⟩
theorem needs_row {w : World} {g : Nat} {t : TypeId} (l : List (Ne × Value)) (h : ∀ q ∈ l, PartsR w q.2 q.1.kids) (hb : Blk w g t (l.flatMap neC).toArray) (hm : l.length ≤ maxLen) : NeedsR w (.slice (some ⟨g, 0, none⟩) (l.map (·.1)).length l.length) (l.map (·.1)) :=
  row_of_blk hb (by simp) hm fun i x hx => by
    rw [List.getElem?_map] at hx
    obtain ⟨q, hq, rfl⟩ := Option.map_eq_some_iff.1 hx
    have e : ∀ j v, (neC q)[j]? = some v → w.cell? ⟨g, i * 5 + j, none⟩ = some v := fun j v hv => by
      have hj : j < 5 := (List.getElem?_eq_some_iff.1 hv).1
      rw [hb.cell (i * 5 + j), List.getElem?_toArray, flat_at neC (fun _ => rfl) l i j q hq hj]
      exact hv
    exact ⟨q.2, e 0 _ rfl, e 1 _ rfl, e 2 _ rfl, e 3 _ rfl, e 4 _ rfl, h q (List.mem_of_getElem? hq)⟩

/-- A slot that no operation of the region writes. -/
def noSlot (ops : Array Oper) (t : Tmp) : Bool := (List.range ops.size).all fun j => dstOf ops j != some t
theorem FlowAt.at {ops : Array Oper} {V : Nat → World → Value → Prop} {a0 : Act} {w0 : World} {done : Nat → Prop} {a : Act} {w : World} (h : FlowAt ops V a0 w0 done a w) {t : Tmp} (ht : noSlot ops t = true) : a.tmps[t]? = a0.tmps[t]? := by
  refine h.other t fun j hj => ?_
  simp only [noSlot, List.all_eq_true, List.mem_range, bne_iff_ne] at ht
  rcases Nat.lt_or_ge j ops.size with h' | h'
  · exact ht j h' hj
  · unfold dstOf at hj; rw [Array.getElem?_eq_none h'] at hj; cases hj


def ndVk : List Vk := [.fn, .part (pUp 40 2), .part pBlock, .parts [pUp 40 2, pBlock], .need ⟨0, 0, noW, 0, [pUp 40 2, pBlock]⟩, .fn, .part (pUp 20 3), .fn, .part (pUp 20 4), .parts [pUp 20 3, pUp 20 4], .need ⟨2, 3, noW, 0, [pUp 20 3, pUp 20 4]⟩, .need ⟨1, 4, noW, 0, []⟩, .fn, .part (pUp 8 5), .part pBlock, .parts [pUp 8 5, pBlock], .need ⟨1, 4, noW, 0, [pUp 8 5, pBlock]⟩, .need ⟨1, 4, noW, 0, []⟩, .ints entK, .part pEnt, .parts [pEnt], .need ⟨0, 0, noW, 0, [pEnt]⟩, .need ⟨0, 0, noW, 9223372036854775807, []⟩, .need ⟨6, 0, wNum, 9007199254740992, []⟩, .need ⟨0, 0, noW, 1, []⟩, .need ⟨7, 0, noW, 0, []⟩, .need ⟨0, 0, noW, 0, []⟩, .need ⟨0, 2, noW, 0, []⟩, .need ⟨0, 0, noW, 0, []⟩, .need ⟨1, 0, noW, 0, []⟩, .part pOne, .parts [pOne], .need ⟨1, 4, noW, 0, [pOne]⟩, .part pOne, .parts [pOne], .need ⟨1, 0, noW, 0, [pOne]⟩, .part pOne, .parts [pOne], .need ⟨1, 0, noW, 0, [pOne]⟩, .part pTwo, .parts [pTwo], .need ⟨1, 0, noW, 0, [pTwo]⟩, .part pOne, .part pArgs, .parts [pOne, pArgs], .need ⟨1, 0, noW, 0, [pOne, pArgs]⟩, .part pArgs, .parts [pArgs], .need ⟨1, 0, noW, 0, [pArgs]⟩, .part pArgs, .parts [pArgs], .need ⟨0, 2, noW, 0, [pArgs]⟩, .part pOne, .part pBlock, .part pBlock, .parts [pOne, pBlock, pBlock], .need ⟨0, 0, noW, 0, [pOne, pBlock, pBlock]⟩, .part pOne, .part pBlock, .parts [pOne, pBlock], .need ⟨0, 0, noW, 0, [pOne, pBlock]⟩, .part pOne, .parts [pOne], .need ⟨5, 0, wUn, 0, [pOne]⟩, .part pTwo, .parts [pTwo], .need ⟨5, 0, wBin, 0, [pTwo]⟩, .need ⟨0, 0, noW, 0, []⟩, .part pOne, .parts [pOne], .need ⟨0, 0, noW, 0, [pOne]⟩, .part pOne, .parts [pOne], .need ⟨0, 4, noW, 0, [pOne]⟩, .part pOne, .parts [pOne], .need ⟨5, 0, wConv, 0, [pOne]⟩, .needs needsT, .needs needsT]

set_option maxHeartbeats 16000000 in
theorem needs_c (w : World) : Calls Tryz.prog 32 #[] w fun e w' => ∃ a c, e = .returned (.slice a needsT.length c) ∧ NeedsR w' (.slice a needsT.length c) needsT ∧ Kept w w' := by
  obtain ⟨i0, hi, hz0, hzz1, hzz2⟩ := info_parts info_int
  have HX := Lib.hid (fun W => expr_c W)
  have hel : exprK.length ≤ 30 := exU_len 30
  go_enter Tryz.func32, Tryz.ntmps32
  go_wp2_with fail
  refine (HX.out w).mono ?_
  rintro e w1 ⟨a1, c1, rfl, ho1, k1⟩
  have HO1 := Lib.hid ho1
  have HK1 := Lib.hid k1
  clear ho1 k1
  go_wp2_with fail
  refine (HX.out w1).mono ?_
  rintro e w2 ⟨a2, c2, rfl, ho2, k2⟩
  obtain ⟨W3, hW3⟩ : ∃ W3, w2.alloc (.cells #[.int .i64 15] 3) = W3 := ⟨_, rfl⟩
  have k3 : Kept w2 W3 := by rw [← hW3]; exact (Kept.refl w2).alloc _
  have b3 : Blk W3 w2.heap.size 3 #[.int .i64 15] := by rw [← hW3]; exact Blk.new w2 _ _
  have HSR := Lib.hid (src_int b3)
  have HR3 := Lib.hid (owns_kept ho2 k3)
  have HK3 := Lib.hid (k2.trans k3)
  have hz3 : w1.heap.size ≤ W3.heap.size := HK3.out.size
  have HW3 := Lib.hid hW3
  clear hW3 k3 b3 ho2 k2
  go_wp2_with (first | rw [HW3.out] | (at_builtin; refine wpList_apk rfl (.tmp 9) (.tmp 10) 100 100 rfl w1.heap.size 1 3 i0 _ 8 Tryz.underlying100 hi hz0 hzz1 hzz2 rfl rfl HR3.out rfl HSR.out (by unfold maxLen; omega) (by omega) hz3 ?_; intro v4 w4 hown' hgrow hlies; have HN := Lib.hid (ints_of_owns (l := entK) (by simpa [entK, List.flatMap_append] using hown')); have HK4 := Lib.hid (HK3.out.grown hgrow fun k e => rown_ge HR3.out e); obtain ⟨a4, c4, rfl⟩ := slice_of_owns hown'; clear hown' hgrow hlies))
  obtain ⟨n, hn⟩ : ∃ n, exprK.length = n := ⟨_, rfl⟩
  have HI1 := Lib.hid (IntsR.kept (ints_of_owns HO1.out) HK4.out)
  obtain ⟨W8, hW8⟩ : ∃ W8, ((((w4.alloc (.cells #[.slice a1 exprK.length c1, .int .i64 1, .int .i64 0] 103)).alloc (.cells #[.slice a1 exprK.length c1, .int .i64 2, .int .i64 0] 103)).alloc (.cells #[.slice a1 exprK.length c1, .int .i64 0, .int .i64 8] 103)).alloc (.cells #[.int .i64 6] 3)).alloc (.cells #[.slice (some ⟨w4.heap.size + 3, 0, none⟩) 1 1, .int .i64 1, .int .i64 0] 103) = W8 := ⟨_, rfl⟩
  have hk8 : Kept w4 W8 := by rw [← hW8]; exact (((((Kept.refl w4).alloc _).alloc _).alloc _).alloc _).alloc _
  have HB3 := Lib.hid (show Blk W8.drew w4.heap.size 103 #[.slice a1 exprK.length c1, .int .i64 1, .int .i64 0] by rw [← hW8]; exact ((((Blk.new w4 _ _).alloc _).alloc _).alloc _).alloc _)
  have HB4 := Lib.hid (show Blk W8.drew (w4.heap.size + 1) 103 #[.slice a1 exprK.length c1, .int .i64 2, .int .i64 0] by rw [← hW8]; exact (((Blk.at (by simp)).alloc _).alloc _).alloc _)
  have HB5 := Lib.hid (show Blk W8.drew (w4.heap.size + 2) 103 #[.slice a1 exprK.length c1, .int .i64 0, .int .i64 8] by rw [← hW8]; exact ((Blk.at (by simp)).alloc _).alloc _)
  have hb6i : Blk W8.drew (w4.heap.size + 3) 3 #[.int .i64 6] := by rw [← hW8]; exact (Blk.at (by simp)).alloc _
  have HB6 := Lib.hid (show Blk W8.drew (w4.heap.size + 4) 103 #[.slice (some ⟨w4.heap.size + 3, 0, none⟩) 1 1, .int .i64 1, .int .i64 0] by rw [← hW8]; exact Blk.at (by simp))
  have HI3 := Lib.hid (IntsR.kept HI1.out hk8.drew)
  have HI4 := HI3
  have HI5 := HI3
  have HI6 := Lib.hid (ints_one hb6i)
  have HEN := Lib.hid (IntsR.kept HN.out hk8.drew)
  have HKW := Lib.hid (((HK1.out.trans HK4.out).trans hk8).drew)
  have HW8 := Lib.hid hW8
  clear hW8 hk8 hb6i HI1 HN HK1 HK3 HK4 HO1 hn
  go_wp2_with fail
  rw [HW8.out]
  refine flow_region (V := fun i w v => (ndVk.getD i .fn).ok w v) (by kernel_rfl) (fun i w w' v h hk => Vk.kept h hk) (by kernel_rfl) (by kernel_rfl) ?step ?done
  case done =>
    intro a w' hF
    obtain ⟨na, nc, he, hn⟩ := show Vk.ok (.needs needsT) w' _ from hF.vals 78 0 (of_decide_eq_true (by kernel_rfl)) (by kernel_rfl)
    have hdf := hF.defers
    obtain ⟨tm, df⟩ := a
    dsimp only at he hdf
    subst hdf
    go_wp2_with fail
    refine bodyPost_ret (results_tmp rfl _ _ _) rfl ?_
    exact ⟨na, nc, by simp [he], hn, HKW.out.trans hF.kept⟩
  case step =>
    intro i o ho a w' hF K hK
    match i, ho, hF, hK with
    | 0, ho, hF, hK =>
      obtain rfl := Option.some.inj ho
      have h7 := hF.at (t := 7) (by kernel_rfl)
      simp only [List.getElem?_toArray, List.getElem?_cons_zero, List.getElem?_cons_succ] at h7
      go_simp
      exact hK _ _ rfl (Kept.refl _)
    | 1, ho, hF, hK =>
      obtain rfl := Option.some.inj ho
      have h1 := hF.vals 0 20 (by kernel_rfl) (by kernel_rfl)
      change _ = _ at h1
      go_simp
      refine (up_c 40 2 w').mono ?_
      rintro e w2 ⟨v, rfl, hp, hk⟩
      exact hK _ _ hp hk
    | 2, ho, hF, hK =>
      obtain rfl := Option.some.inj ho
      have h1 := hF.at (t := 6) (by kernel_rfl)
      simp only [List.getElem?_toArray, List.getElem?_cons_zero, List.getElem?_cons_succ] at h1
      have hb := HB6.out.kept hF.kept
      have c0 := hb.cell 0
      have c1 := hb.cell 1
      have c2 := hb.cell 2
      simp only [List.getElem?_toArray, List.getElem?_cons_zero, List.getElem?_cons_succ] at c0 c1 c2
      go_simp
      exact hK _ _ ⟨_, _, rfl, IntsR.kept HI6.out hF.kept⟩ (Kept.refl _)
    | 3, ho, hF, hK =>
      obtain rfl := Option.some.inj ho
      obtain ⟨a0, c0, e0, i0⟩ : PartV w' _ (pUp 40 2) := hF.vals 1 21 (by kernel_rfl) (by kernel_rfl)
      obtain ⟨a1, c1, e1, i1⟩ : PartV w' _ (pBlock) := hF.vals 2 22 (by kernel_rfl) (by kernel_rfl)
      go_simp
      refine hK _ _ ⟨_, _, rfl, parts_row [(pUp 40 2, .slice a0 (pUp 40 2).kinds.length c0), (pBlock, .slice a1 (pBlock).kinds.length c1)] (fun q hq => ?_) (Blk.new w' _ _) (by show 2 ≤ maxLen; decide)⟩ ((Kept.refl w').alloc _)
      simp only [List.mem_cons, List.not_mem_nil, or_false] at hq
      rcases hq with rfl | rfl
      · exact IntsR.kept i0 ((Kept.refl w').alloc _)
      · exact IntsR.kept i1 ((Kept.refl w').alloc _)
    | 4, ho, hF, hK =>
      obtain rfl := Option.some.inj ho
      obtain ⟨ka, kc, he, hp⟩ := show Vk.ok (.parts [pUp 40 2, pBlock]) w' _ from hF.vals 3 23 (by kernel_rfl) (by kernel_rfl)
      go_simp
      exact hK _ _ ⟨ka, kc, rfl, hp⟩ (Kept.refl _)
    | 5, ho, hF, hK =>
      obtain rfl := Option.some.inj ho
      have h7 := hF.at (t := 7) (by kernel_rfl)
      simp only [List.getElem?_toArray, List.getElem?_cons_zero, List.getElem?_cons_succ] at h7
      go_simp
      exact hK _ _ rfl (Kept.refl _)
    | 6, ho, hF, hK =>
      obtain rfl := Option.some.inj ho
      have h1 := hF.vals 5 25 (by kernel_rfl) (by kernel_rfl)
      change _ = _ at h1
      go_simp
      refine (up_c 20 3 w').mono ?_
      rintro e w2 ⟨v, rfl, hp, hk⟩
      exact hK _ _ hp hk
    | 7, ho, hF, hK =>
      obtain rfl := Option.some.inj ho
      have h7 := hF.at (t := 7) (by kernel_rfl)
      simp only [List.getElem?_toArray, List.getElem?_cons_zero, List.getElem?_cons_succ] at h7
      go_simp
      exact hK _ _ rfl (Kept.refl _)
    | 8, ho, hF, hK =>
      obtain rfl := Option.some.inj ho
      have h1 := hF.vals 7 27 (by kernel_rfl) (by kernel_rfl)
      change _ = _ at h1
      go_simp
      refine (up_c 20 4 w').mono ?_
      rintro e w2 ⟨v, rfl, hp, hk⟩
      exact hK _ _ hp hk
    | 9, ho, hF, hK =>
      obtain rfl := Option.some.inj ho
      obtain ⟨a0, c0, e0, i0⟩ : PartV w' _ (pUp 20 3) := hF.vals 6 26 (by kernel_rfl) (by kernel_rfl)
      obtain ⟨a1, c1, e1, i1⟩ : PartV w' _ (pUp 20 4) := hF.vals 8 28 (by kernel_rfl) (by kernel_rfl)
      go_simp
      refine hK _ _ ⟨_, _, rfl, parts_row [(pUp 20 3, .slice a0 (pUp 20 3).kinds.length c0), (pUp 20 4, .slice a1 (pUp 20 4).kinds.length c1)] (fun q hq => ?_) (Blk.new w' _ _) (by show 2 ≤ maxLen; decide)⟩ ((Kept.refl w').alloc _)
      simp only [List.mem_cons, List.not_mem_nil, or_false] at hq
      rcases hq with rfl | rfl
      · exact IntsR.kept i0 ((Kept.refl w').alloc _)
      · exact IntsR.kept i1 ((Kept.refl w').alloc _)
    | 10, ho, hF, hK =>
      obtain rfl := Option.some.inj ho
      obtain ⟨ka, kc, he, hp⟩ := show Vk.ok (.parts [pUp 20 3, pUp 20 4]) w' _ from hF.vals 9 29 (by kernel_rfl) (by kernel_rfl)
      go_simp
      exact hK _ _ ⟨ka, kc, rfl, hp⟩ (Kept.refl _)
    | 11, ho, hF, hK =>
      obtain rfl := Option.some.inj ho
      go_simp
      exact hK _ _ ⟨none, 0, rfl, Row.nil⟩ (Kept.refl _)
    | 12, ho, hF, hK =>
      obtain rfl := Option.some.inj ho
      have h7 := hF.at (t := 7) (by kernel_rfl)
      simp only [List.getElem?_toArray, List.getElem?_cons_zero, List.getElem?_cons_succ] at h7
      go_simp
      exact hK _ _ rfl (Kept.refl _)
    | 13, ho, hF, hK =>
      obtain rfl := Option.some.inj ho
      have h1 := hF.vals 12 32 (by kernel_rfl) (by kernel_rfl)
      change _ = _ at h1
      go_simp
      refine (up_c 8 5 w').mono ?_
      rintro e w2 ⟨v, rfl, hp, hk⟩
      exact hK _ _ hp hk
    | 14, ho, hF, hK =>
      obtain rfl := Option.some.inj ho
      have h1 := hF.at (t := 6) (by kernel_rfl)
      simp only [List.getElem?_toArray, List.getElem?_cons_zero, List.getElem?_cons_succ] at h1
      have hb := HB6.out.kept hF.kept
      have c0 := hb.cell 0
      have c1 := hb.cell 1
      have c2 := hb.cell 2
      simp only [List.getElem?_toArray, List.getElem?_cons_zero, List.getElem?_cons_succ] at c0 c1 c2
      go_simp
      exact hK _ _ ⟨_, _, rfl, IntsR.kept HI6.out hF.kept⟩ (Kept.refl _)
    | 15, ho, hF, hK =>
      obtain rfl := Option.some.inj ho
      obtain ⟨a0, c0, e0, i0⟩ : PartV w' _ (pUp 8 5) := hF.vals 13 33 (by kernel_rfl) (by kernel_rfl)
      obtain ⟨a1, c1, e1, i1⟩ : PartV w' _ (pBlock) := hF.vals 14 34 (by kernel_rfl) (by kernel_rfl)
      go_simp
      refine hK _ _ ⟨_, _, rfl, parts_row [(pUp 8 5, .slice a0 (pUp 8 5).kinds.length c0), (pBlock, .slice a1 (pBlock).kinds.length c1)] (fun q hq => ?_) (Blk.new w' _ _) (by show 2 ≤ maxLen; decide)⟩ ((Kept.refl w').alloc _)
      simp only [List.mem_cons, List.not_mem_nil, or_false] at hq
      rcases hq with rfl | rfl
      · exact IntsR.kept i0 ((Kept.refl w').alloc _)
      · exact IntsR.kept i1 ((Kept.refl w').alloc _)
    | 16, ho, hF, hK =>
      obtain rfl := Option.some.inj ho
      obtain ⟨ka, kc, he, hp⟩ := show Vk.ok (.parts [pUp 8 5, pBlock]) w' _ from hF.vals 15 35 (by kernel_rfl) (by kernel_rfl)
      go_simp
      exact hK _ _ ⟨ka, kc, rfl, hp⟩ (Kept.refl _)
    | 17, ho, hF, hK =>
      obtain rfl := Option.some.inj ho
      go_simp
      exact hK _ _ ⟨none, 0, rfl, Row.nil⟩ (Kept.refl _)
    | 18, ho, hF, hK =>
      obtain rfl := Option.some.inj ho
      have h2 := hF.at (t := 2) (by kernel_rfl)
      simp only [List.getElem?_toArray, List.getElem?_cons_zero, List.getElem?_cons_succ] at h2
      go_simp
      exact hK _ _ ⟨_, _, rfl, IntsR.kept HEN.out hF.kept⟩ (Kept.refl _)
    | 19, ho, hF, hK =>
      obtain rfl := Option.some.inj ho
      obtain ⟨ea, ec, he, hi⟩ := show Vk.ok (.ints entK) w' _ from hF.vals 18 38 (by kernel_rfl) (by kernel_rfl)
      go_simp
      exact hK _ _ ⟨ea, ec, rfl, hi⟩ (Kept.refl _)
    | 20, ho, hF, hK =>
      obtain rfl := Option.some.inj ho
      obtain ⟨a0, c0, e0, i0⟩ : PartV w' _ (pEnt) := hF.vals 19 39 (by kernel_rfl) (by kernel_rfl)
      go_simp
      refine hK _ _ ⟨_, _, rfl, parts_row [(pEnt, .slice a0 (pEnt).kinds.length c0)] (fun q hq => ?_) (Blk.new w' _ _) (by show 1 ≤ maxLen; decide)⟩ ((Kept.refl w').alloc _)
      simp only [List.mem_cons, List.not_mem_nil, or_false] at hq
      rcases hq with rfl
      · exact IntsR.kept i0 ((Kept.refl w').alloc _)
    | 21, ho, hF, hK =>
      obtain rfl := Option.some.inj ho
      obtain ⟨ka, kc, he, hp⟩ := show Vk.ok (.parts [pEnt]) w' _ from hF.vals 20 40 (by kernel_rfl) (by kernel_rfl)
      go_simp
      exact hK _ _ ⟨ka, kc, rfl, hp⟩ (Kept.refl _)
    | 22, ho, hF, hK =>
      obtain rfl := Option.some.inj ho
      go_simp
      exact hK _ _ ⟨none, 0, rfl, Row.nil⟩ (Kept.refl _)
    | 23, ho, hF, hK =>
      obtain rfl := Option.some.inj ho
      go_simp
      exact hK _ _ ⟨none, 0, rfl, Row.nil⟩ (Kept.refl _)
    | 24, ho, hF, hK =>
      obtain rfl := Option.some.inj ho
      go_simp
      exact hK _ _ ⟨none, 0, rfl, Row.nil⟩ (Kept.refl _)
    | 25, ho, hF, hK =>
      obtain rfl := Option.some.inj ho
      go_simp
      exact hK _ _ ⟨none, 0, rfl, Row.nil⟩ (Kept.refl _)
    | 26, ho, hF, hK =>
      obtain rfl := Option.some.inj ho
      go_simp
      exact hK _ _ ⟨none, 0, rfl, Row.nil⟩ (Kept.refl _)
    | 27, ho, hF, hK =>
      obtain rfl := Option.some.inj ho
      go_simp
      exact hK _ _ ⟨none, 0, rfl, Row.nil⟩ (Kept.refl _)
    | 28, ho, hF, hK =>
      obtain rfl := Option.some.inj ho
      go_simp
      exact hK _ _ ⟨none, 0, rfl, Row.nil⟩ (Kept.refl _)
    | 29, ho, hF, hK =>
      obtain rfl := Option.some.inj ho
      go_simp
      exact hK _ _ ⟨none, 0, rfl, Row.nil⟩ (Kept.refl _)
    | 30, ho, hF, hK =>
      obtain rfl := Option.some.inj ho
      have h1 := hF.at (t := 3) (by kernel_rfl)
      simp only [List.getElem?_toArray, List.getElem?_cons_zero, List.getElem?_cons_succ] at h1
      have hb := HB3.out.kept hF.kept
      have c0 := hb.cell 0
      have c1 := hb.cell 1
      have c2 := hb.cell 2
      simp only [List.getElem?_toArray, List.getElem?_cons_zero, List.getElem?_cons_succ] at c0 c1 c2
      go_simp
      exact hK _ _ ⟨_, _, rfl, IntsR.kept HI3.out hF.kept⟩ (Kept.refl _)
    | 31, ho, hF, hK =>
      obtain rfl := Option.some.inj ho
      obtain ⟨a0, c0, e0, i0⟩ : PartV w' _ (pOne) := hF.vals 30 50 (by kernel_rfl) (by kernel_rfl)
      go_simp
      refine hK _ _ ⟨_, _, rfl, parts_row [(pOne, .slice a0 (pOne).kinds.length c0)] (fun q hq => ?_) (Blk.new w' _ _) (by show 1 ≤ maxLen; decide)⟩ ((Kept.refl w').alloc _)
      simp only [List.mem_cons, List.not_mem_nil, or_false] at hq
      rcases hq with rfl
      · exact IntsR.kept i0 ((Kept.refl w').alloc _)
    | 32, ho, hF, hK =>
      obtain rfl := Option.some.inj ho
      obtain ⟨ka, kc, he, hp⟩ := show Vk.ok (.parts [pOne]) w' _ from hF.vals 31 51 (by kernel_rfl) (by kernel_rfl)
      go_simp
      exact hK _ _ ⟨ka, kc, rfl, hp⟩ (Kept.refl _)
    | 33, ho, hF, hK =>
      obtain rfl := Option.some.inj ho
      have h1 := hF.at (t := 3) (by kernel_rfl)
      simp only [List.getElem?_toArray, List.getElem?_cons_zero, List.getElem?_cons_succ] at h1
      have hb := HB3.out.kept hF.kept
      have c0 := hb.cell 0
      have c1 := hb.cell 1
      have c2 := hb.cell 2
      simp only [List.getElem?_toArray, List.getElem?_cons_zero, List.getElem?_cons_succ] at c0 c1 c2
      go_simp
      exact hK _ _ ⟨_, _, rfl, IntsR.kept HI3.out hF.kept⟩ (Kept.refl _)
    | 34, ho, hF, hK =>
      obtain rfl := Option.some.inj ho
      obtain ⟨a0, c0, e0, i0⟩ : PartV w' _ (pOne) := hF.vals 33 53 (by kernel_rfl) (by kernel_rfl)
      go_simp
      refine hK _ _ ⟨_, _, rfl, parts_row [(pOne, .slice a0 (pOne).kinds.length c0)] (fun q hq => ?_) (Blk.new w' _ _) (by show 1 ≤ maxLen; decide)⟩ ((Kept.refl w').alloc _)
      simp only [List.mem_cons, List.not_mem_nil, or_false] at hq
      rcases hq with rfl
      · exact IntsR.kept i0 ((Kept.refl w').alloc _)
    | 35, ho, hF, hK =>
      obtain rfl := Option.some.inj ho
      obtain ⟨ka, kc, he, hp⟩ := show Vk.ok (.parts [pOne]) w' _ from hF.vals 34 54 (by kernel_rfl) (by kernel_rfl)
      go_simp
      exact hK _ _ ⟨ka, kc, rfl, hp⟩ (Kept.refl _)
    | 36, ho, hF, hK =>
      obtain rfl := Option.some.inj ho
      have h1 := hF.at (t := 3) (by kernel_rfl)
      simp only [List.getElem?_toArray, List.getElem?_cons_zero, List.getElem?_cons_succ] at h1
      have hb := HB3.out.kept hF.kept
      have c0 := hb.cell 0
      have c1 := hb.cell 1
      have c2 := hb.cell 2
      simp only [List.getElem?_toArray, List.getElem?_cons_zero, List.getElem?_cons_succ] at c0 c1 c2
      go_simp
      exact hK _ _ ⟨_, _, rfl, IntsR.kept HI3.out hF.kept⟩ (Kept.refl _)
    | 37, ho, hF, hK =>
      obtain rfl := Option.some.inj ho
      obtain ⟨a0, c0, e0, i0⟩ : PartV w' _ (pOne) := hF.vals 36 56 (by kernel_rfl) (by kernel_rfl)
      go_simp
      refine hK _ _ ⟨_, _, rfl, parts_row [(pOne, .slice a0 (pOne).kinds.length c0)] (fun q hq => ?_) (Blk.new w' _ _) (by show 1 ≤ maxLen; decide)⟩ ((Kept.refl w').alloc _)
      simp only [List.mem_cons, List.not_mem_nil, or_false] at hq
      rcases hq with rfl
      · exact IntsR.kept i0 ((Kept.refl w').alloc _)
    | 38, ho, hF, hK =>
      obtain rfl := Option.some.inj ho
      obtain ⟨ka, kc, he, hp⟩ := show Vk.ok (.parts [pOne]) w' _ from hF.vals 37 57 (by kernel_rfl) (by kernel_rfl)
      go_simp
      exact hK _ _ ⟨ka, kc, rfl, hp⟩ (Kept.refl _)
    | 39, ho, hF, hK =>
      obtain rfl := Option.some.inj ho
      have h1 := hF.at (t := 4) (by kernel_rfl)
      simp only [List.getElem?_toArray, List.getElem?_cons_zero, List.getElem?_cons_succ] at h1
      have hb := HB4.out.kept hF.kept
      have c0 := hb.cell 0
      have c1 := hb.cell 1
      have c2 := hb.cell 2
      simp only [List.getElem?_toArray, List.getElem?_cons_zero, List.getElem?_cons_succ] at c0 c1 c2
      go_simp
      exact hK _ _ ⟨_, _, rfl, IntsR.kept HI4.out hF.kept⟩ (Kept.refl _)
    | 40, ho, hF, hK =>
      obtain rfl := Option.some.inj ho
      obtain ⟨a0, c0, e0, i0⟩ : PartV w' _ (pTwo) := hF.vals 39 59 (by kernel_rfl) (by kernel_rfl)
      go_simp
      refine hK _ _ ⟨_, _, rfl, parts_row [(pTwo, .slice a0 (pTwo).kinds.length c0)] (fun q hq => ?_) (Blk.new w' _ _) (by show 1 ≤ maxLen; decide)⟩ ((Kept.refl w').alloc _)
      simp only [List.mem_cons, List.not_mem_nil, or_false] at hq
      rcases hq with rfl
      · exact IntsR.kept i0 ((Kept.refl w').alloc _)
    | 41, ho, hF, hK =>
      obtain rfl := Option.some.inj ho
      obtain ⟨ka, kc, he, hp⟩ := show Vk.ok (.parts [pTwo]) w' _ from hF.vals 40 60 (by kernel_rfl) (by kernel_rfl)
      go_simp
      exact hK _ _ ⟨ka, kc, rfl, hp⟩ (Kept.refl _)
    | 42, ho, hF, hK =>
      obtain rfl := Option.some.inj ho
      have h1 := hF.at (t := 3) (by kernel_rfl)
      simp only [List.getElem?_toArray, List.getElem?_cons_zero, List.getElem?_cons_succ] at h1
      have hb := HB3.out.kept hF.kept
      have c0 := hb.cell 0
      have c1 := hb.cell 1
      have c2 := hb.cell 2
      simp only [List.getElem?_toArray, List.getElem?_cons_zero, List.getElem?_cons_succ] at c0 c1 c2
      go_simp
      exact hK _ _ ⟨_, _, rfl, IntsR.kept HI3.out hF.kept⟩ (Kept.refl _)
    | 43, ho, hF, hK =>
      obtain rfl := Option.some.inj ho
      have h1 := hF.at (t := 5) (by kernel_rfl)
      simp only [List.getElem?_toArray, List.getElem?_cons_zero, List.getElem?_cons_succ] at h1
      have hb := HB5.out.kept hF.kept
      have c0 := hb.cell 0
      have c1 := hb.cell 1
      have c2 := hb.cell 2
      simp only [List.getElem?_toArray, List.getElem?_cons_zero, List.getElem?_cons_succ] at c0 c1 c2
      go_simp
      exact hK _ _ ⟨_, _, rfl, IntsR.kept HI5.out hF.kept⟩ (Kept.refl _)
    | 44, ho, hF, hK =>
      obtain rfl := Option.some.inj ho
      obtain ⟨a0, c0, e0, i0⟩ : PartV w' _ (pOne) := hF.vals 42 62 (by kernel_rfl) (by kernel_rfl)
      obtain ⟨a1, c1, e1, i1⟩ : PartV w' _ (pArgs) := hF.vals 43 63 (by kernel_rfl) (by kernel_rfl)
      go_simp
      refine hK _ _ ⟨_, _, rfl, parts_row [(pOne, .slice a0 (pOne).kinds.length c0), (pArgs, .slice a1 (pArgs).kinds.length c1)] (fun q hq => ?_) (Blk.new w' _ _) (by show 2 ≤ maxLen; decide)⟩ ((Kept.refl w').alloc _)
      simp only [List.mem_cons, List.not_mem_nil, or_false] at hq
      rcases hq with rfl | rfl
      · exact IntsR.kept i0 ((Kept.refl w').alloc _)
      · exact IntsR.kept i1 ((Kept.refl w').alloc _)
    | 45, ho, hF, hK =>
      obtain rfl := Option.some.inj ho
      obtain ⟨ka, kc, he, hp⟩ := show Vk.ok (.parts [pOne, pArgs]) w' _ from hF.vals 44 64 (by kernel_rfl) (by kernel_rfl)
      go_simp
      exact hK _ _ ⟨ka, kc, rfl, hp⟩ (Kept.refl _)
    | 46, ho, hF, hK =>
      obtain rfl := Option.some.inj ho
      have h1 := hF.at (t := 5) (by kernel_rfl)
      simp only [List.getElem?_toArray, List.getElem?_cons_zero, List.getElem?_cons_succ] at h1
      have hb := HB5.out.kept hF.kept
      have c0 := hb.cell 0
      have c1 := hb.cell 1
      have c2 := hb.cell 2
      simp only [List.getElem?_toArray, List.getElem?_cons_zero, List.getElem?_cons_succ] at c0 c1 c2
      go_simp
      exact hK _ _ ⟨_, _, rfl, IntsR.kept HI5.out hF.kept⟩ (Kept.refl _)
    | 47, ho, hF, hK =>
      obtain rfl := Option.some.inj ho
      obtain ⟨a0, c0, e0, i0⟩ : PartV w' _ (pArgs) := hF.vals 46 66 (by kernel_rfl) (by kernel_rfl)
      go_simp
      refine hK _ _ ⟨_, _, rfl, parts_row [(pArgs, .slice a0 (pArgs).kinds.length c0)] (fun q hq => ?_) (Blk.new w' _ _) (by show 1 ≤ maxLen; decide)⟩ ((Kept.refl w').alloc _)
      simp only [List.mem_cons, List.not_mem_nil, or_false] at hq
      rcases hq with rfl
      · exact IntsR.kept i0 ((Kept.refl w').alloc _)
    | 48, ho, hF, hK =>
      obtain rfl := Option.some.inj ho
      obtain ⟨ka, kc, he, hp⟩ := show Vk.ok (.parts [pArgs]) w' _ from hF.vals 47 67 (by kernel_rfl) (by kernel_rfl)
      go_simp
      exact hK _ _ ⟨ka, kc, rfl, hp⟩ (Kept.refl _)
    | 49, ho, hF, hK =>
      obtain rfl := Option.some.inj ho
      have h1 := hF.at (t := 5) (by kernel_rfl)
      simp only [List.getElem?_toArray, List.getElem?_cons_zero, List.getElem?_cons_succ] at h1
      have hb := HB5.out.kept hF.kept
      have c0 := hb.cell 0
      have c1 := hb.cell 1
      have c2 := hb.cell 2
      simp only [List.getElem?_toArray, List.getElem?_cons_zero, List.getElem?_cons_succ] at c0 c1 c2
      go_simp
      exact hK _ _ ⟨_, _, rfl, IntsR.kept HI5.out hF.kept⟩ (Kept.refl _)
    | 50, ho, hF, hK =>
      obtain rfl := Option.some.inj ho
      obtain ⟨a0, c0, e0, i0⟩ : PartV w' _ (pArgs) := hF.vals 49 69 (by kernel_rfl) (by kernel_rfl)
      go_simp
      refine hK _ _ ⟨_, _, rfl, parts_row [(pArgs, .slice a0 (pArgs).kinds.length c0)] (fun q hq => ?_) (Blk.new w' _ _) (by show 1 ≤ maxLen; decide)⟩ ((Kept.refl w').alloc _)
      simp only [List.mem_cons, List.not_mem_nil, or_false] at hq
      rcases hq with rfl
      · exact IntsR.kept i0 ((Kept.refl w').alloc _)
    | 51, ho, hF, hK =>
      obtain rfl := Option.some.inj ho
      obtain ⟨ka, kc, he, hp⟩ := show Vk.ok (.parts [pArgs]) w' _ from hF.vals 50 70 (by kernel_rfl) (by kernel_rfl)
      go_simp
      exact hK _ _ ⟨ka, kc, rfl, hp⟩ (Kept.refl _)
    | 52, ho, hF, hK =>
      obtain rfl := Option.some.inj ho
      have h1 := hF.at (t := 3) (by kernel_rfl)
      simp only [List.getElem?_toArray, List.getElem?_cons_zero, List.getElem?_cons_succ] at h1
      have hb := HB3.out.kept hF.kept
      have c0 := hb.cell 0
      have c1 := hb.cell 1
      have c2 := hb.cell 2
      simp only [List.getElem?_toArray, List.getElem?_cons_zero, List.getElem?_cons_succ] at c0 c1 c2
      go_simp
      exact hK _ _ ⟨_, _, rfl, IntsR.kept HI3.out hF.kept⟩ (Kept.refl _)
    | 53, ho, hF, hK =>
      obtain rfl := Option.some.inj ho
      have h1 := hF.at (t := 6) (by kernel_rfl)
      simp only [List.getElem?_toArray, List.getElem?_cons_zero, List.getElem?_cons_succ] at h1
      have hb := HB6.out.kept hF.kept
      have c0 := hb.cell 0
      have c1 := hb.cell 1
      have c2 := hb.cell 2
      simp only [List.getElem?_toArray, List.getElem?_cons_zero, List.getElem?_cons_succ] at c0 c1 c2
      go_simp
      exact hK _ _ ⟨_, _, rfl, IntsR.kept HI6.out hF.kept⟩ (Kept.refl _)
    | 54, ho, hF, hK =>
      obtain rfl := Option.some.inj ho
      have h1 := hF.at (t := 6) (by kernel_rfl)
      simp only [List.getElem?_toArray, List.getElem?_cons_zero, List.getElem?_cons_succ] at h1
      have hb := HB6.out.kept hF.kept
      have c0 := hb.cell 0
      have c1 := hb.cell 1
      have c2 := hb.cell 2
      simp only [List.getElem?_toArray, List.getElem?_cons_zero, List.getElem?_cons_succ] at c0 c1 c2
      go_simp
      exact hK _ _ ⟨_, _, rfl, IntsR.kept HI6.out hF.kept⟩ (Kept.refl _)
    | 55, ho, hF, hK =>
      obtain rfl := Option.some.inj ho
      obtain ⟨a0, c0, e0, i0⟩ : PartV w' _ (pOne) := hF.vals 52 72 (by kernel_rfl) (by kernel_rfl)
      obtain ⟨a1, c1, e1, i1⟩ : PartV w' _ (pBlock) := hF.vals 53 73 (by kernel_rfl) (by kernel_rfl)
      obtain ⟨a2, c2, e2, i2⟩ : PartV w' _ (pBlock) := hF.vals 54 74 (by kernel_rfl) (by kernel_rfl)
      go_simp
      refine hK _ _ ⟨_, _, rfl, parts_row [(pOne, .slice a0 (pOne).kinds.length c0), (pBlock, .slice a1 (pBlock).kinds.length c1), (pBlock, .slice a2 (pBlock).kinds.length c2)] (fun q hq => ?_) (Blk.new w' _ _) (by show 3 ≤ maxLen; decide)⟩ ((Kept.refl w').alloc _)
      simp only [List.mem_cons, List.not_mem_nil, or_false] at hq
      rcases hq with rfl | rfl | rfl
      · exact IntsR.kept i0 ((Kept.refl w').alloc _)
      · exact IntsR.kept i1 ((Kept.refl w').alloc _)
      · exact IntsR.kept i2 ((Kept.refl w').alloc _)
    | 56, ho, hF, hK =>
      obtain rfl := Option.some.inj ho
      obtain ⟨ka, kc, he, hp⟩ := show Vk.ok (.parts [pOne, pBlock, pBlock]) w' _ from hF.vals 55 75 (by kernel_rfl) (by kernel_rfl)
      go_simp
      exact hK _ _ ⟨ka, kc, rfl, hp⟩ (Kept.refl _)
    | 57, ho, hF, hK =>
      obtain rfl := Option.some.inj ho
      have h1 := hF.at (t := 3) (by kernel_rfl)
      simp only [List.getElem?_toArray, List.getElem?_cons_zero, List.getElem?_cons_succ] at h1
      have hb := HB3.out.kept hF.kept
      have c0 := hb.cell 0
      have c1 := hb.cell 1
      have c2 := hb.cell 2
      simp only [List.getElem?_toArray, List.getElem?_cons_zero, List.getElem?_cons_succ] at c0 c1 c2
      go_simp
      exact hK _ _ ⟨_, _, rfl, IntsR.kept HI3.out hF.kept⟩ (Kept.refl _)
    | 58, ho, hF, hK =>
      obtain rfl := Option.some.inj ho
      have h1 := hF.at (t := 6) (by kernel_rfl)
      simp only [List.getElem?_toArray, List.getElem?_cons_zero, List.getElem?_cons_succ] at h1
      have hb := HB6.out.kept hF.kept
      have c0 := hb.cell 0
      have c1 := hb.cell 1
      have c2 := hb.cell 2
      simp only [List.getElem?_toArray, List.getElem?_cons_zero, List.getElem?_cons_succ] at c0 c1 c2
      go_simp
      exact hK _ _ ⟨_, _, rfl, IntsR.kept HI6.out hF.kept⟩ (Kept.refl _)
    | 59, ho, hF, hK =>
      obtain rfl := Option.some.inj ho
      obtain ⟨a0, c0, e0, i0⟩ : PartV w' _ (pOne) := hF.vals 57 77 (by kernel_rfl) (by kernel_rfl)
      obtain ⟨a1, c1, e1, i1⟩ : PartV w' _ (pBlock) := hF.vals 58 78 (by kernel_rfl) (by kernel_rfl)
      go_simp
      refine hK _ _ ⟨_, _, rfl, parts_row [(pOne, .slice a0 (pOne).kinds.length c0), (pBlock, .slice a1 (pBlock).kinds.length c1)] (fun q hq => ?_) (Blk.new w' _ _) (by show 2 ≤ maxLen; decide)⟩ ((Kept.refl w').alloc _)
      simp only [List.mem_cons, List.not_mem_nil, or_false] at hq
      rcases hq with rfl | rfl
      · exact IntsR.kept i0 ((Kept.refl w').alloc _)
      · exact IntsR.kept i1 ((Kept.refl w').alloc _)
    | 60, ho, hF, hK =>
      obtain rfl := Option.some.inj ho
      obtain ⟨ka, kc, he, hp⟩ := show Vk.ok (.parts [pOne, pBlock]) w' _ from hF.vals 59 79 (by kernel_rfl) (by kernel_rfl)
      go_simp
      exact hK _ _ ⟨ka, kc, rfl, hp⟩ (Kept.refl _)
    | 61, ho, hF, hK =>
      obtain rfl := Option.some.inj ho
      have h1 := hF.at (t := 3) (by kernel_rfl)
      simp only [List.getElem?_toArray, List.getElem?_cons_zero, List.getElem?_cons_succ] at h1
      have hb := HB3.out.kept hF.kept
      have c0 := hb.cell 0
      have c1 := hb.cell 1
      have c2 := hb.cell 2
      simp only [List.getElem?_toArray, List.getElem?_cons_zero, List.getElem?_cons_succ] at c0 c1 c2
      go_simp
      exact hK _ _ ⟨_, _, rfl, IntsR.kept HI3.out hF.kept⟩ (Kept.refl _)
    | 62, ho, hF, hK =>
      obtain rfl := Option.some.inj ho
      obtain ⟨a0, c0, e0, i0⟩ : PartV w' _ (pOne) := hF.vals 61 81 (by kernel_rfl) (by kernel_rfl)
      go_simp
      refine hK _ _ ⟨_, _, rfl, parts_row [(pOne, .slice a0 (pOne).kinds.length c0)] (fun q hq => ?_) (Blk.new w' _ _) (by show 1 ≤ maxLen; decide)⟩ ((Kept.refl w').alloc _)
      simp only [List.mem_cons, List.not_mem_nil, or_false] at hq
      rcases hq with rfl
      · exact IntsR.kept i0 ((Kept.refl w').alloc _)
    | 63, ho, hF, hK =>
      obtain rfl := Option.some.inj ho
      obtain ⟨ka, kc, he, hp⟩ := show Vk.ok (.parts [pOne]) w' _ from hF.vals 62 82 (by kernel_rfl) (by kernel_rfl)
      go_simp
      exact hK _ _ ⟨ka, kc, rfl, hp⟩ (Kept.refl _)
    | 64, ho, hF, hK =>
      obtain rfl := Option.some.inj ho
      have h1 := hF.at (t := 4) (by kernel_rfl)
      simp only [List.getElem?_toArray, List.getElem?_cons_zero, List.getElem?_cons_succ] at h1
      have hb := HB4.out.kept hF.kept
      have c0 := hb.cell 0
      have c1 := hb.cell 1
      have c2 := hb.cell 2
      simp only [List.getElem?_toArray, List.getElem?_cons_zero, List.getElem?_cons_succ] at c0 c1 c2
      go_simp
      exact hK _ _ ⟨_, _, rfl, IntsR.kept HI4.out hF.kept⟩ (Kept.refl _)
    | 65, ho, hF, hK =>
      obtain rfl := Option.some.inj ho
      obtain ⟨a0, c0, e0, i0⟩ : PartV w' _ (pTwo) := hF.vals 64 84 (by kernel_rfl) (by kernel_rfl)
      go_simp
      refine hK _ _ ⟨_, _, rfl, parts_row [(pTwo, .slice a0 (pTwo).kinds.length c0)] (fun q hq => ?_) (Blk.new w' _ _) (by show 1 ≤ maxLen; decide)⟩ ((Kept.refl w').alloc _)
      simp only [List.mem_cons, List.not_mem_nil, or_false] at hq
      rcases hq with rfl
      · exact IntsR.kept i0 ((Kept.refl w').alloc _)
    | 66, ho, hF, hK =>
      obtain rfl := Option.some.inj ho
      obtain ⟨ka, kc, he, hp⟩ := show Vk.ok (.parts [pTwo]) w' _ from hF.vals 65 85 (by kernel_rfl) (by kernel_rfl)
      go_simp
      exact hK _ _ ⟨ka, kc, rfl, hp⟩ (Kept.refl _)
    | 67, ho, hF, hK =>
      obtain rfl := Option.some.inj ho
      go_simp
      exact hK _ _ ⟨none, 0, rfl, Row.nil⟩ (Kept.refl _)
    | 68, ho, hF, hK =>
      obtain rfl := Option.some.inj ho
      have h1 := hF.at (t := 3) (by kernel_rfl)
      simp only [List.getElem?_toArray, List.getElem?_cons_zero, List.getElem?_cons_succ] at h1
      have hb := HB3.out.kept hF.kept
      have c0 := hb.cell 0
      have c1 := hb.cell 1
      have c2 := hb.cell 2
      simp only [List.getElem?_toArray, List.getElem?_cons_zero, List.getElem?_cons_succ] at c0 c1 c2
      go_simp
      exact hK _ _ ⟨_, _, rfl, IntsR.kept HI3.out hF.kept⟩ (Kept.refl _)
    | 69, ho, hF, hK =>
      obtain rfl := Option.some.inj ho
      obtain ⟨a0, c0, e0, i0⟩ : PartV w' _ (pOne) := hF.vals 68 88 (by kernel_rfl) (by kernel_rfl)
      go_simp
      refine hK _ _ ⟨_, _, rfl, parts_row [(pOne, .slice a0 (pOne).kinds.length c0)] (fun q hq => ?_) (Blk.new w' _ _) (by show 1 ≤ maxLen; decide)⟩ ((Kept.refl w').alloc _)
      simp only [List.mem_cons, List.not_mem_nil, or_false] at hq
      rcases hq with rfl
      · exact IntsR.kept i0 ((Kept.refl w').alloc _)
    | 70, ho, hF, hK =>
      obtain rfl := Option.some.inj ho
      obtain ⟨ka, kc, he, hp⟩ := show Vk.ok (.parts [pOne]) w' _ from hF.vals 69 89 (by kernel_rfl) (by kernel_rfl)
      go_simp
      exact hK _ _ ⟨ka, kc, rfl, hp⟩ (Kept.refl _)
    | 71, ho, hF, hK =>
      obtain rfl := Option.some.inj ho
      have h1 := hF.at (t := 3) (by kernel_rfl)
      simp only [List.getElem?_toArray, List.getElem?_cons_zero, List.getElem?_cons_succ] at h1
      have hb := HB3.out.kept hF.kept
      have c0 := hb.cell 0
      have c1 := hb.cell 1
      have c2 := hb.cell 2
      simp only [List.getElem?_toArray, List.getElem?_cons_zero, List.getElem?_cons_succ] at c0 c1 c2
      go_simp
      exact hK _ _ ⟨_, _, rfl, IntsR.kept HI3.out hF.kept⟩ (Kept.refl _)
    | 72, ho, hF, hK =>
      obtain rfl := Option.some.inj ho
      obtain ⟨a0, c0, e0, i0⟩ : PartV w' _ (pOne) := hF.vals 71 91 (by kernel_rfl) (by kernel_rfl)
      go_simp
      refine hK _ _ ⟨_, _, rfl, parts_row [(pOne, .slice a0 (pOne).kinds.length c0)] (fun q hq => ?_) (Blk.new w' _ _) (by show 1 ≤ maxLen; decide)⟩ ((Kept.refl w').alloc _)
      simp only [List.mem_cons, List.not_mem_nil, or_false] at hq
      rcases hq with rfl
      · exact IntsR.kept i0 ((Kept.refl w').alloc _)
    | 73, ho, hF, hK =>
      obtain rfl := Option.some.inj ho
      obtain ⟨ka, kc, he, hp⟩ := show Vk.ok (.parts [pOne]) w' _ from hF.vals 72 92 (by kernel_rfl) (by kernel_rfl)
      go_simp
      exact hK _ _ ⟨ka, kc, rfl, hp⟩ (Kept.refl _)
    | 74, ho, hF, hK =>
      obtain rfl := Option.some.inj ho
      have h1 := hF.at (t := 3) (by kernel_rfl)
      simp only [List.getElem?_toArray, List.getElem?_cons_zero, List.getElem?_cons_succ] at h1
      have hb := HB3.out.kept hF.kept
      have c0 := hb.cell 0
      have c1 := hb.cell 1
      have c2 := hb.cell 2
      simp only [List.getElem?_toArray, List.getElem?_cons_zero, List.getElem?_cons_succ] at c0 c1 c2
      go_simp
      exact hK _ _ ⟨_, _, rfl, IntsR.kept HI3.out hF.kept⟩ (Kept.refl _)
    | 75, ho, hF, hK =>
      obtain rfl := Option.some.inj ho
      obtain ⟨a0, c0, e0, i0⟩ : PartV w' _ (pOne) := hF.vals 74 94 (by kernel_rfl) (by kernel_rfl)
      go_simp
      refine hK _ _ ⟨_, _, rfl, parts_row [(pOne, .slice a0 (pOne).kinds.length c0)] (fun q hq => ?_) (Blk.new w' _ _) (by show 1 ≤ maxLen; decide)⟩ ((Kept.refl w').alloc _)
      simp only [List.mem_cons, List.not_mem_nil, or_false] at hq
      rcases hq with rfl
      · exact IntsR.kept i0 ((Kept.refl w').alloc _)
    | 76, ho, hF, hK =>
      obtain rfl := Option.some.inj ho
      obtain ⟨ka, kc, he, hp⟩ := show Vk.ok (.parts [pOne]) w' _ from hF.vals 75 95 (by kernel_rfl) (by kernel_rfl)
      go_simp
      exact hK _ _ ⟨ka, kc, rfl, hp⟩ (Kept.refl _)
    | 77, ho, hF, hK =>
      obtain rfl := Option.some.inj ho
      obtain ⟨a1, c1, e1, i1⟩ : NeedV w' _ ⟨0, 0, noW, 0, [pUp 40 2, pBlock]⟩ := hF.vals 4 24 (by kernel_rfl) (by kernel_rfl)
      obtain ⟨a2, c2, e2, i2⟩ : NeedV w' _ ⟨2, 3, noW, 0, [pUp 20 3, pUp 20 4]⟩ := hF.vals 10 30 (by kernel_rfl) (by kernel_rfl)
      obtain ⟨a3, c3, e3, i3⟩ : NeedV w' _ ⟨1, 4, noW, 0, []⟩ := hF.vals 11 31 (by kernel_rfl) (by kernel_rfl)
      obtain ⟨a4, c4, e4, i4⟩ : NeedV w' _ ⟨1, 4, noW, 0, [pUp 8 5, pBlock]⟩ := hF.vals 16 36 (by kernel_rfl) (by kernel_rfl)
      obtain ⟨a5, c5, e5, i5⟩ : NeedV w' _ ⟨1, 4, noW, 0, []⟩ := hF.vals 17 37 (by kernel_rfl) (by kernel_rfl)
      obtain ⟨a6, c6, e6, i6⟩ : NeedV w' _ ⟨0, 0, noW, 0, [pEnt]⟩ := hF.vals 21 41 (by kernel_rfl) (by kernel_rfl)
      obtain ⟨a7, c7, e7, i7⟩ : NeedV w' _ ⟨0, 0, noW, 9223372036854775807, []⟩ := hF.vals 22 42 (by kernel_rfl) (by kernel_rfl)
      obtain ⟨a8, c8, e8, i8⟩ : NeedV w' _ ⟨6, 0, wNum, 9007199254740992, []⟩ := hF.vals 23 43 (by kernel_rfl) (by kernel_rfl)
      obtain ⟨a9, c9, e9, i9⟩ : NeedV w' _ ⟨0, 0, noW, 1, []⟩ := hF.vals 24 44 (by kernel_rfl) (by kernel_rfl)
      obtain ⟨a10, c10, e10, i10⟩ : NeedV w' _ ⟨7, 0, noW, 0, []⟩ := hF.vals 25 45 (by kernel_rfl) (by kernel_rfl)
      obtain ⟨a11, c11, e11, i11⟩ : NeedV w' _ ⟨0, 0, noW, 0, []⟩ := hF.vals 26 46 (by kernel_rfl) (by kernel_rfl)
      obtain ⟨a12, c12, e12, i12⟩ : NeedV w' _ ⟨0, 2, noW, 0, []⟩ := hF.vals 27 47 (by kernel_rfl) (by kernel_rfl)
      obtain ⟨a13, c13, e13, i13⟩ : NeedV w' _ ⟨0, 0, noW, 0, []⟩ := hF.vals 28 48 (by kernel_rfl) (by kernel_rfl)
      obtain ⟨a14, c14, e14, i14⟩ : NeedV w' _ ⟨1, 0, noW, 0, []⟩ := hF.vals 29 49 (by kernel_rfl) (by kernel_rfl)
      obtain ⟨a15, c15, e15, i15⟩ : NeedV w' _ ⟨1, 4, noW, 0, [pOne]⟩ := hF.vals 32 52 (by kernel_rfl) (by kernel_rfl)
      obtain ⟨a16, c16, e16, i16⟩ : NeedV w' _ ⟨1, 0, noW, 0, [pOne]⟩ := hF.vals 35 55 (by kernel_rfl) (by kernel_rfl)
      obtain ⟨a17, c17, e17, i17⟩ : NeedV w' _ ⟨1, 0, noW, 0, [pOne]⟩ := hF.vals 38 58 (by kernel_rfl) (by kernel_rfl)
      obtain ⟨a18, c18, e18, i18⟩ : NeedV w' _ ⟨1, 0, noW, 0, [pTwo]⟩ := hF.vals 41 61 (by kernel_rfl) (by kernel_rfl)
      obtain ⟨a19, c19, e19, i19⟩ : NeedV w' _ ⟨1, 0, noW, 0, [pOne, pArgs]⟩ := hF.vals 45 65 (by kernel_rfl) (by kernel_rfl)
      obtain ⟨a20, c20, e20, i20⟩ : NeedV w' _ ⟨1, 0, noW, 0, [pArgs]⟩ := hF.vals 48 68 (by kernel_rfl) (by kernel_rfl)
      obtain ⟨a21, c21, e21, i21⟩ : NeedV w' _ ⟨0, 2, noW, 0, [pArgs]⟩ := hF.vals 51 71 (by kernel_rfl) (by kernel_rfl)
      obtain ⟨a22, c22, e22, i22⟩ : NeedV w' _ ⟨0, 0, noW, 0, [pOne, pBlock, pBlock]⟩ := hF.vals 56 76 (by kernel_rfl) (by kernel_rfl)
      obtain ⟨a23, c23, e23, i23⟩ : NeedV w' _ ⟨0, 0, noW, 0, [pOne, pBlock]⟩ := hF.vals 60 80 (by kernel_rfl) (by kernel_rfl)
      obtain ⟨a24, c24, e24, i24⟩ : NeedV w' _ ⟨5, 0, wUn, 0, [pOne]⟩ := hF.vals 63 83 (by kernel_rfl) (by kernel_rfl)
      obtain ⟨a25, c25, e25, i25⟩ : NeedV w' _ ⟨5, 0, wBin, 0, [pTwo]⟩ := hF.vals 66 86 (by kernel_rfl) (by kernel_rfl)
      obtain ⟨a26, c26, e26, i26⟩ : NeedV w' _ ⟨0, 0, noW, 0, []⟩ := hF.vals 67 87 (by kernel_rfl) (by kernel_rfl)
      obtain ⟨a27, c27, e27, i27⟩ : NeedV w' _ ⟨0, 0, noW, 0, [pOne]⟩ := hF.vals 70 90 (by kernel_rfl) (by kernel_rfl)
      obtain ⟨a28, c28, e28, i28⟩ : NeedV w' _ ⟨0, 4, noW, 0, [pOne]⟩ := hF.vals 73 93 (by kernel_rfl) (by kernel_rfl)
      obtain ⟨a29, c29, e29, i29⟩ : NeedV w' _ ⟨5, 0, wConv, 0, [pOne]⟩ := hF.vals 76 96 (by kernel_rfl) (by kernel_rfl)
      go_simp
      refine hK _ _ ⟨_, _, rfl, needs_row [(⟨0, 0, noW, 0, []⟩, .slice none 0 0), (⟨0, 0, noW, 0, [pUp 40 2, pBlock]⟩, .slice a1 ([pUp 40 2, pBlock] : List Pt).length c1), (⟨2, 3, noW, 0, [pUp 20 3, pUp 20 4]⟩, .slice a2 ([pUp 20 3, pUp 20 4] : List Pt).length c2), (⟨1, 4, noW, 0, []⟩, .slice a3 ([] : List Pt).length c3), (⟨1, 4, noW, 0, [pUp 8 5, pBlock]⟩, .slice a4 ([pUp 8 5, pBlock] : List Pt).length c4), (⟨1, 4, noW, 0, []⟩, .slice a5 ([] : List Pt).length c5), (⟨0, 0, noW, 0, [pEnt]⟩, .slice a6 ([pEnt] : List Pt).length c6), (⟨0, 0, noW, 9223372036854775807, []⟩, .slice a7 ([] : List Pt).length c7), (⟨6, 0, wNum, 9007199254740992, []⟩, .slice a8 ([] : List Pt).length c8), (⟨0, 0, noW, 1, []⟩, .slice a9 ([] : List Pt).length c9), (⟨7, 0, noW, 0, []⟩, .slice a10 ([] : List Pt).length c10), (⟨0, 0, noW, 0, []⟩, .slice a11 ([] : List Pt).length c11), (⟨0, 2, noW, 0, []⟩, .slice a12 ([] : List Pt).length c12), (⟨0, 0, noW, 0, []⟩, .slice a13 ([] : List Pt).length c13), (⟨1, 0, noW, 0, []⟩, .slice a14 ([] : List Pt).length c14), (⟨1, 4, noW, 0, [pOne]⟩, .slice a15 ([pOne] : List Pt).length c15), (⟨1, 0, noW, 0, [pOne]⟩, .slice a16 ([pOne] : List Pt).length c16), (⟨1, 0, noW, 0, [pOne]⟩, .slice a17 ([pOne] : List Pt).length c17), (⟨1, 0, noW, 0, [pTwo]⟩, .slice a18 ([pTwo] : List Pt).length c18), (⟨1, 0, noW, 0, [pOne, pArgs]⟩, .slice a19 ([pOne, pArgs] : List Pt).length c19), (⟨1, 0, noW, 0, [pArgs]⟩, .slice a20 ([pArgs] : List Pt).length c20), (⟨0, 2, noW, 0, [pArgs]⟩, .slice a21 ([pArgs] : List Pt).length c21), (⟨0, 0, noW, 0, [pOne, pBlock, pBlock]⟩, .slice a22 ([pOne, pBlock, pBlock] : List Pt).length c22), (⟨0, 0, noW, 0, [pOne, pBlock]⟩, .slice a23 ([pOne, pBlock] : List Pt).length c23), (⟨5, 0, wUn, 0, [pOne]⟩, .slice a24 ([pOne] : List Pt).length c24), (⟨5, 0, wBin, 0, [pTwo]⟩, .slice a25 ([pTwo] : List Pt).length c25), (⟨0, 0, noW, 0, []⟩, .slice a26 ([] : List Pt).length c26), (⟨0, 0, noW, 0, [pOne]⟩, .slice a27 ([pOne] : List Pt).length c27), (⟨0, 4, noW, 0, [pOne]⟩, .slice a28 ([pOne] : List Pt).length c28), (⟨5, 0, wConv, 0, [pOne]⟩, .slice a29 ([pOne] : List Pt).length c29)] (fun q hq => ?_) (Blk.new w' _ _) (by show 30 ≤ maxLen; decide)⟩ ((Kept.refl w').alloc _)
      simp only [List.mem_cons, List.not_mem_nil, or_false] at hq
      rcases hq with rfl | rfl | rfl | rfl | rfl | rfl | rfl | rfl | rfl | rfl | rfl | rfl | rfl | rfl | rfl | rfl | rfl | rfl | rfl | rfl | rfl | rfl | rfl | rfl | rfl | rfl | rfl | rfl | rfl | rfl
      · exact Row.nil
      · exact PartsR.kept i1 ((Kept.refl w').alloc _)
      · exact PartsR.kept i2 ((Kept.refl w').alloc _)
      · exact PartsR.kept i3 ((Kept.refl w').alloc _)
      · exact PartsR.kept i4 ((Kept.refl w').alloc _)
      · exact PartsR.kept i5 ((Kept.refl w').alloc _)
      · exact PartsR.kept i6 ((Kept.refl w').alloc _)
      · exact PartsR.kept i7 ((Kept.refl w').alloc _)
      · exact PartsR.kept i8 ((Kept.refl w').alloc _)
      · exact PartsR.kept i9 ((Kept.refl w').alloc _)
      · exact PartsR.kept i10 ((Kept.refl w').alloc _)
      · exact PartsR.kept i11 ((Kept.refl w').alloc _)
      · exact PartsR.kept i12 ((Kept.refl w').alloc _)
      · exact PartsR.kept i13 ((Kept.refl w').alloc _)
      · exact PartsR.kept i14 ((Kept.refl w').alloc _)
      · exact PartsR.kept i15 ((Kept.refl w').alloc _)
      · exact PartsR.kept i16 ((Kept.refl w').alloc _)
      · exact PartsR.kept i17 ((Kept.refl w').alloc _)
      · exact PartsR.kept i18 ((Kept.refl w').alloc _)
      · exact PartsR.kept i19 ((Kept.refl w').alloc _)
      · exact PartsR.kept i20 ((Kept.refl w').alloc _)
      · exact PartsR.kept i21 ((Kept.refl w').alloc _)
      · exact PartsR.kept i22 ((Kept.refl w').alloc _)
      · exact PartsR.kept i23 ((Kept.refl w').alloc _)
      · exact PartsR.kept i24 ((Kept.refl w').alloc _)
      · exact PartsR.kept i25 ((Kept.refl w').alloc _)
      · exact PartsR.kept i26 ((Kept.refl w').alloc _)
      · exact PartsR.kept i27 ((Kept.refl w').alloc _)
      · exact PartsR.kept i28 ((Kept.refl w').alloc _)
      · exact PartsR.kept i29 ((Kept.refl w').alloc _)
    | 78, ho, hF, hK =>
      obtain rfl := Option.some.inj ho
      obtain ⟨na, nc, he, hn⟩ := show Vk.ok (.needs needsT) w' _ from hF.vals 77 97 (by kernel_rfl) (by kernel_rfl)
      go_simp
      exact hK _ _ ⟨na, nc, rfl, hn⟩ (Kept.refl _)
    | i + 79, ho, hF, hK => exact absurd ho (by simp)

end Go.Proofs.YtfkmnpgpfmkjaaaGreatDoor
namespace Go.Proofs.YtfkmnpgpfmkjaaaGreatDoor
open Go.ChangeShapes Go.WideShapes Go.ChangeAt Go.RowKit Go.Shelf
attribute [local go_sem] Oper.semAt_some

/-- Whether a place that was told is one. -/
def IdxR (k : Int) (x : Int) (l : List Int) : Prop := decide (0 ≤ k) = decide (x ∈ l)
theorem index_c (a : Option Addr) (c : Nat) (l : List Int) (x : Int) (w : World) (h : IntsR w (.slice a l.length c) l) :
    Calls Tryz.prog 124 #[.slice a l.length c, .int .i64 x] w fun e w' => ∃ k : Int, e = .returned (.int .i64 k) ∧ IdxR k x l ∧ w' = w := by
  have hcap : l.length ≤ maxLen := Row.len h
  obtain ⟨_, _, e0, _, _, hat⟩ := h
  injection e0 with e1 e2 e3
  subst e1 e3
  clear e2
  have HAT := Lib.hid hat
  clear hat
  unfold maxLen at hcap
  go_enter Tryz.func124, Tryz.ntmps124
  go_wp2_with fail
  go_loopw [8] (fun i wr => ∃ k : Nat, i = .int .i64 k ∧ k ≤ l.length ∧ Hid (x ∉ l.take k) ∧ wr = w) (fun i wr => l.length - (intOf i).toNat)
  case atStart => exact ⟨0, rfl, Nat.zero_le _, Lib.hid (by simp), rfl⟩
  case round =>
    obtain ⟨k, rfl, hk, HN, rfl⟩ := hrel
    by_cases hlt : k < l.length
    · have hltI : (k : Int) < (l.length : Int) := by omega
      have hx : l[k]? = some l[k] := List.getElem?_eq_getElem hlt
      generalize hy : l[k] = y at hx
      obtain ⟨b, o, rfl, hc⟩ := HAT.out k y hx
      unfold IntAt at hc
      rw [Nat.mul_one] at hc
      have HX := Lib.hid hx
      clear hx hy
      by_cases hxy : x = y
      · have hb : (x == y) = true := by simp [hxy]
        have HD := Lib.hid (show IdxR (k : Int) x l by unfold IdxR; rw [decide_eq_true (by omega : (0 : Int) ≤ (k : Int)), decide_eq_true (by rw [hxy]; exact List.mem_of_getElem? HX.out)])
        clear hxy
        go_wp2_with fail
        go_ret
        exact ⟨k, rfl, HD.out, rfl⟩
      · have hb : (x == y) = false := by simp [hxy]
        have HN2 := Lib.hid (show x ∉ l.take (k + 1) by
          rw [List.take_add_one, HX.out]
          simp only [Option.toList_some, List.mem_append, List.mem_singleton, not_or]
          exact ⟨HN.out, hxy⟩)
        clear hxy
        go_wp2_with fail
        go_roundw
        case rel => exact ⟨k + 1, by go_num, by omega, HN2, by first | trivial | rfl⟩
        case measure => simp [intOf]; omega
    · obtain rfl : k = l.length := by omega
      have HD := Lib.hid (show IdxR (-1) x l by
        unfold IdxR
        have := HN.out
        rw [List.take_length] at this
        rw [decide_eq_false this]; rfl)
      have hltI : ¬ (l.length : Int) < (l.length : Int) := by omega
      go_wp2_with fail
      go_ret
      exact ⟨-1, rfl, HD.out, rfl⟩

theorem contains_c (a : Option Addr) (c : Nat) (l : List Int) (x : Int) (w : World) (h : IntsR w (.slice a l.length c) l) :
    Calls Tryz.prog 113 #[.slice a l.length c, .int .i64 x] w fun e w' => e = .returned (.bool (decide (x ∈ l))) ∧ w' = w := by
  have HI := Lib.hid (index_c a c l x w h)
  clear h
  go_enter Tryz.func113, Tryz.ntmps113
  go_wp2_with fail
  refine HI.out.mono ?_
  rintro e w' ⟨k, rfl, HD, rfl⟩
  go_wp2_with fail
  go_ret
  exact ⟨by have := HD; unfold IdxR at this; rw [← this]; rfl, rfl⟩

namespace Nd
/-- How many of these are of the kinds, ahead of the first one that is not. -/
def lead (kinds : List Int) (l : List Nd) : Nat := (l.takeWhile fun y => decide (y.kind ∈ kinds)).length
theorem lead_at {kinds : List Int} : ∀ {l : List Nd} {k : Nat} {y : Nd}, (∀ z ∈ l.take k, z.kind ∈ kinds) → l[k]? = some y → ¬ y.kind ∈ kinds → lead kinds l = k
  | [], k, y, _, h, _ => by simp at h
  | x :: r, 0, y, _, h, hn => by
    simp at h; subst h
    unfold lead; rw [List.takeWhile_cons, decide_eq_false hn]; rfl
  | x :: r, k + 1, y, h, hy, hn => by
    have h0 : x.kind ∈ kinds := h x (by simp)
    have ih := lead_at (l := r) (k := k) (y := y) (fun z hz => h z (by simp [hz])) (by simpa using hy) hn
    unfold lead at ih ⊢
    rw [List.takeWhile_cons, decide_eq_true h0]
    simp [ih]
theorem lead_all {kinds : List Int} {l : List Nd} (h : ∀ z ∈ l, z.kind ∈ kinds) : lead kinds l = l.length := by
  unfold lead
  rw [show l.takeWhile (fun y => decide (y.kind ∈ kinds)) = l by
    induction l with
    | nil => rfl
    | cons x r ih => rw [List.takeWhile_cons, decide_eq_true (h x (by simp))]; simp [ih fun z hz => h z (List.mem_cons_of_mem _ hz)]]
theorem lead_le (kinds : List Int) (l : List Nd) : lead kinds l ≤ l.length := by unfold lead; exact (List.takeWhile_prefix _).length_le
end Nd

set_option maxHeartbeats 2000000 in
theorem leading_c (a : Option Addr) (c : Nat) (l : List Nd) (ka : Option Addr) (kc : Nat) (ks : List Int) (w : World) (h : KidsAt w (.slice a l.length c) l) (hk : IntsR w (.slice ka ks.length kc) ks) :
    Calls Tryz.prog 90 #[.slice a l.length c, .slice ka ks.length kc] w fun e w' => e = .returned (.int .i64 (Nd.lead ks l : Nat)) ∧ w' = w := by
  have hcap : l.length ≤ maxLen := Row.len h
  obtain ⟨_, _, e0, _, _, hat⟩ := h
  injection e0 with e1 e2 e3
  subst e1 e3
  clear e2
  have HAT := Lib.hid hat
  have HC := Lib.hid (fun x => contains_c ka kc ks x w hk)
  clear hat hk
  unfold maxLen at hcap
  go_enter Tryz.func90, Tryz.ntmps90
  go_wp2_with fail
  go_loopw [8] (fun i wr => ∃ k : Nat, i = .int .i64 k ∧ k ≤ l.length ∧ Hid (∀ z ∈ l.take k, z.kind ∈ ks) ∧ wr = w) (fun i wr => l.length - (intOf i).toNat)
  case atStart => exact ⟨0, rfl, Nat.zero_le _, Lib.hid (by simp), rfl⟩
  case round =>
    obtain ⟨k, rfl, hkl, HN, rfl⟩ := hrel
    by_cases hlt : k < l.length
    · have hltI : (k : Int) < (l.length : Int) := by omega
      have hx : l[k]? = some l[k] := List.getElem?_eq_getElem hlt
      generalize hy : l[k] = y at hx
      obtain ⟨b, o, rfl, hn⟩ := HAT.out k y hx
      obtain ⟨_, _, ⟨d0, _⟩, _⟩ := hn.cells
      have HX := Lib.hid hx
      have HCY := Lib.hid (HC.out y.kind)
      clear hx hy hn
      by_cases hxy : y.kind ∈ ks
      · rw [decide_eq_true hxy] at HCY
        have HN2 := Lib.hid (show ∀ z ∈ l.take (k + 1), z.kind ∈ ks from fun z hz => by
          rw [List.take_add_one, HX.out] at hz
          simp only [Option.toList_some, List.mem_append, List.mem_singleton] at hz
          rcases hz with hz | rfl
          · exact HN.out z hz
          · exact hxy)
        clear hxy
        go_wp2_with fail
        refine HCY.out.mono ?_
        rintro e w' ⟨rfl, rfl⟩
        go_wp2_with fail
        go_roundw
        case rel => exact ⟨k + 1, by go_num, by omega, HN2, by first | trivial | rfl⟩
        case measure => simp [intOf]; omega
      · rw [decide_eq_false hxy] at HCY
        have HL := Lib.hid (Nd.lead_at HN.out HX.out hxy)
        clear hxy
        go_wp2_with fail
        refine HCY.out.mono ?_
        rintro e w' ⟨rfl, rfl⟩
        go_wp2_with fail
        go_ret
        exact ⟨by rw [HL.out]; rfl, rfl⟩
    · obtain rfl : k = l.length := by omega
      have HL := Lib.hid (show Nd.lead ks l = l.length from Nd.lead_all (by have := HN.out; rwa [List.take_length] at this))
      have hltI : ¬ (l.length : Int) < (l.length : Int) := by omega
      go_wp2_with fail
      go_ret
      exact ⟨by rw [HL.out]; rfl, rfl⟩

/-- Is a byte one that a text of a source may have? -/
def ctB (c : UInt8) : Bool := (decide (32 ≤ c.toNat) && decide (c.toNat ≤ 126)) || decide (c.toNat = 10)
def contsB (s : ByteArray) : Bool := s.data.toList.all ctB

set_option maxHeartbeats 2000000 in
theorem conts_c (s : ByteArray) (w : World) (hs : s.size ≤ maxLen) : Calls Tryz.prog 92 #[.string s] w fun e w' => e = .returned (.bool (contsB s)) ∧ w' = w := by
  unfold maxLen at hs
  go_enter Tryz.func92, Tryz.ntmps92
  go_wp2_with fail
  go_loopw [6] (fun i wr => ∃ k : Nat, i = .int .i64 k ∧ k ≤ s.size ∧ Hid (∀ c ∈ s.data.toList.take k, ctB c = true) ∧ wr = w) (fun i wr => s.size - (intOf i).toNat)
  case atStart => exact ⟨0, rfl, Nat.zero_le _, Lib.hid (by simp), rfl⟩
  case round =>
    obtain ⟨k, rfl, hk, HN, rfl⟩ := hrel
    by_cases hlt : k < s.size
    · have hltI : (k : Int) < (s.size : Int) := by omega
      have hx : s.data.toList[k]? = some s[k] := by
        rw [Array.getElem?_toList]
        exact Array.getElem?_eq_getElem hlt
      have HX := Lib.hid hx
      clear hx
      have good : ctB s[k] = true → Hid (∀ c ∈ s.data.toList.take (k + 1), ctB c = true) := fun hc => Lib.hid (fun z hz => by
          rw [List.take_add_one, HX.out] at hz
          simp only [Option.toList_some, List.mem_append, List.mem_singleton] at hz
          rcases hz with hz | rfl
          · exact HN.out z hz
          · exact hc)
      have bad : ctB s[k] = false → Hid (contsB s = false) := fun hc => Lib.hid (by
        unfold contsB
        rw [List.all_eq_false]
        exact ⟨_, List.mem_of_getElem? HX.out, by rw [hc]; simp⟩)
      by_cases h1 : 32 ≤ s[k].toNat ∧ s[k].toNat ≤ 126
      · have HN2 := good (by unfold ctB; rw [decide_eq_true h1.1, decide_eq_true h1.2]; rfl)
        have hA : ¬ ((s[k].toNat : Nat) : Int) < 32 := by omega
        have hB : ¬ 126 < ((s[k].toNat : Nat) : Int) := by omega
        clear h1 good bad
        go_wp2_with fail
        go_roundw
        case rel => exact ⟨k + 1, by go_num, by omega, HN2, by first | trivial | rfl⟩
        case measure => simp [intOf]; omega
      · by_cases h2 : s[k].toNat = 10
        · have HN2 := good (by unfold ctB; rw [decide_eq_true h2]; simp)
          have hA : ((s[k].toNat : Nat) : Int) = 10 := by omega
          clear h1 h2 good bad
          go_wp2_with fail
          go_roundw
          case rel => exact ⟨k + 1, by go_num, by omega, HN2, by first | trivial | rfl⟩
          case measure => simp [intOf]; omega
        · have HB := bad (by
            unfold ctB
            rw [decide_eq_false h2]
            have : (decide (32 ≤ s[k].toNat) && decide (s[k].toNat ≤ 126)) = false := by
              rw [Bool.and_eq_false_iff, decide_eq_false_iff_not, decide_eq_false_iff_not]; omega
            rw [this]; rfl)
          have hne : (((s[k].toNat : Nat) : Int) != 10) = true := by simp; omega
          by_cases h3 : s[k].toNat < 32
          · have hA : ((s[k].toNat : Nat) : Int) < 32 := by omega
            clear h1 h2 h3 good bad
            go_wp2_with fail
            go_ret
            exact ⟨by rw [HB.out]; rfl, rfl⟩
          · have hA : ¬ ((s[k].toNat : Nat) : Int) < 32 := by omega
            have hB : 126 < ((s[k].toNat : Nat) : Int) := by omega
            clear h1 h2 h3 good bad
            go_wp2_with fail
            go_ret
            exact ⟨by rw [HB.out]; rfl, rfl⟩
    · obtain rfl : k = s.size := by omega
      have HL := Lib.hid (show contsB s = true from List.all_eq_true.2 (by have := HN.out; rw [List.take_of_length_le (by simp)] at this; exact this))
      have hltI : ¬ (s.size : Int) < (s.size : Int) := by omega
      go_wp2_with fail
      go_ret
      exact ⟨by rw [HL.out]; rfl, rfl⟩

end Go.Proofs.YtfkmnpgpfmkjaaaGreatDoor
namespace Go.Proofs.YtfkmnpgpfmkjaaaGreatDoor
open Go.ChangeShapes Go.WideShapes Go.ChangeAt Go.RowKit

/-- How far kids of one part may go; how many there are; what comes of it; of all parts. -/
def kTo (n : Nat) (p : Pt) (f : Nat) : Nat := if p.more = 0 then min n (f + p.cnt.toNat) else n
def kSize (l : List Nd) (p : Pt) (f : Nat) : Nat := Nd.lead p.kinds ((l.drop f).take (kTo l.length p f - f))
def kStep (l : List Nd) (p : Pt) (st : Int × Nat) : Option (Int × Nat) := if (kSize l p st.2 : Int) < p.cnt then none else some (if p.cnt + p.more < (kSize l p st.2 : Int) then 12 else st.1, st.2 + kSize l p st.2)
def kRun (l : List Nd) : List Pt → Int × Nat → Option (Int × Nat)
  | [], st => some st
  | p :: r, st => match kStep l p st with
    | none => none
    | some s => kRun l r s
def kEnd (l : List Nd) : Option (Int × Nat) → Int
  | none => 5
  | some (e, f) => if f < l.length then 5 else e
def kidsE (l : List Nd) (ps : List Pt) : Int := kEnd l (kRun l ps (0, 0))
theorem kTo_le {n : Nat} {p : Pt} {f : Nat} (hf : f ≤ n) : f ≤ kTo n p f ∧ kTo n p f ≤ n := by unfold kTo; split <;> omega
theorem kSize_le {l : List Nd} {p : Pt} {f : Nat} (hf : f ≤ l.length) : f + kSize l p f ≤ l.length := by
  have h1 := Nd.lead_le p.kinds ((l.drop f).take (kTo l.length p f - f))
  have h2 := kTo_le (p := p) hf
  rw [List.length_take, List.length_drop] at h1
  unfold kSize; omega
/-- The parts are none that no table has. -/
def partsOk (ps : List Pt) : Prop := ∀ p ∈ ps, 0 ≤ p.cnt ∧ p.cnt ≤ 10000 ∧ 0 ≤ p.more ∧ p.more ≤ 10000

/-- Kids from f to t, as a slice of them. -/
theorem kids_cut {D : Nat → Prop} {w : World} {b o c f t : Nat} {l : List Nd} (h : KidsD D w (.slice (some ⟨b, o, none⟩) l.length c) l) (hft : f ≤ t) (ht : t ≤ l.length) :
    KidsD D w (.slice (some ⟨b, o + f * 6, none⟩) ((l.drop f).take (t - f)).length (t - f)) ((l.drop f).take (t - f)) := by
  obtain ⟨_, _, e, hl, hm, hs⟩ := h
  injection e with e1 e2 e3
  subst e1 e3
  refine ⟨_, t - f, rfl, by simp; omega, by omega, fun i x hx => ⟨b, o + f * 6, rfl, ?_⟩⟩
  have hi : i < t - f := by have := (List.getElem?_eq_some_iff.1 hx).1; simp at this; omega
  rw [List.getElem?_take_of_lt hi, List.getElem?_drop] at hx
  obtain ⟨b2, o2, e2, h2⟩ := hs (f + i) x hx
  injection e2 with e2
  injection e2 with e3 e4
  subst e3 e4
  rw [show o + f * 6 + i * 6 = o + (f + i) * 6 by omega]
  exact h2
theorem kids_none {D : Nat → Prop} {w : World} {a : Option Addr} : KidsD D w (.slice a ([] : List Nd).length 0) [] := ⟨a, 0, rfl, Nat.le_refl _, Nat.zero_le _, fun i x h => by simp at h⟩
theorem kids_len {D : Nat → Prop} {w : World} {n c : Nat} {l : List Nd} (h : KidsD D w (.slice none n c) l) : l = [] := by
  obtain ⟨_, _, e, hl, hm, hs⟩ := h
  injection e with e1 e2 e3
  cases l with
  | nil => rfl
  | cons x r => obtain ⟨b, o, e4, _⟩ := hs 0 x rfl; rw [← e1] at e4; cases e4

set_option maxHeartbeats 16000000 in
theorem kids_c (a : Option Addr) (c : Nat) (l : List Nd) (pa : Option Addr) (pc : Nat) (ps : List Pt) (w : World) (h : KidsAt w (.slice a l.length c) l) (hp : PartsR w (.slice pa ps.length pc) ps) (hok : partsOk ps) (hll : l.length ≤ 1000000000000) :
    Calls Tryz.prog 52 #[.slice a l.length c, .slice pa ps.length pc] w fun e w' => e = .returned (.int .i64 (kidsE l ps)) ∧ Kept w w' := by
  have hcap : l.length ≤ maxLen := Row.len h
  have hpl : ps.length ≤ maxLen := Row.len hp
  have hlc : l.length ≤ c ∧ c ≤ maxLen := by obtain ⟨_, _, e, h1, h2, _⟩ := h; injection e with _ _ e3; rw [e3]; exact ⟨h1, h2⟩
  have HL := Lib.hid h
  obtain ⟨_, _, e0, _, _, hat⟩ := hp
  injection e0 with e1 e2 e3
  subst e1 e3
  clear e2
  have HAT := Lib.hid hat
  have HOK := Lib.hid hok
  have HLC := Lib.hid hlc
  clear hat hok h hlc
  unfold maxLen at hcap hpl
  go_enter Tryz.func52, Tryz.ntmps52
  go_wp2_with fail
  go_loopw [5, 6, 13] (fun x5 x6 i wr => ∃ (k f : Nat) (er : Int), i = .int .i64 k ∧ k ≤ ps.length ∧ x6 = .int .i64 f ∧ f ≤ l.length ∧ x5 = .int .i64 er ∧ Hid (kRun l ps (0, 0) = kRun l (ps.drop k) (er, f)) ∧ Kept w wr) (fun x5 x6 i wr => ps.length - (intOf i).toNat)
  case atStart => exact ⟨0, 0, 0, rfl, Nat.zero_le _, rfl, Nat.zero_le _, rfl, Lib.hid (by rw [List.drop_zero]), Kept.refl _⟩
  case round =>
    obtain ⟨k, f, er, rfl, hk, rfl, hf, rfl, HR, hkp⟩ := hrel
    have HK := Lib.hid hkp
    by_cases hlt : k < ps.length
    · have hltI : (k : Int) < (ps.length : Int) := by omega
      have hx : ps[k]? = some ps[k] := List.getElem?_eq_getElem hlt
      have hdr : ps.drop k = ps[k] :: ps.drop (k + 1) := List.drop_eq_getElem_cons hlt
      generalize ps[k] = p at hx hdr
      obtain ⟨pb, po, rfl, hpt⟩ := HAT.out k p hx
      obtain ⟨q1, q2, q3, q4⟩ := HOK.out p (List.mem_of_getElem? hx)
      obtain ⟨ks, d0, d1, d2, hki⟩ := hpt.kept hkp
      obtain ⟨ka, kc, rfl, _⟩ := id hki
      have HST := Lib.hid (show kRun l ps (0, 0) = match kStep l p (er, f) with | none => none | some s => kRun l (ps.drop (k + 1)) s by rw [HR.out, hdr]; rfl)
      obtain ⟨t, ht⟩ : ∃ t, kTo l.length p f = t := ⟨_, rfl⟩
      obtain ⟨z, hz⟩ : ∃ z, kSize l p f = z := ⟨_, rfl⟩
      obtain ⟨t1, t2⟩ := kTo_le (p := p) hf
      have hzl := kSize_le (p := p) hf
      rw [ht] at t1 t2
      rw [hz] at hzl
      have hzt : Nd.lead p.kinds ((l.drop f).take (t - f)) = z := by rw [← ht, ← hz]; rfl
      have htm : p.more = 0 → ((f : Int) + p.cnt < (l.length : Int) → (f : Int) + p.cnt = (t : Int)) ∧ (¬ (f : Int) + p.cnt < (l.length : Int) → t = l.length) := fun hm => by
        have h1 := ht
        unfold kTo at h1
        rw [if_pos hm] at h1
        constructor <;> intro h2 <;> omega
      have htn : p.more ≠ 0 → t = l.length := fun hm => by rw [← ht]; unfold kTo; rw [if_neg hm]
      have HS1 := Lib.hid (fun (h : (z : Int) < p.cnt) => show kidsE l ps = 5 by unfold kidsE; rw [HST.out, show kStep l p (er, f) = none by unfold kStep; rw [if_pos (by rw [show ((er, f) : Int × Nat).2 = f from rfl, hz]; exact h)]]; rfl)
      have HS2 := Lib.hid (fun (h : p.cnt ≤ (z : Int)) => show kRun l ps (0, 0) = kRun l (ps.drop (k + 1)) (if p.cnt + p.more < (z : Int) then 12 else er, f + z) by
        rw [HST.out, show kStep l p (er, f) = some (if p.cnt + p.more < (z : Int) then 12 else er, f + z) by unfold kStep; rw [show ((er, f) : Int × Nat).2 = f from rfl, hz, if_neg (by omega)]])
      obtain ⟨n, hn⟩ : ∃ n, l.length = n := ⟨_, rfl⟩
      have HN := Lib.hid hn
      have HLK := Lib.hid (KidsD.kept HL.out hkp)
      have HC := HLC.out
      rw [hn] at hll hcap hf t2 hzl htm htn HC HLK ⊢
      obtain ⟨W2, hW2⟩ : ∃ W2, wr.alloc (.cells #[.slice ka p.kinds.length kc, .int .i64 p.cnt, .int .i64 p.more] 103) = W2 := ⟨_, rfl⟩
      have k2 : Kept wr W2 := by rw [← hW2]; exact (Kept.refl wr).alloc _
      have b2 : Blk W2 wr.heap.size 103 #[.slice ka p.kinds.length kc, .int .i64 p.cnt, .int .i64 p.more] := by rw [← hW2]; exact Blk.new wr _ _
      have HB2 := Lib.hid b2
      have HK2 := Lib.hid (hkp.trans k2)
      have HKI := Lib.hid (IntsR.kept hki k2)
      have HLK2 := Lib.hid (KidsD.kept HLK.out k2)
      have HW2 := Lib.hid hW2
      have HZ := Lib.hid hzt
      obtain ⟨e0, e1, e2⟩ : W2.cell? ⟨wr.heap.size, 0, none⟩ = some (.slice ka p.kinds.length kc) ∧ W2.cell? ⟨wr.heap.size, 1, none⟩ = some (.int .i64 p.cnt) ∧ W2.cell? ⟨wr.heap.size, 2, none⟩ = some (.int .i64 p.more) := ⟨b2.cell 0, b2.cell 1, b2.cell 2⟩
      clear hW2 k2 b2 hki hpt hzt ht hz hn hx hdr hkp HST HR
      generalize p.cnt = cn at *
      generalize p.more = mo at *
      generalize p.kinds = kk at *
      have tc : (t : Int) ≤ (c : Int) := by have := HC.1; omega
      have ftI : (f : Int) ≤ (t : Int) := by omega
      by_cases hm : mo = 0
      · have hmb : (mo == 0) = true := by simp [hm]
        obtain ⟨hy, hno⟩ := htm hm
        clear htm htn hm
        by_cases hmn : (f : Int) + cn < (n : Int)
        · have heq := hy hmn
          have htnI : (t : Int) < (n : Int) := by omega
          clear hy hno hmn
          by_cases hft : f = t
          · have hz1 : z = 0 := by rw [← HZ.out, hft]; simp [Nd.lead]
            have HLD := Lib.hid (fun W (k : Kept W2 W) => show Calls Tryz.prog 90 #[.slice a 0 0, .slice ka kk.length kc] W (fun e w' => e = .returned (.int .i64 (z : Int)) ∧ w' = W) from by rw [hz1]; exact leading_c a 0 [] ka kc kk W kids_none (IntsR.kept HKI.out k))
            have HZ1 := Lib.hid hz1
            clear hz1
            have hftI : ¬ (f : Int) < (t : Int) := by omega
            have hsub : t - f = 0 := by omega
            subst hft
            clear hsub hftI
            go_wp2_with (rw [HW2.out])
            refine wp_region_held_drew (S := (fun W => W.cell? ⟨wr.heap.size, 0, none⟩ = some (.slice ka kk.length kc) ∧ W.cell? ⟨wr.heap.size, 1, none⟩ = some (.int .i64 cn) ∧ W.cell? ⟨wr.heap.size, 2, none⟩ = some (.int .i64 mo) ∧ Kept W2 W)) (by kernel_rfl) ⟨(Kept.refl W2).drew.cell e0, (Kept.refl W2).drew.cell e1, (Kept.refl W2).drew.cell e2, (Kept.refl W2).drew⟩ (fun hHeld0 => ?_)
            refine wpAnyH_take (i := 0) (v := ?_) rfl (by kernel_rfl) (by kernel_rfl) (by kernel_rfl) (fun _ _ _ h => h) (Or.inl ⟨by kernel_rfl, ?_⟩) (by assumption) ?_
            rotate_left
            · intro w hSw; (try dsimp only at hSw); go_simp; (try with_reducible rfl)
            (try simp only [Act.put, List.getElem_toArray, List.getElem_cons_zero, List.getElem_cons_succ, List.setIfInBounds_toArray, List.set_cons_zero, List.set_cons_succ])
            refine wpAnyH_take (i := 1) (v := ?_) rfl (by kernel_rfl) (by kernel_rfl) (by kernel_rfl) (fun _ _ _ h => h) (Or.inl ⟨by kernel_rfl, ?_⟩) (by assumption) ?_
            rotate_left
            · intro w hSw; (try dsimp only at hSw); go_simp; (try with_reducible rfl)
            (try simp only [Act.put, List.getElem_toArray, List.getElem_cons_zero, List.getElem_cons_succ, List.setIfInBounds_toArray, List.set_cons_zero, List.set_cons_succ])
            refine wpAnyH_take (i := 2) (v := ?_) rfl (by kernel_rfl) (by kernel_rfl) (by kernel_rfl) (fun _ _ _ h => h) (Or.inl ⟨by kernel_rfl, ?_⟩) (by assumption) ?_
            rotate_left
            · intro w hSw; (try dsimp only at hSw); go_simp; (try with_reducible rfl)
            (try simp only [Act.put, List.getElem_toArray, List.getElem_cons_zero, List.getElem_cons_succ, List.setIfInBounds_toArray, List.set_cons_zero, List.set_cons_succ])
            refine wpAnyH_take (i := 3) (v := ?_) rfl (by kernel_rfl) (by kernel_rfl) (by kernel_rfl) (fun _ _ _ h => h) (Or.inl ⟨by kernel_rfl, ?_⟩) (by assumption) ?_
            rotate_left
            · intro w hSw; (try dsimp only at hSw); go_simp; (try with_reducible rfl)
            (try simp only [Act.put, List.getElem_toArray, List.getElem_cons_zero, List.getElem_cons_succ, List.setIfInBounds_toArray, List.set_cons_zero, List.set_cons_succ])
            refine wpAnyH_take (i := 4) (v := ?_) rfl (by kernel_rfl) (by kernel_rfl) (by kernel_rfl) (fun _ _ _ h => h) (Or.inl ⟨by kernel_rfl, ?_⟩) (by assumption) ?_
            rotate_left
            · intro w hSw; (try dsimp only at hSw); go_simp; (try with_reducible rfl)
            (try simp only [Act.put, List.getElem_toArray, List.getElem_cons_zero, List.getElem_cons_succ, List.setIfInBounds_toArray, List.set_cons_zero, List.set_cons_succ])
            refine wpAnyH_take (i := 5) (v := ?_) rfl (by kernel_rfl) (by kernel_rfl) (by kernel_rfl) (fun _ _ _ h => h) (Or.inl ⟨by kernel_rfl, ?_⟩) (by assumption) ?_
            rotate_left
            · intro w hSw; (try dsimp only at hSw); go_simp; (try with_reducible rfl)
            (try simp only [Act.put, List.getElem_toArray, List.getElem_cons_zero, List.getElem_cons_succ, List.setIfInBounds_toArray, List.set_cons_zero, List.set_cons_succ])
            refine wpAnyH_take (i := 6) (v := ?_) rfl (by kernel_rfl) (by kernel_rfl) (by kernel_rfl) (fun _ _ _ h => h) (Or.inl ⟨by kernel_rfl, ?_⟩) (by assumption) ?_
            rotate_left
            · intro w hSw; (try dsimp only at hSw); go_simp; (try with_reducible rfl)
            (try simp only [Act.put, List.getElem_toArray, List.getElem_cons_zero, List.getElem_cons_succ, List.setIfInBounds_toArray, List.set_cons_zero, List.set_cons_succ])
            refine wpAnyH_ready (rs := [7]) (by kernel_rfl) (by simp) ?_
            refine AllReadyH.cons rfl (fun K hK => ?_) AllReadyH.nil
            go_simp
            go_at_call 90
            refine (HLD.out _ (Kept.refl W2).drew).mono ?_
            rintro e w3 ⟨rfl, rfl⟩
            refine hK.out _ _ hHeld0 (fun hHeld1 => ?_)
            clear hK K
            (try simp only [Act.put, List.getElem_toArray, List.getElem_cons_zero, List.getElem_cons_succ, List.setIfInBounds_toArray, List.set_cons_zero, List.set_cons_succ])
            clear hHeld0
            refine wpAnyH_take (i := 8) (v := ?_) rfl (by kernel_rfl) (by kernel_rfl) (by kernel_rfl) (fun _ _ _ h => h) (Or.inl ⟨by kernel_rfl, ?_⟩) (by assumption) ?_
            rotate_left
            · intro w hSw; (try dsimp only at hSw); go_simp; (try with_reducible rfl)
            (try simp only [Act.put, List.getElem_toArray, List.getElem_cons_zero, List.getElem_cons_succ, List.setIfInBounds_toArray, List.set_cons_zero, List.set_cons_succ])
            refine wpAnyH_done (by kernel_rfl) ?_ _
            clear hHeld1
            have e0 := (Kept.refl W2).drew.cell e0
            have e1 := (Kept.refl W2).drew.cell e1
            have e2 := (Kept.refl W2).drew.cell e2
            by_cases hs : (z : Int) < cn
            · first | (exfalso; omega) | (have HV := Lib.hid (HS1.out hs); go_wp2_with fail; go_ret; exact ⟨by rw [HV.out]; rfl, HK2.out.drew⟩)
            · have HV := Lib.hid (HS2.out (by omega))
              have hb : ¬ cn + mo < (z : Int) := by have := HZ1.out; omega
              rw [if_neg hb] at HV
              have hbb : decide (cn + mo < (z : Int)) = false := decide_eq_false hb
              go_wp2_with fail
              go_roundw
              case rel => exact ⟨k + 1, f + z, er, by go_num, by omega, by go_num, by omega, rfl, HV, HK2.out.drew⟩
              case measure => simp [intOf]; omega
          · obtain ⟨b, o, rfl⟩ : ∃ b o, a = some ⟨b, o, none⟩ := by
              cases a with
              | none =>
                exfalso
                have h0 : l.length = 0 := by rw [kids_len (l := l) HLK.out]; rfl
                have := HN.out
                omega
              | some ad =>
                cases hl0 : l with
                | nil => exfalso; have h0 : l.length = 0 := by { rw [hl0]; rfl }; have := HN.out; omega
                | cons y ys => obtain ⟨b, o, e, _⟩ := KidsD.head (x := y) (r := ys) (by rw [← hl0]; exact HLK.out); exact ⟨b, o, e⟩
            have hcut := kids_cut (f := f) (t := t) (by rw [HN.out]; exact HLK2.out) (by omega) (by rw [HN.out]; omega)
            have hcl : ((l.drop f).take (t - f)).length = t - f := by rw [List.length_take, List.length_drop, HN.out]; omega
            have HLD := Lib.hid (fun W (k : Kept W2 W) => show Calls Tryz.prog 90 #[.slice (some ⟨b, o + f * 6, none⟩) (t - f) (t - f), .slice ka kk.length kc] W (fun e w' => e = .returned (.int .i64 (z : Int)) ∧ w' = W) from by
              have := leading_c (some ⟨b, o + f * 6, none⟩) (t - f) _ ka kc kk W (KidsD.kept hcut k) (IntsR.kept HKI.out k)
              rw [hcl, HZ.out] at this; exact this)
            have htf : ¬ t = f := fun e => hft e.symm
            clear hcut hcl hft
            go_wp2_with (rw [HW2.out])
            refine wp_region_held_drew (S := (fun W => W.cell? ⟨wr.heap.size, 0, none⟩ = some (.slice ka kk.length kc) ∧ W.cell? ⟨wr.heap.size, 1, none⟩ = some (.int .i64 cn) ∧ W.cell? ⟨wr.heap.size, 2, none⟩ = some (.int .i64 mo) ∧ Kept W2 W)) (by kernel_rfl) ⟨(Kept.refl W2).drew.cell e0, (Kept.refl W2).drew.cell e1, (Kept.refl W2).drew.cell e2, (Kept.refl W2).drew⟩ (fun hHeld0 => ?_)
            refine wpAnyH_take (i := 0) (v := ?_) rfl (by kernel_rfl) (by kernel_rfl) (by kernel_rfl) (fun _ _ _ h => h) (Or.inl ⟨by kernel_rfl, ?_⟩) (by assumption) ?_
            rotate_left
            · intro w hSw; (try dsimp only at hSw); go_simp; (try with_reducible rfl)
            (try simp only [Act.put, List.getElem_toArray, List.getElem_cons_zero, List.getElem_cons_succ, List.setIfInBounds_toArray, List.set_cons_zero, List.set_cons_succ])
            refine wpAnyH_take (i := 1) (v := ?_) rfl (by kernel_rfl) (by kernel_rfl) (by kernel_rfl) (fun _ _ _ h => h) (Or.inl ⟨by kernel_rfl, ?_⟩) (by assumption) ?_
            rotate_left
            · intro w hSw; (try dsimp only at hSw); go_simp; (try with_reducible rfl)
            (try simp only [Act.put, List.getElem_toArray, List.getElem_cons_zero, List.getElem_cons_succ, List.setIfInBounds_toArray, List.set_cons_zero, List.set_cons_succ])
            refine wpAnyH_take (i := 2) (v := ?_) rfl (by kernel_rfl) (by kernel_rfl) (by kernel_rfl) (fun _ _ _ h => h) (Or.inl ⟨by kernel_rfl, ?_⟩) (by assumption) ?_
            rotate_left
            · intro w hSw; (try dsimp only at hSw); go_simp; (try with_reducible rfl)
            (try simp only [Act.put, List.getElem_toArray, List.getElem_cons_zero, List.getElem_cons_succ, List.setIfInBounds_toArray, List.set_cons_zero, List.set_cons_succ])
            refine wpAnyH_take (i := 3) (v := ?_) rfl (by kernel_rfl) (by kernel_rfl) (by kernel_rfl) (fun _ _ _ h => h) (Or.inl ⟨by kernel_rfl, ?_⟩) (by assumption) ?_
            rotate_left
            · intro w hSw; (try dsimp only at hSw); go_simp; (try with_reducible rfl)
            (try simp only [Act.put, List.getElem_toArray, List.getElem_cons_zero, List.getElem_cons_succ, List.setIfInBounds_toArray, List.set_cons_zero, List.set_cons_succ])
            refine wpAnyH_take (i := 4) (v := ?_) rfl (by kernel_rfl) (by kernel_rfl) (by kernel_rfl) (fun _ _ _ h => h) (Or.inl ⟨by kernel_rfl, ?_⟩) (by assumption) ?_
            rotate_left
            · intro w hSw; (try dsimp only at hSw); go_simp; (try with_reducible rfl)
            (try simp only [Act.put, List.getElem_toArray, List.getElem_cons_zero, List.getElem_cons_succ, List.setIfInBounds_toArray, List.set_cons_zero, List.set_cons_succ])
            refine wpAnyH_take (i := 5) (v := ?_) rfl (by kernel_rfl) (by kernel_rfl) (by kernel_rfl) (fun _ _ _ h => h) (Or.inl ⟨by kernel_rfl, ?_⟩) (by assumption) ?_
            rotate_left
            · intro w hSw; (try dsimp only at hSw); go_simp; (try with_reducible rfl)
            (try simp only [Act.put, List.getElem_toArray, List.getElem_cons_zero, List.getElem_cons_succ, List.setIfInBounds_toArray, List.set_cons_zero, List.set_cons_succ])
            refine wpAnyH_take (i := 6) (v := ?_) rfl (by kernel_rfl) (by kernel_rfl) (by kernel_rfl) (fun _ _ _ h => h) (Or.inl ⟨by kernel_rfl, ?_⟩) (by assumption) ?_
            rotate_left
            · intro w hSw; (try dsimp only at hSw); go_simp; (try with_reducible rfl)
            (try simp only [Act.put, List.getElem_toArray, List.getElem_cons_zero, List.getElem_cons_succ, List.setIfInBounds_toArray, List.set_cons_zero, List.set_cons_succ])
            refine wpAnyH_ready (rs := [7]) (by kernel_rfl) (by simp) ?_
            refine AllReadyH.cons rfl (fun K hK => ?_) AllReadyH.nil
            go_simp
            go_at_call 90
            refine (HLD.out _ (Kept.refl W2).drew).mono ?_
            rintro e w3 ⟨rfl, rfl⟩
            refine hK.out _ _ hHeld0 (fun hHeld1 => ?_)
            clear hK K
            (try simp only [Act.put, List.getElem_toArray, List.getElem_cons_zero, List.getElem_cons_succ, List.setIfInBounds_toArray, List.set_cons_zero, List.set_cons_succ])
            clear hHeld0
            refine wpAnyH_take (i := 8) (v := ?_) rfl (by kernel_rfl) (by kernel_rfl) (by kernel_rfl) (fun _ _ _ h => h) (Or.inl ⟨by kernel_rfl, ?_⟩) (by assumption) ?_
            rotate_left
            · intro w hSw; (try dsimp only at hSw); go_simp; (try with_reducible rfl)
            (try simp only [Act.put, List.getElem_toArray, List.getElem_cons_zero, List.getElem_cons_succ, List.setIfInBounds_toArray, List.set_cons_zero, List.set_cons_succ])
            refine wpAnyH_done (by kernel_rfl) ?_ _
            clear hHeld1
            have e0 := (Kept.refl W2).drew.cell e0
            have e1 := (Kept.refl W2).drew.cell e1
            have e2 := (Kept.refl W2).drew.cell e2
            by_cases hs : (z : Int) < cn
            · first | (exfalso; omega) | (have HV := Lib.hid (HS1.out hs); go_wp2_with fail; go_ret; exact ⟨by rw [HV.out]; rfl, HK2.out.drew⟩)
            · have HV := Lib.hid (HS2.out (by omega))
              by_cases hb : cn + mo < (z : Int)
              · first | (exfalso; omega) | (rw [if_pos hb] at HV; have hbb : decide (cn + mo < (z : Int)) = true := decide_eq_true hb; go_wp2_with fail; go_roundw; (case rel => exact ⟨k + 1, f + z, 12, by go_num, by omega, by go_num, by omega, rfl, HV, HK2.out.drew⟩); (case measure => simp [intOf]; omega))
              · rw [if_neg hb] at HV
                have hbb : decide (cn + mo < (z : Int)) = false := decide_eq_false hb
                go_wp2_with fail
                go_roundw
                case rel => exact ⟨k + 1, f + z, er, by go_num, by omega, by go_num, by omega, rfl, HV, HK2.out.drew⟩
                case measure => simp [intOf]; omega
        · obtain rfl := hno hmn
          clear hy hno
          by_cases hft : f = t
          · have hz1 : z = 0 := by rw [← HZ.out, hft]; simp [Nd.lead]
            have HLD := Lib.hid (fun W (k : Kept W2 W) => show Calls Tryz.prog 90 #[.slice a 0 0, .slice ka kk.length kc] W (fun e w' => e = .returned (.int .i64 (z : Int)) ∧ w' = W) from by rw [hz1]; exact leading_c a 0 [] ka kc kk W kids_none (IntsR.kept HKI.out k))
            have HZ1 := Lib.hid hz1
            clear hz1
            have hftI : ¬ (f : Int) < (t : Int) := by omega
            have hsub : t - f = 0 := by omega
            subst hft
            clear hsub hftI
            go_wp2_with (rw [HW2.out])
            refine wp_region_held_drew (S := (fun W => W.cell? ⟨wr.heap.size, 0, none⟩ = some (.slice ka kk.length kc) ∧ W.cell? ⟨wr.heap.size, 1, none⟩ = some (.int .i64 cn) ∧ W.cell? ⟨wr.heap.size, 2, none⟩ = some (.int .i64 mo) ∧ Kept W2 W)) (by kernel_rfl) ⟨(Kept.refl W2).drew.cell e0, (Kept.refl W2).drew.cell e1, (Kept.refl W2).drew.cell e2, (Kept.refl W2).drew⟩ (fun hHeld0 => ?_)
            refine wpAnyH_take (i := 0) (v := ?_) rfl (by kernel_rfl) (by kernel_rfl) (by kernel_rfl) (fun _ _ _ h => h) (Or.inl ⟨by kernel_rfl, ?_⟩) (by assumption) ?_
            rotate_left
            · intro w hSw; (try dsimp only at hSw); go_simp; (try with_reducible rfl)
            (try simp only [Act.put, List.getElem_toArray, List.getElem_cons_zero, List.getElem_cons_succ, List.setIfInBounds_toArray, List.set_cons_zero, List.set_cons_succ])
            refine wpAnyH_take (i := 1) (v := ?_) rfl (by kernel_rfl) (by kernel_rfl) (by kernel_rfl) (fun _ _ _ h => h) (Or.inl ⟨by kernel_rfl, ?_⟩) (by assumption) ?_
            rotate_left
            · intro w hSw; (try dsimp only at hSw); go_simp; (try with_reducible rfl)
            (try simp only [Act.put, List.getElem_toArray, List.getElem_cons_zero, List.getElem_cons_succ, List.setIfInBounds_toArray, List.set_cons_zero, List.set_cons_succ])
            refine wpAnyH_take (i := 2) (v := ?_) rfl (by kernel_rfl) (by kernel_rfl) (by kernel_rfl) (fun _ _ _ h => h) (Or.inl ⟨by kernel_rfl, ?_⟩) (by assumption) ?_
            rotate_left
            · intro w hSw; (try dsimp only at hSw); go_simp; (try with_reducible rfl)
            (try simp only [Act.put, List.getElem_toArray, List.getElem_cons_zero, List.getElem_cons_succ, List.setIfInBounds_toArray, List.set_cons_zero, List.set_cons_succ])
            refine wpAnyH_take (i := 3) (v := ?_) rfl (by kernel_rfl) (by kernel_rfl) (by kernel_rfl) (fun _ _ _ h => h) (Or.inl ⟨by kernel_rfl, ?_⟩) (by assumption) ?_
            rotate_left
            · intro w hSw; (try dsimp only at hSw); go_simp; (try with_reducible rfl)
            (try simp only [Act.put, List.getElem_toArray, List.getElem_cons_zero, List.getElem_cons_succ, List.setIfInBounds_toArray, List.set_cons_zero, List.set_cons_succ])
            refine wpAnyH_take (i := 4) (v := ?_) rfl (by kernel_rfl) (by kernel_rfl) (by kernel_rfl) (fun _ _ _ h => h) (Or.inl ⟨by kernel_rfl, ?_⟩) (by assumption) ?_
            rotate_left
            · intro w hSw; (try dsimp only at hSw); go_simp; (try with_reducible rfl)
            (try simp only [Act.put, List.getElem_toArray, List.getElem_cons_zero, List.getElem_cons_succ, List.setIfInBounds_toArray, List.set_cons_zero, List.set_cons_succ])
            refine wpAnyH_take (i := 5) (v := ?_) rfl (by kernel_rfl) (by kernel_rfl) (by kernel_rfl) (fun _ _ _ h => h) (Or.inl ⟨by kernel_rfl, ?_⟩) (by assumption) ?_
            rotate_left
            · intro w hSw; (try dsimp only at hSw); go_simp; (try with_reducible rfl)
            (try simp only [Act.put, List.getElem_toArray, List.getElem_cons_zero, List.getElem_cons_succ, List.setIfInBounds_toArray, List.set_cons_zero, List.set_cons_succ])
            refine wpAnyH_take (i := 6) (v := ?_) rfl (by kernel_rfl) (by kernel_rfl) (by kernel_rfl) (fun _ _ _ h => h) (Or.inl ⟨by kernel_rfl, ?_⟩) (by assumption) ?_
            rotate_left
            · intro w hSw; (try dsimp only at hSw); go_simp; (try with_reducible rfl)
            (try simp only [Act.put, List.getElem_toArray, List.getElem_cons_zero, List.getElem_cons_succ, List.setIfInBounds_toArray, List.set_cons_zero, List.set_cons_succ])
            refine wpAnyH_ready (rs := [7]) (by kernel_rfl) (by simp) ?_
            refine AllReadyH.cons rfl (fun K hK => ?_) AllReadyH.nil
            go_simp
            go_at_call 90
            refine (HLD.out _ (Kept.refl W2).drew).mono ?_
            rintro e w3 ⟨rfl, rfl⟩
            refine hK.out _ _ hHeld0 (fun hHeld1 => ?_)
            clear hK K
            (try simp only [Act.put, List.getElem_toArray, List.getElem_cons_zero, List.getElem_cons_succ, List.setIfInBounds_toArray, List.set_cons_zero, List.set_cons_succ])
            clear hHeld0
            refine wpAnyH_take (i := 8) (v := ?_) rfl (by kernel_rfl) (by kernel_rfl) (by kernel_rfl) (fun _ _ _ h => h) (Or.inl ⟨by kernel_rfl, ?_⟩) (by assumption) ?_
            rotate_left
            · intro w hSw; (try dsimp only at hSw); go_simp; (try with_reducible rfl)
            (try simp only [Act.put, List.getElem_toArray, List.getElem_cons_zero, List.getElem_cons_succ, List.setIfInBounds_toArray, List.set_cons_zero, List.set_cons_succ])
            refine wpAnyH_done (by kernel_rfl) ?_ _
            clear hHeld1
            have e0 := (Kept.refl W2).drew.cell e0
            have e1 := (Kept.refl W2).drew.cell e1
            have e2 := (Kept.refl W2).drew.cell e2
            by_cases hs : (z : Int) < cn
            · first | (exfalso; omega) | (have HV := Lib.hid (HS1.out hs); go_wp2_with fail; go_ret; exact ⟨by rw [HV.out]; rfl, HK2.out.drew⟩)
            · have HV := Lib.hid (HS2.out (by omega))
              have hb : ¬ cn + mo < (z : Int) := by have := HZ1.out; omega
              rw [if_neg hb] at HV
              have hbb : decide (cn + mo < (z : Int)) = false := decide_eq_false hb
              go_wp2_with fail
              go_roundw
              case rel => exact ⟨k + 1, f + z, er, by go_num, by omega, by go_num, by omega, rfl, HV, HK2.out.drew⟩
              case measure => simp [intOf]; omega
          · obtain ⟨b, o, rfl⟩ : ∃ b o, a = some ⟨b, o, none⟩ := by
              cases a with
              | none =>
                exfalso
                have h0 : l.length = 0 := by rw [kids_len (l := l) HLK.out]; rfl
                have := HN.out
                omega
              | some ad =>
                cases hl0 : l with
                | nil => exfalso; have h0 : l.length = 0 := by { rw [hl0]; rfl }; have := HN.out; omega
                | cons y ys => obtain ⟨b, o, e, _⟩ := KidsD.head (x := y) (r := ys) (by rw [← hl0]; exact HLK.out); exact ⟨b, o, e⟩
            have hcut := kids_cut (f := f) (t := t) (by rw [HN.out]; exact HLK2.out) (by omega) (by rw [HN.out]; omega)
            have hcl : ((l.drop f).take (t - f)).length = t - f := by rw [List.length_take, List.length_drop, HN.out]; omega
            have HLD := Lib.hid (fun W (k : Kept W2 W) => show Calls Tryz.prog 90 #[.slice (some ⟨b, o + f * 6, none⟩) (t - f) (t - f), .slice ka kk.length kc] W (fun e w' => e = .returned (.int .i64 (z : Int)) ∧ w' = W) from by
              have := leading_c (some ⟨b, o + f * 6, none⟩) (t - f) _ ka kc kk W (KidsD.kept hcut k) (IntsR.kept HKI.out k)
              rw [hcl, HZ.out] at this; exact this)
            have htf : ¬ t = f := fun e => hft e.symm
            clear hcut hcl hft
            go_wp2_with (rw [HW2.out])
            refine wp_region_held_drew (S := (fun W => W.cell? ⟨wr.heap.size, 0, none⟩ = some (.slice ka kk.length kc) ∧ W.cell? ⟨wr.heap.size, 1, none⟩ = some (.int .i64 cn) ∧ W.cell? ⟨wr.heap.size, 2, none⟩ = some (.int .i64 mo) ∧ Kept W2 W)) (by kernel_rfl) ⟨(Kept.refl W2).drew.cell e0, (Kept.refl W2).drew.cell e1, (Kept.refl W2).drew.cell e2, (Kept.refl W2).drew⟩ (fun hHeld0 => ?_)
            refine wpAnyH_take (i := 0) (v := ?_) rfl (by kernel_rfl) (by kernel_rfl) (by kernel_rfl) (fun _ _ _ h => h) (Or.inl ⟨by kernel_rfl, ?_⟩) (by assumption) ?_
            rotate_left
            · intro w hSw; (try dsimp only at hSw); go_simp; (try with_reducible rfl)
            (try simp only [Act.put, List.getElem_toArray, List.getElem_cons_zero, List.getElem_cons_succ, List.setIfInBounds_toArray, List.set_cons_zero, List.set_cons_succ])
            refine wpAnyH_take (i := 1) (v := ?_) rfl (by kernel_rfl) (by kernel_rfl) (by kernel_rfl) (fun _ _ _ h => h) (Or.inl ⟨by kernel_rfl, ?_⟩) (by assumption) ?_
            rotate_left
            · intro w hSw; (try dsimp only at hSw); go_simp; (try with_reducible rfl)
            (try simp only [Act.put, List.getElem_toArray, List.getElem_cons_zero, List.getElem_cons_succ, List.setIfInBounds_toArray, List.set_cons_zero, List.set_cons_succ])
            refine wpAnyH_take (i := 2) (v := ?_) rfl (by kernel_rfl) (by kernel_rfl) (by kernel_rfl) (fun _ _ _ h => h) (Or.inl ⟨by kernel_rfl, ?_⟩) (by assumption) ?_
            rotate_left
            · intro w hSw; (try dsimp only at hSw); go_simp; (try with_reducible rfl)
            (try simp only [Act.put, List.getElem_toArray, List.getElem_cons_zero, List.getElem_cons_succ, List.setIfInBounds_toArray, List.set_cons_zero, List.set_cons_succ])
            refine wpAnyH_take (i := 3) (v := ?_) rfl (by kernel_rfl) (by kernel_rfl) (by kernel_rfl) (fun _ _ _ h => h) (Or.inl ⟨by kernel_rfl, ?_⟩) (by assumption) ?_
            rotate_left
            · intro w hSw; (try dsimp only at hSw); go_simp; (try with_reducible rfl)
            (try simp only [Act.put, List.getElem_toArray, List.getElem_cons_zero, List.getElem_cons_succ, List.setIfInBounds_toArray, List.set_cons_zero, List.set_cons_succ])
            refine wpAnyH_take (i := 4) (v := ?_) rfl (by kernel_rfl) (by kernel_rfl) (by kernel_rfl) (fun _ _ _ h => h) (Or.inl ⟨by kernel_rfl, ?_⟩) (by assumption) ?_
            rotate_left
            · intro w hSw; (try dsimp only at hSw); go_simp; (try with_reducible rfl)
            (try simp only [Act.put, List.getElem_toArray, List.getElem_cons_zero, List.getElem_cons_succ, List.setIfInBounds_toArray, List.set_cons_zero, List.set_cons_succ])
            refine wpAnyH_take (i := 5) (v := ?_) rfl (by kernel_rfl) (by kernel_rfl) (by kernel_rfl) (fun _ _ _ h => h) (Or.inl ⟨by kernel_rfl, ?_⟩) (by assumption) ?_
            rotate_left
            · intro w hSw; (try dsimp only at hSw); go_simp; (try with_reducible rfl)
            (try simp only [Act.put, List.getElem_toArray, List.getElem_cons_zero, List.getElem_cons_succ, List.setIfInBounds_toArray, List.set_cons_zero, List.set_cons_succ])
            refine wpAnyH_take (i := 6) (v := ?_) rfl (by kernel_rfl) (by kernel_rfl) (by kernel_rfl) (fun _ _ _ h => h) (Or.inl ⟨by kernel_rfl, ?_⟩) (by assumption) ?_
            rotate_left
            · intro w hSw; (try dsimp only at hSw); go_simp; (try with_reducible rfl)
            (try simp only [Act.put, List.getElem_toArray, List.getElem_cons_zero, List.getElem_cons_succ, List.setIfInBounds_toArray, List.set_cons_zero, List.set_cons_succ])
            refine wpAnyH_ready (rs := [7]) (by kernel_rfl) (by simp) ?_
            refine AllReadyH.cons rfl (fun K hK => ?_) AllReadyH.nil
            go_simp
            go_at_call 90
            refine (HLD.out _ (Kept.refl W2).drew).mono ?_
            rintro e w3 ⟨rfl, rfl⟩
            refine hK.out _ _ hHeld0 (fun hHeld1 => ?_)
            clear hK K
            (try simp only [Act.put, List.getElem_toArray, List.getElem_cons_zero, List.getElem_cons_succ, List.setIfInBounds_toArray, List.set_cons_zero, List.set_cons_succ])
            clear hHeld0
            refine wpAnyH_take (i := 8) (v := ?_) rfl (by kernel_rfl) (by kernel_rfl) (by kernel_rfl) (fun _ _ _ h => h) (Or.inl ⟨by kernel_rfl, ?_⟩) (by assumption) ?_
            rotate_left
            · intro w hSw; (try dsimp only at hSw); go_simp; (try with_reducible rfl)
            (try simp only [Act.put, List.getElem_toArray, List.getElem_cons_zero, List.getElem_cons_succ, List.setIfInBounds_toArray, List.set_cons_zero, List.set_cons_succ])
            refine wpAnyH_done (by kernel_rfl) ?_ _
            clear hHeld1
            have e0 := (Kept.refl W2).drew.cell e0
            have e1 := (Kept.refl W2).drew.cell e1
            have e2 := (Kept.refl W2).drew.cell e2
            by_cases hs : (z : Int) < cn
            · first | (exfalso; omega) | (have HV := Lib.hid (HS1.out hs); go_wp2_with fail; go_ret; exact ⟨by rw [HV.out]; rfl, HK2.out.drew⟩)
            · have HV := Lib.hid (HS2.out (by omega))
              by_cases hb : cn + mo < (z : Int)
              · first | (exfalso; omega) | (rw [if_pos hb] at HV; have hbb : decide (cn + mo < (z : Int)) = true := decide_eq_true hb; go_wp2_with fail; go_roundw; (case rel => exact ⟨k + 1, f + z, 12, by go_num, by omega, by go_num, by omega, rfl, HV, HK2.out.drew⟩); (case measure => simp [intOf]; omega))
              · rw [if_neg hb] at HV
                have hbb : decide (cn + mo < (z : Int)) = false := decide_eq_false hb
                go_wp2_with fail
                go_roundw
                case rel => exact ⟨k + 1, f + z, er, by go_num, by omega, by go_num, by omega, rfl, HV, HK2.out.drew⟩
                case measure => simp [intOf]; omega
      · obtain rfl := htn hm
        have hmb : (mo == 0) = false := by simp [hm]
        clear htm hm
        by_cases hft : f = t
        · have hz1 : z = 0 := by rw [← HZ.out, hft]; simp [Nd.lead]
          have HLD := Lib.hid (fun W (k : Kept W2 W) => show Calls Tryz.prog 90 #[.slice a 0 0, .slice ka kk.length kc] W (fun e w' => e = .returned (.int .i64 (z : Int)) ∧ w' = W) from by rw [hz1]; exact leading_c a 0 [] ka kc kk W kids_none (IntsR.kept HKI.out k))
          have HZ1 := Lib.hid hz1
          clear hz1
          have hftI : ¬ (f : Int) < (t : Int) := by omega
          have hsub : t - f = 0 := by omega
          subst hft
          clear hsub hftI
          go_wp2_with (rw [HW2.out])
          refine wp_region_held_drew (S := (fun W => W.cell? ⟨wr.heap.size, 0, none⟩ = some (.slice ka kk.length kc) ∧ W.cell? ⟨wr.heap.size, 1, none⟩ = some (.int .i64 cn) ∧ W.cell? ⟨wr.heap.size, 2, none⟩ = some (.int .i64 mo) ∧ Kept W2 W)) (by kernel_rfl) ⟨(Kept.refl W2).drew.cell e0, (Kept.refl W2).drew.cell e1, (Kept.refl W2).drew.cell e2, (Kept.refl W2).drew⟩ (fun hHeld0 => ?_)
          refine wpAnyH_take (i := 0) (v := ?_) rfl (by kernel_rfl) (by kernel_rfl) (by kernel_rfl) (fun _ _ _ h => h) (Or.inl ⟨by kernel_rfl, ?_⟩) (by assumption) ?_
          rotate_left
          · intro w hSw; (try dsimp only at hSw); go_simp; (try with_reducible rfl)
          (try simp only [Act.put, List.getElem_toArray, List.getElem_cons_zero, List.getElem_cons_succ, List.setIfInBounds_toArray, List.set_cons_zero, List.set_cons_succ])
          refine wpAnyH_take (i := 1) (v := ?_) rfl (by kernel_rfl) (by kernel_rfl) (by kernel_rfl) (fun _ _ _ h => h) (Or.inl ⟨by kernel_rfl, ?_⟩) (by assumption) ?_
          rotate_left
          · intro w hSw; (try dsimp only at hSw); go_simp; (try with_reducible rfl)
          (try simp only [Act.put, List.getElem_toArray, List.getElem_cons_zero, List.getElem_cons_succ, List.setIfInBounds_toArray, List.set_cons_zero, List.set_cons_succ])
          refine wpAnyH_take (i := 2) (v := ?_) rfl (by kernel_rfl) (by kernel_rfl) (by kernel_rfl) (fun _ _ _ h => h) (Or.inl ⟨by kernel_rfl, ?_⟩) (by assumption) ?_
          rotate_left
          · intro w hSw; (try dsimp only at hSw); go_simp; (try with_reducible rfl)
          (try simp only [Act.put, List.getElem_toArray, List.getElem_cons_zero, List.getElem_cons_succ, List.setIfInBounds_toArray, List.set_cons_zero, List.set_cons_succ])
          refine wpAnyH_take (i := 3) (v := ?_) rfl (by kernel_rfl) (by kernel_rfl) (by kernel_rfl) (fun _ _ _ h => h) (Or.inl ⟨by kernel_rfl, ?_⟩) (by assumption) ?_
          rotate_left
          · intro w hSw; (try dsimp only at hSw); go_simp; (try with_reducible rfl)
          (try simp only [Act.put, List.getElem_toArray, List.getElem_cons_zero, List.getElem_cons_succ, List.setIfInBounds_toArray, List.set_cons_zero, List.set_cons_succ])
          refine wpAnyH_take (i := 4) (v := ?_) rfl (by kernel_rfl) (by kernel_rfl) (by kernel_rfl) (fun _ _ _ h => h) (Or.inl ⟨by kernel_rfl, ?_⟩) (by assumption) ?_
          rotate_left
          · intro w hSw; (try dsimp only at hSw); go_simp; (try with_reducible rfl)
          (try simp only [Act.put, List.getElem_toArray, List.getElem_cons_zero, List.getElem_cons_succ, List.setIfInBounds_toArray, List.set_cons_zero, List.set_cons_succ])
          refine wpAnyH_take (i := 5) (v := ?_) rfl (by kernel_rfl) (by kernel_rfl) (by kernel_rfl) (fun _ _ _ h => h) (Or.inl ⟨by kernel_rfl, ?_⟩) (by assumption) ?_
          rotate_left
          · intro w hSw; (try dsimp only at hSw); go_simp; (try with_reducible rfl)
          (try simp only [Act.put, List.getElem_toArray, List.getElem_cons_zero, List.getElem_cons_succ, List.setIfInBounds_toArray, List.set_cons_zero, List.set_cons_succ])
          refine wpAnyH_take (i := 6) (v := ?_) rfl (by kernel_rfl) (by kernel_rfl) (by kernel_rfl) (fun _ _ _ h => h) (Or.inl ⟨by kernel_rfl, ?_⟩) (by assumption) ?_
          rotate_left
          · intro w hSw; (try dsimp only at hSw); go_simp; (try with_reducible rfl)
          (try simp only [Act.put, List.getElem_toArray, List.getElem_cons_zero, List.getElem_cons_succ, List.setIfInBounds_toArray, List.set_cons_zero, List.set_cons_succ])
          refine wpAnyH_ready (rs := [7]) (by kernel_rfl) (by simp) ?_
          refine AllReadyH.cons rfl (fun K hK => ?_) AllReadyH.nil
          go_simp
          go_at_call 90
          refine (HLD.out _ (Kept.refl W2).drew).mono ?_
          rintro e w3 ⟨rfl, rfl⟩
          refine hK.out _ _ hHeld0 (fun hHeld1 => ?_)
          clear hK K
          (try simp only [Act.put, List.getElem_toArray, List.getElem_cons_zero, List.getElem_cons_succ, List.setIfInBounds_toArray, List.set_cons_zero, List.set_cons_succ])
          clear hHeld0
          refine wpAnyH_take (i := 8) (v := ?_) rfl (by kernel_rfl) (by kernel_rfl) (by kernel_rfl) (fun _ _ _ h => h) (Or.inl ⟨by kernel_rfl, ?_⟩) (by assumption) ?_
          rotate_left
          · intro w hSw; (try dsimp only at hSw); go_simp; (try with_reducible rfl)
          (try simp only [Act.put, List.getElem_toArray, List.getElem_cons_zero, List.getElem_cons_succ, List.setIfInBounds_toArray, List.set_cons_zero, List.set_cons_succ])
          refine wpAnyH_done (by kernel_rfl) ?_ _
          clear hHeld1
          have e0 := (Kept.refl W2).drew.cell e0
          have e1 := (Kept.refl W2).drew.cell e1
          have e2 := (Kept.refl W2).drew.cell e2
          by_cases hs : (z : Int) < cn
          · first | (exfalso; omega) | (have HV := Lib.hid (HS1.out hs); go_wp2_with fail; go_ret; exact ⟨by rw [HV.out]; rfl, HK2.out.drew⟩)
          · have HV := Lib.hid (HS2.out (by omega))
            have hb : ¬ cn + mo < (z : Int) := by have := HZ1.out; omega
            rw [if_neg hb] at HV
            have hbb : decide (cn + mo < (z : Int)) = false := decide_eq_false hb
            go_wp2_with fail
            go_roundw
            case rel => exact ⟨k + 1, f + z, er, by go_num, by omega, by go_num, by omega, rfl, HV, HK2.out.drew⟩
            case measure => simp [intOf]; omega
        · obtain ⟨b, o, rfl⟩ : ∃ b o, a = some ⟨b, o, none⟩ := by
            cases a with
            | none =>
              exfalso
              have h0 : l.length = 0 := by rw [kids_len (l := l) HLK.out]; rfl
              have := HN.out
              omega
            | some ad =>
              cases hl0 : l with
              | nil => exfalso; have h0 : l.length = 0 := by { rw [hl0]; rfl }; have := HN.out; omega
              | cons y ys => obtain ⟨b, o, e, _⟩ := KidsD.head (x := y) (r := ys) (by rw [← hl0]; exact HLK.out); exact ⟨b, o, e⟩
          have hcut := kids_cut (f := f) (t := t) (by rw [HN.out]; exact HLK2.out) (by omega) (by rw [HN.out]; omega)
          have hcl : ((l.drop f).take (t - f)).length = t - f := by rw [List.length_take, List.length_drop, HN.out]; omega
          have HLD := Lib.hid (fun W (k : Kept W2 W) => show Calls Tryz.prog 90 #[.slice (some ⟨b, o + f * 6, none⟩) (t - f) (t - f), .slice ka kk.length kc] W (fun e w' => e = .returned (.int .i64 (z : Int)) ∧ w' = W) from by
            have := leading_c (some ⟨b, o + f * 6, none⟩) (t - f) _ ka kc kk W (KidsD.kept hcut k) (IntsR.kept HKI.out k)
            rw [hcl, HZ.out] at this; exact this)
          have htf : ¬ t = f := fun e => hft e.symm
          clear hcut hcl hft
          go_wp2_with (rw [HW2.out])
          refine wp_region_held_drew (S := (fun W => W.cell? ⟨wr.heap.size, 0, none⟩ = some (.slice ka kk.length kc) ∧ W.cell? ⟨wr.heap.size, 1, none⟩ = some (.int .i64 cn) ∧ W.cell? ⟨wr.heap.size, 2, none⟩ = some (.int .i64 mo) ∧ Kept W2 W)) (by kernel_rfl) ⟨(Kept.refl W2).drew.cell e0, (Kept.refl W2).drew.cell e1, (Kept.refl W2).drew.cell e2, (Kept.refl W2).drew⟩ (fun hHeld0 => ?_)
          refine wpAnyH_take (i := 0) (v := ?_) rfl (by kernel_rfl) (by kernel_rfl) (by kernel_rfl) (fun _ _ _ h => h) (Or.inl ⟨by kernel_rfl, ?_⟩) (by assumption) ?_
          rotate_left
          · intro w hSw; (try dsimp only at hSw); go_simp; (try with_reducible rfl)
          (try simp only [Act.put, List.getElem_toArray, List.getElem_cons_zero, List.getElem_cons_succ, List.setIfInBounds_toArray, List.set_cons_zero, List.set_cons_succ])
          refine wpAnyH_take (i := 1) (v := ?_) rfl (by kernel_rfl) (by kernel_rfl) (by kernel_rfl) (fun _ _ _ h => h) (Or.inl ⟨by kernel_rfl, ?_⟩) (by assumption) ?_
          rotate_left
          · intro w hSw; (try dsimp only at hSw); go_simp; (try with_reducible rfl)
          (try simp only [Act.put, List.getElem_toArray, List.getElem_cons_zero, List.getElem_cons_succ, List.setIfInBounds_toArray, List.set_cons_zero, List.set_cons_succ])
          refine wpAnyH_take (i := 2) (v := ?_) rfl (by kernel_rfl) (by kernel_rfl) (by kernel_rfl) (fun _ _ _ h => h) (Or.inl ⟨by kernel_rfl, ?_⟩) (by assumption) ?_
          rotate_left
          · intro w hSw; (try dsimp only at hSw); go_simp; (try with_reducible rfl)
          (try simp only [Act.put, List.getElem_toArray, List.getElem_cons_zero, List.getElem_cons_succ, List.setIfInBounds_toArray, List.set_cons_zero, List.set_cons_succ])
          refine wpAnyH_take (i := 3) (v := ?_) rfl (by kernel_rfl) (by kernel_rfl) (by kernel_rfl) (fun _ _ _ h => h) (Or.inl ⟨by kernel_rfl, ?_⟩) (by assumption) ?_
          rotate_left
          · intro w hSw; (try dsimp only at hSw); go_simp; (try with_reducible rfl)
          (try simp only [Act.put, List.getElem_toArray, List.getElem_cons_zero, List.getElem_cons_succ, List.setIfInBounds_toArray, List.set_cons_zero, List.set_cons_succ])
          refine wpAnyH_take (i := 4) (v := ?_) rfl (by kernel_rfl) (by kernel_rfl) (by kernel_rfl) (fun _ _ _ h => h) (Or.inl ⟨by kernel_rfl, ?_⟩) (by assumption) ?_
          rotate_left
          · intro w hSw; (try dsimp only at hSw); go_simp; (try with_reducible rfl)
          (try simp only [Act.put, List.getElem_toArray, List.getElem_cons_zero, List.getElem_cons_succ, List.setIfInBounds_toArray, List.set_cons_zero, List.set_cons_succ])
          refine wpAnyH_take (i := 5) (v := ?_) rfl (by kernel_rfl) (by kernel_rfl) (by kernel_rfl) (fun _ _ _ h => h) (Or.inl ⟨by kernel_rfl, ?_⟩) (by assumption) ?_
          rotate_left
          · intro w hSw; (try dsimp only at hSw); go_simp; (try with_reducible rfl)
          (try simp only [Act.put, List.getElem_toArray, List.getElem_cons_zero, List.getElem_cons_succ, List.setIfInBounds_toArray, List.set_cons_zero, List.set_cons_succ])
          refine wpAnyH_take (i := 6) (v := ?_) rfl (by kernel_rfl) (by kernel_rfl) (by kernel_rfl) (fun _ _ _ h => h) (Or.inl ⟨by kernel_rfl, ?_⟩) (by assumption) ?_
          rotate_left
          · intro w hSw; (try dsimp only at hSw); go_simp; (try with_reducible rfl)
          (try simp only [Act.put, List.getElem_toArray, List.getElem_cons_zero, List.getElem_cons_succ, List.setIfInBounds_toArray, List.set_cons_zero, List.set_cons_succ])
          refine wpAnyH_ready (rs := [7]) (by kernel_rfl) (by simp) ?_
          refine AllReadyH.cons rfl (fun K hK => ?_) AllReadyH.nil
          go_simp
          go_at_call 90
          refine (HLD.out _ (Kept.refl W2).drew).mono ?_
          rintro e w3 ⟨rfl, rfl⟩
          refine hK.out _ _ hHeld0 (fun hHeld1 => ?_)
          clear hK K
          (try simp only [Act.put, List.getElem_toArray, List.getElem_cons_zero, List.getElem_cons_succ, List.setIfInBounds_toArray, List.set_cons_zero, List.set_cons_succ])
          clear hHeld0
          refine wpAnyH_take (i := 8) (v := ?_) rfl (by kernel_rfl) (by kernel_rfl) (by kernel_rfl) (fun _ _ _ h => h) (Or.inl ⟨by kernel_rfl, ?_⟩) (by assumption) ?_
          rotate_left
          · intro w hSw; (try dsimp only at hSw); go_simp; (try with_reducible rfl)
          (try simp only [Act.put, List.getElem_toArray, List.getElem_cons_zero, List.getElem_cons_succ, List.setIfInBounds_toArray, List.set_cons_zero, List.set_cons_succ])
          refine wpAnyH_done (by kernel_rfl) ?_ _
          clear hHeld1
          have e0 := (Kept.refl W2).drew.cell e0
          have e1 := (Kept.refl W2).drew.cell e1
          have e2 := (Kept.refl W2).drew.cell e2
          by_cases hs : (z : Int) < cn
          · first | (exfalso; omega) | (have HV := Lib.hid (HS1.out hs); go_wp2_with fail; go_ret; exact ⟨by rw [HV.out]; rfl, HK2.out.drew⟩)
          · have HV := Lib.hid (HS2.out (by omega))
            by_cases hb : cn + mo < (z : Int)
            · first | (exfalso; omega) | (rw [if_pos hb] at HV; have hbb : decide (cn + mo < (z : Int)) = true := decide_eq_true hb; go_wp2_with fail; go_roundw; (case rel => exact ⟨k + 1, f + z, 12, by go_num, by omega, by go_num, by omega, rfl, HV, HK2.out.drew⟩); (case measure => simp [intOf]; omega))
            · rw [if_neg hb] at HV
              have hbb : decide (cn + mo < (z : Int)) = false := decide_eq_false hb
              go_wp2_with fail
              go_roundw
              case rel => exact ⟨k + 1, f + z, er, by go_num, by omega, by go_num, by omega, rfl, HV, HK2.out.drew⟩
              case measure => simp [intOf]; omega
    · obtain rfl : k = ps.length := by omega
      have hltI : ¬ (ps.length : Int) < (ps.length : Int) := by omega
      have hr := HR.out
      rw [List.drop_length] at hr
      have HE := Lib.hid (show kidsE l ps = if f < l.length then 5 else er by unfold kidsE; rw [hr]; rfl)
      clear hr HR
      by_cases hfl : f < l.length
      · have hfI : (f : Int) < (l.length : Int) := by omega
        rw [if_pos hfl] at HE
        go_wp2_with fail
        go_ret
        exact ⟨by rw [HE.out]; rfl, HK.out⟩
      · have hfI : ¬ (f : Int) < (l.length : Int) := by omega
        rw [if_neg hfl] at HE
        go_wp2_with fail
        go_ret
        exact ⟨by rw [HE.out]; rfl, HK.out⟩

end Go.Proofs.YtfkmnpgpfmkjaaaGreatDoor
namespace Go.Proofs.YtfkmnpgpfmkjaaaGreatDoor
open Go.ChangeShapes Go.WideShapes Go.ChangeAt Go.RowKit Go.Shelf
attribute [local go_sem] Oper.semAt_some

def hasW (words s : ByteArray) : Bool := Wrd.has (Wrd.flds words) s
/-- Words of ASCII bytes, not too long. -/
def wordsOk (words : ByteArray) : Prop := words.size ≤ 9223372036854775807 ∧ ∀ c ∈ words.data.toList, c.toNat < 128

set_option maxHeartbeats 4000000 in
theorem hasW_c (nb no : Nat) (x : Ne) (s : ByteArray) (w : World) (hT : Tb w) (hn : NeedAt w nb no x) (hwk : wordsOk x.words) :
    Calls Tryz.prog 91 #[.pointer (some ⟨nb, no, none⟩), .string s] w fun e w' => e = .returned (.bool (hasW x.words s)) ∧ Kept w w' := by
  obtain ⟨ns, _, _, hw0, _⟩ := hn
  obtain ⟨ws, hws⟩ : ∃ ws, x.words = ws := ⟨_, rfl⟩
  rw [hws] at hw0 hwk ⊢
  clear hws
  refine (callsIn_wide (n := 3)).1 (callsIn_of_wp_marks Tryz.func91 rfl trivial (wpIn_wide.2 ?_) rfl)
  simp only [Tryz.ntmps91, List.size_toArray, List.length_cons, List.length_nil, Nat.reduceAdd, Nat.reduceSub, Array.replicate_succ, Array.replicate_zero, List.push_toArray, List.append_toArray, List.nil_append, List.cons_append]
  have hw1 := (((Kept.refl w).alloc (.cells #[.string s] 9)).alloc (.cells #[.bool false] 4)).cell hw0
  go_wp2_with fail
  refine ((callsIn_wide (n := 1)).1 (fseq_in Fence.wide 1 trivial rfl ws _)).mono ?_
  rintro e w' ⟨rfl, rfl⟩
  go_wp2_with fail
  have hK0 : Kept w (((w.alloc (.cells #[.string s] 9)).alloc (.cells #[.bool false] 4)).alloc (.cells #[.string ws] 9)) := (((Kept.refl w).alloc _).alloc _).alloc _
  have hB0 : Below w.heap.size w (((w.alloc (.cells #[.string s] 9)).alloc (.cells #[.bool false] 4)).alloc (.cells #[.string ws] 9)) := (((Below.refl _ w).alloc (Nat.le_refl _) _).alloc (by simp) _).alloc (by simp; omega) _
  have b1 := ((Blk.new w 9 #[.string s]).alloc (.cells #[.bool false] 4)).alloc (.cells #[.string ws] 9)
  have b2 := (Blk.new (w.alloc (.cells #[.string s] 9)) 4 #[.bool false]).alloc (.cells #[.string ws] 9)
  have b3 := Blk.new ((w.alloc (.cells #[.string s] 9)).alloc (.cells #[.bool false] 4)) 9 #[.string ws]
  simp only [World.size_alloc] at b2 b3
  have hT0 := hT.kept hK0
  have hlt := hT.lt
  clear hw0 hw1
  refine wpIn_wide.1 (wpIn_rangeFunc_ownG (F := Fence.wide) (n := 3) rfl (by omega) (gf := 120) (lb := #[.pointer (some ⟨w.heap.size + 1 + 1, 0, none⟩)]) rfl trivial (enters_of Tryz.func120 (by kernel_rfl) rfl)
    (fseq_stops Fence.wide (3 - 1) trivial rfl (by omega) (w.heap.size + 1 + 1) ws hwk.1 hwk.2 _ hT0 (by simp) (b3.cell 0)) kp3_t (kp3_b hT0 (by simp)) (Below.refl _ _) (fun _ => rfl)
    (KeyI w s) (KeyX w s) (keyI_from w s _ (by simp; omega)) (fun c => keyX_from w s c _ (by simp; omega))
    ⟨b1, b2, hB0, by simp⟩
    (fun x => { tmps := #[.pointer (some ⟨nb, no, none⟩), .string s, undef, .pointer (some ⟨w.heap.size, 0, none⟩), .pointer (some ⟨w.heap.size + 1, 0, none⟩), .string x, .pointer (some ⟨nb, no, none⟩), .pointer (some ⟨nb, no, none⟩), .pointer (some ⟨nb, no + 2, none⟩), .string ws, .func (.func 120) #[] #[.pointer (some ⟨w.heap.size + 1 + 1, 0, none⟩)], .string x, undef, undef, undef], defers := [] }) ?assign ?body ?done ?stop)
  case assign =>
    intro l x W K hK
    gi_wp2
    exact hK
  case body =>
    rintro l pre x W ⟨h1, h2, h3, h4⟩ hlt'
    have c1 := h1.cell 0
    have c2 := h2.cell 0
    have f2 := h2.frozen 0
    simp at c1 c2
    by_cases hx : x = s
    · subst hx
      have HX := Lib.hid (show KeyX w x .ret (pre ++ [x]) (W.setCell ⟨w.heap.size + 1, 0, none⟩ (.bool true)) from
        ⟨rfl, h2.put 0 _, h3.setCell (by simp) _, by simp⟩)
      clear h1 h2 h3 h4 hT hT0 hK0 hB0 b1 b2 b3
      gi_wp2
      exact ⟨(KeepsOthers.setCell _ _ _).from _, HX.out⟩
    · have HI := Lib.hid (show KeyI w s (pre ++ [x]) W from ⟨h1, h2, h3, by simp [h4]; exact fun e => hx e.symm⟩)
      clear h1 h2 h3 h4 hT hT0 hK0 hB0 b1 b2 b3
      have hne := beq_no hx
      clear hx
      gi_wp2
      exact ⟨KeepsFrom.refl _ _, ⟨Nat.le_refl _, fun _ _ => rfl⟩, HI.out⟩
  case done =>
    rintro D ys W hD hys ⟨h1, h2, h3, h4⟩ hK
    subst hys
    have hkey : hasW ws s = false := Wrd.has_no h4
    have c2 := h2.cell 0
    have f2 := h2.frozen 0
    simp at c2
    go_wp2
    have hK2 : (W.setCell ⟨w.heap.size + 1, 0, none⟩ (.bool false)).heap[D]? = some (.deferred (some [])) := (Below.heap_setCell W _ _ D (by simp at hD; simp; omega)).trans hK
    have h2' := h2.put 0 (.bool false)
    have h3' : Below w.heap.size w (W.setCell ⟨w.heap.size + 1, 0, none⟩ (.bool false)) := h3.setCell (by simp) _
    refine ⟨by simp, .inl ⟨_, _, rfl, run_takeDeferred hK2, ?_⟩⟩
    have c3 := (h2'.grown (grownBy_putObj' _ D (.deferred none)) (fun r e => by cases e; exact ⟨_, hK2, rfl⟩)).cell 0
    simp at c3
    exact ⟨_, by simp [results, Tryz.results91, go_sem, c3]; rfl, by rw [hkey], Kept.of_below (h3'.trans (belowK_b (w := w) (Nat.le_refl _) _ D _ _ (by simp at hD; omega) hK2 rfl rfl))⟩
  case stop =>
    rintro D c pre W hD hpre ⟨rfl, h2, h3, h4⟩ hK
    have hkey : hasW ws s = true := Wrd.has_iff.2 (hpre.subset h4)
    have c3 := (h2.grown (grownBy_putObj' _ D (.deferred none)) (fun r e => by cases e; exact ⟨_, hK, rfl⟩)).cell 0
    simp at c3
    gi_wp2
    refine ⟨by simp, .inl ⟨_, _, rfl, run_takeDeferred hK, ?_⟩⟩
    exact ⟨_, by simp [results, Tryz.results91, go_sem, c3]; rfl, by rw [hkey], Kept.of_below (h3.trans (belowK_b (w := w) (Nat.le_refl _) _ D _ _ (by simp at hD; omega) hK rfl rfl))⟩

/-- Is a text what a field of a node has to be? -/
def isNm (rule : Int) (s : ByteArray) : Bool := if rule = 1 then Wrd.name s else if rule = 2 then Wrd.cls s else if rule = 3 then decide (s = ⟨#[]⟩) || Wrd.cls s else true

theorem emp_yes : ((⟨#[]⟩ : ByteArray).toList == []) = true := by kernel_rfl
theorem emp_no {s : ByteArray} (h : ¬ s = ⟨#[]⟩) : (s.toList == []) = false := lit_no h

theorem isName_c (r : Int) (s : ByteArray) (w : World) (hT : Tb w) (hs : s.size ≤ maxLen) : Calls Tryz.prog 93 #[.int .i64 r, .string s] w fun e w' => e = .returned (.bool (isNm r s)) ∧ Kept w w' := by
  unfold maxLen at hs
  have HN := Lib.hid (name_c s w hT (by omega))
  have HC := Lib.hid (class_c s w (by omega))
  by_cases h1 : r = 1
  · have HV := Lib.hid (show isNm r s = Wrd.name s by unfold isNm; rw [if_pos h1])
    go_enter Tryz.func93, Tryz.ntmps93
    go_wp2_with fail
    refine HN.out.mono ?_
    rintro e w' ⟨rfl, k⟩
    go_wp2_with fail
    go_ret
    exact ⟨by rw [HV.out]; rfl, k⟩
  have b1 : (r == 1) = false := by simp [h1]
  by_cases h2 : r = 2
  · have HV := Lib.hid (show isNm r s = Wrd.cls s by unfold isNm; rw [if_neg h1, if_pos h2])
    clear h1
    go_enter Tryz.func93, Tryz.ntmps93
    go_wp2_with fail
    refine HC.out.mono ?_
    rintro e w' ⟨rfl, k⟩
    go_wp2_with fail
    go_ret
    exact ⟨by rw [HV.out]; rfl, k⟩
  have b2 : (r == 2) = false := by simp [h2]
  by_cases h3 : r = 3
  · by_cases he : s = ⟨#[]⟩
    · have HV := Lib.hid (show isNm r s = true by unfold isNm; rw [if_neg h1, if_neg h2, if_pos h3, decide_eq_true he]; rfl)
      have hemp := emp_yes
      clear h1 h2
      subst he
      go_enter Tryz.func93, Tryz.ntmps93
      go_wp2_with fail
      go_ret
      exact ⟨by rw [HV.out]; rfl, Kept.refl _⟩
    · have HV := Lib.hid (show isNm r s = Wrd.cls s by unfold isNm; rw [if_neg h1, if_neg h2, if_pos h3, decide_eq_false he]; rfl)
      have hemp := emp_no he
      clear h1 h2 he
      go_enter Tryz.func93, Tryz.ntmps93
      go_wp2_with fail
      refine HC.out.mono ?_
      rintro e w' ⟨rfl, k⟩
      go_wp2_with fail
      go_ret
      exact ⟨by rw [HV.out]; rfl, k⟩
  · have b3 : (r == 3) = false := by simp [h3]
    have HV := Lib.hid (show isNm r s = true by unfold isNm; rw [if_neg h1, if_neg h2, if_neg h3])
    clear h1 h2 h3
    go_enter Tryz.func93, Tryz.ntmps93
    go_wp2_with fail
    go_ret
    exact ⟨by rw [HV.out]; rfl, Kept.refl _⟩

def namedB (x : Ne) (n : Nd) : Bool := isNm x.text n.text && isNm x.typ n.typ

set_option maxHeartbeats 4000000 in
theorem named_c (nb no b o : Nat) (x : Ne) (n : Nd) (w : World) (hT : Tb w) (hn : NeedAt w nb no x) (hd : NdAt w b o n) :
    Calls Tryz.prog 54 #[.pointer (some ⟨nb, no, none⟩), .pointer (some ⟨b, o, none⟩)] w fun e w' => e = .returned (.bool (namedB x n)) ∧ Kept w w' := by
  obtain ⟨ns, c0, c1, _⟩ := hn
  obtain ⟨_, _, ⟨_, d1, d2, _⟩, hok, _⟩ := hd.cells
  have hok1 := hok.2.2.1
  have hok2 := hok.2.2.2.1
  clear hok hd
  have HC := Lib.hid (fun r s hs W (k : Kept w W) => isName_c r s W (hT.kept k) hs)
  go_enter Tryz.func54, Tryz.ntmps54
  go_wp2_with fail
  cases h1 : isNm x.text n.text with
  | false =>
    have HV := Lib.hid (show namedB x n = false by unfold namedB; rw [h1]; rfl)
    have H1 := Lib.hid (fun W (k : Kept w W) => HC.out x.text n.text hok1 W k)
    rw [h1] at H1
    clear h1
    refine wp_region_held_drew (S := (fun W => W.cell? ⟨nb, no, none⟩ = some (.int .i64 x.text) ∧ W.cell? ⟨nb, no + 1, none⟩ = some (.int .i64 x.typ) ∧ W.cell? ⟨b, o + 1, none⟩ = some (.string n.text) ∧ W.cell? ⟨b, o + 2, none⟩ = some (.string n.typ) ∧ Kept w W)) (by kernel_rfl) ⟨(Kept.refl w).drew.cell c0, (Kept.refl w).drew.cell c1, (Kept.refl w).drew.cell d1, (Kept.refl w).drew.cell d2, (Kept.refl w).drew⟩ (fun hHeld0 => ?_)
    refine wpAnyH_take (i := 0) (v := ?_) rfl (by kernel_rfl) (by kernel_rfl) (by kernel_rfl) (fun _ _ _ h => h) (Or.inl ⟨by kernel_rfl, ?_⟩) (by assumption) ?_
    rotate_left
    · intro w hSw; (try dsimp only at hSw); go_simp; (try with_reducible rfl)
    (try simp only [Act.put, List.getElem_toArray, List.getElem_cons_zero, List.getElem_cons_succ, List.setIfInBounds_toArray, List.set_cons_zero, List.set_cons_succ])
    refine wpAnyH_take (i := 1) (v := ?_) rfl (by kernel_rfl) (by kernel_rfl) (by kernel_rfl) (fun _ _ _ h => h) (Or.inl ⟨by kernel_rfl, ?_⟩) (by assumption) ?_
    rotate_left
    · intro w hSw; (try dsimp only at hSw); go_simp; (try with_reducible rfl)
    (try simp only [Act.put, List.getElem_toArray, List.getElem_cons_zero, List.getElem_cons_succ, List.setIfInBounds_toArray, List.set_cons_zero, List.set_cons_succ])
    refine wpAnyH_take (i := 2) (v := ?_) rfl (by kernel_rfl) (by kernel_rfl) (by kernel_rfl) (fun _ _ _ h => h) (Or.inl ⟨by kernel_rfl, ?_⟩) (by assumption) ?_
    rotate_left
    · intro w hSw; (try dsimp only at hSw); go_simp; (try with_reducible rfl)
    (try simp only [Act.put, List.getElem_toArray, List.getElem_cons_zero, List.getElem_cons_succ, List.setIfInBounds_toArray, List.set_cons_zero, List.set_cons_succ])
    refine wpAnyH_take (i := 3) (v := ?_) rfl (by kernel_rfl) (by kernel_rfl) (by kernel_rfl) (fun _ _ _ h => h) (Or.inl ⟨by kernel_rfl, ?_⟩) (by assumption) ?_
    rotate_left
    · intro w hSw; (try dsimp only at hSw); go_simp; (try with_reducible rfl)
    (try simp only [Act.put, List.getElem_toArray, List.getElem_cons_zero, List.getElem_cons_succ, List.setIfInBounds_toArray, List.set_cons_zero, List.set_cons_succ])
    refine wpAnyH_take (i := 4) (v := ?_) rfl (by kernel_rfl) (by kernel_rfl) (by kernel_rfl) (fun _ _ _ h => h) (Or.inl ⟨by kernel_rfl, ?_⟩) (by assumption) ?_
    rotate_left
    · intro w hSw; (try dsimp only at hSw); go_simp; (try with_reducible rfl)
    (try simp only [Act.put, List.getElem_toArray, List.getElem_cons_zero, List.getElem_cons_succ, List.setIfInBounds_toArray, List.set_cons_zero, List.set_cons_succ])
    refine wpAnyH_take (i := 5) (v := ?_) rfl (by kernel_rfl) (by kernel_rfl) (by kernel_rfl) (fun _ _ _ h => h) (Or.inl ⟨by kernel_rfl, ?_⟩) (by assumption) ?_
    rotate_left
    · intro w hSw; (try dsimp only at hSw); go_simp; (try with_reducible rfl)
    (try simp only [Act.put, List.getElem_toArray, List.getElem_cons_zero, List.getElem_cons_succ, List.setIfInBounds_toArray, List.set_cons_zero, List.set_cons_succ])
    refine wpAnyH_take (i := 6) (v := ?_) rfl (by kernel_rfl) (by kernel_rfl) (by kernel_rfl) (fun _ _ _ h => h) (Or.inl ⟨by kernel_rfl, ?_⟩) (by assumption) ?_
    rotate_left
    · intro w hSw; (try dsimp only at hSw); go_simp; (try with_reducible rfl)
    (try simp only [Act.put, List.getElem_toArray, List.getElem_cons_zero, List.getElem_cons_succ, List.setIfInBounds_toArray, List.set_cons_zero, List.set_cons_succ])
    refine wpAnyH_take (i := 7) (v := ?_) rfl (by kernel_rfl) (by kernel_rfl) (by kernel_rfl) (fun _ _ _ h => h) (Or.inl ⟨by kernel_rfl, ?_⟩) (by assumption) ?_
    rotate_left
    · intro w hSw; (try dsimp only at hSw); go_simp; (try with_reducible rfl)
    (try simp only [Act.put, List.getElem_toArray, List.getElem_cons_zero, List.getElem_cons_succ, List.setIfInBounds_toArray, List.set_cons_zero, List.set_cons_succ])
    refine wpAnyH_ready (rs := [8]) (by kernel_rfl) (by simp) ?_
    refine AllReadyH.cons rfl (fun K hK => ?_) AllReadyH.nil
    go_simp
    go_at_call 93
    refine (H1.out _ (Kept.refl _).drew).mono ?_
    rintro e w2 ⟨rfl, k2⟩
    have k2 := (Kept.refl w).drew.trans k2
    refine hK.out _ _ ⟨k2.cell c0, k2.cell c1, k2.cell d1, k2.cell d2, k2⟩ (fun hHeld1 => ?_)
    clear hK K
    (try simp only [Act.put, List.getElem_toArray, List.getElem_cons_zero, List.getElem_cons_succ, List.setIfInBounds_toArray, List.set_cons_zero, List.set_cons_succ])
    clear hHeld0
    refine wpAnyH_take (i := 9) (v := ?_) rfl (by kernel_rfl) (by kernel_rfl) (by kernel_rfl) (fun _ _ _ h => h) (Or.inl ⟨by kernel_rfl, ?_⟩) (by assumption) ?_
    rotate_left
    · intro w hSw; (try dsimp only at hSw); go_simp; (try with_reducible rfl)
    (try simp only [Act.put, List.getElem_toArray, List.getElem_cons_zero, List.getElem_cons_succ, List.setIfInBounds_toArray, List.set_cons_zero, List.set_cons_succ])
    refine wpAnyH_take (i := 10) (v := undef) rfl (by kernel_rfl) (by kernel_rfl) (by kernel_rfl) (fun _ _ _ h => h) (Or.inr ⟨by kernel_rfl, rfl⟩) (by assumption) ?_
    (try simp only [Act.put, List.getElem_toArray, List.getElem_cons_zero, List.getElem_cons_succ, List.setIfInBounds_toArray, List.set_cons_zero, List.set_cons_succ])
    refine wpAnyH_take (i := 11) (v := undef) rfl (by kernel_rfl) (by kernel_rfl) (by kernel_rfl) (fun _ _ _ h => h) (Or.inr ⟨by kernel_rfl, rfl⟩) (by assumption) ?_
    (try simp only [Act.put, List.getElem_toArray, List.getElem_cons_zero, List.getElem_cons_succ, List.setIfInBounds_toArray, List.set_cons_zero, List.set_cons_succ])
    refine wpAnyH_take (i := 12) (v := undef) rfl (by kernel_rfl) (by kernel_rfl) (by kernel_rfl) (fun _ _ _ h => h) (Or.inr ⟨by kernel_rfl, rfl⟩) (by assumption) ?_
    (try simp only [Act.put, List.getElem_toArray, List.getElem_cons_zero, List.getElem_cons_succ, List.setIfInBounds_toArray, List.set_cons_zero, List.set_cons_succ])
    refine wpAnyH_take (i := 13) (v := undef) rfl (by kernel_rfl) (by kernel_rfl) (by kernel_rfl) (fun _ _ _ h => h) (Or.inr ⟨by kernel_rfl, rfl⟩) (by assumption) ?_
    (try simp only [Act.put, List.getElem_toArray, List.getElem_cons_zero, List.getElem_cons_succ, List.setIfInBounds_toArray, List.set_cons_zero, List.set_cons_succ])
    refine wpAnyH_take (i := 14) (v := undef) rfl (by kernel_rfl) (by kernel_rfl) (by kernel_rfl) (fun _ _ _ h => h) (Or.inr ⟨by kernel_rfl, rfl⟩) (by assumption) ?_
    (try simp only [Act.put, List.getElem_toArray, List.getElem_cons_zero, List.getElem_cons_succ, List.setIfInBounds_toArray, List.set_cons_zero, List.set_cons_succ])
    refine wpAnyH_take (i := 15) (v := undef) rfl (by kernel_rfl) (by kernel_rfl) (by kernel_rfl) (fun _ _ _ h => h) (Or.inr ⟨by kernel_rfl, rfl⟩) (by assumption) ?_
    (try simp only [Act.put, List.getElem_toArray, List.getElem_cons_zero, List.getElem_cons_succ, List.setIfInBounds_toArray, List.set_cons_zero, List.set_cons_succ])
    refine wpAnyH_take (i := 16) (v := undef) rfl (by kernel_rfl) (by kernel_rfl) (by kernel_rfl) (fun _ _ _ h => h) (Or.inr ⟨by kernel_rfl, rfl⟩) (by assumption) ?_
    (try simp only [Act.put, List.getElem_toArray, List.getElem_cons_zero, List.getElem_cons_succ, List.setIfInBounds_toArray, List.set_cons_zero, List.set_cons_succ])
    refine wpAnyH_take (i := 17) (v := undef) rfl (by kernel_rfl) (by kernel_rfl) (by kernel_rfl) (fun _ _ _ h => h) (Or.inr ⟨by kernel_rfl, rfl⟩) (by assumption) ?_
    (try simp only [Act.put, List.getElem_toArray, List.getElem_cons_zero, List.getElem_cons_succ, List.setIfInBounds_toArray, List.set_cons_zero, List.set_cons_succ])
    refine wpAnyH_take (i := 18) (v := undef) rfl (by kernel_rfl) (by kernel_rfl) (by kernel_rfl) (fun _ _ _ h => h) (Or.inr ⟨by kernel_rfl, rfl⟩) (by assumption) ?_
    (try simp only [Act.put, List.getElem_toArray, List.getElem_cons_zero, List.getElem_cons_succ, List.setIfInBounds_toArray, List.set_cons_zero, List.set_cons_succ])
    refine wpAnyH_take (i := 19) (v := ?_) rfl (by kernel_rfl) (by kernel_rfl) (by kernel_rfl) (fun _ _ _ h => h) (Or.inl ⟨by kernel_rfl, ?_⟩) (by assumption) ?_
    rotate_left
    · intro w hSw; (try dsimp only at hSw); go_simp; (try with_reducible rfl)
    (try simp only [Act.put, List.getElem_toArray, List.getElem_cons_zero, List.getElem_cons_succ, List.setIfInBounds_toArray, List.set_cons_zero, List.set_cons_succ])
    refine wpAnyH_take (i := 20) (v := ?_) rfl (by kernel_rfl) (by kernel_rfl) (by kernel_rfl) (fun _ _ _ h => h) (Or.inl ⟨by kernel_rfl, ?_⟩) (by assumption) ?_
    rotate_left
    · intro w hSw; (try dsimp only at hSw); go_simp; (try with_reducible rfl)
    (try simp only [Act.put, List.getElem_toArray, List.getElem_cons_zero, List.getElem_cons_succ, List.setIfInBounds_toArray, List.set_cons_zero, List.set_cons_succ])
    refine wpAnyH_done (by kernel_rfl) ?_ _
    go_wp2_with fail
    go_ret
    exact ⟨by rw [HV.out]; rfl, k2⟩
  | true =>
    have HV := Lib.hid (show namedB x n = isNm x.typ n.typ by unfold namedB; rw [h1]; rfl)
    have H1 := Lib.hid (fun W (k : Kept w W) => HC.out x.text n.text hok1 W k)
    have H2 := Lib.hid (fun W (k : Kept w W) => HC.out x.typ n.typ hok2 W k)
    rw [h1] at H1
    clear h1
    refine wp_region_held_drew (S := (fun W => W.cell? ⟨nb, no, none⟩ = some (.int .i64 x.text) ∧ W.cell? ⟨nb, no + 1, none⟩ = some (.int .i64 x.typ) ∧ W.cell? ⟨b, o + 1, none⟩ = some (.string n.text) ∧ W.cell? ⟨b, o + 2, none⟩ = some (.string n.typ) ∧ Kept w W)) (by kernel_rfl) ⟨(Kept.refl w).drew.cell c0, (Kept.refl w).drew.cell c1, (Kept.refl w).drew.cell d1, (Kept.refl w).drew.cell d2, (Kept.refl w).drew⟩ (fun hHeld0 => ?_)
    refine wpAnyH_take (i := 0) (v := ?_) rfl (by kernel_rfl) (by kernel_rfl) (by kernel_rfl) (fun _ _ _ h => h) (Or.inl ⟨by kernel_rfl, ?_⟩) (by assumption) ?_
    rotate_left
    · intro w hSw; (try dsimp only at hSw); go_simp; (try with_reducible rfl)
    (try simp only [Act.put, List.getElem_toArray, List.getElem_cons_zero, List.getElem_cons_succ, List.setIfInBounds_toArray, List.set_cons_zero, List.set_cons_succ])
    refine wpAnyH_take (i := 1) (v := ?_) rfl (by kernel_rfl) (by kernel_rfl) (by kernel_rfl) (fun _ _ _ h => h) (Or.inl ⟨by kernel_rfl, ?_⟩) (by assumption) ?_
    rotate_left
    · intro w hSw; (try dsimp only at hSw); go_simp; (try with_reducible rfl)
    (try simp only [Act.put, List.getElem_toArray, List.getElem_cons_zero, List.getElem_cons_succ, List.setIfInBounds_toArray, List.set_cons_zero, List.set_cons_succ])
    refine wpAnyH_take (i := 2) (v := ?_) rfl (by kernel_rfl) (by kernel_rfl) (by kernel_rfl) (fun _ _ _ h => h) (Or.inl ⟨by kernel_rfl, ?_⟩) (by assumption) ?_
    rotate_left
    · intro w hSw; (try dsimp only at hSw); go_simp; (try with_reducible rfl)
    (try simp only [Act.put, List.getElem_toArray, List.getElem_cons_zero, List.getElem_cons_succ, List.setIfInBounds_toArray, List.set_cons_zero, List.set_cons_succ])
    refine wpAnyH_take (i := 3) (v := ?_) rfl (by kernel_rfl) (by kernel_rfl) (by kernel_rfl) (fun _ _ _ h => h) (Or.inl ⟨by kernel_rfl, ?_⟩) (by assumption) ?_
    rotate_left
    · intro w hSw; (try dsimp only at hSw); go_simp; (try with_reducible rfl)
    (try simp only [Act.put, List.getElem_toArray, List.getElem_cons_zero, List.getElem_cons_succ, List.setIfInBounds_toArray, List.set_cons_zero, List.set_cons_succ])
    refine wpAnyH_take (i := 4) (v := ?_) rfl (by kernel_rfl) (by kernel_rfl) (by kernel_rfl) (fun _ _ _ h => h) (Or.inl ⟨by kernel_rfl, ?_⟩) (by assumption) ?_
    rotate_left
    · intro w hSw; (try dsimp only at hSw); go_simp; (try with_reducible rfl)
    (try simp only [Act.put, List.getElem_toArray, List.getElem_cons_zero, List.getElem_cons_succ, List.setIfInBounds_toArray, List.set_cons_zero, List.set_cons_succ])
    refine wpAnyH_take (i := 5) (v := ?_) rfl (by kernel_rfl) (by kernel_rfl) (by kernel_rfl) (fun _ _ _ h => h) (Or.inl ⟨by kernel_rfl, ?_⟩) (by assumption) ?_
    rotate_left
    · intro w hSw; (try dsimp only at hSw); go_simp; (try with_reducible rfl)
    (try simp only [Act.put, List.getElem_toArray, List.getElem_cons_zero, List.getElem_cons_succ, List.setIfInBounds_toArray, List.set_cons_zero, List.set_cons_succ])
    refine wpAnyH_take (i := 6) (v := ?_) rfl (by kernel_rfl) (by kernel_rfl) (by kernel_rfl) (fun _ _ _ h => h) (Or.inl ⟨by kernel_rfl, ?_⟩) (by assumption) ?_
    rotate_left
    · intro w hSw; (try dsimp only at hSw); go_simp; (try with_reducible rfl)
    (try simp only [Act.put, List.getElem_toArray, List.getElem_cons_zero, List.getElem_cons_succ, List.setIfInBounds_toArray, List.set_cons_zero, List.set_cons_succ])
    refine wpAnyH_take (i := 7) (v := ?_) rfl (by kernel_rfl) (by kernel_rfl) (by kernel_rfl) (fun _ _ _ h => h) (Or.inl ⟨by kernel_rfl, ?_⟩) (by assumption) ?_
    rotate_left
    · intro w hSw; (try dsimp only at hSw); go_simp; (try with_reducible rfl)
    (try simp only [Act.put, List.getElem_toArray, List.getElem_cons_zero, List.getElem_cons_succ, List.setIfInBounds_toArray, List.set_cons_zero, List.set_cons_succ])
    refine wpAnyH_ready (rs := [8]) (by kernel_rfl) (by simp) ?_
    refine AllReadyH.cons rfl (fun K hK => ?_) AllReadyH.nil
    go_simp
    go_at_call 93
    refine (H1.out _ (Kept.refl _).drew).mono ?_
    rintro e w2 ⟨rfl, k2⟩
    have k2 := (Kept.refl w).drew.trans k2
    refine hK.out _ _ ⟨k2.cell c0, k2.cell c1, k2.cell d1, k2.cell d2, k2⟩ (fun hHeld1 => ?_)
    clear hK K
    (try simp only [Act.put, List.getElem_toArray, List.getElem_cons_zero, List.getElem_cons_succ, List.setIfInBounds_toArray, List.set_cons_zero, List.set_cons_succ])
    clear hHeld0
    refine wpAnyH_take (i := 9) (v := ?_) rfl (by kernel_rfl) (by kernel_rfl) (by kernel_rfl) (fun _ _ _ h => h) (Or.inl ⟨by kernel_rfl, ?_⟩) (by assumption) ?_
    rotate_left
    · intro w hSw; (try dsimp only at hSw); go_simp; (try with_reducible rfl)
    (try simp only [Act.put, List.getElem_toArray, List.getElem_cons_zero, List.getElem_cons_succ, List.setIfInBounds_toArray, List.set_cons_zero, List.set_cons_succ])
    refine wpAnyH_take (i := 10) (v := ?_) rfl (by kernel_rfl) (by kernel_rfl) (by kernel_rfl) (fun _ _ _ h => h) (Or.inl ⟨by kernel_rfl, ?_⟩) (by assumption) ?_
    rotate_left
    · intro w hSw; (try dsimp only at hSw); go_simp; (try with_reducible rfl)
    (try simp only [Act.put, List.getElem_toArray, List.getElem_cons_zero, List.getElem_cons_succ, List.setIfInBounds_toArray, List.set_cons_zero, List.set_cons_succ])
    refine wpAnyH_take (i := 11) (v := ?_) rfl (by kernel_rfl) (by kernel_rfl) (by kernel_rfl) (fun _ _ _ h => h) (Or.inl ⟨by kernel_rfl, ?_⟩) (by assumption) ?_
    rotate_left
    · intro w hSw; (try dsimp only at hSw); go_simp; (try with_reducible rfl)
    (try simp only [Act.put, List.getElem_toArray, List.getElem_cons_zero, List.getElem_cons_succ, List.setIfInBounds_toArray, List.set_cons_zero, List.set_cons_succ])
    refine wpAnyH_take (i := 12) (v := ?_) rfl (by kernel_rfl) (by kernel_rfl) (by kernel_rfl) (fun _ _ _ h => h) (Or.inl ⟨by kernel_rfl, ?_⟩) (by assumption) ?_
    rotate_left
    · intro w hSw; (try dsimp only at hSw); go_simp; (try with_reducible rfl)
    (try simp only [Act.put, List.getElem_toArray, List.getElem_cons_zero, List.getElem_cons_succ, List.setIfInBounds_toArray, List.set_cons_zero, List.set_cons_succ])
    refine wpAnyH_take (i := 13) (v := ?_) rfl (by kernel_rfl) (by kernel_rfl) (by kernel_rfl) (fun _ _ _ h => h) (Or.inl ⟨by kernel_rfl, ?_⟩) (by assumption) ?_
    rotate_left
    · intro w hSw; (try dsimp only at hSw); go_simp; (try with_reducible rfl)
    (try simp only [Act.put, List.getElem_toArray, List.getElem_cons_zero, List.getElem_cons_succ, List.setIfInBounds_toArray, List.set_cons_zero, List.set_cons_succ])
    refine wpAnyH_take (i := 14) (v := ?_) rfl (by kernel_rfl) (by kernel_rfl) (by kernel_rfl) (fun _ _ _ h => h) (Or.inl ⟨by kernel_rfl, ?_⟩) (by assumption) ?_
    rotate_left
    · intro w hSw; (try dsimp only at hSw); go_simp; (try with_reducible rfl)
    (try simp only [Act.put, List.getElem_toArray, List.getElem_cons_zero, List.getElem_cons_succ, List.setIfInBounds_toArray, List.set_cons_zero, List.set_cons_succ])
    refine wpAnyH_take (i := 15) (v := ?_) rfl (by kernel_rfl) (by kernel_rfl) (by kernel_rfl) (fun _ _ _ h => h) (Or.inl ⟨by kernel_rfl, ?_⟩) (by assumption) ?_
    rotate_left
    · intro w hSw; (try dsimp only at hSw); go_simp; (try with_reducible rfl)
    (try simp only [Act.put, List.getElem_toArray, List.getElem_cons_zero, List.getElem_cons_succ, List.setIfInBounds_toArray, List.set_cons_zero, List.set_cons_succ])
    refine wpAnyH_take (i := 16) (v := ?_) rfl (by kernel_rfl) (by kernel_rfl) (by kernel_rfl) (fun _ _ _ h => h) (Or.inl ⟨by kernel_rfl, ?_⟩) (by assumption) ?_
    rotate_left
    · intro w hSw; (try dsimp only at hSw); go_simp; (try with_reducible rfl)
    (try simp only [Act.put, List.getElem_toArray, List.getElem_cons_zero, List.getElem_cons_succ, List.setIfInBounds_toArray, List.set_cons_zero, List.set_cons_succ])
    refine wpAnyH_take (i := 17) (v := ?_) rfl (by kernel_rfl) (by kernel_rfl) (by kernel_rfl) (fun _ _ _ h => h) (Or.inl ⟨by kernel_rfl, ?_⟩) (by assumption) ?_
    rotate_left
    · intro w hSw; (try dsimp only at hSw); go_simp; (try with_reducible rfl)
    (try simp only [Act.put, List.getElem_toArray, List.getElem_cons_zero, List.getElem_cons_succ, List.setIfInBounds_toArray, List.set_cons_zero, List.set_cons_succ])
    refine wpAnyH_ready (rs := [18]) (by kernel_rfl) (by simp) ?_
    refine AllReadyH.cons rfl (fun K hK => ?_) AllReadyH.nil
    go_simp
    go_at_call 93
    refine (H2.out _ k2).mono ?_
    rintro e w3 ⟨rfl, k3⟩
    have k3 := k2.trans k3
    refine hK.out _ _ ⟨k3.cell c0, k3.cell c1, k3.cell d1, k3.cell d2, k3⟩ (fun hHeld2 => ?_)
    clear hK K
    (try simp only [Act.put, List.getElem_toArray, List.getElem_cons_zero, List.getElem_cons_succ, List.setIfInBounds_toArray, List.set_cons_zero, List.set_cons_succ])
    clear hHeld1
    refine wpAnyH_take (i := 19) (v := ?_) rfl (by kernel_rfl) (by kernel_rfl) (by kernel_rfl) (fun _ _ _ h => h) (Or.inl ⟨by kernel_rfl, ?_⟩) (by assumption) ?_
    rotate_left
    · intro w hSw; (try dsimp only at hSw); go_simp; (try with_reducible rfl)
    (try simp only [Act.put, List.getElem_toArray, List.getElem_cons_zero, List.getElem_cons_succ, List.setIfInBounds_toArray, List.set_cons_zero, List.set_cons_succ])
    refine wpAnyH_take (i := 20) (v := ?_) rfl (by kernel_rfl) (by kernel_rfl) (by kernel_rfl) (fun _ _ _ h => h) (Or.inl ⟨by kernel_rfl, ?_⟩) (by assumption) ?_
    rotate_left
    · intro w hSw; (try dsimp only at hSw); go_simp; (try with_reducible rfl)
    (try simp only [Act.put, List.getElem_toArray, List.getElem_cons_zero, List.getElem_cons_succ, List.setIfInBounds_toArray, List.set_cons_zero, List.set_cons_succ])
    refine wpAnyH_done (by kernel_rfl) ?_ _
    go_wp2_with fail
    go_ret
    exact ⟨by rw [HV.out]; rfl, k3⟩

end Go.Proofs.YtfkmnpgpfmkjaaaGreatDoor
