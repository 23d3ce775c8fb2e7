/- The contract of octet's add: a number's groups and a text behind what a writer holds, or why not. -/
import Derived.Test.YtfbbhkhingfdeaaGrp
import Derived.Deep.RegionLaw
import Derived.Deep.QuietTactic
import Derived.BigQuiet
import Derived.Outline
set_option linter.unusedSimpArgs false
set_option linter.unusedVariables false
namespace Go.Proofs.Ytfbbhkhingfdeaa
open Go.ChangeShapes Go.WideShapes Go.ChangeAt Go.RowKit Go.Shelf
attribute [local go_sem] Oper.semAt_some

abbrev wcells (b : Nat) (most : Int) (v : Value) (e : Int) : Array Value := #[.pointer (some ⟨b, 0, none⟩), .int .i64 most, v, .int .i64 e]

/-- What a writer owns besides its own block. -/
def Own2 (b : Nat) (v : Value) : Nat → Prop := fun k => k = b ∨ v.ownBlock = some k

theorem Blk.from {W W' : World} {row : Option Nat} {g : Nat} {t : TypeId} {cs : Array Value} {B : Nat} (h : Blk W g t cs) (hg : W.grownBy W' row) (hr : ∀ r, row = some r → B ≤ r ∧ ∃ o : Obj, W.heap[r]? = some o ∧ o.isCells = false) : Blk W' g t cs := by
  refine (hg.block g h.lt fun e => ?_).trans h
  obtain ⟨_, o, ho, hc⟩ := hr g e.symm
  unfold Blk at h
  rw [h] at ho; cases ho; cases hc
theorem Row.from {W W' : World} {row : Option Nat} {v : Value} {bs : List UInt8} {B : Nat} (h : Row W v bs) (hg : W.grownBy W' row) (hr : ∀ r, row = some r → B ≤ r ∧ ∃ o : Obj, W.heap[r]? = some o ∧ o.isCells = false) : Row W' v bs := by
  refine World.ownsRow.kept h hg ?_
  rcases h.2 with ⟨rfl, _⟩ | ⟨g, cap, cur, rfl, _, hh, _⟩
  · exact .inl rfl
  · refine .inr fun e => ?_
    obtain ⟨_, o, ho, hc⟩ := hr g (by rw [← e]; rfl)
    rw [hh] at ho; cases ho; cases hc

theorem Row.form {w : World} {v : Value} {bs : List UInt8} (h : Row w v bs) : ∃ A n c, v = .slice A n c := by
  obtain ⟨⟨A, c, e⟩, _⟩ := h.len
  exact ⟨A, _, c, e⟩

/-- The writer within the loop: what it had, and the groups so far. -/
def Mid (w : World) (b : Nat) (most : Int) (v : Value) (bs pre : List UInt8) (W : World) : Prop :=
  ∃ v', Blk W b 43 (wcells b most v' 0) ∧ Row W v' (bs ++ pre) ∧ Blk W w.heap.size 23 #[.pointer (some ⟨b, 0, none⟩)] ∧ (v'.ownBlock = v.ownBlock ∨ ∃ g, v'.ownBlock = some g ∧ w.heap.size ≤ g) ∧ Only (Own2 b v) w W

theorem mid_from (w : World) (b : Nat) (most : Int) (v : Value) (bs : List UInt8) (B : Nat) (hB : w.heap.size ≤ B) : OwnFrom B (Mid w b most v bs) := by
  rintro pre X Y row ⟨v', h1, h2, h3, h4, h5⟩ hg hr
  exact ⟨v', h1.from hg hr, h2.from hg hr, h3.from hg hr, h4, h5.grown hg fun k e => .inr (Nat.le_trans hB (hr k e).1)⟩

/-- One group more. -/
theorem mid_next {w W w1 : World} {b : Nat} {most : Int} {v v' v1 : Value} {bs pre : List UInt8} {x : UInt8} (hb : b < w.heap.size)
    (h1 : Blk W b 43 (wcells b most v' 0)) (h2 : Row W v' (bs ++ pre)) (h3 : Blk W w.heap.size 23 #[.pointer (some ⟨b, 0, none⟩)]) (h4 : v'.ownBlock = v.ownBlock ∨ ∃ g, v'.ownBlock = some g ∧ w.heap.size ≤ g) (h5 : Only (Own2 b v) w W)
    (hr : Row w1 v1 (bs ++ pre ++ [x])) (hg : (W.drew.alloc (.cells #[encB x] 5)).grownBy w1 v'.ownBlock) (hl : v1.ownBlock = v'.ownBlock ∨ v1.ownBlock = some (W.drew.alloc (.cells #[encB x] 5)).heap.size) :
    Blk w1 b 43 (wcells b most v' 0) ∧ Blk w1 w.heap.size 23 #[.pointer (some ⟨b, 0, none⟩)] ∧
    (∀ B, KeepsFrom B W (w1.setCell ⟨b, 2, none⟩ v1)) ∧ Mid w b most v bs (pre ++ [x]) (w1.setCell ⟨b, 2, none⟩ v1) := by
  have n1 := h1.ne_row (by decide) h2
  have n3 := h3.ne_row (by decide) h2
  have b1 : Blk w1 b 43 (wcells b most v' 0) := (hg.block b (h1.drew.alloc _).lt n1.symm).trans (h1.drew.alloc _)
  have b3 : Blk w1 w.heap.size 23 #[.pointer (some ⟨b, 0, none⟩)] := (hg.block _ (h3.drew.alloc _).lt n3.symm).trans (h3.drew.alloc _)
  refine ⟨b1, b3, ?_, v1, b1.put 2 v1, ?_, ?_, ?_, ?_⟩
  · intro B
    refine KeepsOthers.from (((KeepsOthers.refl W).trans ?_).trans (KeepsOthers.setCell _ _ _)) B
    have kd : KeepsOthers W W.drew := ⟨Nat.le_refl _, fun _ _ h _ => h⟩
    refine KeepsOthers.trans (B := W.drew.alloc (.cells #[encB x] 5)) (kd.trans (KeepsOthers.alloc W.drew _)) (KeepsOthers.of_grownBy hg fun j o ej hj => ?_)
    rcases h2.2 with ⟨rfl, _⟩ | ⟨g, cap, cur, rfl, _, hgb, _⟩
    · simp [Value.ownBlock] at ej
    · obtain rfl : g = j := by simpa [Value.ownBlock] using ej
      have : (W.drew.alloc (.cells #[encB x] 5)).heap[g]? = some (.cells cur 5 (0, 0)) := (Below.heap_alloc W.drew _ g (Array.getElem?_eq_some_iff.1 hgb).1).trans hgb
      rw [this] at hj; cases hj; rfl
  · rw [← List.append_assoc]
    exact hr.only (S := (· = b)) ((Only.refl _ w1).put 2 v1) (fun g hg' e => b1.ne_row (by decide) hr (by rw [hg', e]))
  · exact (Below.heap_setCell w1 ⟨b, 2, none⟩ v1 w.heap.size (by show w.heap.size ≠ b; omega)).trans b3
  · rcases hl with e | e
    · rw [e]; exact h4
    · exact .inr ⟨_, e, by have := h5.size; simp; omega⟩
  · refine ((((h5.drew).alloc _).grown hg fun k e => ?_).setCell (.inl (.inl rfl)) v1)
    rcases h4 with e4 | ⟨g, e4, hge⟩
    · exact .inl (.inr (e4.symm.trans e))
    · rw [e4] at e; cases e; exact .inr hge

theorem len_data' (s : ByteArray) : s.data.toList.length = s.size := by rw [Array.length_toList]; rfl

/-- A region that ends in the common way, and in no other one. -/
def OnlyN (K : Act → World → Prop) : Exit → Act → World → Prop
  | .normal, a, w => K a w
  | _, _, _ => False
theorem wp_onlyN {P : Program} {c : Code} {K : Act → World → Prop} {Q : Exit → Act → World → Prop} {a : Act} {w : World} (h : c.wp P (OnlyN K) a w) : c.wp P (Exit.then K Q) a w :=
  Code.wp_mono (fun e a w h => by cases e <;> first | exact h | exact h.elim) h

/-- What add leaves. -/
def AddPost (b : Nat) (most : Int) (v : Value) (bs : List UInt8) (n : Option Nat) (s : ByteArray) (w : World) (e : Ending) (w' : World) : Prop :=
  ∃ v' bs', e = .returned (.int .i64 (Oct.put most (bs, 0) n s.data.toList).2) ∧ Blk w' b 43 (wcells b most v' 0) ∧ Row w' v' bs' ∧ ((Oct.put most (bs, 0) n s.data.toList).2 = 0 → bs' = (Oct.put most (bs, 0) n s.data.toList).1) ∧
    (v'.ownBlock = v.ownBlock ∨ ∃ g, v'.ownBlock = some g ∧ w.heap.size ≤ g) ∧ Only (Own2 b v) w w'

theorem put_none (most : Int) (bs s : List UInt8) : Oct.put most (bs, 0) none s = (bs, 3) := by unfold Oct.put; rw [if_neg (by simp)]
theorem put_long {most : Int} {bs s : List UInt8} {z : Nat} (h : most < ((bs ++ Oct.grp z).length : Int) + (s.length : Int)) : Oct.put most (bs, 0) (some z) s = (bs, 4) := by
  unfold Oct.put
  rw [if_neg (by simp)]
  dsimp only
  rw [if_pos (by rw [List.length_append]; omega)]
theorem put_fits {most : Int} {bs s : List UInt8} {z : Nat} (h : ¬ most < ((bs ++ Oct.grp z).length : Int) + (s.length : Int)) : Oct.put most (bs, 0) (some z) s = (bs ++ Oct.grp z ++ s, 0) := by
  unfold Oct.put
  rw [if_neg (by simp)]
  dsimp only
  rw [if_neg (by rw [List.length_append]; omega)]

/-- The text behind the groups. -/
theorem fin_next {w W w1 : World} {b : Nat} {most : Int} {v v' v1 : Value} {bs ns : List UInt8} (hb : b < w.heap.size)
    (h1 : Blk W b 43 (wcells b most v' 0)) (h2 : Row W v' bs) (h3 : Blk W w.heap.size 23 #[.pointer (some ⟨b, 0, none⟩)]) (h4 : v'.ownBlock = v.ownBlock ∨ ∃ g, v'.ownBlock = some g ∧ w.heap.size ≤ g) (h5 : Only (Own2 b v) w W)
    (hr : Row w1 v1 (bs ++ ns)) (hg : W.grownBy w1 v'.ownBlock) (hl : v1.ownBlock = v'.ownBlock ∨ v1.ownBlock = some W.heap.size) :
    Blk w1 b 43 (wcells b most v' 0) ∧ Blk w1 w.heap.size 23 #[.pointer (some ⟨b, 0, none⟩)] ∧
    Blk (w1.setCell ⟨b, 2, none⟩ v1) b 43 (wcells b most v1 0) ∧ Row (w1.setCell ⟨b, 2, none⟩ v1) v1 (bs ++ ns) ∧ (v1.ownBlock = v.ownBlock ∨ ∃ g, v1.ownBlock = some g ∧ w.heap.size ≤ g) ∧ Only (Own2 b v) w (w1.setCell ⟨b, 2, none⟩ v1) ∧
    KeepsOthers W (w1.setCell ⟨b, 2, none⟩ v1) := by
  have n1 := h1.ne_row (by decide) h2
  have n3 := h3.ne_row (by decide) h2
  have b1 : Blk w1 b 43 (wcells b most v' 0) := (hg.block b h1.lt n1.symm).trans h1
  have b3 : Blk w1 w.heap.size 23 #[.pointer (some ⟨b, 0, none⟩)] := (hg.block _ h3.lt n3.symm).trans h3
  refine ⟨b1, b3, b1.put 2 v1, ?_, ?_, ?_, ?_⟩
  · exact hr.only (S := (· = b)) ((Only.refl _ w1).put 2 v1) (fun g hg' e => b1.ne_row (by decide) hr (by rw [hg', e]))
  · rcases hl with e | e
    · rw [e]; exact h4
    · exact .inr ⟨_, e, h5.size⟩
  · refine ((h5.grown hg fun k e => ?_).setCell (.inl (.inl rfl)) v1)
    rcases h4 with e4 | ⟨g, e4, hge⟩
    · exact .inl (.inr (e4.symm.trans e))
    · rw [e4] at e; cases e; exact .inr hge
  · refine (KeepsOthers.of_grownBy hg fun j o ej hj => ?_).trans (KeepsOthers.setCell _ _ _)
    rcases h2.2 with ⟨rfl, _⟩ | ⟨g, cap, cur, rfl, _, hgb, _⟩
    · simp [Value.ownBlock] at ej
    · obtain rfl : g = j := by simpa [Value.ownBlock] using ej
      rw [hgb] at hj; cases hj; rfl

/-- Behind the taking of what was deferred: nothing. -/
theorem AddPost.put {b : Nat} {most c : Int} {v v1 : Value} {bs bs1 : List UInt8} {n : Option Nat} {s : ByteArray} {w W : World} {D : Nat} {o o' : Obj} (hD : w.heap.size ≤ D) (hK : W.heap[D]? = some o) (ho : o.isCells = false) (hc : (Oct.put most (bs, 0) n s.data.toList).2 = c)
    (h1 : Blk W b 43 (wcells b most v1 0)) (h2 : Row W v1 bs1) (h0 : c = 0 → bs1 = (Oct.put most (bs, 0) n s.data.toList).1) (h4 : v1.ownBlock = v.ownBlock ∨ ∃ g, v1.ownBlock = some g ∧ w.heap.size ≤ g) (h5 : Only (Own2 b v) w W) :
    AddPost b most v bs n s w (.returned (.int .i64 c)) (W.putObj D o') := by
  have hr : ∀ r, some D = some r → w.heap.size ≤ r ∧ ∃ o : Obj, W.heap[r]? = some o ∧ o.isCells = false := fun r e => by cases e; exact ⟨hD, o, hK, ho⟩
  exact ⟨v1, bs1, by rw [hc], h1.from (grownBy_putObj' W D o') hr, h2.from (grownBy_putObj' W D o') hr, fun e => h0 (by rw [← hc]; exact e), h4, h5.grown (grownBy_putObj' W D o') fun k e => .inr (hr k e).1⟩

set_option maxRecDepth 100000 in
set_option maxHeartbeats 4000000 in
theorem add_c (b : Nat) (most : Int) (v : Value) (bs : List UInt8) (z : Nat) (s : ByteArray) (w : World) (hz : z < 9223372036854775808) (hs : s.size ≤ 1099511627776) (hm0 : 0 ≤ most) (hm : most ≤ 1048576) (hl : bs.length ≤ 1048576)
    (hb : Blk w b 43 (wcells b most v 0)) (hr : Row w v bs) :
    Calls Try.prog 45 #[.pointer (some ⟨b, 0, none⟩), .int .i64 z, .string s] w (AddPost b most v bs (some z) s w) := by
  have hlt := hb.lt
  refine (callsIn_wide (n := 3)).1 (callsIn_of_wp_marks Try.func45 rfl trivial (wpIn_wide.2 ?_) rfl)
  simp only [Try.ntmps45, List.size_toArray, List.length_cons, List.length_nil, Nat.reduceAdd, Nat.reduceSub, Array.replicate_succ, Array.replicate_zero, List.push_toArray, List.append_toArray, List.nil_append, List.cons_append]
  go_wp2_with fail
  refine ((callsIn_wide (n := 1)).1 (groups_in Fence.wide 1 trivial rfl z _)).mono ?_
  rintro e w' ⟨rfl, rfl⟩
  go_wp2_with fail
  have hB0 : Only (Own2 b v) w ((w.alloc (.cells #[.pointer (some ⟨b, 0, none⟩)] 23)).alloc (.cells #[.int .i64 z] 3)) := ((Only.refl _ w).alloc _).alloc _
  have hKe : Kept w ((w.alloc (.cells #[.pointer (some ⟨b, 0, none⟩)] 23)).alloc (.cells #[.int .i64 z] 3)) := ((Kept.refl w).alloc _).alloc _
  have bO := (Blk.new w 23 #[.pointer (some ⟨b, 0, none⟩)]).alloc (.cells #[.int .i64 z] 3)
  have bN := Boxed.new (w.alloc (.cells #[.pointer (some ⟨b, 0, none⟩)] 23)) 3 (.int .i64 z)
  rw [World.size_alloc] at bN
  refine wpIn_wide.1 (wpIn_rangeFunc_ownG (F := Fence.wide) (n := 3) rfl (by omega) (gf := 50) (lb := #[.pointer (some ⟨w.heap.size + 1, 0, none⟩)]) rfl trivial (enters_of Try.func50 (by kernel_rfl) rfl)
    (groups_stops Fence.wide (3 - 1) trivial rfl (by omega) (w.heap.size + 1) z hz _ (by simp) bN.cell) (fun _ _ => trivial) (fun _ _ _ _ _ _ _ _ => trivial) (Below.refl _ _) (fun _ => rfl)
    (Mid w b most v bs) (fun _ _ _ => False) (mid_from w b most v bs _ (by simp; omega)) (fun _ _ _ _ _ hs _ _ => hs)
    ⟨v, hb.kept hKe, by rw [List.append_nil]; exact hr.only (S := fun _ => False) (Only.of_kept hKe) (fun _ _ h => h), bO, .inl rfl, hB0⟩
    (fun x => { tmps := #[.pointer (some ⟨b, 0, none⟩), .int .i64 z, .string s, .pointer (some ⟨w.heap.size, 0, none⟩), undef, undef, .int .i64 0, .int .u8 x.toNat, .int .i64 z, .bool (decide ((z : Int) < 0)), .int .i64 z, .func (.func 50) #[] #[.pointer (some ⟨w.heap.size + 1, 0, none⟩)], .int .u8 x.toNat, undef, undef, undef, undef, undef, undef, undef, undef, undef, undef, undef, undef, undef, undef, undef, undef, undef, undef, undef, undef, undef, undef, undef, undef, undef, undef, undef, undef, undef, undef, undef, undef], defers := [] }) ?assign ?body ?done ?stop)
  case assign =>
    intro l x W K hK
    gi_wp2
    exact hK
  case body =>
    rintro l pre x W ⟨v', h1, h2, h3, h4, h5⟩ hlt'
    gi_wp2
    have hlen : (bs ++ pre).length + [x].length ≤ 70368744177664 := by
      have := Oct.grp_len9 hz
      simp; omega
    have HL := Lib.hid hlen
    have HR := Lib.hid (show Row (W.drew.alloc (.cells #[encB x] 5)) v' (bs ++ pre) from World.ownsRow.alloc (w := W.drew) h2 _)
    have HY := Lib.hid (Yields.ofCells (W.drew.alloc (.cells #[encB x] 5)) ⟨W.heap.size, 0, none⟩ 1 [x] (cell_one_new W.drew (encB x) 5))
    have HN := Lib.hid (fun v1 w1 a1 a2 a3 => mid_next (w := w) (W := W) (w1 := w1) (most := most) (v := v) (v1 := v1) (bs := bs) (pre := pre) (x := x) hlt h1 h2 h3 h4 h5 a1 a2 a3)
    have k0 := h3.cell 0
    have k2 := h1.cell 2
    have g2 := h1.frozen 2
    simp at k0 k2
    have a0 := (h3.alloc (.cells #[.int .u8 x.toNat] 5)).cell 0
    have a2 := (h1.alloc (.cells #[.int .u8 x.toNat] 5)).cell 2
    simp at a0 a2
    clear h1 h2 h3 h4 h5 hlen hlt' hb hr hKe hB0 bO bN
    refine wpIn_region_of_any (by kernel_rfl) (by kernel_rfl) ?_ ?_
    · rintro ⟨_, _, h⟩
      exact h
    · refine wpAny_take (i := 5) (v := ?_) rfl (by kernel_rfl) (by kernel_rfl) (by kernel_rfl) (fun _ _ _ h => h) (Or.inl ⟨by rfl, ?_⟩) ?_
      rotate_left
      · intro w; go_simp; try with_reducible rfl
      refine wpAny_ready (rs := [0, 1, 6]) (by kernel_rfl) (by simp) ?_
      refine AllReady.cons rfl (fun K hK => ?_) ?_
      · go_simp
        refine hK _ _ ?_; clear hK K
        refine wpAny_ready (rs := [1, 6]) (by kernel_rfl) (by simp) ?_
        refine AllReady.cons rfl (fun K hK => ?_) ?_
        · go_simp
          refine hK _ _ ?_; clear hK K
          refine wpAny_take (i := 2) (v := ?_) rfl (by kernel_rfl) (by kernel_rfl) (by kernel_rfl) (fun _ _ _ h => h) (Or.inl ⟨by rfl, ?_⟩) ?_
          rotate_left
          · intro w; go_simp; try with_reducible rfl
          refine wpAny_take (i := 3) (v := ?_) rfl (by kernel_rfl) (by kernel_rfl) (by kernel_rfl) (fun _ _ _ h => h) (Or.inl ⟨by rfl, ?_⟩) ?_
          rotate_left
          · intro w; go_simp; try with_reducible rfl
          refine wpAny_ready (rs := [4, 6]) (by kernel_rfl) (by simp) ?_
          refine AllReady.cons rfl (fun K hK => ?_) ?_
          · go_simp
            refine hK _ _ ?_; clear hK K
            refine wpAny_ready (rs := [6]) (by kernel_rfl) (by simp) ?_
            refine AllReady.cons rfl (fun K hK => ?_) ?_
            · go_simp
              refine hK _ _ ?_; clear hK K
              refine wpAny_ready (rs := [7]) (by kernel_rfl) (by simp) ?_
              refine AllReady.cons rfl (fun K hK => ?_) ?_
              · refine step_app rfl (.tmp 17) (.tmp 19) 36 rfl rfl HR.out rfl HY.out HL.out ?_
                intro v1 w1 hr1 hg1 hl1
                obtain ⟨A1, n1, c1, rfl⟩ := hr1.form
                obtain ⟨e1, e2, e3, e4⟩ := HN.out _ w1 hr1 hg1 hl1
                have c0 := e2.cell 0
                have c2 := e1.cell 2
                have f2 := e1.frozen 2
                simp at c0 c2
                have E := Lib.hid (And.intro e3 e4)
                clear hr1 hg1 hl1 e1 e2 e3 e4
                refine hK _ _ ?_; clear hK K
                refine wpAny_take (i := 8) (v := ?_) rfl (by kernel_rfl) (by kernel_rfl) (by kernel_rfl) (fun _ _ _ h => h) (Or.inl ⟨by rfl, ?_⟩) ?_
                rotate_left
                · intro w; go_simp; try with_reducible rfl
                refine wpAny_take (i := 9) (v := ?_) rfl (by kernel_rfl) (by kernel_rfl) (by kernel_rfl) (fun _ _ _ h => h) (Or.inl ⟨by rfl, ?_⟩) ?_
                rotate_left
                · intro w; go_simp; try with_reducible rfl
                refine wpAny_ready (rs := [10]) (by kernel_rfl) (by simp) ?_
                refine AllReady.cons rfl (fun K hK => ?_) ?_
                · go_simp
                  refine hK _ _ ?_; clear hK K
                  refine wpAny_done (by kernel_rfl) ?_ _
                  exact ⟨E.out.1 _, trivial, E.out.2⟩
                exact AllReady.nil
              exact AllReady.nil
            exact AllReady.nil
          refine AllReady.cons rfl (fun K hK => ?_) ?_
          · go_simp
            refine hK _ _ ?_; clear hK K
            refine wpAny_ready (rs := [4]) (by kernel_rfl) (by simp) ?_
            refine AllReady.cons rfl (fun K hK => ?_) ?_
            · go_simp
              refine hK _ _ ?_; clear hK K
              refine wpAny_ready (rs := [7]) (by kernel_rfl) (by simp) ?_
              refine AllReady.cons rfl (fun K hK => ?_) ?_
              · refine step_app rfl (.tmp 17) (.tmp 19) 36 rfl rfl HR.out rfl HY.out HL.out ?_
                intro v1 w1 hr1 hg1 hl1
                obtain ⟨A1, n1, c1, rfl⟩ := hr1.form
                obtain ⟨e1, e2, e3, e4⟩ := HN.out _ w1 hr1 hg1 hl1
                have c0 := e2.cell 0
                have c2 := e1.cell 2
                have f2 := e1.frozen 2
                simp at c0 c2
                have E := Lib.hid (And.intro e3 e4)
                clear hr1 hg1 hl1 e1 e2 e3 e4
                refine hK _ _ ?_; clear hK K
                refine wpAny_take (i := 8) (v := ?_) rfl (by kernel_rfl) (by kernel_rfl) (by kernel_rfl) (fun _ _ _ h => h) (Or.inl ⟨by rfl, ?_⟩) ?_
                rotate_left
                · intro w; go_simp; try with_reducible rfl
                refine wpAny_take (i := 9) (v := ?_) rfl (by kernel_rfl) (by kernel_rfl) (by kernel_rfl) (fun _ _ _ h => h) (Or.inl ⟨by rfl, ?_⟩) ?_
                rotate_left
                · intro w; go_simp; try with_reducible rfl
                refine wpAny_ready (rs := [10]) (by kernel_rfl) (by simp) ?_
                refine AllReady.cons rfl (fun K hK => ?_) ?_
                · go_simp
                  refine hK _ _ ?_; clear hK K
                  refine wpAny_done (by kernel_rfl) ?_ _
                  exact ⟨E.out.1 _, trivial, E.out.2⟩
                exact AllReady.nil
              exact AllReady.nil
            exact AllReady.nil
          exact AllReady.nil
        refine AllReady.cons rfl (fun K hK => ?_) ?_
        · go_simp
          refine hK _ _ ?_; clear hK K
          refine wpAny_ready (rs := [1]) (by kernel_rfl) (by simp) ?_
          refine AllReady.cons rfl (fun K hK => ?_) ?_
          · go_simp
            refine hK _ _ ?_; clear hK K
            refine wpAny_take (i := 2) (v := ?_) rfl (by kernel_rfl) (by kernel_rfl) (by kernel_rfl) (fun _ _ _ h => h) (Or.inl ⟨by rfl, ?_⟩) ?_
            rotate_left
            · intro w; go_simp; try with_reducible rfl
            refine wpAny_take (i := 3) (v := ?_) rfl (by kernel_rfl) (by kernel_rfl) (by kernel_rfl) (fun _ _ _ h => h) (Or.inl ⟨by rfl, ?_⟩) ?_
            rotate_left
            · intro w; go_simp; try with_reducible rfl
            refine wpAny_ready (rs := [4]) (by kernel_rfl) (by simp) ?_
            refine AllReady.cons rfl (fun K hK => ?_) ?_
            · go_simp
              refine hK _ _ ?_; clear hK K
              refine wpAny_ready (rs := [7]) (by kernel_rfl) (by simp) ?_
              refine AllReady.cons rfl (fun K hK => ?_) ?_
              · refine step_app rfl (.tmp 17) (.tmp 19) 36 rfl rfl HR.out rfl HY.out HL.out ?_
                intro v1 w1 hr1 hg1 hl1
                obtain ⟨A1, n1, c1, rfl⟩ := hr1.form
                obtain ⟨e1, e2, e3, e4⟩ := HN.out _ w1 hr1 hg1 hl1
                have c0 := e2.cell 0
                have c2 := e1.cell 2
                have f2 := e1.frozen 2
                simp at c0 c2
                have E := Lib.hid (And.intro e3 e4)
                clear hr1 hg1 hl1 e1 e2 e3 e4
                refine hK _ _ ?_; clear hK K
                refine wpAny_take (i := 8) (v := ?_) rfl (by kernel_rfl) (by kernel_rfl) (by kernel_rfl) (fun _ _ _ h => h) (Or.inl ⟨by rfl, ?_⟩) ?_
                rotate_left
                · intro w; go_simp; try with_reducible rfl
                refine wpAny_take (i := 9) (v := ?_) rfl (by kernel_rfl) (by kernel_rfl) (by kernel_rfl) (fun _ _ _ h => h) (Or.inl ⟨by rfl, ?_⟩) ?_
                rotate_left
                · intro w; go_simp; try with_reducible rfl
                refine wpAny_ready (rs := [10]) (by kernel_rfl) (by simp) ?_
                refine AllReady.cons rfl (fun K hK => ?_) ?_
                · go_simp
                  refine hK _ _ ?_; clear hK K
                  refine wpAny_done (by kernel_rfl) ?_ _
                  exact ⟨E.out.1 _, trivial, E.out.2⟩
                exact AllReady.nil
              exact AllReady.nil
            exact AllReady.nil
          exact AllReady.nil
        exact AllReady.nil
      refine AllReady.cons rfl (fun K hK => ?_) ?_
      · go_simp
        refine hK _ _ ?_; clear hK K
        refine wpAny_take (i := 2) (v := ?_) rfl (by kernel_rfl) (by kernel_rfl) (by kernel_rfl) (fun _ _ _ h => h) (Or.inl ⟨by rfl, ?_⟩) ?_
        rotate_left
        · intro w; go_simp; try with_reducible rfl
        refine wpAny_take (i := 3) (v := ?_) rfl (by kernel_rfl) (by kernel_rfl) (by kernel_rfl) (fun _ _ _ h => h) (Or.inl ⟨by rfl, ?_⟩) ?_
        rotate_left
        · intro w; go_simp; try with_reducible rfl
        refine wpAny_ready (rs := [0, 4, 6]) (by kernel_rfl) (by simp) ?_
        refine AllReady.cons rfl (fun K hK => ?_) ?_
        · go_simp
          refine hK _ _ ?_; clear hK K
          refine wpAny_ready (rs := [4, 6]) (by kernel_rfl) (by simp) ?_
          refine AllReady.cons rfl (fun K hK => ?_) ?_
          · go_simp
            refine hK _ _ ?_; clear hK K
            refine wpAny_ready (rs := [6]) (by kernel_rfl) (by simp) ?_
            refine AllReady.cons rfl (fun K hK => ?_) ?_
            · go_simp
              refine hK _ _ ?_; clear hK K
              refine wpAny_ready (rs := [7]) (by kernel_rfl) (by simp) ?_
              refine AllReady.cons rfl (fun K hK => ?_) ?_
              · refine step_app rfl (.tmp 17) (.tmp 19) 36 rfl rfl HR.out rfl HY.out HL.out ?_
                intro v1 w1 hr1 hg1 hl1
                obtain ⟨A1, n1, c1, rfl⟩ := hr1.form
                obtain ⟨e1, e2, e3, e4⟩ := HN.out _ w1 hr1 hg1 hl1
                have c0 := e2.cell 0
                have c2 := e1.cell 2
                have f2 := e1.frozen 2
                simp at c0 c2
                have E := Lib.hid (And.intro e3 e4)
                clear hr1 hg1 hl1 e1 e2 e3 e4
                refine hK _ _ ?_; clear hK K
                refine wpAny_take (i := 8) (v := ?_) rfl (by kernel_rfl) (by kernel_rfl) (by kernel_rfl) (fun _ _ _ h => h) (Or.inl ⟨by rfl, ?_⟩) ?_
                rotate_left
                · intro w; go_simp; try with_reducible rfl
                refine wpAny_take (i := 9) (v := ?_) rfl (by kernel_rfl) (by kernel_rfl) (by kernel_rfl) (fun _ _ _ h => h) (Or.inl ⟨by rfl, ?_⟩) ?_
                rotate_left
                · intro w; go_simp; try with_reducible rfl
                refine wpAny_ready (rs := [10]) (by kernel_rfl) (by simp) ?_
                refine AllReady.cons rfl (fun K hK => ?_) ?_
                · go_simp
                  refine hK _ _ ?_; clear hK K
                  refine wpAny_done (by kernel_rfl) ?_ _
                  exact ⟨E.out.1 _, trivial, E.out.2⟩
                exact AllReady.nil
              exact AllReady.nil
            exact AllReady.nil
          refine AllReady.cons rfl (fun K hK => ?_) ?_
          · go_simp
            refine hK _ _ ?_; clear hK K
            refine wpAny_ready (rs := [4]) (by kernel_rfl) (by simp) ?_
            refine AllReady.cons rfl (fun K hK => ?_) ?_
            · go_simp
              refine hK _ _ ?_; clear hK K
              refine wpAny_ready (rs := [7]) (by kernel_rfl) (by simp) ?_
              refine AllReady.cons rfl (fun K hK => ?_) ?_
              · refine step_app rfl (.tmp 17) (.tmp 19) 36 rfl rfl HR.out rfl HY.out HL.out ?_
                intro v1 w1 hr1 hg1 hl1
                obtain ⟨A1, n1, c1, rfl⟩ := hr1.form
                obtain ⟨e1, e2, e3, e4⟩ := HN.out _ w1 hr1 hg1 hl1
                have c0 := e2.cell 0
                have c2 := e1.cell 2
                have f2 := e1.frozen 2
                simp at c0 c2
                have E := Lib.hid (And.intro e3 e4)
                clear hr1 hg1 hl1 e1 e2 e3 e4
                refine hK _ _ ?_; clear hK K
                refine wpAny_take (i := 8) (v := ?_) rfl (by kernel_rfl) (by kernel_rfl) (by kernel_rfl) (fun _ _ _ h => h) (Or.inl ⟨by rfl, ?_⟩) ?_
                rotate_left
                · intro w; go_simp; try with_reducible rfl
                refine wpAny_take (i := 9) (v := ?_) rfl (by kernel_rfl) (by kernel_rfl) (by kernel_rfl) (fun _ _ _ h => h) (Or.inl ⟨by rfl, ?_⟩) ?_
                rotate_left
                · intro w; go_simp; try with_reducible rfl
                refine wpAny_ready (rs := [10]) (by kernel_rfl) (by simp) ?_
                refine AllReady.cons rfl (fun K hK => ?_) ?_
                · go_simp
                  refine hK _ _ ?_; clear hK K
                  refine wpAny_done (by kernel_rfl) ?_ _
                  exact ⟨E.out.1 _, trivial, E.out.2⟩
                exact AllReady.nil
              exact AllReady.nil
            exact AllReady.nil
          exact AllReady.nil
        refine AllReady.cons rfl (fun K hK => ?_) ?_
        · go_simp
          refine hK _ _ ?_; clear hK K
          refine wpAny_ready (rs := [0, 6]) (by kernel_rfl) (by simp) ?_
          refine AllReady.cons rfl (fun K hK => ?_) ?_
          · go_simp
            refine hK _ _ ?_; clear hK K
            refine wpAny_ready (rs := [6]) (by kernel_rfl) (by simp) ?_
            refine AllReady.cons rfl (fun K hK => ?_) ?_
            · go_simp
              refine hK _ _ ?_; clear hK K
              refine wpAny_ready (rs := [7]) (by kernel_rfl) (by simp) ?_
              refine AllReady.cons rfl (fun K hK => ?_) ?_
              · refine step_app rfl (.tmp 17) (.tmp 19) 36 rfl rfl HR.out rfl HY.out HL.out ?_
                intro v1 w1 hr1 hg1 hl1
                obtain ⟨A1, n1, c1, rfl⟩ := hr1.form
                obtain ⟨e1, e2, e3, e4⟩ := HN.out _ w1 hr1 hg1 hl1
                have c0 := e2.cell 0
                have c2 := e1.cell 2
                have f2 := e1.frozen 2
                simp at c0 c2
                have E := Lib.hid (And.intro e3 e4)
                clear hr1 hg1 hl1 e1 e2 e3 e4
                refine hK _ _ ?_; clear hK K
                refine wpAny_take (i := 8) (v := ?_) rfl (by kernel_rfl) (by kernel_rfl) (by kernel_rfl) (fun _ _ _ h => h) (Or.inl ⟨by rfl, ?_⟩) ?_
                rotate_left
                · intro w; go_simp; try with_reducible rfl
                refine wpAny_take (i := 9) (v := ?_) rfl (by kernel_rfl) (by kernel_rfl) (by kernel_rfl) (fun _ _ _ h => h) (Or.inl ⟨by rfl, ?_⟩) ?_
                rotate_left
                · intro w; go_simp; try with_reducible rfl
                refine wpAny_ready (rs := [10]) (by kernel_rfl) (by simp) ?_
                refine AllReady.cons rfl (fun K hK => ?_) ?_
                · go_simp
                  refine hK _ _ ?_; clear hK K
                  refine wpAny_done (by kernel_rfl) ?_ _
                  exact ⟨E.out.1 _, trivial, E.out.2⟩
                exact AllReady.nil
              exact AllReady.nil
            exact AllReady.nil
          refine AllReady.cons rfl (fun K hK => ?_) ?_
          · go_simp
            refine hK _ _ ?_; clear hK K
            refine wpAny_ready (rs := [0, 7]) (by kernel_rfl) (by simp) ?_
            refine AllReady.cons rfl (fun K hK => ?_) ?_
            · go_simp
              refine hK _ _ ?_; clear hK K
              refine wpAny_ready (rs := [7]) (by kernel_rfl) (by simp) ?_
              refine AllReady.cons rfl (fun K hK => ?_) ?_
              · refine step_app rfl (.tmp 17) (.tmp 19) 36 rfl rfl HR.out rfl HY.out HL.out ?_
                intro v1 w1 hr1 hg1 hl1
                obtain ⟨A1, n1, c1, rfl⟩ := hr1.form
                obtain ⟨e1, e2, e3, e4⟩ := HN.out _ w1 hr1 hg1 hl1
                have c0 := e2.cell 0
                have c2 := e1.cell 2
                have f2 := e1.frozen 2
                simp at c0 c2
                have E := Lib.hid (And.intro e3 e4)
                clear hr1 hg1 hl1 e1 e2 e3 e4
                refine hK _ _ ?_; clear hK K
                refine wpAny_take (i := 8) (v := ?_) rfl (by kernel_rfl) (by kernel_rfl) (by kernel_rfl) (fun _ _ _ h => h) (Or.inl ⟨by rfl, ?_⟩) ?_
                rotate_left
                · intro w; go_simp; try with_reducible rfl
                refine wpAny_take (i := 9) (v := ?_) rfl (by kernel_rfl) (by kernel_rfl) (by kernel_rfl) (fun _ _ _ h => h) (Or.inl ⟨by rfl, ?_⟩) ?_
                rotate_left
                · intro w; go_simp; try with_reducible rfl
                refine wpAny_ready (rs := [10]) (by kernel_rfl) (by simp) ?_
                refine AllReady.cons rfl (fun K hK => ?_) ?_
                · go_simp
                  refine hK _ _ ?_; clear hK K
                  refine wpAny_done (by kernel_rfl) ?_ _
                  exact ⟨E.out.1 _, trivial, E.out.2⟩
                exact AllReady.nil
              exact AllReady.nil
            refine AllReady.cons rfl (fun K hK => ?_) ?_
            · refine step_app rfl (.tmp 17) (.tmp 19) 36 rfl rfl HR.out rfl HY.out HL.out ?_
              intro v1 w1 hr1 hg1 hl1
              obtain ⟨A1, n1, c1, rfl⟩ := hr1.form
              obtain ⟨e1, e2, e3, e4⟩ := HN.out _ w1 hr1 hg1 hl1
              have c0 := e2.cell 0
              have c2 := e1.cell 2
              have f2 := e1.frozen 2
              simp at c0 c2
              have E := Lib.hid (And.intro e3 e4)
              clear hr1 hg1 hl1 e1 e2 e3 e4
              refine hK _ _ ?_; clear hK K
              refine wpAny_ready (rs := [0]) (by kernel_rfl) (by simp) ?_
              refine AllReady.cons rfl (fun K hK => ?_) ?_
              · go_simp
                refine hK _ _ ?_; clear hK K
                refine wpAny_take (i := 8) (v := ?_) rfl (by kernel_rfl) (by kernel_rfl) (by kernel_rfl) (fun _ _ _ h => h) (Or.inl ⟨by rfl, ?_⟩) ?_
                rotate_left
                · intro w; go_simp; try with_reducible rfl
                refine wpAny_take (i := 9) (v := ?_) rfl (by kernel_rfl) (by kernel_rfl) (by kernel_rfl) (fun _ _ _ h => h) (Or.inl ⟨by rfl, ?_⟩) ?_
                rotate_left
                · intro w; go_simp; try with_reducible rfl
                refine wpAny_ready (rs := [10]) (by kernel_rfl) (by simp) ?_
                refine AllReady.cons rfl (fun K hK => ?_) ?_
                · go_simp
                  refine hK _ _ ?_; clear hK K
                  refine wpAny_done (by kernel_rfl) ?_ _
                  exact ⟨E.out.1 _, trivial, E.out.2⟩
                exact AllReady.nil
              exact AllReady.nil
            exact AllReady.nil
          exact AllReady.nil
        refine AllReady.cons rfl (fun K hK => ?_) ?_
        · go_simp
          refine hK _ _ ?_; clear hK K
          refine wpAny_ready (rs := [0, 4]) (by kernel_rfl) (by simp) ?_
          refine AllReady.cons rfl (fun K hK => ?_) ?_
          · go_simp
            refine hK _ _ ?_; clear hK K
            refine wpAny_ready (rs := [4]) (by kernel_rfl) (by simp) ?_
            refine AllReady.cons rfl (fun K hK => ?_) ?_
            · go_simp
              refine hK _ _ ?_; clear hK K
              refine wpAny_ready (rs := [7]) (by kernel_rfl) (by simp) ?_
              refine AllReady.cons rfl (fun K hK => ?_) ?_
              · refine step_app rfl (.tmp 17) (.tmp 19) 36 rfl rfl HR.out rfl HY.out HL.out ?_
                intro v1 w1 hr1 hg1 hl1
                obtain ⟨A1, n1, c1, rfl⟩ := hr1.form
                obtain ⟨e1, e2, e3, e4⟩ := HN.out _ w1 hr1 hg1 hl1
                have c0 := e2.cell 0
                have c2 := e1.cell 2
                have f2 := e1.frozen 2
                simp at c0 c2
                have E := Lib.hid (And.intro e3 e4)
                clear hr1 hg1 hl1 e1 e2 e3 e4
                refine hK _ _ ?_; clear hK K
                refine wpAny_take (i := 8) (v := ?_) rfl (by kernel_rfl) (by kernel_rfl) (by kernel_rfl) (fun _ _ _ h => h) (Or.inl ⟨by rfl, ?_⟩) ?_
                rotate_left
                · intro w; go_simp; try with_reducible rfl
                refine wpAny_take (i := 9) (v := ?_) rfl (by kernel_rfl) (by kernel_rfl) (by kernel_rfl) (fun _ _ _ h => h) (Or.inl ⟨by rfl, ?_⟩) ?_
                rotate_left
                · intro w; go_simp; try with_reducible rfl
                refine wpAny_ready (rs := [10]) (by kernel_rfl) (by simp) ?_
                refine AllReady.cons rfl (fun K hK => ?_) ?_
                · go_simp
                  refine hK _ _ ?_; clear hK K
                  refine wpAny_done (by kernel_rfl) ?_ _
                  exact ⟨E.out.1 _, trivial, E.out.2⟩
                exact AllReady.nil
              exact AllReady.nil
            exact AllReady.nil
          refine AllReady.cons rfl (fun K hK => ?_) ?_
          · go_simp
            refine hK _ _ ?_; clear hK K
            refine wpAny_ready (rs := [0, 7]) (by kernel_rfl) (by simp) ?_
            refine AllReady.cons rfl (fun K hK => ?_) ?_
            · go_simp
              refine hK _ _ ?_; clear hK K
              refine wpAny_ready (rs := [7]) (by kernel_rfl) (by simp) ?_
              refine AllReady.cons rfl (fun K hK => ?_) ?_
              · refine step_app rfl (.tmp 17) (.tmp 19) 36 rfl rfl HR.out rfl HY.out HL.out ?_
                intro v1 w1 hr1 hg1 hl1
                obtain ⟨A1, n1, c1, rfl⟩ := hr1.form
                obtain ⟨e1, e2, e3, e4⟩ := HN.out _ w1 hr1 hg1 hl1
                have c0 := e2.cell 0
                have c2 := e1.cell 2
                have f2 := e1.frozen 2
                simp at c0 c2
                have E := Lib.hid (And.intro e3 e4)
                clear hr1 hg1 hl1 e1 e2 e3 e4
                refine hK _ _ ?_; clear hK K
                refine wpAny_take (i := 8) (v := ?_) rfl (by kernel_rfl) (by kernel_rfl) (by kernel_rfl) (fun _ _ _ h => h) (Or.inl ⟨by rfl, ?_⟩) ?_
                rotate_left
                · intro w; go_simp; try with_reducible rfl
                refine wpAny_take (i := 9) (v := ?_) rfl (by kernel_rfl) (by kernel_rfl) (by kernel_rfl) (fun _ _ _ h => h) (Or.inl ⟨by rfl, ?_⟩) ?_
                rotate_left
                · intro w; go_simp; try with_reducible rfl
                refine wpAny_ready (rs := [10]) (by kernel_rfl) (by simp) ?_
                refine AllReady.cons rfl (fun K hK => ?_) ?_
                · go_simp
                  refine hK _ _ ?_; clear hK K
                  refine wpAny_done (by kernel_rfl) ?_ _
                  exact ⟨E.out.1 _, trivial, E.out.2⟩
                exact AllReady.nil
              exact AllReady.nil
            refine AllReady.cons rfl (fun K hK => ?_) ?_
            · refine step_app rfl (.tmp 17) (.tmp 19) 36 rfl rfl HR.out rfl HY.out HL.out ?_
              intro v1 w1 hr1 hg1 hl1
              obtain ⟨A1, n1, c1, rfl⟩ := hr1.form
              obtain ⟨e1, e2, e3, e4⟩ := HN.out _ w1 hr1 hg1 hl1
              have c0 := e2.cell 0
              have c2 := e1.cell 2
              have f2 := e1.frozen 2
              simp at c0 c2
              have E := Lib.hid (And.intro e3 e4)
              clear hr1 hg1 hl1 e1 e2 e3 e4
              refine hK _ _ ?_; clear hK K
              refine wpAny_ready (rs := [0]) (by kernel_rfl) (by simp) ?_
              refine AllReady.cons rfl (fun K hK => ?_) ?_
              · go_simp
                refine hK _ _ ?_; clear hK K
                refine wpAny_take (i := 8) (v := ?_) rfl (by kernel_rfl) (by kernel_rfl) (by kernel_rfl) (fun _ _ _ h => h) (Or.inl ⟨by rfl, ?_⟩) ?_
                rotate_left
                · intro w; go_simp; try with_reducible rfl
                refine wpAny_take (i := 9) (v := ?_) rfl (by kernel_rfl) (by kernel_rfl) (by kernel_rfl) (fun _ _ _ h => h) (Or.inl ⟨by rfl, ?_⟩) ?_
                rotate_left
                · intro w; go_simp; try with_reducible rfl
                refine wpAny_ready (rs := [10]) (by kernel_rfl) (by simp) ?_
                refine AllReady.cons rfl (fun K hK => ?_) ?_
                · go_simp
                  refine hK _ _ ?_; clear hK K
                  refine wpAny_done (by kernel_rfl) ?_ _
                  exact ⟨E.out.1 _, trivial, E.out.2⟩
                exact AllReady.nil
              exact AllReady.nil
            exact AllReady.nil
          exact AllReady.nil
        exact AllReady.nil
      refine AllReady.cons rfl (fun K hK => ?_) ?_
      · go_simp
        refine hK _ _ ?_; clear hK K
        refine wpAny_ready (rs := [0, 1]) (by kernel_rfl) (by simp) ?_
        refine AllReady.cons rfl (fun K hK => ?_) ?_
        · go_simp
          refine hK _ _ ?_; clear hK K
          refine wpAny_ready (rs := [1]) (by kernel_rfl) (by simp) ?_
          refine AllReady.cons rfl (fun K hK => ?_) ?_
          · go_simp
            refine hK _ _ ?_; clear hK K
            refine wpAny_take (i := 2) (v := ?_) rfl (by kernel_rfl) (by kernel_rfl) (by kernel_rfl) (fun _ _ _ h => h) (Or.inl ⟨by rfl, ?_⟩) ?_
            rotate_left
            · intro w; go_simp; try with_reducible rfl
            refine wpAny_take (i := 3) (v := ?_) rfl (by kernel_rfl) (by kernel_rfl) (by kernel_rfl) (fun _ _ _ h => h) (Or.inl ⟨by rfl, ?_⟩) ?_
            rotate_left
            · intro w; go_simp; try with_reducible rfl
            refine wpAny_ready (rs := [4]) (by kernel_rfl) (by simp) ?_
            refine AllReady.cons rfl (fun K hK => ?_) ?_
            · go_simp
              refine hK _ _ ?_; clear hK K
              refine wpAny_ready (rs := [7]) (by kernel_rfl) (by simp) ?_
              refine AllReady.cons rfl (fun K hK => ?_) ?_
              · refine step_app rfl (.tmp 17) (.tmp 19) 36 rfl rfl HR.out rfl HY.out HL.out ?_
                intro v1 w1 hr1 hg1 hl1
                obtain ⟨A1, n1, c1, rfl⟩ := hr1.form
                obtain ⟨e1, e2, e3, e4⟩ := HN.out _ w1 hr1 hg1 hl1
                have c0 := e2.cell 0
                have c2 := e1.cell 2
                have f2 := e1.frozen 2
                simp at c0 c2
                have E := Lib.hid (And.intro e3 e4)
                clear hr1 hg1 hl1 e1 e2 e3 e4
                refine hK _ _ ?_; clear hK K
                refine wpAny_take (i := 8) (v := ?_) rfl (by kernel_rfl) (by kernel_rfl) (by kernel_rfl) (fun _ _ _ h => h) (Or.inl ⟨by rfl, ?_⟩) ?_
                rotate_left
                · intro w; go_simp; try with_reducible rfl
                refine wpAny_take (i := 9) (v := ?_) rfl (by kernel_rfl) (by kernel_rfl) (by kernel_rfl) (fun _ _ _ h => h) (Or.inl ⟨by rfl, ?_⟩) ?_
                rotate_left
                · intro w; go_simp; try with_reducible rfl
                refine wpAny_ready (rs := [10]) (by kernel_rfl) (by simp) ?_
                refine AllReady.cons rfl (fun K hK => ?_) ?_
                · go_simp
                  refine hK _ _ ?_; clear hK K
                  refine wpAny_done (by kernel_rfl) ?_ _
                  exact ⟨E.out.1 _, trivial, E.out.2⟩
                exact AllReady.nil
              exact AllReady.nil
            exact AllReady.nil
          exact AllReady.nil
        refine AllReady.cons rfl (fun K hK => ?_) ?_
        · go_simp
          refine hK _ _ ?_; clear hK K
          refine wpAny_take (i := 2) (v := ?_) rfl (by kernel_rfl) (by kernel_rfl) (by kernel_rfl) (fun _ _ _ h => h) (Or.inl ⟨by rfl, ?_⟩) ?_
          rotate_left
          · intro w; go_simp; try with_reducible rfl
          refine wpAny_take (i := 3) (v := ?_) rfl (by kernel_rfl) (by kernel_rfl) (by kernel_rfl) (fun _ _ _ h => h) (Or.inl ⟨by rfl, ?_⟩) ?_
          rotate_left
          · intro w; go_simp; try with_reducible rfl
          refine wpAny_ready (rs := [0, 4]) (by kernel_rfl) (by simp) ?_
          refine AllReady.cons rfl (fun K hK => ?_) ?_
          · go_simp
            refine hK _ _ ?_; clear hK K
            refine wpAny_ready (rs := [4]) (by kernel_rfl) (by simp) ?_
            refine AllReady.cons rfl (fun K hK => ?_) ?_
            · go_simp
              refine hK _ _ ?_; clear hK K
              refine wpAny_ready (rs := [7]) (by kernel_rfl) (by simp) ?_
              refine AllReady.cons rfl (fun K hK => ?_) ?_
              · refine step_app rfl (.tmp 17) (.tmp 19) 36 rfl rfl HR.out rfl HY.out HL.out ?_
                intro v1 w1 hr1 hg1 hl1
                obtain ⟨A1, n1, c1, rfl⟩ := hr1.form
                obtain ⟨e1, e2, e3, e4⟩ := HN.out _ w1 hr1 hg1 hl1
                have c0 := e2.cell 0
                have c2 := e1.cell 2
                have f2 := e1.frozen 2
                simp at c0 c2
                have E := Lib.hid (And.intro e3 e4)
                clear hr1 hg1 hl1 e1 e2 e3 e4
                refine hK _ _ ?_; clear hK K
                refine wpAny_take (i := 8) (v := ?_) rfl (by kernel_rfl) (by kernel_rfl) (by kernel_rfl) (fun _ _ _ h => h) (Or.inl ⟨by rfl, ?_⟩) ?_
                rotate_left
                · intro w; go_simp; try with_reducible rfl
                refine wpAny_take (i := 9) (v := ?_) rfl (by kernel_rfl) (by kernel_rfl) (by kernel_rfl) (fun _ _ _ h => h) (Or.inl ⟨by rfl, ?_⟩) ?_
                rotate_left
                · intro w; go_simp; try with_reducible rfl
                refine wpAny_ready (rs := [10]) (by kernel_rfl) (by simp) ?_
                refine AllReady.cons rfl (fun K hK => ?_) ?_
                · go_simp
                  refine hK _ _ ?_; clear hK K
                  refine wpAny_done (by kernel_rfl) ?_ _
                  exact ⟨E.out.1 _, trivial, E.out.2⟩
                exact AllReady.nil
              exact AllReady.nil
            exact AllReady.nil
          refine AllReady.cons rfl (fun K hK => ?_) ?_
          · go_simp
            refine hK _ _ ?_; clear hK K
            refine wpAny_ready (rs := [0, 7]) (by kernel_rfl) (by simp) ?_
            refine AllReady.cons rfl (fun K hK => ?_) ?_
            · go_simp
              refine hK _ _ ?_; clear hK K
              refine wpAny_ready (rs := [7]) (by kernel_rfl) (by simp) ?_
              refine AllReady.cons rfl (fun K hK => ?_) ?_
              · refine step_app rfl (.tmp 17) (.tmp 19) 36 rfl rfl HR.out rfl HY.out HL.out ?_
                intro v1 w1 hr1 hg1 hl1
                obtain ⟨A1, n1, c1, rfl⟩ := hr1.form
                obtain ⟨e1, e2, e3, e4⟩ := HN.out _ w1 hr1 hg1 hl1
                have c0 := e2.cell 0
                have c2 := e1.cell 2
                have f2 := e1.frozen 2
                simp at c0 c2
                have E := Lib.hid (And.intro e3 e4)
                clear hr1 hg1 hl1 e1 e2 e3 e4
                refine hK _ _ ?_; clear hK K
                refine wpAny_take (i := 8) (v := ?_) rfl (by kernel_rfl) (by kernel_rfl) (by kernel_rfl) (fun _ _ _ h => h) (Or.inl ⟨by rfl, ?_⟩) ?_
                rotate_left
                · intro w; go_simp; try with_reducible rfl
                refine wpAny_take (i := 9) (v := ?_) rfl (by kernel_rfl) (by kernel_rfl) (by kernel_rfl) (fun _ _ _ h => h) (Or.inl ⟨by rfl, ?_⟩) ?_
                rotate_left
                · intro w; go_simp; try with_reducible rfl
                refine wpAny_ready (rs := [10]) (by kernel_rfl) (by simp) ?_
                refine AllReady.cons rfl (fun K hK => ?_) ?_
                · go_simp
                  refine hK _ _ ?_; clear hK K
                  refine wpAny_done (by kernel_rfl) ?_ _
                  exact ⟨E.out.1 _, trivial, E.out.2⟩
                exact AllReady.nil
              exact AllReady.nil
            refine AllReady.cons rfl (fun K hK => ?_) ?_
            · refine step_app rfl (.tmp 17) (.tmp 19) 36 rfl rfl HR.out rfl HY.out HL.out ?_
              intro v1 w1 hr1 hg1 hl1
              obtain ⟨A1, n1, c1, rfl⟩ := hr1.form
              obtain ⟨e1, e2, e3, e4⟩ := HN.out _ w1 hr1 hg1 hl1
              have c0 := e2.cell 0
              have c2 := e1.cell 2
              have f2 := e1.frozen 2
              simp at c0 c2
              have E := Lib.hid (And.intro e3 e4)
              clear hr1 hg1 hl1 e1 e2 e3 e4
              refine hK _ _ ?_; clear hK K
              refine wpAny_ready (rs := [0]) (by kernel_rfl) (by simp) ?_
              refine AllReady.cons rfl (fun K hK => ?_) ?_
              · go_simp
                refine hK _ _ ?_; clear hK K
                refine wpAny_take (i := 8) (v := ?_) rfl (by kernel_rfl) (by kernel_rfl) (by kernel_rfl) (fun _ _ _ h => h) (Or.inl ⟨by rfl, ?_⟩) ?_
                rotate_left
                · intro w; go_simp; try with_reducible rfl
                refine wpAny_take (i := 9) (v := ?_) rfl (by kernel_rfl) (by kernel_rfl) (by kernel_rfl) (fun _ _ _ h => h) (Or.inl ⟨by rfl, ?_⟩) ?_
                rotate_left
                · intro w; go_simp; try with_reducible rfl
                refine wpAny_ready (rs := [10]) (by kernel_rfl) (by simp) ?_
                refine AllReady.cons rfl (fun K hK => ?_) ?_
                · go_simp
                  refine hK _ _ ?_; clear hK K
                  refine wpAny_done (by kernel_rfl) ?_ _
                  exact ⟨E.out.1 _, trivial, E.out.2⟩
                exact AllReady.nil
              exact AllReady.nil
            exact AllReady.nil
          exact AllReady.nil
        exact AllReady.nil
      exact AllReady.nil
  case done =>
    rintro D ys W hD rfl ⟨v1, m1, m2, m3, m4, m5⟩ hK
    have hDw : w.heap.size ≤ D := by simp at hD; omega
    obtain ⟨⟨A1, c1, e1⟩, _⟩ := m2.len
    have hL9 := Oct.grp_len9 hz
    have hLb : ((bs ++ Oct.grp z).length : Int) ≤ 1048585 := by rw [List.length_append]; omega
    have hsd := len_data' s
    have k0 := m3.cell 0
    have k1 := m1.cell 1
    have k2 := m1.cell 2
    have g2 := m1.frozen 2
    have HM1 := Lib.hid m1
    have HM2 := Lib.hid m2
    have HM3 := Lib.hid m3
    have HM4 := Lib.hid m4
    have HM5 := Lib.hid m5
    have HK := Lib.hid hK
    by_cases ht : most < ((bs ++ Oct.grp z).length : Int) + (s.size : Int)
    · have HP := Lib.hid (put_long (most := most) (bs := bs) (z := z) (s := s.data.toList) (by rw [hsd]; exact ht))
      generalize (bs ++ Oct.grp z).length = L at e1 hLb ht
      subst e1
      simp at k0 k1 k2
      clear m1 m2 m3 m4 m5 hK hB0 hKe bO bN hb hr hsd
      go_wp2
      go_quiet (fail)
      go_wp2
      refine ⟨by simp, .inl ⟨_, _, rfl, run_takeDeferred HK.out, ?_⟩⟩
      exact ⟨_, results_tmp rfl _ _ _, AddPost.put (W := W.drewN _) (c := 4) hDw HK.out rfl (by rw [HP.out]) HM1.out HM2.out (fun h => by cases h) HM4.out (HM5.out.drewN _)⟩
    · have HP := Lib.hid (put_fits (most := most) (bs := bs) (z := z) (s := s.data.toList) (by rw [hsd]; exact ht))
      have hlen : (bs ++ Oct.grp z).length + s.data.toList.length ≤ 70368744177664 := by rw [hsd]; omega
      have HL := Lib.hid hlen
      have HY := fun W' : World => Lib.hid (Yields.ofString W' s)
      have HN := Lib.hid (fun v2 w2 a1 a2 a3 => fin_next (w := w) (W := W) (w1 := w2) (most := most) (v := v) (v1 := v2) (bs := bs ++ Oct.grp z) (ns := s.data.toList) hlt m1 m2 m3 m4 m5 a1 a2 a3)
      generalize (bs ++ Oct.grp z).length = L at e1 hLb ht
      subst e1
      simp at k0 k1 k2
      clear m1 m2 m3 m4 m5 hK hB0 hKe bO bN hb hr hsd hlen
      go_wp2
      go_quiet (fail)
      go_wp2
      refine wp_onlyN ?_
      go_region_law (refine step_app rfl (.tmp 40) (.tmp 41) 9 rfl (by simp [Act.eval, Act.put]) HM2.out (by simp [Act.eval, Act.put]) (HY _).out HL.out ?_; intro v2 w2 hr2 hg2 hl2; obtain ⟨A2, n2, c2, rfl⟩ := hr2.form; obtain ⟨e1, e2, e3, e4, e5, e6, e7⟩ := HN.out _ w2 hr2 ⟨hg2.os, hg2.tape, hg2.output, hg2.size, hg2.block⟩ hl2; have d0 := e2.cell 0; have d2 := e1.cell 2; have f2 := e1.frozen 2; simp at d0 d2; have E3 := Lib.hid e3; have E4 := Lib.hid e4; have E5 := Lib.hid e5; have E6 := Lib.hid e6; have E7 := Lib.hid e7; clear hr2 hg2 hl2 e1 e2 e3 e4 e5 e6 e7)
      all_goals
        simp only [OnlyN]
        go_wp2
        refine ⟨by simp, .inl ⟨_, _, rfl, run_takeDeferred (E7.out.same D _ HK.out rfl), ?_⟩⟩
        exact ⟨_, results_tmp rfl _ _ _, AddPost.put (c := 0) hDw (E7.out.same D _ HK.out rfl) rfl (by rw [HP.out]) E3.out E4.out (fun _ => by rw [HP.out]) E5.out E6.out⟩
  case stop =>
    rintro D c pre W _ _ h _
    exact h.elim
end Go.Proofs.Ytfbbhkhingfdeaa
