/- The contract of slices.Collect over a class's line: the addresses of its classes, in their order. -/
import Derived.Test.YtdceafncncgfbaaDoorLnr
import Derived.Test.YtdceafncncgfbaaDoorApk
set_option linter.unusedSimpArgs false
set_option linter.unusedVariables false
set_option maxRecDepth 100000
namespace Go.Proofs.YtdceafncncgfbaaDoor
open Go.ChangeShapes Go.WideShapes Go.ChangeAt Go.RowKit Go.Shelf
attribute [local go_sem] Oper.semAt_some

theorem info_ptr : (Tryd.prog.info? 120).map (fun i => (i.zero, i.size, i.bytes)) = some (some (.pointer none), 1, 8) := by kernel_rfl

/-- Within the loop: the addresses so far. -/
def ColI (a : Option Addr) (w0 w : World) (pre : List Nat) (W : World) : Prop :=
  (∃ v, Boxed W w.heap.size 119 v ∧ W.ownsRow (w.heap.size + 4) 120 1 v pre.length (pre.map (elC a)) ∧ (v = .slice none 0 0 ↔ pre = [])) ∧ Kept w0 W

theorem col_snoc (a : Option Addr) (pre : List Nat) (i : Nat) : (pre.map (elC a)) ++ [elC a i] = (pre ++ [i]).map (elC a) := by simp

set_option maxHeartbeats 2000000 in
theorem appseq_c (a : Option Addr) (c : Nat) (t : List Tab.C) (s : ByteArray) (w0 w : World) (bt bn : Nat) (hT : TabAt w0 (.slice a t.length c) t) (ht : t.length ≤ 1000)
    (hk : Kept w0 w) (hbt : Blk w bt 22 #[.slice a t.length c]) (hbn : Blk w bn 9 #[.string s]) (hne : bt ≠ bn) (h1 : w0.heap.size ≤ bt) (h2 : w0.heap.size ≤ bn) :
    Calls Tryd.prog 82 #[.slice none 0 0, .func (.func 83) #[] #[.pointer (some ⟨bt, 0, none⟩), .pointer (some ⟨bn, 0, none⟩)]] w fun e w' =>
      ∃ v, e = .returned v ∧ w'.ownsRow (w.heap.size + 4) 120 1 v (Tab.line t s).length ((Tab.line t s).map (elC a)) ∧ Kept w0 w' := by
  obtain ⟨i0, hi, hz0, hzz1, hzz2⟩ := info_parts info_ptr
  refine (callsIn_wide (n := 3)).1 (callsIn_of_wp_marks Tryd.func82 rfl trivial (wpIn_wide.2 ?_) rfl)
  simp only [Tryd.ntmps82, List.size_toArray, List.length_cons, List.length_nil, Nat.reduceAdd, Nat.reduceSub, Array.replicate_succ, Array.replicate_zero, List.push_toArray, List.append_toArray, List.nil_append, List.cons_append]
  go_wp2_with fail
  have hk0 : Kept w0 (w.alloc (.cells #[.slice none 0 0] 119)) := hk.alloc _
  have b0 := Boxed.new w 119 (.slice none 0 0)
  have b1 := hbt.alloc (.cells #[.slice none 0 0] 119)
  have b2 := hbn.alloc (.cells #[.slice none 0 0] 119)
  have l1 := hbt.lt
  have l2 := hbn.lt
  have l0 := hk.size
  obtain ⟨W0, hW0⟩ : ∃ W0, w.alloc (.cells #[.slice none 0 0] 119) = W0 := ⟨_, rfl⟩
  have hsz : W0.heap.size = w.heap.size + 1 := by rw [← hW0]; simp
  rw [hW0] at hk0 b0 b1 b2 ⊢
  refine wpIn_wide.1 (wpIn_range_line (w0 := w0) (bt := bt) (bn := bn) a c t s (· = w.heap.size) rfl hT ht hk0 b1 b2 hne h1 h2 (fun k e => by subst e; omega) rfl
    (ColI a w0 w) (fun _ _ _ => False) ?hI (fun _ _ _ _ h _ => h) ⟨⟨_, b0, World.ownsRow_nil _ _ _ _, by simp⟩, hk0⟩
    (fun i => { tmps := #[.slice none 0 0, .func (.func 83) #[] #[.pointer (some ⟨bt, 0, none⟩), .pointer (some ⟨bn, 0, none⟩)], .pointer (some ⟨w.heap.size, 0, none⟩), undef, .slice none 0 0, elC a i, .func (.func 83) #[] #[.pointer (some ⟨bt, 0, none⟩), .pointer (some ⟨bn, 0, none⟩)], elC a i, undef, undef, undef, undef, undef], defers := [] }) ?assign ?body ?done ?stop)
  case hI =>
    rintro pre A B ⟨⟨v, h1, h2, h3⟩, h4⟩ ho
    exact ⟨⟨v, Blk.only (cs := #[v]) h1 ho (by omega), owns_only h2 ho (fun g hg => by omega), h3⟩, h4.onlyS ho (fun k h => by omega)⟩
  case assign =>
    intro l i W K hK
    gi_wp2
    exact hK
  case body =>
    rintro l pre i b o W hl _ ⟨⟨v, hv, hrow, hnil⟩, hKp⟩ hsize hpre hi' rfl hcl
    have hlen : pre.length ≤ 1000 := by
      have h1 := hpre.length_le
      have h2 := Tab.line_len t s
      simp at h1
      omega
    have hc := hv.cell
    have hN : w.heap.size + 4 ≤ W.heap.size := by omega
    have HSN := Lib.hid (col_snoc (some ⟨b, o, none⟩) pre i)
    have hx : elC (some ⟨b, o, none⟩) i = .pointer (some ⟨b, o + i * 4, none⟩) := rfl
    rw [hx] at HSN ⊢
    clear hx
    clear b0 b1 b2 hk0 hT hpre hcl hk hbt hbn
    gi_wp2_with (gi_at_builtin; refine wpListIn_append_own _ rfl _ _ 119 rfl (w.heap.size + 4) 120 i0 (.pointer none) 1 8 Tryd.underlying119 hi hz0 hzz1 hzz2 rfl (by decide) _ _ _ rfl (hrow.alloc _) ⟨W.heap.size, 0, none⟩ 1 1 [.pointer (some ⟨b, o + i * 4, none⟩)] rfl rfl (cell_one_new _ _ _) (by simp [Value.oneCell']) (by unfold maxLen; omega) (by omega) (by simp; omega) ?_; intro v' w1 hown' hgrow _; obtain ⟨g', cap', rfl⟩ := ownsRow_succ hown'; obtain ⟨hv1, hv2, hr2, hk2, hb2⟩ := appended_only hv (by decide) hrow hN hown' hgrow; have hc1 := hv1.cell; have hf1 := hv1.frozen)
    refine ⟨hb2.mono fun k _ h => h.imp id fun e => by omega, ⟨_, hv2, ?_, by simp⟩, hKp.onlyS hb2 (fun k h => by omega)⟩
    have e := HSN.out
    rw [← e]
    simpa using hr2
  case done =>
    rintro D W hD ⟨⟨v, hv, hrow, hnil⟩, hKp⟩ hd
    have HD := Lib.hid (hD.trans hsz)
    clear hD
    have hc := hv.cell
    have HO := Lib.hid (show Only (· = D) W (W.putObj D (.deferred none)) from Only.putObj (Only.refl (· = D) W) (.inl rfl) _)
    have HR := Lib.hid hrow
    have hcs : v = .slice none 0 0 ∨ ∃ g cap n, v = .slice (some ⟨g, 0, none⟩) n cap := hrow.2.elim (fun h => .inl h.1) (fun ⟨g, cap, _, h, _⟩ => .inr ⟨g, cap, _, h⟩)
    clear hrow hnil
    rcases hcs with rfl | ⟨g, cap, n, rfl⟩
    all_goals
      go_wp2
      refine ⟨by simp, .inl ⟨_, _, rfl, run_takeDeferred hd, ?_⟩⟩
      exact ⟨_, results_tmp rfl _ _ _, _, rfl, owns_only HR.out HO.out (by intro g hg e; have := HD.out; omega), hKp.onlyS HO.out (by intro k e; have := HD.out; omega)⟩
  case stop =>
    rintro D c pre W _ _ h _
    exact h.elim

theorem collect_c (a : Option Addr) (c : Nat) (t : List Tab.C) (s : ByteArray) (w0 w : World) (bt bn : Nat) (hT : TabAt w0 (.slice a t.length c) t) (ht : t.length ≤ 1000)
    (hk : Kept w0 w) (hbt : Blk w bt 22 #[.slice a t.length c]) (hbn : Blk w bn 9 #[.string s]) (hne : bt ≠ bn) (h1 : w0.heap.size ≤ bt) (h2 : w0.heap.size ≤ bn) :
    Calls Tryd.prog 69 #[.func (.func 83) #[] #[.pointer (some ⟨bt, 0, none⟩), .pointer (some ⟨bn, 0, none⟩)]] w fun e w' =>
      ∃ v, e = .returned v ∧ w'.ownsRow (w.heap.size + 4) 120 1 v (Tab.line t s).length ((Tab.line t s).map (elC a)) ∧ Kept w0 w' := by
  have H := Lib.hid (appseq_c a c t s w0 w bt bn hT ht hk hbt hbn hne h1 h2)
  clear hT hk hbt hbn
  go_enter Tryd.func69, Tryd.ntmps69
  go_wp2_with fail
  refine H.out.mono ?_
  rintro e w1 ⟨v, rfl, hrow, hK⟩
  have HR := Lib.hid hrow
  have hcs : v = .slice none 0 0 ∨ ∃ g cap n, v = .slice (some ⟨g, 0, none⟩) n cap := hrow.2.elim (fun h => .inl h.1) (fun ⟨g, cap, _, h, _⟩ => .inr ⟨g, cap, _, h⟩)
  clear hrow
  rcases hcs with rfl | ⟨g, cap, n, rfl⟩
  all_goals
    go_wp2_with fail
    go_ret
    exact ⟨_, rfl, HR.out, hK⟩

end Go.Proofs.YtdceafncncgfbaaDoor
