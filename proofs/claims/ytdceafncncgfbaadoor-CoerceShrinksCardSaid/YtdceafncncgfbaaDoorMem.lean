/- The contract of table.Members. -/
import Derived.Test.YtdceafncncgfbaaDoorFi2
import Derived.Test.YtdceafncncgfbaaDoorMts
set_option linter.unusedSimpArgs false
set_option linter.unusedVariables false
set_option maxRecDepth 100000
namespace Go.Proofs.YtdceafncncgfbaaDoor
open Go.ChangeShapes Go.WideShapes Go.ChangeAt Go.RowKit Go.Shelf

def bCells (x : ByteArray × Int) : List Value := [.string x.1, .int .i64 x.2]
theorem bCells_len (x : ByteArray × Int) : (bCells x).length = 2 := rfl
theorem info_mem : (Tryd.prog.info? 33).map (fun i => (i.zero, i.size, i.bytes)) = some (some (.agg #[.string ⟨#[]⟩, .int .i64 0]), 2, 24) := by kernel_rfl

theorem src_two (w : World) (x : ByteArray × Int) : Src Tryd.prog 2 29 (.slice (some ⟨w.heap.size, 0, none⟩) 1 1) 1 (bCells x) (w.alloc (.cells #[.string x.1, .int .i64 x.2] 33)) := by
  refine Src.ofSlice _ Tryd.underlying29 ⟨w.heap.size, 0, none⟩ 1 1 (bCells x) rfl ?_ ?_
  · intro j u hu
    rw [addr_plain, (Blk.new w _ _).cell, Nat.zero_add]
    simpa [bCells] using hu
  · intro u hu
    simp [bCells] at hu
    rcases hu with rfl | rfl <;> rfl

/-- The members so far: a row of one's own; nothing but it has turned since w1. -/
def MemR (n₁ : Nat) (w1 : World) (l : List (ByteArray × Int)) (v : Value) (W : World) : Prop :=
  W.ownsRow n₁ 33 2 v l.length (l.flatMap bCells) ∧ Only (fun k => (n₁ ≤ k ∧ ∃ cs fr, w1.heap[k]? = some (.cells cs 33 fr)) ∨ w1.heap.size ≤ k) w1 W ∧
    ∀ g, v.ownBlock = some g → (n₁ ≤ g ∧ ∃ cs fr, w1.heap[g]? = some (.cells cs 33 fr)) ∨ w1.heap.size ≤ g

theorem MemR.next {n₁ : Nat} {w1 W X w2 : World} {l : List (ByteArray × Int)} {v v' : Value} {x : ByteArray × Int} (h : MemR n₁ w1 l v W) (hk : Kept W X)
    (hr : w2.ownsRow n₁ 33 2 v' (l.length + 1) (l.flatMap bCells ++ bCells x)) (hg : X.grownBy w2 v.ownBlock) (hl : v'.ownBlock = v.ownBlock ∨ v'.ownBlock = some X.heap.size) : MemR n₁ w1 (l ++ [x]) v' w2 := by
  refine ⟨by rw [List.length_append, List.flatMap_append]; simpa using hr, (h.2.1.trans (Only.of_kept hk)).grown hg fun k e => .inl (h.2.2 k e), fun g e => ?_⟩
  rcases hl with hl | hl
  · exact h.2.2 g (by rw [← hl]; exact e)
  · rw [hl] at e
    injection e with e
    have := h.2.1.size
    have := hk.size
    exact .inr (by omega)

theorem MemR.keep {n₁ : Nat} {w1 W X : World} {l : List (ByteArray × Int)} {v : Value} (h : MemR n₁ w1 l v W) (hk : Kept W X) : MemR n₁ w1 l v X :=
  ⟨owns_only (S := fun _ => False) h.1 (Only.of_kept hk) (fun _ _ h => h), h.2.1.trans (Only.of_kept hk), h.2.2⟩

/-- From here on: nothing but the row is turned. -/
theorem MemR.from {n₁ : Nat} {w1 W : World} {l : List (ByteArray × Int)} {v : Value} (h : MemR n₁ w1 l v W) : MemR n₁ W l v W := by
  refine ⟨h.1, Only.refl _ _, fun g e => .inl ?_⟩
  rcases h.1.2 with ⟨rfl, _⟩ | ⟨g', cap, cur, rfl, hb, hh, _⟩
  · simp [Value.ownBlock] at e
  · obtain rfl : g' = g := by simpa [Value.ownBlock] using e
    exact ⟨hb, _, _, hh⟩

/-- A row of another type is as it was. -/
theorem MemR.other {n₁ : Nat} {w1 W : World} {l : List (ByteArray × Int)} {v : Value} (h : MemR n₁ w1 l v W) {base k n : Nat} {e : TypeId} {u : Value} {xs : List Value} (he : e ≠ 33) (hr : w1.ownsRow base e k u n xs) : W.ownsRow base e k u n xs := by
  refine ⟨hr.1, ?_⟩
  rcases hr.2 with hn | ⟨g, cap, cur, rfl, hb, hgg, rest⟩
  · exact .inl hn
  · refine .inr ⟨g, cap, cur, rfl, hb, h.2.1.same hgg ?_, rest⟩
    rintro (⟨_, cs, fr, hc⟩ | hl)
    · rw [hgg] at hc
      injection hc with hc
      injection hc with _ h2
      exact he h2
    · have := (Array.getElem?_eq_some_iff.1 hgg).1
      omega

theorem MemR.kept {n₁ : Nat} {w w1 W : World} {l : List (ByteArray × Int)} {v : Value} (h : MemR n₁ w1 l v W) (hk : Kept w w1) (hn : w.heap.size ≤ n₁) : Kept w W :=
  hk.onlyS h.2.1 fun k e => by
    have := hk.size
    rcases e with ⟨e, _⟩ | e <;> omega

theorem MemR.start (n₁ : Nat) (w1 : World) : MemR n₁ w1 [] (.slice none 0 0) w1 := ⟨World.ownsRow_nil _ _ _ _, Only.refl _ _, fun g e => by simp [Value.ownBlock] at e⟩

/-- The members of some fields, and of some methods. -/
def fMem (l : List Tab.V) : List (ByteArray × Int) := l.map fun x => (x.name, (-1 : Int))
def sMem (l : List (Tab.M × Value)) : List (ByteArray × Int) := l.map fun x => (x.1.name, (x.1.params.length : Int))

theorem var_cells {w : World} {base g n c : Nat} {l : List Tab.V} (h : w.ownsRow base 58 2 (.slice (some ⟨g, 0, none⟩) n c) l.length (l.flatMap vCells)) {j : Nat} {x : Tab.V} (hx : l[j]? = some x) : w.cell? ⟨g, j * 2, none⟩ = some (.string x.name) ∧ w.cell? ⟨g, j * 2 + 1, none⟩ = some (.string x.typ) := by
  have c0 := h.cells (g := g) rfl _ _ (flat_at vCells vCells_len l j 0 x hx (by omega))
  have c1 := h.cells (g := g) rfl _ _ (flat_at vCells vCells_len l j 1 x hx (by omega))
  rw [addr_plain] at c0 c1
  exact ⟨by simpa using c0, by simpa using c1⟩
theorem sig_cells {w : World} {base g n c : Nat} {l : List (Tab.M × Value)} (h : w.ownsRow base 61 3 (.slice (some ⟨g, 0, none⟩) n c) l.length (l.flatMap mCells)) {j : Nat} {x : Tab.M × Value} (hx : l[j]? = some x) : w.cell? ⟨g, j * 3, none⟩ = some (.string x.1.name) ∧ w.cell? ⟨g, j * 3 + 1, none⟩ = some x.2 ∧ w.cell? ⟨g, j * 3 + 2, none⟩ = some (.string x.1.res) := by
  have c0 := h.cells (g := g) rfl _ _ (flat_at mCells mCells_len l j 0 x hx (by omega))
  have c1 := h.cells (g := g) rfl _ _ (flat_at mCells mCells_len l j 1 x hx (by omega))
  have c2 := h.cells (g := g) rfl _ _ (flat_at mCells mCells_len l j 2 x hx (by omega))
  rw [addr_plain] at c0 c1 c2
  exact ⟨by simpa using c0, by simpa using c1, by simpa using c2⟩

set_option maxHeartbeats 4000000 in
theorem members_c (a : Option Addr) (c : Nat) (t : List Tab.C) (s : ByteArray) (w : World) (hT : TabAt w (.slice a t.length c) t) (hS : Small t) :
    Calls Tryd.prog 28 #[.slice a t.length c, .string s] w fun e w' => ∃ v, e = .returned v ∧ w'.ownsRow w.heap.size 33 2 v (Tab.members t s).length ((Tab.members t s).flatMap bCells) ∧ Kept w w' := by
  obtain ⟨i0, hi, hz0, hzz1, hzz2⟩ := info_parts info_mem
  have HT := Lib.hid hT
  have HFL := Lib.hid (fldsOf_le hS (s := s) (List.prefix_refl (bk (Tab.line t s) 0)))
  rw [fldsOf_all] at HFL
  have hfl := HFL.out
  clear hT
  go_enter Tryd.func28, Tryd.ntmps28
  go_wp2_with fail
  refine (fields_c a c t s w HT.out hS).mono ?_
  rintro e w1 ⟨v, rfl, hrow, hk⟩
  obtain ⟨fa, fc, rfl⟩ := owns_slice_n hrow
  have HR := Lib.hid hrow
  have HK := Lib.hid hk
  clear hrow hk
  go_wp2_with fail
  go_loopw [5, 14] (fun l q wr => ∃ j : Nat, q = .int .i64 j ∧ j ≤ (Tab.fields t s).length ∧ MemR w1.heap.size w1 (fMem ((Tab.fields t s).take j)) l wr) (fun l q wr => (Tab.fields t s).length - (intOf q).toNat)
  case atStart => exact ⟨0, rfl, Nat.zero_le _, MemR.start _ _⟩
  case round =>
    obtain ⟨j, rfl, hj, hR⟩ := hrel
    by_cases hlt : j < (Tab.fields t s).length
    · have hltI : (j : Int) < ((Tab.fields t s).length : Int) := by omega
      have hx : (Tab.fields t s)[j]? = some (Tab.fields t s)[j] := List.getElem?_eq_getElem hlt
      generalize (Tab.fields t s)[j] = x at hx
      obtain ⟨g, rfl, _⟩ := row_cells HR.out (by omega)
      obtain ⟨c0, c1⟩ := var_cells (hR.other (by decide) HR.out) hx
      have HX := Lib.hid (show fMem ((Tab.fields t s).take (j + 1)) = fMem ((Tab.fields t s).take j) ++ [(x.name, -1)] by rw [List.take_add_one, hx]; unfold fMem; simp)
      have HM := Lib.hid hR
      have HL := Lib.hid (show (fMem ((Tab.fields t s).take j)).length = j by unfold fMem; simp; omega)
      obtain ⟨la, ln, lc, rfl⟩ := owns_slice hR.1
      have HB := Lib.hid (show w1.heap.size ≤ wr.heap.size from hR.2.1.size)
      have HRX := Lib.hid (hR.keep (((Kept.refl wr).alloc (.cells #[.string x.name, .string x.typ] 58)).alloc (.cells #[.string x.name, .int .i64 (-1)] 33)))
      have hsx := src_two (wr.alloc (.cells #[.string x.name, .string x.typ] 58)) (x.name, -1)
      rw [World.size_alloc] at hsx
      have HSX := Lib.hid hsx
      clear hsx
      clear hx hR
      go_wp2_with (at_builtin; refine wpList_apk rfl (.tmp 18) (.tmp 22) 29 29 rfl w1.heap.size 2 33 i0 _ 24 Tryd.underlying29 hi hz0 hzz1 hzz2 rfl rfl HRX.out.1 rfl HSX.out (by rw [HL.out]; have := HFL.out; unfold maxLen; omega) (by rw [HL.out]; have := HFL.out; omega) (by have := HB.out; simp; omega) ?_; intro v' w2 hown' hgrow hlies; have HN := Lib.hid (HRX.out.next (Kept.refl _) hown' hgrow hlies); obtain ⟨va', vn', vc', rfl⟩ := owns_slice hown'; clear hown' hgrow hlies)
      go_roundw
      case rel => exact ⟨j + 1, by go_num, by omega, by rw [HX.out]; exact HN.out⟩
      case measure => simp [intOf]; omega
    · have hltI : ¬ (j : Int) < ((Tab.fields t s).length : Int) := by omega
      obtain rfl : j = (Tab.fields t s).length := by omega
      rw [List.take_length] at hR
      have hK := hR.kept HK.out HK.out.size
      have HR1 := Lib.hid hR
      have HK1 := Lib.hid hK
      obtain ⟨la, ln, lc, rfl⟩ := owns_slice hR.1
      clear hR hlt
      go_wp2_with fail
      refine (methods_c a c t s wr (tab_kept HT.out HK1.out) hS).mono ?_
      rintro e w2 ⟨ms, v2, rfl, hf, hrow2, hrows, hlen2, hk2⟩
      obtain ⟨ma, mc, rfl⟩ := owns_slice_n hrow2
      have HR2 := Lib.hid hrow2
      have HRS := Lib.hid hrows
      have HF := Lib.hid hf
      have HK2 := Lib.hid (HK1.out.trans hk2)
      have HM2 := Lib.hid (HR1.out.keep hk2).from
      have HS2 := Lib.hid (show w1.heap.size ≤ w2.heap.size from Nat.le_trans HR1.out.2.1.size hk2.size)
      clear hrow2 hrows hf hk2
      go_wp2_with fail
      go_loopw [5, 29] (fun l q wr => ∃ j : Nat, q = .int .i64 j ∧ j ≤ ms.length ∧ MemR w1.heap.size w2 (fMem (Tab.fields t s) ++ sMem (ms.take j)) l wr) (fun l q wr => ms.length - (intOf q).toNat)
      case atStart => exact ⟨0, rfl, Nat.zero_le _, by simpa [sMem] using HM2.out⟩
      case round =>
        obtain ⟨j, rfl, hj, hR⟩ := hrel
        by_cases hlt : j < ms.length
        · have hltI : (j : Int) < (ms.length : Int) := by omega
          have hx : ms[j]? = some ms[j] := List.getElem?_eq_getElem hlt
          generalize ms[j] = x at hx
          obtain ⟨g, rfl, _⟩ := row_cells HR2.out (by omega)
          obtain ⟨c0, c1, c2⟩ := sig_cells (hR.other (by decide) HR2.out) hx
          obtain ⟨pa, pc, hp⟩ := owns_slice_n (HRS.out x (List.mem_of_getElem? hx))
          rw [hp] at c1
          have HX := Lib.hid (show fMem (Tab.fields t s) ++ sMem (ms.take (j + 1)) = (fMem (Tab.fields t s) ++ sMem (ms.take j)) ++ [(x.1.name, (x.1.params.length : Int))] by rw [List.take_add_one, hx]; unfold sMem; simp)
          have HL := Lib.hid (show (fMem (Tab.fields t s) ++ sMem (ms.take j)).length = (Tab.fields t s).length + j by unfold fMem sMem; simp; omega)
          obtain ⟨la', ln', lc', rfl⟩ := owns_slice hR.1
          have HB := Lib.hid (show w1.heap.size ≤ wr.heap.size from Nat.le_trans HS2.out hR.2.1.size)
          have HRX := Lib.hid (hR.keep (((Kept.refl wr).alloc (.cells #[.string x.1.name, .slice pa x.1.params.length pc, .string x.1.res] 61)).alloc (.cells #[.string x.1.name, .int .i64 x.1.params.length] 33)))
          have hsx := src_two (wr.alloc (.cells #[.string x.1.name, .slice pa x.1.params.length pc, .string x.1.res] 61)) (x.1.name, (x.1.params.length : Int))
          rw [World.size_alloc] at hsx
          have HSX := Lib.hid hsx
          clear hsx hx hR hp
          go_wp2_with (at_builtin; refine wpList_apk rfl (.tmp 33) (.tmp 40) 29 29 rfl w1.heap.size 2 33 i0 _ 24 Tryd.underlying29 hi hz0 hzz1 hzz2 rfl rfl HRX.out.1 rfl HSX.out (by rw [HL.out]; unfold maxLen; omega) (by rw [HL.out]; omega) (by have := HB.out; simp; omega) ?_; intro v' w3 hown' hgrow hlies; have HN := Lib.hid (HRX.out.next (Kept.refl _) hown' hgrow hlies); obtain ⟨va', vn', vc', rfl⟩ := owns_slice hown'; clear hown' hgrow hlies)
          go_roundw
          case rel => exact ⟨j + 1, by go_num, by omega, by rw [HX.out]; exact HN.out⟩
          case measure => simp [intOf]; omega
        · have hltI : ¬ (j : Int) < (ms.length : Int) := by omega
          obtain rfl : j = ms.length := by omega
          rw [List.take_length] at hR
          have HM := Lib.hid (show fMem (Tab.fields t s) ++ sMem ms = Tab.members t s by
            unfold Tab.members fMem sMem
            rw [← HF.out, List.map_map]; rfl)
          have HE := Lib.hid hR
          obtain ⟨la', ln', lc', rfl⟩ := owns_slice hR.1
          clear hR hlt
          go_wp2_with fail
          go_ret
          exact ⟨_, rfl, owns_base (by rw [← HM.out]; exact HE.out.1) HK.out.size, HE.out.kept HK2.out HK.out.size⟩

end Go.Proofs.YtdceafncncgfbaaDoor
