/- The contract of table.line: the iterator over a class's line, whatever body a loop over it has. Its state (the name to come; which classes have been passed) lies in cells of its own. A range over a class's line: the law for whatever body. -/
import Derived.Test.YtdceafncncgfbaaDoorRgw
import Derived.Test.YtdceafncncgfbaaDoorTbf
import Derived.Shelf.Abstract
import Derived.Shelf.RegionOpen
import Derived.WalkKit
import Derived.OwnWalkIn
import Derived.TacticsInMore
import Derived.LoopNIn
import Derived.LoopIn
import Derived.Sort.LoopGhostIn
import Derived.Maps.AppendAt
import Derived.WalkLawsBesides
import Derived.Laws.MakeOwn
import Derived.Test.YtdceafncncgfbaaDoorRes
set_option linter.unusedSimpArgs false
set_option linter.unusedVariables false
set_option maxRecDepth 100000
namespace Go.Proofs.YtdceafncncgfbaaDoor
open Go.RowKit Go.Shelf
attribute [local go_sem] Oper.semAt_some

/-- Which of n places have been passed. -/
def psC (n : Nat) (ps : List Nat) : Array Value := (Array.range n).map fun i => Value.bool (decide (i ∈ ps))
theorem psC_size (n : Nat) (ps : List Nat) : (psC n ps).size = n := by simp [psC]
theorem psC_at {n i : Nat} (ps : List Nat) (h : i < n) : (psC n ps)[i]? = some (.bool (decide (i ∈ ps))) := by simp [psC, h]
theorem psC_set {n i : Nat} (ps : List Nat) (h : i < n) : (psC n ps).setIfInBounds i (.bool true) = psC n (ps ++ [i]) := by
  refine Array.ext (by simp [psC]) fun k h1 h2 => ?_
  simp only [psC_size] at h2
  simp only [psC, Array.getElem_setIfInBounds, Array.getElem_map, Array.getElem_range]
  by_cases e : i = k
  · subst e; simp
  · have e' : ¬ k = i := fun h => e h.symm
    rw [Array.getElem_setIfInBounds_ne (by simpa using h2) e]
    simp [e']
theorem psC_new (n : Nat) : madeCells (Value.bool false).cells (n * 1) = psC n [] := by
  unfold madeCells psC
  simp [Value.cells, Nat.mod_one]

theorem info_bool : (Tryd.prog.info? 4).map (fun i => (i.zero, i.size, i.bytes)) = some (some (.bool false), 1, 1) := by kernel_rfl

theorem mk_passed (n : Nat) (h : n ≤ 1000) (w : World) : (Instr.makeSlice 155 (.int .i64 (n : Int)) (.int .i64 (n : Int))).run Tryd.prog w = .ok (.slice (some ⟨w.heap.size, 0, none⟩) n n) (w.alloc (.cells (psC n []) 4)) := by
  obtain ⟨i0, hi, hz0, hz1, hz2⟩ := info_parts info_bool
  have := run_makeSlice (P := Tryd.prog) (w := w) 155 4 i0 (.bool false) Tryd.underlying155 hi hz0 .i64 .i64 (n : Int) (n : Int) (by omega) (by omega) (by rw [hz1]; simp; omega) (by rw [hz2]; omega) (by omega)
  rw [this, hz1]
  simp only [Int.toNat_natCast, psC_new]

/-- What the iterator yields for a place: the class's address. -/
def evC (a : Option Addr) (i : Nat) : Option Addr := a.map fun x => ⟨x.block, x.off + i * 4, none⟩
def elC (a : Option Addr) (i : Nat) : Value := .pointer (evC a i)

theorem line_lineC (a : Option Addr) (c : Nat) (t : List Tab.C) (s : ByteArray) (w : World) :
    Calls Tryd.prog 70 #[.slice a t.length c, .string s] w fun e w' => e = .returned (.func (.func 83) #[] #[.pointer (some ⟨w.heap.size, 0, none⟩), .pointer (some ⟨w.heap.size + 1, 0, none⟩)]) ∧
      w' = (w.alloc (.cells #[.slice a t.length c] 22)).alloc (.cells #[.string s] 9) := by
  go_enter Tryd.func70, Tryd.ntmps70
  go_wp2_with fail
  go_ret
  exact ⟨rfl, rfl⟩

theorem dec_in {i : Nat} {ps : List Nat} (h : i ∈ ps) : decide (i ∈ ps) = true := decide_eq_true h
theorem dec_out {i : Nat} {ps : List Nat} (h : i ∉ ps) : decide (i ∈ ps) = false := decide_eq_false h

section
variable {S : Nat → Prop} {w0 w w' : World}
theorem Kept.onlyS (h : Kept w0 w) (k : Only S w w') (hs : ∀ k, S k → w0.heap.size ≤ k) : Kept w0 w' := h.only k rfl hs
end

theorem Row.cellsC {w : World} {a : Option Addr} {c : Nat} {t : List Tab.C} (h : TabAt w (.slice a t.length c) t) {i : Nat} (hi : i < t.length) :
    ∃ b o, a = some ⟨b, o, none⟩ ∧ ClsAt w b (o + i * 4) (Tab.nth t i) := by
  obtain ⟨a', c', e, h1, h2, h3⟩ := h
  injection e with e1 e2 e3
  subst e1 e3
  exact h3 i _ (Tab.of_nth hi)

set_option maxHeartbeats 4000000 in
theorem line1_own (n : Nat) (hn : 1 ≤ n) (a : Option Addr) (c : Nat) (t : List Tab.C) (s : ByteArray) (w0 : World) (bt bn : Nat) (U : Nat → Prop) (W1 : World)
    (hT : TabAt w0 (.slice a t.length c) t) (ht : t.length ≤ 1000) (hk : Kept w0 W1) (hbt : Blk W1 bt 22 #[.slice a t.length c]) (hbn : Blk W1 bn 9 #[.string s])
    (hne : bt ≠ bn) (h1 : w0.heap.size ≤ bt) (h2 : w0.heap.size ≤ bn) (h3 : bt + 1 < W1.heap.size) (h4 : bn + 1 < W1.heap.size)
    (hU : ∀ k, U k → w0.heap.size ≤ k ∧ k ≠ bt ∧ k ≠ bn ∧ k ≠ W1.heap.size) :
    SeqOwn Fence.wide n Tryd.prog 83 #[.pointer (some ⟨bt, 0, none⟩), .pointer (some ⟨bn, 0, none⟩)] (fun i : Nat => #[elC a i]) (· = bn) U (· = Tab.line t s) (· <+: Tab.line t s) (· <+: Tab.line t s) 1 W1 := by
  intro l J Jx hl abJ abX hY h0
  have hmk := mk_passed t.length ht W1
  have c0 := hbt.cell 0
  simp at c0
  refine callsIn_of_wp Tryd.func83 rfl trivial ?_ rfl
  simp only [Tryd.ntmps83, List.size_toArray, List.length_cons, List.length_nil, Nat.reduceAdd, Nat.reduceSub, Array.replicate_succ, Array.replicate_zero, List.push_toArray, List.append_toArray, List.nil_append, List.cons_append]
  gi_wp2
  have hs0 := hk.size
  gi_loopg [5, 6] (t.length + 1) (fun g i5 i6 wr => ∃ (pre : List Nat) (nm : ByteArray), g + pre.length = t.length + 1 ∧ pre.Nodup ∧ (∀ i ∈ pre, i < t.length) ∧ Tab.line t s = pre ++ Tab.lineF t g pre nm ∧ J pre wr ∧ Kept w0 wr ∧ Blk wr bt 22 #[.slice a t.length c] ∧ Blk wr bn 9 #[.string nm] ∧ Blk wr W1.heap.size 4 (psC t.length pre))
  case atStart =>
    exact ⟨[], s, by simp, by simp, by simp, rfl, abJ _ _ _ h0 ((Only.refl _ _).alloc _), hk.alloc _, hbt.alloc _, hbn.alloc _, Blk.new _ _ _⟩
  case round =>
    obtain ⟨pre, nm, hg, hnd, hpl, hln, hJ, hkr, hb1, hb2, hb3⟩ := hrel
    have b1 := hb1.cell 0
    have b2 := hb2.cell 0
    simp at b1 b2
    have HF := Lib.hid (tfind_c t (.slice a t.length c) nm wr (tab_kept hT hkr))
    unfold FindPost at HF
    have HLN := Lib.hid hln
    have HJ := Lib.hid hJ
    have HK := Lib.hid hkr
    have HB1 := Lib.hid hb1
    have HB2 := Lib.hid hb2
    have HB3 := Lib.hid hb3
    have HY := Lib.hid hY
    have HT := Lib.hid hT
    have HND := Lib.hid hnd
    have HPL := Lib.hid hpl
    clear hln hJ hkr hb1 hb2 hb3 hY hT h0 hbt hbn c0 hmk hk hnd hpl
    cases hat : Tab.ix Tab.C.name t nm with
    | none =>
      have HN := Lib.hid (show Tab.at' t nm = none from hat)
      rw [hat] at HF
      clear hat
      simp only [Tab.num, Option.isSome_none] at HF
      gi_wp2
      refine ⟨trivial, (callsIn_wide.2 HF.out).mono ?_⟩
      rintro e w1 ⟨rfl, rfl⟩
      gi_wp2
      refine ⟨fun _ h => (by cases h), ?_⟩
      gi_wp2
      refine bodyPost_ret (results_none rfl _ _ _) rfl ?_
      exact ⟨⟨_, rfl⟩, .inl ⟨pre, by rw [HLN.out, Tab.lineF_none HN.out]; simp, HJ.out⟩⟩
    | some i =>
      have HN := Lib.hid (show Tab.at' t nm = some i from hat)
      rw [hat] at HF
      obtain ⟨hi, _⟩ := Tab.ix_lt hat
      clear hat
      simp only [Tab.num, Option.isSome_some] at HF
      have b3 := HB3.out.cell i
      rw [psC_at pre hi] at b3
      have hiI : (i : Int) < (t.length : Int) := by omega
      obtain ⟨b, o, rfl, hcl⟩ := Row.cellsC HT.out hi
      by_cases hin : i ∈ pre
      · rw [dec_in hin] at b3
        have HI := Lib.hid hin
        clear hin hcl
        gi_wp2
        refine ⟨trivial, (callsIn_wide.2 HF.out).mono ?_⟩
        rintro e w1 ⟨rfl, rfl⟩
        gi_wp2
        refine ⟨fun _ h => (by cases h), ?_⟩
        gi_wp2
        refine bodyPost_ret (results_none rfl _ _ _) rfl ?_
        exact ⟨⟨_, rfl⟩, .inl ⟨pre, by rw [HLN.out, Tab.lineF_passed HN.out HI.out]; simp, HJ.out⟩⟩
      · rw [dec_out hin] at b3
        have hnd' : (pre ++ [i]).Nodup := by
          rw [List.nodup_append]
          exact ⟨HND.out, by simp, fun x hx y hy => by simp at hy; subst hy; rintro rfl; exact hin hx⟩
        have hpl' : ∀ k ∈ pre ++ [i], k < t.length := fun k hk => by
          rcases List.mem_append.1 hk with h | h
          · exact HPL.out k h
          · simp at h; omega
        have hlen := Tab.places_le t.length _ hnd' hpl'
        simp at hlen
        obtain ⟨g, rfl⟩ : ∃ g, gk = g + 1 := ⟨gk - 1, by omega⟩
        have hln' : Tab.line t s = (pre ++ [i]) ++ Tab.lineF t g (pre ++ [i]) (Tab.nth t i).super := by rw [HLN.out, Tab.lineF_goes HN.out hin]; simp
        obtain ⟨fn, tmps, assign, body, hy, hR⟩ := HY.out pre i wr HJ.out ⟨_, hln'.symm⟩ (by have := HB3.out.lt; omega)
        have HL2 := Lib.hid hln'
        have HND2 := Lib.hid hnd'
        have HPL2 := Lib.hid hpl'
        clear hln' hnd' hpl' hin
        simp only [elC, evC, Option.map_some] at hy
        gi_wp2
        refine ⟨trivial, (callsIn_wide.2 HF.out).mono ?_⟩
        rintro e w1 ⟨rfl, rfl⟩
        gi_wp2
        refine hR.mono ?_
        rintro e W3 (⟨rfl, hJ3, hk3⟩ | ⟨rfl, hJx3⟩)
        · have hn3 : ∀ k, (U k ∨ k = l) → w0.heap.size ≤ k := fun k h => h.elim (fun h => (hU k h).1) (by omega)
          have hk4 := HK.out.onlyS hk3 hn3
          have hb4 := HB1.out.only hk3 (fun h => h.elim (fun h => (hU _ h).2.1 rfl) (by omega))
          have hb5 := HB2.out.only hk3 (fun h => h.elim (fun h => (hU _ h).2.2.1 rfl) (by omega))
          have hb6 := HB3.out.only hk3 (fun h => h.elim (fun h => (hU _ h).2.2.2 rfl) (by omega))
          have d1 := hb4.cell 0
          have d2 := hb5.cell 0
          have d3 := hb6.cell i
          have f2 := hb5.frozen 0
          have f3 := hb6.frozen i
          have hne1 : W1.heap.size ≠ bt := by omega
          have hne2 : W1.heap.size ≠ bn := by omega
          rw [psC_at pre hi] at d3
          simp at d1 d2
          have hk7 := hk4.setCell (p := ⟨W1.heap.size, i, none⟩) (by show w0.heap.size ≤ W1.heap.size; omega) (.bool true)
          obtain ⟨b', o', e', hcl7⟩ := Row.cellsC (tab_kept HT.out hk7) hi
          injection e' with e'
          injection e' with e1 e2
          subst e1 e2
          obtain ⟨_, hc7, _⟩ := hcl7
          have hb7 : Blk (W3.setCell ⟨W1.heap.size, i, none⟩ (.bool true)) bt 22 #[.slice (some ⟨b, o, none⟩) t.length c] := hb4.only ((Only.refl (· = W1.heap.size) _).put i (.bool true)) (by omega)
          have d7 := hb7.cell 0
          simp at d7
          have HL3 := Lib.hid (show J (pre ++ [i]) ((W3.setCell ⟨W1.heap.size, i, none⟩ (.bool true)).setCell ⟨bn, 0, none⟩ (.string (Tab.nth t i).super)) ∧ Kept w0 ((W3.setCell ⟨W1.heap.size, i, none⟩ (.bool true)).setCell ⟨bn, 0, none⟩ (.string (Tab.nth t i).super)) ∧
              Blk ((W3.setCell ⟨W1.heap.size, i, none⟩ (.bool true)).setCell ⟨bn, 0, none⟩ (.string (Tab.nth t i).super)) bt 22 #[.slice (some ⟨b, o, none⟩) t.length c] ∧
              Blk ((W3.setCell ⟨W1.heap.size, i, none⟩ (.bool true)).setCell ⟨bn, 0, none⟩ (.string (Tab.nth t i).super)) bn 9 #[.string (Tab.nth t i).super] ∧
              Blk ((W3.setCell ⟨W1.heap.size, i, none⟩ (.bool true)).setCell ⟨bn, 0, none⟩ (.string (Tab.nth t i).super)) W1.heap.size 4 (psC t.length (pre ++ [i])) from by
            refine ⟨abJ _ _ _ hJ3 (((Only.refl _ _).setCell (.inl (.inr ⟨Nat.le_refl _, by show W1.heap.size < W1.heap.size + 1; omega⟩)) _).setCell (.inl (.inl rfl)) _), hk7.setCell (by show w0.heap.size ≤ bn; omega) _, hb7.only ((Only.refl (· = bn) _).put 0 _) (by omega), ?_, ?_⟩
            · exact (hb5.only ((Only.refl (· = W1.heap.size) _).put i (.bool true)) (by omega)).put 0 _
            · rw [← psC_set pre hi]
              exact (hb6.put i (.bool true)).only ((Only.refl (· = bn) _).put 0 _) (by omega))
          clear hJ3 hk3 hk4 hb4 hb5 hb6 hk7 hb7 HT HK HB1 HB2 HB3 HJ hR HY
          gi_wp2
          gi_roundg g
          case measure => omega
          case rel => exact ⟨pre ++ [i], _, by simp; omega, HND2.out, HPL2.out, HL2.out, HL3.out⟩
        · gi_wp2
          refine bodyPost_ret (results_none rfl _ _ _) rfl ?_
          exact ⟨⟨_, rfl⟩, .inr ⟨_, ⟨_, HL2.out.symm⟩, hJx3⟩⟩

end Go.Proofs.YtdceafncncgfbaaDoor

namespace Go.Proofs.YtdceafncncgfbaaDoor
open Go.RowKit Go.Shelf
attribute [local go_sem] Oper.semAt_some

theorem addr_plain (b o j : Nat) : (⟨b, o, none⟩ : Addr).add j = ⟨b, o + j, none⟩ := by
  unfold Addr.add
  split
  · rename_i h; rw [h]; rfl
  · rfl

theorem owns_only {S : Nat → Prop} {w w' : World} {base : Nat} {e : TypeId} {size : Nat} {v : Value} {n : Nat} {xs : List Value} (h : w.ownsRow base e size v n xs) (k : Only S w w') (hs : ∀ g, base ≤ g → ¬ S g) : w'.ownsRow base e size v n xs := by
  refine ⟨h.1, ?_⟩
  rcases h.2 with hn | ⟨g, cap, cur, rfl, hb, hgg, rest⟩
  · exact .inl hn
  · exact .inr ⟨g, cap, cur, rfl, hb, k.same hgg (hs g hb), rest⟩

theorem owns_slice {w : World} {base k n : Nat} {e : TypeId} {v : Value} {xs : List Value} (h : w.ownsRow base e k v n xs) : ∃ a m c, v = .slice a m c :=
  h.2.elim (fun h => ⟨none, 0, 0, h.1⟩) (fun ⟨g, cap, _, h, _⟩ => ⟨_, _, _, h⟩)
theorem owns_base {w : World} {base base' k n : Nat} {e : TypeId} {v : Value} {xs : List Value} (h : w.ownsRow base e k v n xs) (hb : base' ≤ base) : w.ownsRow base' e k v n xs :=
  ⟨h.1, h.2.imp id fun ⟨g, cap, cur, h1, h2, h3⟩ => ⟨g, cap, cur, h1, Nat.le_trans hb h2, h3⟩⟩

theorem wpIn_range_line {g : Operand} {ps : Array Tmp} {assign body : Code} {Q : Exit → Act → World → Prop} {av : Act} {w w0 : World} {bt bn : Nat} (a : Option Addr) (c : Nat) (t : List Tab.C) (s : ByteArray) (B : Nat → Prop)
    (hg : av.eval g = .func (.func 83) #[] #[.pointer (some ⟨bt, 0, none⟩), .pointer (some ⟨bn, 0, none⟩)])
    (hT : TabAt w0 (.slice a t.length c) t) (ht : t.length ≤ 1000) (hk : Kept w0 w) (hbt : Blk w bt 22 #[.slice a t.length c]) (hbn : Blk w bn 9 #[.string s])
    (hne : bt ≠ bn) (h1 : w0.heap.size ≤ bt) (h2 : w0.heap.size ≤ bn) (hB : ∀ k, B k → w0.heap.size ≤ k ∧ k < w.heap.size ∧ k ≠ bt ∧ k ≠ bn) (hps : ps.size = 1)
    (I : List Nat → World → Prop) (Ix : Code → List Nat → World → Prop)
    (hI : ∀ s A B, I s A → Only (fun k => k = bn ∨ (w.heap.size ≤ k ∧ k < w.heap.size + 2 + 1)) A B → I s B)
    (hIx : ∀ c s A B, Ix c s A → Only (fun k => k = bn ∨ (w.heap.size ≤ k ∧ k < w.heap.size + 2 + 1)) A B → Ix c s B)
    (h0 : I [] w) (a₁ : Nat → Act)
    (hassign : ∀ (l : Nat) (x : Nat) (W : World) (K : Act → World → Prop), K (a₁ x) W →
      assign.wpIn (Fence.wide.inRound l) 1 Tryd.prog (Exit.then K (fun _ _ _ => False)) { tmps := (ps.zip #[elC a x]).foldl (fun t (p, v) => t.setIfInBounds p v) av.tmps, defers := [] } W)
    (hbody : ∀ (l : Nat) (pre : List Nat) (i b o : Nat) (W : World), l = w.heap.size + 1 → (∃ r, W.heap[l]? = some (.loop r)) → I pre W → w.heap.size + 2 + 1 ≤ W.heap.size → (pre ++ [i]) <+: Tab.line t s → i < t.length → a = some ⟨b, o, none⟩ → ClsAt w0 b (o + i * 4) (Tab.nth t i) →
      body.wpIn (Fence.wide.inRound l) 1 Tryd.prog (ownPostW (fun k => B k ∨ w.heap.size + 3 ≤ k) I Ix (pre ++ [i]) W) (a₁ i) W)
    (hdone : ∀ (D : Nat) (W : World), D = w.heap.size → I (Tab.line t s) W → W.heap[D]? = some (.deferred (some [])) → Q .normal { av with defers := { target := .collected D, args := #[] } :: av.defers } W)
    (hstop : ∀ (D : Nat) (c : Code) (pre : List Nat) (W : World), D = w.heap.size → pre <+: Tab.line t s → Ix c pre W → W.heap[D]? = some (.deferred (some [])) → c.wpIn Fence.wide 3 Tryd.prog Q { av with defers := { target := .collected D, args := #[] } :: av.defers } W) :
    (Code.rangeFunc g ps assign body).wpIn Fence.wide 3 Tryd.prog Q av w := by
  have l1 := hbt.lt
  have l2 := hbn.lt
  have l0 := hk.size
  refine wpIn_rangeFunc_ownW (F := Fence.wide) (n := 3) rfl (by omega) hg trivial (enters_of Tryd.func83 (by kernel_rfl) rfl)
    (It := (· = bn)) (U := fun k => B k ∨ w.heap.size + 3 ≤ k) (S := (· = Tab.line t s)) (Sp := (· <+: Tab.line t s)) (G := (· <+: Tab.line t s)) (m := 1) (encs := fun i : Nat => #[elC a i])
    (fun W1 hk1 hs1 => line1_own (3 - 1) (by omega) a c t s w0 bt bn _ W1 hT ht (hk.trans hk1) (hbt.kept hk1) (hbn.kept hk1) hne h1 h2 (by omega) (by omega) (fun k h => ?_))
    (fun k e => by omega) (fun k h => ?_) (fun _ => hps.symm) I Ix hI hIx h0 a₁ hassign ?_ ?_ ?_
  · rcases h with h | h
    · obtain ⟨h3, h4, h5, h6⟩ := hB k h
      exact ⟨h3, h5, h6, by omega⟩
    · exact ⟨by omega, by omega, by omega, by omega⟩
  · rcases h with h | h
    · obtain ⟨h3, h4, h5, h6⟩ := hB k h
      exact ⟨by omega, by omega⟩
    · exact ⟨by omega, by omega⟩
  · intro l pre i W hl hr hi hpre hsz
    have hlt : i < t.length := Tab.line_lt (hpre.subset (by simp))
    obtain ⟨b, o, e, hc⟩ := Row.cellsC hT hlt
    exact hbody l pre i b o W hl hr hi hsz hpre hlt e hc
  · rintro D xs W e rfl hi hd
    exact hdone D W e hi hd
  · rintro D c pre W e hp hi hd
    exact hstop D c pre W e hp hi hd

end Go.Proofs.YtdceafncncgfbaaDoor
