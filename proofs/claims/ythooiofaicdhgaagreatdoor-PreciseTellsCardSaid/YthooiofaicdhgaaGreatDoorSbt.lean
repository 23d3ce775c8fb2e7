/- The contract of subtype.line: a type and what is above it, whatever body a loop over it has. The contracts of subtype.isType, isValid, areTypes, reaches, Sub and Join. The contract of subtype.Join. The contract of subtype.Leaf. -/
import Derived.Test.YthooiofaicdhgaaGreatDoorSup
import Derived.Test.YthooiofaicdhgaaGreatDoorVla
import Derived.Test.YthooiofaicdhgaaGreatDoorMts
import Derived.Test.YthooiofaicdhgaaGreatDoorChk
set_option linter.unusedSimpArgs false
set_option linter.unusedVariables false
set_option maxRecDepth 100000
namespace Go.Proofs.YthooiofaicdhgaaGreatDoor
open Go.ChangeShapes Go.WideShapes Go.ChangeAt Go.RowKit Go.Shelf
attribute [local go_sem] Oper.semAt_some

theorem isC_c (l : List Tab.C) (v : Value) (s : ByteArray) (w : World) (h : Row 4 ClsAt w v l) :
    Calls Tryz.prog 78 #[v, .string s] w fun e w' => e = .returned (.bool (Tab.isC l s)) ∧ w' = w := by
  have HC := Lib.hid (tfind_c l v s w h)
  unfold FindPost at HC
  unfold Tab.isC
  generalize Tab.num (Tab.ix Tab.C.name l s) = n at HC ⊢
  generalize (Tab.ix Tab.C.name l s).isSome = y at HC ⊢
  obtain ⟨a, c, rfl, _⟩ := h
  go_enter Tryz.func78, Tryz.ntmps78
  go_wp2_with fail
  refine HC.out.mono ?_
  rintro e w1 ⟨rfl, rfl⟩
  go_wp2_with fail
  go_ret
  exact ⟨rfl, rfl⟩

theorem line_slineC (a : Option Addr) (c : Nat) (t : List Tab.C) (s : ByteArray) (w : World) :
    Calls Tryz.prog 72 #[.slice a t.length c, .string s] w fun e w' => e = .returned (.func (.func 128) #[] #[.pointer (some ⟨w.heap.size, 0, none⟩), .pointer (some ⟨w.heap.size + 1, 0, none⟩)]) ∧
      w' = (w.alloc (.cells #[.slice a t.length c] 22)).alloc (.cells #[.string s] 9) := by
  go_enter Tryz.func72, Tryz.ntmps72
  go_wp2_with fail
  go_ret
  exact ⟨rfl, rfl⟩

theorem up_own {t : List Tab.C} {s : ByteArray} (h : Tab.isC t s = true) : Tab.up t s = Tab.supers t s := by unfold Tab.up; rw [h]; rfl
theorem up_lone {t : List Tab.C} {s : ByteArray} (h : Tab.isC t s = false) : Tab.up t s = [s] := by unfold Tab.up; rw [h]; rfl

set_option maxHeartbeats 4000000 in
theorem sline1_own (n : Nat) (hn : 1 ≤ n) (a : Option Addr) (c : Nat) (t : List Tab.C) (s : ByteArray) (w0 : World) (bt bs : Nat) (U : Nat → Prop) (W1 : World)
    (hT : TabAt w0 (.slice a t.length c) t) (ht : t.length ≤ 1000) (hk : Kept w0 W1) (hbt : Blk W1 bt 22 #[.slice a t.length c]) (hbs : Blk W1 bs 9 #[.string s])
    (hU : ∀ k, U k → k < W1.heap.size) :
    SeqOwn Fence.wide n Tryz.prog 128 #[.pointer (some ⟨bt, 0, none⟩), .pointer (some ⟨bs, 0, none⟩)] (fun x : ByteArray => #[Value.string x]) (fun _ => False) U (· = Tab.up t s) (· <+: Tab.up t s) (· <+: Tab.up t s) 0 W1 := by
  intro l J Jx hl abJ abX hY h0
  have c0 := hbt.cell 0
  have c1 := hbs.cell 0
  simp at c0 c1
  have HC := Lib.hid (isC_c t (.slice a t.length c) s W1 (tab_kept hT hk))
  have HS := Lib.hid (supers_o a c t s W1 (tab_kept hT hk) ht)
  have HY := Lib.hid hY
  have HU := Lib.hid hU
  refine callsIn_of_wp Tryz.func128 rfl trivial ?_ rfl
  simp only [Tryz.ntmps128, List.size_toArray, List.length_cons, List.length_nil, Nat.reduceAdd, Nat.reduceSub, Array.replicate_succ, Array.replicate_zero, List.push_toArray, List.append_toArray, List.nil_append, List.cons_append]
  clear hY hU
  cases hc : Tab.isC t s with
  | false =>
    rw [hc] at HC
    have hup := up_lone hc
    obtain ⟨fn, tmps, assign, body, hy, hR⟩ := HY.out [] s W1 h0 (by rw [hup]; exact List.prefix_refl _) (Nat.le_refl _)
    have HUP := Lib.hid hup
    clear hup hc HS
    gi_wp2
    refine ⟨trivial, (callsIn_wide.2 HC.out).mono ?_⟩
    rintro e w1 ⟨rfl, rfl⟩
    gi_wp2
    refine hR.mono ?_
    rintro e W3 (⟨rfl, hJ3, hk3⟩ | ⟨rfl, hJx3⟩)
    · gi_wp2
      refine bodyPost_ret (results_none rfl _ _ _) rfl ?_
      exact ⟨⟨_, rfl⟩, .inl ⟨_, HUP.out.symm, hJ3⟩⟩
    · gi_wp2
      refine bodyPost_ret (results_none rfl _ _ _) rfl ?_
      exact ⟨⟨_, rfl⟩, .inr ⟨_, by rw [HUP.out]; exact List.prefix_refl _, hJx3⟩⟩
  | true =>
    rw [hc] at HC
    have HUP := Lib.hid (up_own hc)
    have HJ0 := Lib.hid h0
    have HJ := Lib.hid abJ
    clear hc h0 abJ
    gi_wp2
    refine ⟨trivial, (callsIn_wide.2 HC.out).mono ?_⟩
    rintro e w1 ⟨rfl, rfl⟩
    gi_wp2
    refine ⟨trivial, (callsIn_wide.2 HS.out).mono ?_⟩
    rintro e w2 ⟨v, rfl, hrow, hown, k2⟩
    have hown' : w2.ownsRow w1.heap.size 9 1 v (Tab.supers t s).length ((Tab.supers t s).map Value.string) := by
      have e1 : (Tab.supers t s).length = (Tab.line t s).length := by unfold Tab.supers; simp
      have e2 : (Tab.supers t s).map Value.string = (Tab.line t s).map fun i => Value.string (Tab.nth t i).name := by unfold Tab.supers; simp
      rw [e1, e2]; exact hown
    obtain ⟨va, vc, rfl⟩ := owns_slice_n hown'
    rw [← HUP.out] at hown'
    have hlen : (Tab.up t s).length ≤ 9223372036854775807 := by
      rw [HUP.out, Tab.supers_at]
      have := Tab.line_len t s
      omega
    have hlq : (Tab.supers t s).length = (Tab.up t s).length := by rw [HUP.out]
    rw [hlq]
    have hJ2 : J [] w2 := HJ.out _ _ _ HJ0.out (Only.of_kept k2)
    have hsz2 := k2.size
    obtain ⟨L, hL⟩ : ∃ L, Tab.up t s = L := ⟨_, rfl⟩
    rw [hL] at hown' hlen HY ⊢
    have HL := Lib.hid hL
    clear hlq hrow hown k2 HJ0 hL HUP HS
    gi_wp2
    gi_loopw [17] (fun q wr => ∃ j : Nat, j ≤ L.length ∧ q = .int .i64 j ∧ J (L.take j) wr ∧ wr.ownsRow w1.heap.size 9 1 (.slice va L.length vc) L.length (L.map Value.string) ∧ w1.heap.size ≤ wr.heap.size) (fun q wr => L.length - (intOf q).toNat)
    case atStart => exact ⟨0, Nat.zero_le _, rfl, by simpa using hJ2, hown', hsz2⟩
    case round =>
      obtain ⟨j, hj, rfl, hJj, hrow, hsz⟩ := hrel
      by_cases hlt : j < L.length
      · have hltI : (j : Int) < (L.length : Int) := by omega
        have hx : L[j]? = some L[j] := List.getElem?_eq_getElem hlt
        obtain ⟨g, rfl⟩ : ∃ g, va = some ⟨g, 0, none⟩ := by
          rcases hrow.2 with ⟨h1, _⟩ | ⟨g, cap, cur, h1, _⟩
          · injection h1 with _ h2 _; omega
          · injection h1 with h1 _ _; exact ⟨g, h1⟩
        have hcell := hrow.cells (g := g) rfl j (.string L[j]) (by rw [List.getElem?_map, hx]; rfl)
        rw [addr_plain, Nat.zero_add] at hcell
        have htk : L.take (j + 1) = L.take j ++ [L[j]] := by rw [List.take_add_one, hx]; rfl
        obtain ⟨fn, tmps, assign, body, hy, hR⟩ := HY.out (L.take j) L[j] wr hJj (by rw [← htk]; exact List.take_prefix _ _) (by simpa using hsz)
        generalize L[j] = x at hx hcell htk hy hR
        have HTK := Lib.hid htk
        have HR := Lib.hid hrow
        clear hx htk hrow hJj
        gi_wp2
        refine hR.mono ?_
        rintro e W3 (⟨rfl, hJ3, hk3⟩ | ⟨rfl, hJx3⟩)
        · have HR3 := Lib.hid (owns_only HR.out hk3 (fun g hg h => h.elim (fun h => by have := HU.out _ h; omega) (by omega)))
          have HJ3 := Lib.hid (show J (L.take (j + 1)) W3 by rw [HTK.out]; exact hJ3)
          have hs3 := hk3.size
          clear hJ3 hk3 HR hR
          gi_wp2
          go_roundw
          case rel => exact ⟨j + 1, by omega, by go_num, HJ3.out, HR3.out, by omega⟩
          case measure => simp [intOf]; omega
        · gi_wp2
          refine bodyPost_ret (results_none rfl _ _ _) rfl ?_
          exact ⟨⟨_, rfl⟩, .inr ⟨_, by rw [HL.out, ← HTK.out]; exact List.take_prefix _ _, hJx3⟩⟩
      · have hltI : ¬ (j : Int) < (L.length : Int) := by omega
        obtain rfl : j = L.length := by omega
        rw [List.take_length] at hJj
        have HJJ := Lib.hid hJj
        clear hJj hrow
        gi_wp2
        refine bodyPost_end (results_none rfl _ _ _) rfl ?_
        exact ⟨⟨_, rfl⟩, .inl (by rw [HL.out]; exact HJJ.out)⟩

theorem wpIn_range_sline {g : Operand} {ps : Array Tmp} {assign body : Code} {Q : Exit → Act → World → Prop} {av : Act} {w w0 : World} {bt bs : Nat} (a : Option Addr) (c : Nat) (t : List Tab.C) (s : ByteArray) (B : Nat → Prop)
    (hg : av.eval g = .func (.func 128) #[] #[.pointer (some ⟨bt, 0, none⟩), .pointer (some ⟨bs, 0, none⟩)])
    (hT : TabAt w0 (.slice a t.length c) t) (ht : t.length ≤ 1000) (hk : Kept w0 w) (hbt : Blk w bt 22 #[.slice a t.length c]) (hbs : Blk w bs 9 #[.string s])
    (hB : ∀ k, B k → k < w.heap.size) (hps : ps.size = 1)
    (I : List ByteArray → World → Prop) (Ix : Code → List ByteArray → World → Prop)
    (hI : ∀ s A B, I s A → Only (fun k => w.heap.size ≤ k ∧ k < w.heap.size + 2) A B → I s B)
    (hIx : ∀ c s A B, Ix c s A → Only (fun k => w.heap.size ≤ k ∧ k < w.heap.size + 2) A B → Ix c s B)
    (h0 : I [] w) (a₁ : ByteArray → Act)
    (hassign : ∀ (l : Nat) (x : ByteArray) (W : World) (K : Act → World → Prop), K (a₁ x) W →
      assign.wpIn (Fence.wide.inRound l) 1 Tryz.prog (Exit.then K (fun _ _ _ => False)) { tmps := (ps.zip #[Value.string x]).foldl (fun t (p, v) => t.setIfInBounds p v) av.tmps, defers := [] } W)
    (hbody : ∀ (l : Nat) (pre : List ByteArray) (x : ByteArray) (W : World), l = w.heap.size + 1 → (∃ r, W.heap[l]? = some (.loop r)) → I pre W → w.heap.size + 2 ≤ W.heap.size → (pre ++ [x]) <+: Tab.up t s →
      body.wpIn (Fence.wide.inRound l) 1 Tryz.prog (ownPostW B I Ix (pre ++ [x]) W) (a₁ x) W)
    (hdone : ∀ (D : Nat) (W : World), D = w.heap.size → I (Tab.up t s) W → W.heap[D]? = some (.deferred (some [])) → Q .normal { av with defers := { target := .collected D, args := #[] } :: av.defers } W)
    (hstop : ∀ (D : Nat) (c : Code) (pre : List ByteArray) (W : World), D = w.heap.size → pre <+: Tab.up t s → Ix c pre W → W.heap[D]? = some (.deferred (some [])) → c.wpIn Fence.wide 3 Tryz.prog Q { av with defers := { target := .collected D, args := #[] } :: av.defers } W) :
    (Code.rangeFunc g ps assign body).wpIn Fence.wide 3 Tryz.prog Q av w := by
  refine wpIn_rangeFunc_ownW (F := Fence.wide) (n := 3) rfl (by omega) hg trivial (enters_of Tryz.func128 (by kernel_rfl) rfl)
    (It := fun _ => False) (U := B) (S := (· = Tab.up t s)) (Sp := (· <+: Tab.up t s)) (G := (· <+: Tab.up t s)) (m := 0) (encs := fun x : ByteArray => #[Value.string x])
    (fun W1 hk1 hs1 => sline1_own (3 - 1) (by omega) a c t s w0 bt bs _ W1 hT ht (hk.trans hk1) (hbt.kept hk1) (hbs.kept hk1) (fun k h => by have := hB k h; omega))
    (fun k e => e.elim) (fun k h => by have := hB k h; omega) (fun _ => hps.symm) I Ix (fun s A B h o => hI s A B h (o.mono fun k _ e => e.elim False.elim fun e => by omega)) (fun c s A B h o => hIx c s A B h (o.mono fun k _ e => e.elim False.elim fun e => by omega)) h0 a₁ hassign ?_ ?_ ?_
  · intro l pre x W hl hr hi hpre hsz
    exact hbody l pre x W hl hr hi (by omega) hpre
  · rintro D xs W e rfl hi hd
    exact hdone D W e hi hd
  · rintro D c pre W e hp hi hd
    exact hstop D c pre W e hp hi hd

end Go.Proofs.YthooiofaicdhgaaGreatDoor

namespace Go.Proofs.YthooiofaicdhgaaGreatDoor
open Go.ChangeShapes Go.WideShapes Go.ChangeAt Go.RowKit Go.Shelf
attribute [local go_sem] Oper.semAt_some

theorem valid_c (t : List Tab.C) (a : Option Addr) (cp : Nat) (w : World) (hTb : Tb w) (h : TabAt w (.slice a t.length cp) t) (hS : Small t) :
    Calls Tryz.prog 79 #[.slice a t.length cp] w fun e w' => e = .returned (.bool (Tab.ok t)) ∧ Kept w w' := by
  have HC := Lib.hid (check_c t a cp w hTb h hS)
  unfold Tab.ok
  generalize Tab.check t = ck at *
  obtain ⟨fe, fa⟩ := ck
  dsimp only at HC ⊢
  clear hTb h hS
  have hfd : ∀ w : World, (Instr.field 38 (.agg #[.int .i64 fe, .int .i64 fa]) 0).run Tryz.prog w = .ok (.int .i64 fe) w := fun _ => by kernel_rfl
  by_cases hz : fe = 0
  · have hb : decide (fe = 0) = true := decide_eq_true hz
    subst hz
    go_enter Tryz.func79, Tryz.ntmps79
    go_wp2_with fail
    refine HC.out.mono ?_
    rintro e w1 ⟨rfl, k1⟩
    go_wp2_with fail
    go_ret
    exact ⟨rfl, k1⟩
  · have hb : decide (fe = 0) = false := decide_eq_false hz
    have hb2 : (fe == 0) = false := by simp [hz]
    rw [hb]
    go_enter Tryz.func79, Tryz.ntmps79
    go_wp2_with fail
    refine HC.out.mono ?_
    rintro e w1 ⟨rfl, k1⟩
    go_wp2_with fail
    go_ret
    exact ⟨rfl, k1⟩

theorem typ_c (t : List Tab.C) (v : Value) (s : ByteArray) (w : World) (h : Row 4 ClsAt w v t) :
    Calls Tryz.prog 127 #[v, .string s] w fun e w' => e = .returned (.bool (Tab.isT t s)) ∧ w' = w := by
  have HC := Lib.hid (isC_c t v s w h)
  by_cases hin : s ∈ Tab.basics
  · rw [Tab.isT_own hin]
    unfold Tab.basics at hin
    simp only [List.mem_cons, List.not_mem_nil, or_false] at hin
    obtain ⟨a, c, rfl, _⟩ := h
    clear HC
    rcases hin with rfl | rfl | rfl | rfl | rfl | rfl
    all_goals
      go_enter Tryz.func127, Tryz.ntmps127
      go_wp2_with fail
      go_ret
      exact ⟨rfl, rfl⟩
  · have hT : Tab.isT t s = Tab.isC t s := by unfold Tab.isT; rw [decide_eq_false hin]; rfl
    rw [hT]
    generalize Tab.isC t s = y at HC ⊢
    unfold Tab.basics at hin
    simp only [List.mem_cons, List.not_mem_nil, or_false, not_or] at hin
    obtain ⟨h1, h2, h3, h4, h5, h6⟩ := hin
    have b1 : (s.toList == [105, 110, 116]) = false := lit_no h1
    have b2 : (s.toList == [114, 101, 97, 108]) = false := lit_no h2
    have b3 : (s.toList == [98, 111, 111, 108]) = false := lit_no h3
    have b4 : (s.toList == [115, 116, 114]) = false := lit_no h4
    have b5 : (s.toList == [117, 110, 105, 116]) = false := lit_no h5
    have b6 : (s.toList == [63]) = false := lit_no h6
    obtain ⟨a, c, rfl, _⟩ := h
    clear h1 h2 h3 h4 h5 h6 hT
    go_enter Tryz.func127, Tryz.ntmps127
    go_wp2_with fail
    refine HC.out.mono ?_
    rintro e w1 ⟨rfl, rfl⟩
    go_wp2_with fail
    go_ret
    exact ⟨rfl, rfl⟩

theorem types_c (t : List Tab.C) (a : Option Addr) (cp : Nat) (s u : ByteArray) (w : World) (hTb : Tb w) (h : TabAt w (.slice a t.length cp) t) (hS : Small t) :
    Calls Tryz.prog 71 #[.slice a t.length cp, .string s, .string u] w fun e w' => e = .returned (.bool (Tab.ats t s u)) ∧ Kept w w' := by
  have H1 := Lib.hid (typ_c t (.slice a t.length cp) s w h)
  have H2 := Lib.hid (typ_c t (.slice a t.length cp) u w h)
  have H3 := Lib.hid (valid_c t a cp w hTb h hS)
  unfold Tab.ats
  generalize Tab.isT t s = x1 at *
  generalize Tab.isT t u = x2 at *
  generalize Tab.ok t = x3 at *
  clear hTb h hS
  cases x1 with
  | false =>
    go_enter Tryz.func71, Tryz.ntmps71
    go_wp2_with fail
    refine H1.out.mono ?_
    rintro e w1 ⟨rfl, rfl⟩
    go_wp2_with fail
    go_ret
    exact ⟨rfl, Kept.refl _⟩
  | true =>
    cases x2 with
    | false =>
      go_enter Tryz.func71, Tryz.ntmps71
      go_wp2_with fail
      refine H1.out.mono ?_
      rintro e w1 ⟨rfl, rfl⟩
      go_wp2_with fail
      refine H2.out.mono ?_
      rintro e w1 ⟨rfl, rfl⟩
      go_wp2_with fail
      go_ret
      exact ⟨rfl, Kept.refl _⟩
    | true =>
      go_enter Tryz.func71, Tryz.ntmps71
      go_wp2_with fail
      refine H1.out.mono ?_
      rintro e w1 ⟨rfl, rfl⟩
      go_wp2_with fail
      refine H2.out.mono ?_
      rintro e w1 ⟨rfl, rfl⟩
      go_wp2_with fail
      refine H3.out.mono ?_
      rintro e w3 ⟨rfl, k3⟩
      go_wp2_with fail
      go_ret
      exact ⟨rfl, k3⟩

/-- Within reaches' loop. -/
def RchI (u : ByteArray) (w : World) (pre : List ByteArray) (W : World) : Prop :=
  Blk W w.heap.size 9 #[.string u] ∧ Blk W (w.heap.size + 1) 4 #[.bool false] ∧ Kept w W ∧ ¬ u ∈ pre

theorem rchI_only {u : ByteArray} {w A B : World} {pre : List ByteArray} {S : Nat → Prop} (h : RchI u w pre A) (ho : Only S A B) (hs : ∀ k, S k → w.heap.size + 2 ≤ k) : RchI u w pre B :=
  ⟨h.1.only ho (fun e => by have := hs _ e; omega), h.2.1.only ho (fun e => by have := hs _ e; omega), h.2.2.1.onlyS ho (fun k e => by have := hs k e; omega), h.2.2.2⟩

/-- When it has been found. -/
def RchX (u : ByteArray) (w : World) (c : Code) (pre : List ByteArray) (W : World) : Prop :=
  c = .ret ∧ Blk W (w.heap.size + 1) 4 #[.bool true] ∧ Kept w W ∧ u ∈ pre

theorem rchX_only {u : ByteArray} {w A B : World} {c : Code} {pre : List ByteArray} {S : Nat → Prop} (h : RchX u w c pre A) (ho : Only S A B) (hs : ∀ k, S k → w.heap.size + 2 ≤ k) : RchX u w c pre B :=
  ⟨h.1, h.2.1.only ho (fun e => by have := hs _ e; omega), h.2.2.1.onlyS ho (fun k e => by have := hs k e; omega), h.2.2.2⟩

theorem rch_yes {u : ByteArray} {w W : World} {pre : List ByteArray} (h : RchI u w pre W) :
    Only (· = w.heap.size + 1) W (W.setCell ⟨w.heap.size + 1, 0, none⟩ (.bool true)) ∧ RchX u w .ret (pre ++ [u]) (W.setCell ⟨w.heap.size + 1, 0, none⟩ (.bool true)) := by
  have hO := (Only.refl (· = w.heap.size + 1) W).put 0 (.bool true)
  exact ⟨hO, rfl, h.2.1.put 0 _, h.2.2.1.onlyS hO (fun k e => by omega), by simp⟩

theorem rch_no {u : ByteArray} {w W : World} {pre : List ByteArray} {D : Nat} (h : RchI u w pre W) (hD : w.heap.size + 2 ≤ D) (hd : W.heap[D]? = some (.deferred (some []))) :
    (W.setCell ⟨w.heap.size + 1, 0, none⟩ (.bool false)).heap[D]? = some (.deferred (some [])) ∧
      ((W.setCell ⟨w.heap.size + 1, 0, none⟩ (.bool false)).putObj D (.deferred none)).cell? ⟨w.heap.size + 1, 0, none⟩ = some (.bool false) ∧
      Kept w ((W.setCell ⟨w.heap.size + 1, 0, none⟩ (.bool false)).putObj D (.deferred none)) := by
  have hO := (Only.refl (· = w.heap.size + 1) W).put 0 (.bool false)
  have h2 : Blk (W.setCell ⟨w.heap.size + 1, 0, none⟩ (.bool false)) (w.heap.size + 1) 4 #[.bool false] := h.2.1.put 0 _
  have hO2 := Only.putObj (Only.refl (· = D) (W.setCell ⟨w.heap.size + 1, 0, none⟩ (.bool false))) (.inl rfl) (.deferred none)
  have h3 := (h2.only hO2 (by omega)).cell 0
  simp at h3
  exact ⟨hO.same hd (by omega), h3, (h.2.2.1.onlyS hO (fun k e => by omega)).onlyS hO2 (fun k e => by omega)⟩

set_option maxHeartbeats 2000000 in
theorem reach_c (a : Option Addr) (c : Nat) (t : List Tab.C) (s u : ByteArray) (w : World) (hT : TabAt w (.slice a t.length c) t) (ht : t.length ≤ 1000) :
    Calls Tryz.prog 73 #[.slice a t.length c, .string s, .string u] w fun e w' => e = .returned (.bool (decide (u ∈ Tab.up t s))) ∧ Kept w w' := by
  refine (callsIn_wide (n := 3)).1 (callsIn_of_wp_marks Tryz.func73 rfl trivial (wpIn_wide.2 ?_) rfl)
  simp only [Tryz.ntmps73, List.size_toArray, List.length_cons, List.length_nil, Nat.reduceAdd, Nat.reduceSub, Array.replicate_succ, Array.replicate_zero, List.push_toArray, List.append_toArray, List.nil_append, List.cons_append]
  have HT := Lib.hid hT
  clear hT
  go_wp2_with fail
  obtain ⟨W1, hW1⟩ : ∃ W1, (w.alloc (.cells #[.string u] 9)).alloc (.cells #[.bool false] 4) = W1 := ⟨_, rfl⟩
  have hI1 : RchI u w [] W1 := by
    rw [← hW1]
    have h2 := Blk.new (w.alloc (.cells #[.string u] 9)) 4 #[.bool false]
    simp only [World.size_alloc] at h2
    exact ⟨(Blk.new w _ _).alloc _, h2, ((Kept.refl w).alloc _).alloc _, by simp⟩
  have hs1 : W1.heap.size = w.heap.size + 2 := by rw [← hW1]; simp
  have HS1 := Lib.hid hs1
  have HI1 := Lib.hid hI1
  rw [hW1]
  clear hW1 hs1 hI1
  refine (line_slineC a c t s _).mono ?_
  rintro e w3 ⟨rfl, hw3⟩
  have HK3 := Lib.hid (show Kept W1 w3 by rw [hw3]; exact ((Kept.refl W1).alloc _).alloc _)
  have HS3 := Lib.hid (show w3.heap.size = W1.heap.size + 2 by rw [hw3]; simp)
  have HB1 := Lib.hid (show Blk w3 W1.heap.size 22 #[.slice a t.length c] by rw [hw3]; exact (Blk.new _ _ _).alloc _)
  have HB2 := Lib.hid (show Blk w3 (W1.heap.size + 1) 9 #[.string s] by
    rw [hw3]
    have := Blk.new (W1.alloc (.cells #[.slice a t.length c] 22)) 9 #[.string s]
    simpa using this)
  clear hw3
  go_wp2_with fail
  have e1 : w.heap.size + 2 ≤ W1.heap.size := by have := HS1.out; omega
  have e3 : W1.heap.size + 2 ≤ w3.heap.size := by have := HS3.out; omega
  have hI3 : RchI u w [] w3 := rchI_only HI1.out (S := fun _ => False) (Only.of_kept HK3.out) (fun k h => h.elim)
  refine wpIn_wide.1 (wpIn_range_sline (w0 := w) (bt := W1.heap.size) (bs := W1.heap.size + 1) a c t s (fun k => k = w.heap.size + 1) rfl HT.out ht hI3.2.2.1 HB1.out HB2.out (fun k e => by omega) rfl
    (RchI u w) (RchX u w) (fun pre A B h o => rchI_only h o (fun k h => by omega)) (fun c pre A B h o => rchX_only h o (fun k h => by omega)) hI3
    (fun x => { tmps := #[.slice a t.length c, .string s, .string u, undef, undef, .pointer (some ⟨w.heap.size, 0, none⟩), .pointer (some ⟨w.heap.size + 1, 0, none⟩), .string x, .slice a t.length c, .string s, .func (.func 128) #[] #[.pointer (some ⟨W1.heap.size, 0, none⟩), .pointer (some ⟨W1.heap.size + 1, 0, none⟩)], .string x, undef, undef, undef], defers := [] }) ?assign ?body ?done ?stop)
  case assign =>
    intro l i W K hK
    gi_wp2
    exact hK
  case body =>
    rintro l pre x W hl _ hIW hsize hpre
    have HI := Lib.hid hIW
    have n0 := hIW.1.cell 0
    have n1 := hIW.2.1.cell 0
    have f1 := hIW.2.1.frozen 0
    simp at n0 n1
    clear hIW hI3 HI1 e1 e3 hsize hl hpre
    by_cases hx : x = u
    · have hb := beq_yes hx
      have HX := Lib.hid hx
      clear hx
      gi_wp2
      obtain rfl := HX.out
      exact rch_yes HI.out
    · have hb := beq_no hx
      have HX := Lib.hid hx
      clear hx
      gi_wp2
      exact ⟨Only.refl _ _, HI.out.1, HI.out.2.1, HI.out.2.2.1, by
        have h1 := HI.out.2.2.2
        have h2 := HX.out
        simp only [List.mem_append, List.mem_singleton, not_or]
        exact ⟨h1, fun e => h2 e.symm⟩⟩
  case done =>
    rintro D W hD hIW hd
    have hDn : w.heap.size + 2 ≤ D := by omega
    have hF := rch_no hIW hDn hd
    have n1 := hIW.2.1.cell 0
    have f1 := hIW.2.1.frozen 0
    simp at n1
    have HN := Lib.hid hIW.2.2.2
    have HF := Lib.hid hF
    clear hIW hD hI3 HI1 e1 e3 hF hDn hd
    go_wp2
    obtain ⟨hd', q, hk⟩ := HF.out
    refine ⟨by simp, .inl ⟨_, _, rfl, run_takeDeferred hd', ?_⟩⟩
    exact ⟨.bool false, by simp [results, Tryz.results73, go_sem, q], by rw [decide_eq_false HN.out], hk⟩
  case stop =>
    rintro D c pre W hD hpre ⟨rfl, hb, hk, hin⟩ hd
    have hO := Only.putObj (Only.refl (· = D) W) (.inl rfl) (.deferred none)
    have hq := (hb.only hO (by omega)).cell 0
    simp at hq
    have hk2 := hk.onlyS hO (fun k e => by omega)
    have HIN := Lib.hid (hpre.subset hin)
    clear hI3 HI1 e1 e3 hD hb hk hin
    gi_wp2
    refine ⟨by simp, .inl ⟨_, _, rfl, run_takeDeferred hd, ?_⟩⟩
    exact ⟨.bool true, by simp [results, Tryz.results73, go_sem, hq], by rw [decide_eq_true HIN.out], hk2⟩

theorem sub_c (t : List Tab.C) (a : Option Addr) (cp : Nat) (s u : ByteArray) (w : World) (hTb : Tb w) (h : TabAt w (.slice a t.length cp) t) (hS : Small t) :
    Calls Tryz.prog 21 #[.slice a t.length cp, .string s, .string u] w fun e w' => e = .returned (.bool (Tab.sub t s u)) ∧ Kept w w' := by
  have H1 := Lib.hid (types_c t a cp s u w hTb h hS)
  have H2 := Lib.hid (fun w' (k : Kept w w') => reach_c a cp t s u w' (tab_kept h k) hS.len)
  unfold Tab.sub
  generalize Tab.ats t s u = x1 at *
  generalize decide (u ∈ Tab.up t s) = x2 at *
  clear hTb h hS
  cases x1 with
  | false =>
    go_enter Tryz.func21, Tryz.ntmps21
    go_wp2_with fail
    refine H1.out.mono ?_
    rintro e w1 ⟨rfl, k1⟩
    go_wp2_with fail
    go_ret
    exact ⟨rfl, k1⟩
  | true =>
    go_enter Tryz.func21, Tryz.ntmps21
    go_wp2_with fail
    refine H1.out.mono ?_
    rintro e w1 ⟨rfl, k1⟩
    go_wp2_with fail
    refine (H2.out _ k1).mono ?_
    rintro e w2 ⟨rfl, k2⟩
    go_wp2_with fail
    go_ret
    exact ⟨rfl, k1.trans k2⟩

end Go.Proofs.YthooiofaicdhgaaGreatDoor

namespace Go.Proofs.YthooiofaicdhgaaGreatDoor
open Go.ChangeShapes Go.WideShapes Go.ChangeAt Go.RowKit Go.Shelf
attribute [local go_sem] Oper.semAt_some

/-- Join's cells: the table, the other type, what is told. -/
def JoiC (v : Value) (u x : ByteArray) (b : Bool) (w W : World) : Prop :=
  Blk W w.heap.size 22 #[v] ∧ Blk W (w.heap.size + 1) 9 #[.string u] ∧ Blk W (w.heap.size + 1 + 1) 9 #[.string x] ∧ Blk W (w.heap.size + 1 + 1 + 1) 4 #[.bool b] ∧ Kept w W

theorem joiC_only {v : Value} {u x : ByteArray} {b : Bool} {w A B : World} {S : Nat → Prop} (h : JoiC v u x b w A) (ho : Only S A B) (hs : ∀ k, S k → w.heap.size + 4 ≤ k) : JoiC v u x b w B :=
  ⟨h.1.only ho (fun e => by have := hs _ e; omega), h.2.1.only ho (fun e => by have := hs _ e; omega), h.2.2.1.only ho (fun e => by have := hs _ e; omega), h.2.2.2.1.only ho (fun e => by have := hs _ e; omega), h.2.2.2.2.onlyS ho (fun k e => by have := hs k e; omega)⟩

theorem joiC_set {v : Value} {u x : ByteArray} {b : Bool} {w A : World} (h : JoiC v u x b w A) (y : ByteArray) (d : Bool) :
    JoiC v u y d w ((A.setCell ⟨w.heap.size + 1 + 1, 0, none⟩ (.string y)).setCell ⟨w.heap.size + 1 + 1 + 1, 0, none⟩ (.bool d)) ∧
      Only (fun k => k = w.heap.size + 1 + 1 ∨ k = w.heap.size + 1 + 1 + 1) A ((A.setCell ⟨w.heap.size + 1 + 1, 0, none⟩ (.string y)).setCell ⟨w.heap.size + 1 + 1 + 1, 0, none⟩ (.bool d)) := by
  have o1 := (Only.refl (· = w.heap.size + 1 + 1) A).put 0 (.string y)
  have o2 := (Only.refl (· = w.heap.size + 1 + 1 + 1) (A.setCell ⟨w.heap.size + 1 + 1, 0, none⟩ (.string y))).put 0 (.bool d)
  have hO : Only (fun k => k = w.heap.size + 1 + 1 ∨ k = w.heap.size + 1 + 1 + 1) A ((A.setCell ⟨w.heap.size + 1 + 1, 0, none⟩ (.string y)).setCell ⟨w.heap.size + 1 + 1 + 1, 0, none⟩ (.bool d)) :=
    ((Only.refl _ A).setCell (p := ⟨w.heap.size + 1 + 1, 0, none⟩) (.inl (.inl rfl)) _).setCell (p := ⟨w.heap.size + 1 + 1 + 1, 0, none⟩) (.inl (.inr rfl)) _
  refine ⟨⟨h.1.only hO (by omega), h.2.1.only hO (by omega), ?_, ?_, h.2.2.2.2.onlyS hO (fun k e => by omega)⟩, hO⟩
  · have h2 : Blk (A.setCell ⟨w.heap.size + 1 + 1, 0, none⟩ (.string y)) (w.heap.size + 1 + 1) 9 #[.string y] := h.2.2.1.put 0 _
    exact h2.only o2 (by omega)
  · have h3 : Blk (A.setCell ⟨w.heap.size + 1 + 1, 0, none⟩ (.string y)) (w.heap.size + 1 + 1 + 1) 4 #[.bool b] := h.2.2.2.1.only o1 (by omega)
    exact h3.put 0 _

theorem joiC_facts {v : Value} {u x : ByteArray} {b : Bool} {w A : World} (h : JoiC v u x b w A) :
    (A.cell? ⟨w.heap.size, 0, none⟩ = some v ∧ A.cell? ⟨w.heap.size + 1, 0, none⟩ = some (.string u) ∧ A.cell? ⟨w.heap.size + 1 + 1, 0, none⟩ = some (.string x) ∧ A.cell? ⟨w.heap.size + 1 + 1 + 1, 0, none⟩ = some (.bool b)) ∧
      A.frozen? ⟨w.heap.size + 1 + 1, 0, none⟩ = false ∧ A.frozen? ⟨w.heap.size + 1 + 1 + 1, 0, none⟩ = false := by
  have c0 := h.1.cell 0
  have c1 := h.2.1.cell 0
  have c2 := h.2.2.1.cell 0
  have c3 := h.2.2.2.1.cell 0
  simp at c0 c1 c2 c3
  exact ⟨⟨c0, c1, c2, c3⟩, h.2.2.1.frozen 0, h.2.2.2.1.frozen 0⟩

def JoiI (t : List Tab.C) (v : Value) (u : ByteArray) (w : World) (pre : List ByteArray) (W : World) : Prop :=
  JoiC v u ⟨#[]⟩ false w W ∧ ∀ x ∈ pre, ¬ x ∈ Tab.up t u

def JoiX (t : List Tab.C) (v : Value) (u : ByteArray) (w : World) (c : Code) (pre : List ByteArray) (W : World) : Prop :=
  c = .ret ∧ ∃ p x, pre = p ++ [x] ∧ JoiC v u x true w W ∧ x ∈ Tab.up t u ∧ ∀ y ∈ p, ¬ y ∈ Tab.up t u

theorem meet_yes {t : List Tab.C} {s u x : ByteArray} {p : List ByteArray} (h : p ++ [x] <+: Tab.up t s) (hx : x ∈ Tab.up t u) (hp : ∀ y ∈ p, ¬ y ∈ Tab.up t u) : Tab.meet t s u = some x := by
  obtain ⟨r, hr⟩ := h
  unfold Tab.meet
  rw [List.find?_eq_some_iff_append]
  refine ⟨decide_eq_true hx, p, r, by rw [← hr]; simp, fun a ha => ?_⟩
  rw [decide_eq_false (hp a ha)]; rfl
theorem meet_no {t : List Tab.C} {s u : ByteArray} (h : ∀ y ∈ Tab.up t s, ¬ y ∈ Tab.up t u) : Tab.meet t s u = none := by
  unfold Tab.meet
  rw [List.find?_eq_none]
  intro x hx
  simp [h x hx]

/-- What Join tells. -/
def joinV (o : Option ByteArray) : Value := .tuple #[.string (o.getD ⟨#[]⟩), .bool o.isSome]

set_option maxHeartbeats 1000000 in
theorem join_c (t : List Tab.C) (a : Option Addr) (c : Nat) (s u : ByteArray) (w : World) (hTb : Tb w) (h : TabAt w (.slice a t.length c) t) (hS : Small t) :
    Calls Tryz.prog 18 #[.slice a t.length c, .string s, .string u] w fun e w' => e = .returned (joinV (Tab.join t s u)) ∧ Kept w w' := by
  refine (callsIn_wide (n := 3)).1 (callsIn_of_wp_marks Tryz.func18 rfl trivial (wpIn_wide.2 ?_) rfl)
  simp only [Tryz.ntmps18, List.size_toArray, List.length_cons, List.length_nil, Nat.reduceAdd, Nat.reduceSub, Array.replicate_succ, Array.replicate_zero, List.push_toArray, List.append_toArray, List.nil_append, List.cons_append]
  have hC1 : JoiC (.slice a t.length c) u ⟨#[]⟩ false w ((((w.alloc (.cells #[.slice a t.length c] 22)).alloc (.cells #[.string u] 9)).alloc (.cells #[.string ⟨#[]⟩] 9)).alloc (.cells #[.bool false] 4)) := by
    have h2 := Blk.new (w.alloc (.cells #[.slice a t.length c] 22)) 9 #[.string u]
    have h3 := Blk.new ((w.alloc (.cells #[.slice a t.length c] 22)).alloc (.cells #[.string u] 9)) 9 #[.string ⟨#[]⟩]
    have h4 := Blk.new (((w.alloc (.cells #[.slice a t.length c] 22)).alloc (.cells #[.string u] 9)).alloc (.cells #[.string ⟨#[]⟩] 9)) 4 #[.bool false]
    simp only [World.size_alloc] at h2 h3 h4
    exact ⟨(((Blk.new w _ _).alloc _).alloc _).alloc _, (h2.alloc _).alloc _, h3.alloc _, h4, ((((Kept.refl w).alloc _).alloc _).alloc _).alloc _⟩
  have HT := Lib.hid h
  obtain ⟨W1, hW1⟩ : ∃ W1, (((w.alloc (.cells #[.slice a t.length c] 22)).alloc (.cells #[.string u] 9)).alloc (.cells #[.string ⟨#[]⟩] 9)).alloc (.cells #[.bool false] 4) = W1 := ⟨_, rfl⟩
  rw [hW1] at hC1
  have HS1 := Lib.hid (show W1.heap.size = w.heap.size + 4 by rw [← hW1]; simp)
  have HC1 := Lib.hid hC1
  have HA := Lib.hid (types_c t a c s u W1 (hTb.kept hC1.2.2.2.2) (tab_kept h hC1.2.2.2.2) hS)
  obtain ⟨⟨q0, q1, q2, q3⟩, q4, q5⟩ := joiC_facts hC1
  clear h hTb hC1
  cases hok : Tab.ats t s u with
  | false =>
    rw [hok] at HA
    have HG := Lib.hid (show Tab.join t s u = none by unfold Tab.join; rw [hok]; rfl)
    obtain ⟨av, hav⟩ : ∃ av, av = joinV (Tab.join t s u) := ⟨_, rfl⟩
    rw [← hav]
    have HAV := Lib.hid hav
    clear hok hav
    go_wp2_with fail
    clear hW1
    refine HA.out.mono ?_
    rintro e w2 ⟨rfl, k2⟩
    obtain ⟨⟨r0, r1, r2, r3⟩, r4, r5⟩ := joiC_facts (joiC_only HC1.out (S := fun _ => False) (Only.of_kept k2) (fun k h => h.elim))
    have HF := Lib.hid (joiC_set (joiC_only HC1.out (S := fun _ => False) (Only.of_kept k2) (fun k h => h.elim)) ⟨#[]⟩ false).1
    clear k2
    go_wp2_with fail
    obtain ⟨⟨_, _, p2, p3⟩, _⟩ := joiC_facts HF.out
    exact ⟨joinV none, by simp [results, Tryz.results18, go_sem, p2, p3, joinV], by rw [HAV.out, HG.out], HF.out.2.2.2.2⟩
  | true =>
    rw [hok] at HA
    have HG := Lib.hid (show Tab.join t s u = Tab.meet t s u by unfold Tab.join; rw [hok]; rfl)
    obtain ⟨av, hav⟩ : ∃ av, av = joinV (Tab.join t s u) := ⟨_, rfl⟩
    rw [← hav]
    have HAV := Lib.hid hav
    clear hok hav
    go_wp2_with fail
    clear hW1
    refine HA.out.mono ?_
    rintro e w2 ⟨rfl, k2⟩
    have HC2 := Lib.hid (joiC_only HC1.out (S := fun _ => False) (Only.of_kept k2) (fun k h => h.elim))
    have HS2 := Lib.hid k2.size
    obtain ⟨⟨r0, r1, r2, r3⟩, r4, r5⟩ := joiC_facts HC2.out
    clear k2 q0 q1 q2 q3 q4 q5 HA HC1
    go_wp2_with fail
    have hls := line_slineC a c t s w2
    refine hls.mono ?_
    rintro e w3 ⟨rfl, hw3⟩
    have HK3 := Lib.hid (show Kept w2 w3 by rw [hw3]; exact ((Kept.refl w2).alloc _).alloc _)
    have HS3 := Lib.hid (show w3.heap.size = w2.heap.size + 2 by rw [hw3]; simp)
    have HB1 := Lib.hid (show Blk w3 w2.heap.size 22 #[.slice a t.length c] by rw [hw3]; exact (Blk.new _ _ _).alloc _)
    have HB2 := Lib.hid (show Blk w3 (w2.heap.size + 1) 9 #[.string s] by
      rw [hw3]
      have := Blk.new (w2.alloc (.cells #[.slice a t.length c] 22)) 9 #[.string s]
      simpa using this)
    clear hw3 hls
    go_wp2_with fail
    have e1 : w.heap.size + 4 ≤ w2.heap.size := by have := HS1.out; have := HS2.out; omega
    have e3 : w3.heap.size = w2.heap.size + 2 := HS3.out
    have hI3 : JoiI t (.slice a t.length c) u w [] w3 := ⟨joiC_only HC2.out (S := fun _ => False) (Only.of_kept HK3.out) (fun k h => h.elim), by simp⟩
    have hT3 := HT.out
    have hB3 := HB1.out
    refine wpIn_wide.1 (wpIn_range_sline (w0 := w) (bt := w2.heap.size) (bs := w2.heap.size + 1) a c t s (fun k => k = w.heap.size + 1 + 1 ∨ k = w.heap.size + 1 + 1 + 1) rfl hT3 hS.len hI3.1.2.2.2.2 hB3 HB2.out (fun k e => by omega) rfl
      (JoiI t (.slice a t.length c) u w) (JoiX t (.slice a t.length c) u w) (fun pre A B h o => ⟨joiC_only h.1 o (fun k h => by omega), h.2⟩) (fun c pre A B h o => by
        obtain ⟨h1, p, x, h2, h3, h4⟩ := h
        exact ⟨h1, p, x, h2, joiC_only h3 o (fun k h => by omega), h4⟩) hI3
      (fun x => { tmps := #[.slice a t.length c, .string s, .string u, .pointer (some ⟨w.heap.size, 0, none⟩), undef, .pointer (some ⟨w.heap.size + 1, 0, none⟩), .pointer (some ⟨w.heap.size + 1 + 1, 0, none⟩), .pointer (some ⟨w.heap.size + 1 + 1 + 1, 0, none⟩), .string x, .slice a t.length c, .string s, .string u, .bool true, .bool false, .slice a t.length c, .string s, .func (.func 128) #[] #[.pointer (some ⟨w2.heap.size, 0, none⟩), .pointer (some ⟨w2.heap.size + 1, 0, none⟩)], .string x, undef, undef, undef, undef, undef], defers := [] }) ?assign ?body ?done ?stop)
    case assign =>
      intro l i W K hK
      gi_wp2
      exact hK
    case body =>
      rintro l pre x W hl _ hIW hsize hpre
      have HI := Lib.hid hIW
      obtain ⟨⟨n0, n1, n2, n3⟩, n4, n5⟩ := joiC_facts hIW.1
      have HR := Lib.hid (reach_c a c t u x W (tab_kept hT3 hIW.1.2.2.2.2) hS.len)
      have HP := Lib.hid hpre
      obtain rfl := hl
      clear hIW hI3 hT3 hB3 e1 hsize hpre r0 r1 r2 r3 r4 r5
      by_cases hx : x ∈ Tab.up t u
      · have HX := Lib.hid hx
        rw [decide_eq_true hx] at HR
        clear hx
        gi_wp2
        refine ⟨trivial, (CallsIn.inRound (w3.heap.size + 1) (callsIn_wide.2 HR.out)).mono ?_⟩
        rintro e w4 ⟨rfl, k4⟩
        have HC4 := Lib.hid (joiC_only HI.out.1 (S := fun _ => False) (Only.of_kept k4) (fun k h => h.elim))
        have HO4 := Lib.hid (Only.of_kept (S := fun k => k = w.heap.size + 1 + 1 ∨ k = w.heap.size + 1 + 1 + 1) k4)
        obtain ⟨⟨m0, m1, m2, m3⟩, m4, m5⟩ := joiC_facts HC4.out
        clear k4 HR n0 n1 n2 n3 n4 n5
        gi_wp2
        have hF := joiC_set HC4.out x true
        exact ⟨HO4.out.trans hF.2, rfl, pre, x, rfl, hF.1, HX.out, HI.out.2⟩
      · have HX := Lib.hid hx
        rw [decide_eq_false hx] at HR
        clear hx
        gi_wp2
        refine ⟨trivial, (CallsIn.inRound (w3.heap.size + 1) (callsIn_wide.2 HR.out)).mono ?_⟩
        rintro e w4 ⟨rfl, k4⟩
        have HC4 := Lib.hid (joiC_only HI.out.1 (S := fun _ => False) (Only.of_kept k4) (fun k h => h.elim))
        have HO4 := Lib.hid (Only.of_kept (S := fun k => k = w.heap.size + 1 + 1 ∨ k = w.heap.size + 1 + 1 + 1) k4)
        clear k4 HR n0 n1 n2 n3 n4 n5
        gi_wp2
        refine ⟨HO4.out, HC4.out, fun y hy => ?_⟩
        rcases List.mem_append.1 hy with hy | hy
        · exact HI.out.2 y hy
        · rw [List.mem_singleton.1 hy]; exact HX.out
    case done =>
      rintro D W hD hIW hd
      have hDn : w.heap.size + 4 ≤ D := by omega
      obtain ⟨⟨n0, n1, n2, n3⟩, n4, n5⟩ := joiC_facts hIW.1
      have hF := joiC_set hIW.1 ⟨#[]⟩ false
      have HD := Lib.hid (hF.2.same hd (by omega))
      have HF := Lib.hid (joiC_only hF.1 (Only.putObj (Only.refl (· = D) _) (.inl rfl) (.deferred none)) (fun k h => by omega))
      have HM := Lib.hid (meet_no hIW.2)
      clear hIW hD hI3 hT3 hB3 e1 e3 hF hDn hd r0 r1 r2 r3 r4 r5
      go_wp2
      obtain ⟨⟨_, _, p2, p3⟩, _⟩ := joiC_facts HF.out
      refine ⟨by simp, .inl ⟨_, _, rfl, run_takeDeferred HD.out, ?_⟩⟩
      exact ⟨joinV none, by simp [results, Tryz.results18, go_sem, p2, p3, joinV], by rw [HAV.out, HG.out, HM.out], HF.out.2.2.2.2⟩
    case stop =>
      rintro D c pre W hD hpre ⟨rfl, p, x, rfl, hC, hx, hp⟩ hd
      have HF := Lib.hid (joiC_only hC (Only.putObj (Only.refl (· = D) W) (.inl rfl) (.deferred none)) (fun k h => by omega))
      have HM := Lib.hid (meet_yes hpre hx hp)
      clear hI3 hT3 hB3 e1 e3 hD hC hx hp hpre r0 r1 r2 r3 r4 r5
      gi_wp2
      obtain ⟨⟨_, _, p2, p3⟩, _⟩ := joiC_facts HF.out
      refine ⟨by simp, .inl ⟨_, _, rfl, run_takeDeferred hd, ?_⟩⟩
      exact ⟨joinV (some x), by simp [results, Tryz.results18, go_sem, p2, p3, joinV], by rw [HAV.out, HG.out, HM.out], HF.out.2.2.2.2⟩

end Go.Proofs.YthooiofaicdhgaaGreatDoor

namespace Go.Proofs.YthooiofaicdhgaaGreatDoor
open Go.ChangeShapes Go.WideShapes Go.ChangeAt Go.RowKit Go.Shelf
attribute [local go_sem] Oper.semAt_some

/-- Is a class below another one, and not itself? -/
def abv (t : List Tab.C) (s n : ByteArray) : Bool := decide (¬ n = s) && decide (s ∈ Tab.up t n)

theorem above_c (t : List Tab.C) (a fa ma : Option Addr) (cp fn fc mn mc : Nat) (s n u : ByteArray) (w : World) (h : TabAt w (.slice a t.length cp) t) (ht : t.length ≤ 1000) :
    Calls Tryz.prog 82 #[.agg #[.slice a t.length cp, .string s], .agg #[.string n, .string u, .slice fa fn fc, .slice ma mn mc]] w fun e w' => e = .returned (.bool (abv t s n)) ∧ Kept w w' := by
  have hk0 : Kept w ((w.alloc (.cells #[.slice a t.length cp, .string s] 92)).alloc (.cells #[.string n, .string u, .slice fa fn fc, .slice ma mn mc] 46)) := ((Kept.refl w).alloc _).alloc _
  have HR := Lib.hid (reach_c a cp t n s _ (tab_kept h hk0) ht)
  have HK0 := Lib.hid hk0
  have b0 := (Blk.new w 92 #[.slice a t.length cp, .string s]).alloc (.cells #[.string n, .string u, .slice fa fn fc, .slice ma mn mc] 46)
  have b1 := Blk.new (w.alloc (.cells #[.slice a t.length cp, .string s] 92)) 46 #[.string n, .string u, .slice fa fn fc, .slice ma mn mc]
  simp only [World.size_alloc] at b1
  have c0 := b0.cell 0
  have c1 := b0.cell 1
  have c2 := b1.cell 0
  simp only [List.getElem?_toArray, List.getElem?_cons_zero, List.getElem?_cons_succ] at c0 c1 c2
  unfold abv
  clear h hk0 b0 b1
  by_cases hx : n = s
  · have hb := beq_yes hx
    rw [decide_eq_false (fun h => h hx)]
    clear hx HR
    go_enter Tryz.func82, Tryz.ntmps82
    go_wp2_with fail
    go_ret
    exact ⟨rfl, HK0.out⟩
  · have hb := beq_no hx
    rw [decide_eq_true hx]
    generalize decide (s ∈ Tab.up t n) = y at HR ⊢
    clear hx
    go_enter Tryz.func82, Tryz.ntmps82
    go_wp2_with fail
    refine HR.out.mono ?_
    rintro e w1 ⟨rfl, k1⟩
    go_wp2_with fail
    go_ret
    exact ⟨rfl, HK0.out.trans k1⟩

/-- What a search by isAbove tells. -/
def IdxPost (p : Bool) (e : Ending) : Prop := ∃ r : Int, e = .returned (.int .i64 r) ∧ (p = true → 0 ≤ r) ∧ (p = false → r = -1)

theorem any_at {t : List Tab.C} {p : Tab.C → Bool} {j : Nat} {x : Tab.C} (hx : t[j]? = some x) (hp : p x = true) : t.any p = true := List.any_eq_true.2 ⟨x, List.mem_of_getElem? hx, hp⟩
theorem any_not {t : List Tab.C} {p : Tab.C → Bool} (h : ∀ c ∈ t.take t.length, p c = false) : t.any p = false := by
  rw [List.take_length] at h
  rw [List.any_eq_false]
  intro x hx
  simp [h x hx]
theorem not_more {t : List Tab.C} {p : Tab.C → Bool} {j : Nat} {x : Tab.C} (h : ∀ c ∈ t.take j, p c = false) (hx : t[j]? = some x) (hp : p x = false) : ∀ c ∈ t.take (j + 1), p c = false := by
  intro y hy
  rw [List.take_add_one, hx] at hy
  rcases List.mem_append.1 hy with hy | hy
  · exact h y hy
  · simp at hy; rw [hy]; exact hp

set_option maxHeartbeats 2000000 in
theorem index_c (t : List Tab.C) (a : Option Addr) (cp : Nat) (s : ByteArray) (w : World) (h : TabAt w (.slice a t.length cp) t) (ht : t.length ≤ 1000) :
    Calls Tryz.prog 132 #[.slice a t.length cp, .func (.func 82) #[.agg #[.slice a t.length cp, .string s]] #[]] w
      fun e w' => IdxPost (t.any fun c => abv t s c.name) e ∧ Kept w w' := by
  have HT := Lib.hid h
  obtain ⟨a', cp', e, h1, h2, hat⟩ := h
  injection e with e1 _ e3
  subst e1 e3
  unfold maxLen at h2
  have HAT := Lib.hid hat
  clear hat
  go_enter Tryz.func132, Tryz.ntmps132
  go_wp2_with fail
  go_loopw [8] (fun q wr => ∃ i : Nat, i ≤ t.length ∧ q = .int .i64 i ∧ Kept w wr ∧ ∀ c ∈ t.take i, abv t s c.name = false) (fun q wr => t.length - (intOf q).toNat)
  case atStart => exact ⟨0, Nat.zero_le _, rfl, Kept.refl _, by simp⟩
  case round =>
    obtain ⟨i, hi, rfl, hkp, hs⟩ := hrel
    have HS := Lib.hid hs
    have HK := Lib.hid hkp
    clear hs
    by_cases hlt : i < t.length
    · have hltI : (i : Int) < (t.length : Int) := by omega
      have hx : t[i]? = some t[i] := List.getElem?_eq_getElem hlt
      have HX := Lib.hid hx
      obtain ⟨b, o, rfl, hcl⟩ := HAT.out _ _ hx
      generalize t[i] = c at hx HX hcl
      obtain ⟨c0, c1, ⟨fu, c2, hf⟩, ⟨mu, c3, hm⟩, hs1, hs2⟩ := hcl.kept hkp
      obtain ⟨fa, fc, rfl, _⟩ := hf
      obtain ⟨ma, mc, rfl, _⟩ := hm
      have HA := Lib.hid (above_c t (some ⟨b, o, none⟩) fa ma cp c.fields.length fc c.methods.length mc s c.name c.super wr (tab_kept HT.out hkp) ht)
      clear hx hcl hkp hs1 hs2
      cases hq : abv t s c.name with
      | true =>
        have HQ := Lib.hid hq
        rw [hq] at HA
        clear hq
        go_wp2_with fail
        refine HA.out.mono ?_
        rintro e w1 ⟨rfl, k1⟩
        go_wp2_with fail
        go_ret
        exact ⟨⟨(i : Int), rfl, fun _ => by omega, fun h => by rw [any_at (p := fun c => abv t s c.name) HX.out HQ.out] at h; cases h⟩, HK.out.trans k1⟩
      | false =>
        have HN := Lib.hid (not_more (p := fun c => abv t s c.name) HS.out HX.out hq)
        rw [hq] at HA
        clear hq
        go_wp2_with fail
        refine HA.out.mono ?_
        rintro e w1 ⟨rfl, k1⟩
        have HK1 := Lib.hid (HK.out.trans k1)
        clear k1
        go_wp2_with fail
        go_roundw
        case rel => exact ⟨i + 1, by omega, by go_num, HK1.out, HN.out⟩
        case measure => simp [intOf]; omega
    · have hltI : ¬ (i : Int) < (t.length : Int) := by omega
      obtain rfl : i = t.length := by omega
      go_wp2_with fail
      go_ret
      exact ⟨⟨-1, rfl, fun h => (by rw [any_not (p := fun c => abv t s c.name) HS.out] at h; cases h), fun _ => rfl⟩, HK.out⟩

theorem contains_c (t : List Tab.C) (a : Option Addr) (cp : Nat) (s : ByteArray) (w : World) (h : TabAt w (.slice a t.length cp) t) (ht : t.length ≤ 1000) :
    Calls Tryz.prog 81 #[.slice a t.length cp, .func (.func 82) #[.agg #[.slice a t.length cp, .string s]] #[]] w
      fun e w' => e = .returned (.bool (t.any fun c => abv t s c.name)) ∧ Kept w w' := by
  have HI := Lib.hid (index_c t a cp s w h ht)
  generalize (t.any fun c => abv t s c.name) = y at HI ⊢
  clear h
  go_enter Tryz.func81, Tryz.ntmps81
  go_wp2_with fail
  refine HI.out.mono ?_
  rintro e w1 ⟨⟨r, rfl, hr1, hr2⟩, k1⟩
  cases y with
  | true =>
    have h0 := hr1 rfl
    clear hr1 hr2
    go_wp2_with fail
    go_ret
    exact ⟨rfl, k1⟩
  | false =>
    obtain rfl := hr2 rfl
    clear hr1 hr2
    go_wp2_with fail
    go_ret
    exact ⟨rfl, k1⟩

theorem leaf_c (t : List Tab.C) (a : Option Addr) (cp : Nat) (s : ByteArray) (w : World) (hTb : Tb w) (h : TabAt w (.slice a t.length cp) t) (hS : Small t) :
    Calls Tryz.prog 25 #[.slice a t.length cp, .string s] w fun e w' => e = .returned (.bool (Tab.leaf t s)) ∧ Kept w w' := by
  have H1 := Lib.hid (isC_c t (.slice a t.length cp) s w h)
  have H2 := Lib.hid (valid_c t a cp w hTb h hS)
  have H3 := Lib.hid (fun w' (k : Kept w w') => contains_c t a cp s w' (tab_kept h k) hS.len)
  have e : Tab.leaf t s = (Tab.isC t s && Tab.ok t && !(t.any fun c => abv t s c.name)) := rfl
  rw [e]
  generalize Tab.isC t s = x1 at *
  generalize Tab.ok t = x2 at *
  generalize (t.any fun c => abv t s c.name) = x3 at *
  clear hTb h hS e
  cases x1 with
  | false =>
    go_enter Tryz.func25, Tryz.ntmps25
    go_wp2_with fail
    refine H1.out.mono ?_
    rintro e w1 ⟨rfl, rfl⟩
    go_wp2_with fail
    go_ret
    exact ⟨rfl, Kept.refl _⟩
  | true =>
    cases x2 with
    | false =>
      go_enter Tryz.func25, Tryz.ntmps25
      go_wp2_with fail
      refine H1.out.mono ?_
      rintro e w1 ⟨rfl, rfl⟩
      go_wp2_with fail
      refine H2.out.mono ?_
      rintro e w2 ⟨rfl, k2⟩
      go_wp2_with fail
      go_ret
      exact ⟨rfl, k2⟩
    | true =>
      go_enter Tryz.func25, Tryz.ntmps25
      go_wp2_with fail
      refine H1.out.mono ?_
      rintro e w1 ⟨rfl, rfl⟩
      go_wp2_with fail
      refine H2.out.mono ?_
      rintro e w2 ⟨rfl, k2⟩
      have HK2 := Lib.hid k2
      have HC := Lib.hid (H3.out _ k2)
      clear k2
      go_wp2_with fail
      refine HC.out.mono ?_
      rintro e w3 ⟨rfl, k3⟩
      go_wp2_with fail
      go_ret
      exact ⟨by simp, HK2.out.trans k3⟩

end Go.Proofs.YthooiofaicdhgaaGreatDoor
