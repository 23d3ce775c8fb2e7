/- The contract of subtype.line: a type and what is above it, whatever body a loop over it has. The contracts of subtype.isType, isValid, areTypes, reaches, Sub and Join. The contract of subtype.Join. The contract of subtype.Leaf. -/
import Derived.Test.YtjdkegfckkbpeaaGreatDoorQz6
import Derived.Test.YtjdkegfckkbpeaaGreatDoorQz2
import Derived.Test.YtjdkegfckkbpeaaGreatDoorQz4
import Derived.Test.YtjdkegfckkbpeaaGreatDoorQChk
set_option linter.unusedSimpArgs false
set_option linter.unusedVariables false
set_option maxRecDepth 100000
namespace Go.Proofs.YtjdkegfckkbpeaaGreatDoor
open Go.ChangeShapes Go.WideShapes Go.ChangeAt Go.RowKit Go.Shelf
attribute [local go_sem] Oper.semAt_some
theorem isC_c (l : List Tab.C) (v : Value) (s : ByteArray) (w : World) (h : Row 4 ClsAt w v l) :
  Calls Tryz.prog 123 #[v, .string s] w fun e w' => e = .returned (.bool (Tab.isC l s)) ∧ w' = w := by
 have HC := Lib.hid (tfind_c l v s w h)
 unfold FindPost at HC
 unfold Tab.isC
 generalize Tab.num (Tab.ix Tab.C.name l s) = n at HC ⊢
 generalize (Tab.ix Tab.C.name l s).isSome = y at HC ⊢
 obtain ⟨a, c, rfl, _⟩ := h
 go_enter Tryz.func123, Tryz.ntmps123
 go_wp2_with fail
 refine HC.out.mono ?_
 rintro e w1 ⟨rfl, rfl⟩
 go_wp2_with fail
 go_ret
 exact ⟨rfl, rfl⟩
theorem line_slineC (a : Option Addr) (c : Nat) (t : List Tab.C) (s : ByteArray) (w : World) :
  Calls Tryz.prog 89 #[.slice a t.length c, .string s] w fun e w' => e = .returned (.func (.func 124) #[] #[.pointer (some ⟨w.heap.size, 0, none⟩), .pointer (some ⟨w.heap.size + 1, 0, none⟩)]) ∧
   w' = (w.alloc (.cells #[.slice a t.length c] 22)).alloc (.cells #[.string s] 9) := by
 go_enter Tryz.func89, Tryz.ntmps89
 go_wp2_with fail
 go_ret
 exact ⟨rfl, rfl⟩
theorem up_own {t : List Tab.C} {s : ByteArray} (h : Tab.isC t s = true) : Tab.up t s = Tab.supers t s := by unfold Tab.up; rw [h]; rfl
theorem up_lone {t : List Tab.C} {s : ByteArray} (h : Tab.isC t s = false) : Tab.up t s = [s] := by unfold Tab.up; rw [h]; rfl
set_option maxHeartbeats 4000000 in
theorem sline1_own (n : Nat) (hn : 1 ≤ n) (a : Option Addr) (c : Nat) (t : List Tab.C) (s : ByteArray) (w0 : World) (bt bs : Nat) (U : Nat → Prop) (W1 : World)
  (hT : TabAt w0 (.slice a t.length c) t) (ht : t.length ≤ 1000) (hk : Kept w0 W1) (hbt : Blk W1 bt 22 #[.slice a t.length c]) (hbs : Blk W1 bs 9 #[.string s])
  (hU : ∀ k, U k → k < W1.heap.size) :
  SeqOwn Fence.wide n Tryz.prog 124 #[.pointer (some ⟨bt, 0, none⟩), .pointer (some ⟨bs, 0, none⟩)] (fun x : ByteArray => #[Value.string x]) (fun _ => False) U (· = Tab.up t s) (· <+: Tab.up t s) (· <+: Tab.up t s) 0 W1 := by
 intro l J Jx hl abJ abX hY h0
 have c0 := hbt.cell 0
 have c1 := hbs.cell 0
 simp at c0 c1
 have HC := Lib.hid (isC_c t (.slice a t.length c) s W1 (tab_kept hT hk))
 have HS := Lib.hid (supers_o a c t s W1 (tab_kept hT hk) ht)
 have HY := Lib.hid hY
 have HU := Lib.hid hU
 refine callsIn_of_wp Tryz.func124 rfl trivial ?_ rfl
 simp only [Tryz.ntmps124, List.size_toArray, List.length_cons, List.length_nil, Nat.reduceAdd, Nat.reduceSub, Array.replicate_succ, Array.replicate_zero, List.push_toArray, List.append_toArray, List.nil_append, List.cons_append]
 clear hY hU
 cases hc : Tab.isC t s with
 | false =>
  rw [hc] at HC
  have hup := up_lone hc
  obtain ⟨fn, tmps, assign, body, hy, hR⟩ := HY.out [] s W1 h0 (by rw [hup]; exact List.prefix_refl _) (Nat.le_refl _)
  have HUP := Lib.hid hup
  clear hup hc HS
  gi_wp2
  refine ⟨trivial, (callsIn_wide.2 HC.out).mono ?_⟩
  rintro e w1 ⟨rfl, rfl⟩
  gi_wp2
  refine hR.mono ?_
  rintro e W3 (⟨rfl, hJ3, hk3⟩ | ⟨rfl, hJx3⟩)
  ·gi_wp2
   refine bodyPost_ret (results_none rfl _ _ _) rfl ?_
   exact ⟨⟨_, rfl⟩, .inl ⟨_, HUP.out.symm, hJ3⟩⟩
  ·gi_wp2
   refine bodyPost_ret (results_none rfl _ _ _) rfl ?_
   exact ⟨⟨_, rfl⟩, .inr ⟨_, by rw [HUP.out]; exact List.prefix_refl _, hJx3⟩⟩
 | true =>
  rw [hc] at HC
  have HUP := Lib.hid (up_own hc)
  have HJ0 := Lib.hid h0
  have HJ := Lib.hid abJ
  clear hc h0 abJ
  gi_wp2
  refine ⟨trivial, (callsIn_wide.2 HC.out).mono ?_⟩
  rintro e w1 ⟨rfl, rfl⟩
  gi_wp2
  refine ⟨trivial, (callsIn_wide.2 HS.out).mono ?_⟩
  rintro e w2 ⟨v, rfl, hrow, hown, k2⟩
  have hown' : w2.ownsRow w1.heap.size 9 1 v (Tab.supers t s).length ((Tab.supers t s).map Value.string) := by
   have e1 : (Tab.supers t s).length = (Tab.line t s).length := by unfold Tab.supers; simp
   have e2 : (Tab.supers t s).map Value.string = (Tab.line t s).map fun i => Value.string (Tab.nth t i).name := by unfold Tab.supers; simp
   rw [e1, e2]; exact hown
  obtain ⟨va, vc, rfl⟩ := owns_slice_n hown'
  rw [← HUP.out] at hown'
  have hlen : (Tab.up t s).length ≤ 9223372036854775807 := by
   rw [HUP.out, Tab.supers_at]
   have := Tab.line_len t s
   omega
  have hlq : (Tab.supers t s).length = (Tab.up t s).length := by rw [HUP.out]
  rw [hlq]
  have hJ2 : J [] w2 := HJ.out _ _ _ HJ0.out (Only.of_kept k2)
  have hsz2 := k2.size
  obtain ⟨L, hL⟩ : ∃ L, Tab.up t s = L := ⟨_, rfl⟩
  rw [hL] at hown' hlen HY ⊢
  have HL := Lib.hid hL
  clear hlq hrow hown k2 HJ0 hL HUP HS
  gi_wp2
  gi_loopw [17] (fun q wr => ∃ j : Nat, j ≤ L.length ∧ q = .int .i64 j ∧ J (L.take j) wr ∧ wr.ownsRow w1.heap.size 9 1 (.slice va L.length vc) L.length (L.map Value.string) ∧ w1.heap.size ≤ wr.heap.size) (fun q wr => L.length - (intOf q).toNat)
  case atStart => exact ⟨0, Nat.zero_le _, rfl, by simpa using hJ2, hown', hsz2⟩
  case round =>
   obtain ⟨j, hj, rfl, hJj, hrow, hsz⟩ := hrel
   by_cases hlt : j < L.length
   ·have hltI : (j : Int) < (L.length : Int) := by omega
    have hx : L[j]? = some L[j] := List.getElem?_eq_getElem hlt
    obtain ⟨g, rfl⟩ : ∃ g, va = some ⟨g, 0, none⟩ := by
     rcases hrow.2 with ⟨h1, _⟩ | ⟨g, cap, cur, h1, _⟩
     ·injection h1 with _ h2 _; omega
     ·injection h1 with h1 _ _; exact ⟨g, h1⟩
    have hcell := hrow.cells (g := g) rfl j (.string L[j]) (by rw [List.getElem?_map, hx]; rfl)
    rw [addr_plain, Nat.zero_add] at hcell
    have htk : L.take (j + 1) = L.take j ++ [L[j]] := by rw [List.take_add_one, hx]; rfl
    obtain ⟨fn, tmps, assign, body, hy, hR⟩ := HY.out (L.take j) L[j] wr hJj (by rw [← htk]; exact List.take_prefix _ _) (by simpa using hsz)
    generalize L[j] = x at hx hcell htk hy hR
    have HTK := Lib.hid htk
    have HR := Lib.hid hrow
    clear hx htk hrow hJj
    gi_wp2
    refine hR.mono ?_
    rintro e W3 (⟨rfl, hJ3, hk3⟩ | ⟨rfl, hJx3⟩)
    ·have HR3 := Lib.hid (owns_only HR.out hk3 (fun g hg h => h.elim (fun h => by have := HU.out _ h; omega) (by omega)))
     have HJ3 := Lib.hid (show J (L.take (j + 1)) W3 by rw [HTK.out]; exact hJ3)
     have hs3 := hk3.size
     clear hJ3 hk3 HR hR
     gi_wp2
     go_roundw
     case rel => exact ⟨j + 1, by omega, by go_num, HJ3.out, HR3.out, by omega⟩
     case measure => simp [intOf]; omega
    ·gi_wp2
     refine bodyPost_ret (results_none rfl _ _ _) rfl ?_
     exact ⟨⟨_, rfl⟩, .inr ⟨_, by rw [HL.out, ← HTK.out]; exact List.take_prefix _ _, hJx3⟩⟩
   ·have hltI : ¬ (j : Int) < (L.length : Int) := by omega
    obtain rfl : j = L.length := by omega
    rw [List.take_length] at hJj
    have HJJ := Lib.hid hJj
    clear hJj hrow
    gi_wp2
    refine bodyPost_end (results_none rfl _ _ _) rfl ?_
    exact ⟨⟨_, rfl⟩, .inl (by rw [HL.out]; exact HJJ.out)⟩
theorem wpIn_range_sline {g : Operand} {ps : Array Tmp} {assign body : Code} {Q : Exit → Act → World → Prop} {av : Act} {w w0 : World} {bt bs : Nat} (a : Option Addr) (c : Nat) (t : List Tab.C) (s : ByteArray) (B : Nat → Prop)
  (hg : av.eval g = .func (.func 124) #[] #[.pointer (some ⟨bt, 0, none⟩), .pointer (some ⟨bs, 0, none⟩)])
  (hT : TabAt w0 (.slice a t.length c) t) (ht : t.length ≤ 1000) (hk : Kept w0 w) (hbt : Blk w bt 22 #[.slice a t.length c]) (hbs : Blk w bs 9 #[.string s])
  (hB : ∀ k, B k → k < w.heap.size) (hps : ps.size = 1)
  (I : List ByteArray → World → Prop) (Ix : Code → List ByteArray → World → Prop)
  (hI : ∀ s A B, I s A → Only (fun k => w.heap.size ≤ k ∧ k < w.heap.size + 2) A B → I s B)
  (hIx : ∀ c s A B, Ix c s A → Only (fun k => w.heap.size ≤ k ∧ k < w.heap.size + 2) A B → Ix c s B)
  (h0 : I [] w) (a₁ : ByteArray → Act)
  (hassign : ∀ (l : Nat) (x : ByteArray) (W : World) (K : Act → World → Prop), K (a₁ x) W →
   assign.wpIn (Fence.wide.inRound l) 1 Tryz.prog (Exit.then K (fun _ _ _ => False)) { tmps := (ps.zip #[Value.string x]).foldl (fun t (p, v) => t.setIfInBounds p v) av.tmps, defers := [] } W)
  (hbody : ∀ (l : Nat) (pre : List ByteArray) (x : ByteArray) (W : World), l = w.heap.size + 1 → (∃ r, W.heap[l]? = some (.loop r)) → I pre W → w.heap.size + 2 ≤ W.heap.size → (pre ++ [x]) <+: Tab.up t s →
   body.wpIn (Fence.wide.inRound l) 1 Tryz.prog (ownPostW B I Ix (pre ++ [x]) W) (a₁ x) W)
  (hdone : ∀ (D : Nat) (W : World), D = w.heap.size → I (Tab.up t s) W → W.heap[D]? = some (.deferred (some [])) → Q .normal { av with defers := { target := .collected D, args := #[] } :: av.defers } W)
  (hstop : ∀ (D : Nat) (c : Code) (pre : List ByteArray) (W : World), D = w.heap.size → pre <+: Tab.up t s → Ix c pre W → W.heap[D]? = some (.deferred (some [])) → c.wpIn Fence.wide 3 Tryz.prog Q { av with defers := { target := .collected D, args := #[] } :: av.defers } W) :
  (Code.rangeFunc g ps assign body).wpIn Fence.wide 3 Tryz.prog Q av w := by
 refine wpIn_rangeFunc_ownW (F := Fence.wide) (n := 3) rfl (by omega) hg trivial (enters_of Tryz.func124 (by kernel_rfl) rfl)
  (It := fun _ => False) (U := B) (S := (· = Tab.up t s)) (Sp := (· <+: Tab.up t s)) (G := (· <+: Tab.up t s)) (m := 0) (encs := fun x : ByteArray => #[Value.string x])
  (fun W1 hk1 hs1 => sline1_own (3 - 1) (by omega) a c t s w0 bt bs _ W1 hT ht (hk.trans hk1) (hbt.kept hk1) (hbs.kept hk1) (fun k h => by have := hB k h; omega))
  (fun k e => e.elim) (fun k h => by have := hB k h; omega) (fun _ => hps.symm) I Ix (fun s A B h o => hI s A B h (o.mono fun k _ e => e.elim False.elim fun e => by omega)) (fun c s A B h o => hIx c s A B h (o.mono fun k _ e => e.elim False.elim fun e => by omega)) h0 a₁ hassign ?_ ?_ ?_
 ·intro l pre x W hl hr hi hpre hsz
  exact hbody l pre x W hl hr hi (by omega) hpre
 ·rintro D xs W e rfl hi hd
  exact hdone D W e hi hd
 ·rintro D c pre W e hp hi hd
  exact hstop D c pre W e hp hi hd
end Go.Proofs.YtjdkegfckkbpeaaGreatDoor
namespace Go.Proofs.YtjdkegfckkbpeaaGreatDoor
open Go.ChangeShapes Go.WideShapes Go.ChangeAt Go.RowKit Go.Shelf
attribute [local go_sem] Oper.semAt_some
theorem valid_c (t : List Tab.C) (a : Option Addr) (cp : Nat) (w : World) (hTb : Tb w) (h : TabAt w (.slice a t.length cp) t) (hS : Small t) :
  Calls Tryz.prog 88 #[.slice a t.length cp] w fun e w' => e = .returned (.bool (Tab.ok t)) ∧ Kept w w' := by
 have HC := Lib.hid (check_c t a cp w hTb h hS)
 unfold Tab.ok
 generalize Tab.check t = ck at *
 obtain ⟨fe, fa⟩ := ck
 dsimp only at HC ⊢
 clear hTb h hS
 have hfd : ∀ w : World, (Instr.field 30 (.agg #[.int .i64 fe, .int .i64 fa]) 0).run Tryz.prog w = .ok (.int .i64 fe) w := fun _ => by kernel_rfl
 by_cases hz : fe = 0
 ·have hb : decide (fe = 0) = true := decide_eq_true hz
  subst hz
  go_enter Tryz.func88, Tryz.ntmps88
  go_wp2_with fail
  refine HC.out.mono ?_
  rintro e w1 ⟨rfl, k1⟩
  go_wp2_with fail
  go_ret
  exact ⟨rfl, k1⟩
 ·have hb : decide (fe = 0) = false := decide_eq_false hz
  have hb2 : (fe == 0) = false := by simp [hz]
  rw [hb]
  go_enter Tryz.func88, Tryz.ntmps88
  go_wp2_with fail
  refine HC.out.mono ?_
  rintro e w1 ⟨rfl, k1⟩
  go_wp2_with fail
  go_ret
  exact ⟨rfl, k1⟩
theorem typ_c (t : List Tab.C) (v : Value) (s : ByteArray) (w : World) (h : Row 4 ClsAt w v t) :
  Calls Tryz.prog 87 #[v, .string s] w fun e w' => e = .returned (.bool (Tab.isT t s)) ∧ w' = w := by
 have HC := Lib.hid (isC_c t v s w h)
 by_cases hin : s ∈ Tab.basics
 ·rw [Tab.isT_own hin]
  unfold Tab.basics at hin
  simp only [List.mem_cons, List.not_mem_nil, or_false] at hin
  obtain ⟨a, c, rfl, _⟩ := h
  clear HC
  rcases hin with rfl | rfl | rfl | rfl | rfl | rfl
  all_goals
   go_enter Tryz.func87, Tryz.ntmps87
   go_wp2_with fail
   go_ret
   exact ⟨rfl, rfl⟩
 ·have hT : Tab.isT t s = Tab.isC t s := by unfold Tab.isT; rw [decide_eq_false hin]; rfl
  rw [hT]
  generalize Tab.isC t s = y at HC ⊢
  unfold Tab.basics at hin
  simp only [List.mem_cons, List.not_mem_nil, or_false, not_or] at hin
  obtain ⟨h1, h2, h3, h4, h5, h6⟩ := hin
  have b1 : (s.toList == [105, 110, 116]) = false := lit_no h1
  have b2 : (s.toList == [114, 101, 97, 108]) = false := lit_no h2
  have b3 : (s.toList == [98, 111, 111, 108]) = false := lit_no h3
  have b4 : (s.toList == [115, 116, 114]) = false := lit_no h4
  have b5 : (s.toList == [117, 110, 105, 116]) = false := lit_no h5
  have b6 : (s.toList == [63]) = false := lit_no h6
  obtain ⟨a, c, rfl, _⟩ := h
  clear h1 h2 h3 h4 h5 h6 hT
  go_enter Tryz.func87, Tryz.ntmps87
  go_wp2_with fail
  refine HC.out.mono ?_
  rintro e w1 ⟨rfl, rfl⟩
  go_wp2_with fail
  go_ret
  exact ⟨rfl, rfl⟩
theorem types_c (t : List Tab.C) (a : Option Addr) (cp : Nat) (s u : ByteArray) (w : World) (hTb : Tb w) (h : TabAt w (.slice a t.length cp) t) (hS : Small t) :
  Calls Tryz.prog 56 #[.slice a t.length cp, .string s, .string u] w fun e w' => e = .returned (.bool (Tab.ats t s u)) ∧ Kept w w' := by
 have H1 := Lib.hid (typ_c t (.slice a t.length cp) s w h)
 have H2 := Lib.hid (typ_c t (.slice a t.length cp) u w h)
 have H3 := Lib.hid (valid_c t a cp w hTb h hS)
 unfold Tab.ats
 generalize Tab.isT t s = x1 at *
 generalize Tab.isT t u = x2 at *
 generalize Tab.ok t = x3 at *
 clear hTb h hS
 cases x1 with
 | false =>
  go_enter Tryz.func56, Tryz.ntmps56
  go_wp2_with fail
  refine H1.out.mono ?_
  rintro e w1 ⟨rfl, rfl⟩
  go_wp2_with fail
  go_ret
  exact ⟨rfl, Kept.refl _⟩
 | true =>
  cases x2 with
  | false =>
   go_enter Tryz.func56, Tryz.ntmps56
   go_wp2_with fail
   refine H1.out.mono ?_
   rintro e w1 ⟨rfl, rfl⟩
   go_wp2_with fail
   refine H2.out.mono ?_
   rintro e w1 ⟨rfl, rfl⟩
   go_wp2_with fail
   go_ret
   exact ⟨rfl, Kept.refl _⟩
  | true =>
   go_enter Tryz.func56, Tryz.ntmps56
   go_wp2_with fail
   refine H1.out.mono ?_
   rintro e w1 ⟨rfl, rfl⟩
   go_wp2_with fail
   refine H2.out.mono ?_
   rintro e w1 ⟨rfl, rfl⟩
   go_wp2_with fail
   refine H3.out.mono ?_
   rintro e w3 ⟨rfl, k3⟩
   go_wp2_with fail
   go_ret
   exact ⟨rfl, k3⟩
/-- Within reaches' loop. -/
def RchI (u : ByteArray) (w : World) (pre : List ByteArray) (W : World) : Prop :=
 Blk W w.heap.size 9 #[.string u] ∧ Blk W (w.heap.size + 1) 4 #[.bool false] ∧ Kept w W ∧ ¬ u ∈ pre
theorem rchI_only {u : ByteArray} {w A B : World} {pre : List ByteArray} {S : Nat → Prop} (h : RchI u w pre A) (ho : Only S A B) (hs : ∀ k, S k → w.heap.size + 2 ≤ k) : RchI u w pre B :=
 ⟨h.1.only ho (fun e => by have := hs _ e; omega), h.2.1.only ho (fun e => by have := hs _ e; omega), h.2.2.1.onlyS ho (fun k e => by have := hs k e; omega), h.2.2.2⟩
/-- When it has been found. -/
def RchX (u : ByteArray) (w : World) (c : Code) (pre : List ByteArray) (W : World) : Prop :=
 c = .ret ∧ Blk W (w.heap.size + 1) 4 #[.bool true] ∧ Kept w W ∧ u ∈ pre
theorem rchX_only {u : ByteArray} {w A B : World} {c : Code} {pre : List ByteArray} {S : Nat → Prop} (h : RchX u w c pre A) (ho : Only S A B) (hs : ∀ k, S k → w.heap.size + 2 ≤ k) : RchX u w c pre B :=
 ⟨h.1, h.2.1.only ho (fun e => by have := hs _ e; omega), h.2.2.1.onlyS ho (fun k e => by have := hs k e; omega), h.2.2.2⟩
theorem rch_yes {u : ByteArray} {w W : World} {pre : List ByteArray} (h : RchI u w pre W) :
  Only (· = w.heap.size + 1) W (W.setCell ⟨w.heap.size + 1, 0, none⟩ (.bool true)) ∧ RchX u w .ret (pre ++ [u]) (W.setCell ⟨w.heap.size + 1, 0, none⟩ (.bool true)) := by
 have hO := (Only.refl (· = w.heap.size + 1) W).put 0 (.bool true)
 exact ⟨hO, rfl, h.2.1.put 0 _, h.2.2.1.onlyS hO (fun k e => by omega), by simp⟩
theorem rch_no {u : ByteArray} {w W : World} {pre : List ByteArray} {D : Nat} (h : RchI u w pre W) (hD : w.heap.size + 2 ≤ D) (hd : W.heap[D]? = some (.deferred (some []))) :
  (W.setCell ⟨w.heap.size + 1, 0, none⟩ (.bool false)).heap[D]? = some (.deferred (some [])) ∧
   ((W.setCell ⟨w.heap.size + 1, 0, none⟩ (.bool false)).putObj D (.deferred none)).cell? ⟨w.heap.size + 1, 0, none⟩ = some (.bool false) ∧
   Kept w ((W.setCell ⟨w.heap.size + 1, 0, none⟩ (.bool false)).putObj D (.deferred none)) := by
 have hO := (Only.refl (· = w.heap.size + 1) W).put 0 (.bool false)
 have h2 : Blk (W.setCell ⟨w.heap.size + 1, 0, none⟩ (.bool false)) (w.heap.size + 1) 4 #[.bool false] := h.2.1.put 0 _
 have hO2 := Only.putObj (Only.refl (· = D) (W.setCell ⟨w.heap.size + 1, 0, none⟩ (.bool false))) (.inl rfl) (.deferred none)
 have h3 := (h2.only hO2 (by omega)).cell 0
 simp at h3
 exact ⟨hO.same hd (by omega), h3, (h.2.2.1.onlyS hO (fun k e => by omega)).onlyS hO2 (fun k e => by omega)⟩
set_option maxHeartbeats 2000000 in
theorem reach_c (a : Option Addr) (c : Nat) (t : List Tab.C) (s u : ByteArray) (w : World) (hT : TabAt w (.slice a t.length c) t) (ht : t.length ≤ 1000) :
  Calls Tryz.prog 57 #[.slice a t.length c, .string s, .string u] w fun e w' => e = .returned (.bool (decide (u ∈ Tab.up t s))) ∧ Kept w w' := by
 refine (callsIn_wide (n := 3)).1 (callsIn_of_wp_marks Tryz.func57 rfl trivial (wpIn_wide.2 ?_) rfl)
 simp only [Tryz.ntmps57, List.size_toArray, List.length_cons, List.length_nil, Nat.reduceAdd, Nat.reduceSub, Array.replicate_succ, Array.replicate_zero, List.push_toArray, List.append_toArray, List.nil_append, List.cons_append]
 have HT := Lib.hid hT
 clear hT
 go_wp2_with fail
 obtain ⟨W1, hW1⟩ : ∃ W1, (w.alloc (.cells #[.string u] 9)).alloc (.cells #[.bool false] 4) = W1 := ⟨_, rfl⟩
 have hI1 : RchI u w [] W1 := by
  rw [← hW1]
  have h2 := Blk.new (w.alloc (.cells #[.string u] 9)) 4 #[.bool false]
  simp only [World.size_alloc] at h2
  exact ⟨(Blk.new w _ _).alloc _, h2, ((Kept.refl w).alloc _).alloc _, by simp⟩
 have hs1 : W1.heap.size = w.heap.size + 2 := by rw [← hW1]; simp
 have HS1 := Lib.hid hs1
 have HI1 := Lib.hid hI1
 rw [hW1]
 clear hW1 hs1 hI1
 refine (line_slineC a c t s _).mono ?_
 rintro e w3 ⟨rfl, hw3⟩
 have HK3 := Lib.hid (show Kept W1 w3 by rw [hw3]; exact ((Kept.refl W1).alloc _).alloc _)
 have HS3 := Lib.hid (show w3.heap.size = W1.heap.size + 2 by rw [hw3]; simp)
 have HB1 := Lib.hid (show Blk w3 W1.heap.size 22 #[.slice a t.length c] by rw [hw3]; exact (Blk.new _ _ _).alloc _)
 have HB2 := Lib.hid (show Blk w3 (W1.heap.size + 1) 9 #[.string s] by
  rw [hw3]
  have := Blk.new (W1.alloc (.cells #[.slice a t.length c] 22)) 9 #[.string s]
  simpa using this)
 clear hw3
 go_wp2_with fail
 have e1 : w.heap.size + 2 ≤ W1.heap.size := by have := HS1.out; omega
 have e3 : W1.heap.size + 2 ≤ w3.heap.size := by have := HS3.out; omega
 have hI3 : RchI u w [] w3 := rchI_only HI1.out (S := fun _ => False) (Only.of_kept HK3.out) (fun k h => h.elim)
 refine wpIn_wide.1 (wpIn_range_sline (w0 := w) (bt := W1.heap.size) (bs := W1.heap.size + 1) a c t s (fun k => k = w.heap.size + 1) rfl HT.out ht hI3.2.2.1 HB1.out HB2.out (fun k e => by omega) rfl
  (RchI u w) (RchX u w) (fun pre A B h o => rchI_only h o (fun k h => by omega)) (fun c pre A B h o => rchX_only h o (fun k h => by omega)) hI3
  (fun x => { tmps := #[.slice a t.length c, .string s, .string u, undef, undef, .pointer (some ⟨w.heap.size, 0, none⟩), .pointer (some ⟨w.heap.size + 1, 0, none⟩), .string x, .slice a t.length c, .string s, .func (.func 124) #[] #[.pointer (some ⟨W1.heap.size, 0, none⟩), .pointer (some ⟨W1.heap.size + 1, 0, none⟩)], .string x, undef, undef, undef], defers := [] }) ?assign ?body ?done ?stop)
 case assign =>
  intro l i W K hK
  gi_wp2
  exact hK
 case body =>
  rintro l pre x W hl _ hIW hsize hpre
  have HI := Lib.hid hIW
  have n0 := hIW.1.cell 0
  have n1 := hIW.2.1.cell 0
  have f1 := hIW.2.1.frozen 0
  simp at n0 n1
  clear hIW hI3 HI1 e1 e3 hsize hl hpre
  by_cases hx : x = u
  ·have hb := beq_yes hx
   have HX := Lib.hid hx
   clear hx
   gi_wp2
   obtain rfl := HX.out
   exact rch_yes HI.out
  ·have hb := beq_no hx
   have HX := Lib.hid hx
   clear hx
   gi_wp2
   exact ⟨Only.refl _ _, HI.out.1, HI.out.2.1, HI.out.2.2.1, by
    have h1 := HI.out.2.2.2
    have h2 := HX.out
    simp only [List.mem_append, List.mem_singleton, not_or]
    exact ⟨h1, fun e => h2 e.symm⟩⟩
 case done =>
  rintro D W hD hIW hd
  have hDn : w.heap.size + 2 ≤ D := by omega
  have hF := rch_no hIW hDn hd
  have n1 := hIW.2.1.cell 0
  have f1 := hIW.2.1.frozen 0
  simp at n1
  have HN := Lib.hid hIW.2.2.2
  have HF := Lib.hid hF
  clear hIW hD hI3 HI1 e1 e3 hF hDn hd
  go_wp2
  obtain ⟨hd', q, hk⟩ := HF.out
  refine ⟨by simp, .inl ⟨_, _, rfl, run_takeDeferred hd', ?_⟩⟩
  exact ⟨.bool false, by simp [results, Tryz.results57, go_sem, q], by rw [decide_eq_false HN.out], hk⟩
 case stop =>
  rintro D c pre W hD hpre ⟨rfl, hb, hk, hin⟩ hd
  have hO := Only.putObj (Only.refl (· = D) W) (.inl rfl) (.deferred none)
  have hq := (hb.only hO (by omega)).cell 0
  simp at hq
  have hk2 := hk.onlyS hO (fun k e => by omega)
  have HIN := Lib.hid (hpre.subset hin)
  clear hI3 HI1 e1 e3 hD hb hk hin
  gi_wp2
  refine ⟨by simp, .inl ⟨_, _, rfl, run_takeDeferred hd, ?_⟩⟩
  exact ⟨.bool true, by simp [results, Tryz.results57, go_sem, hq], by rw [decide_eq_true HIN.out], hk2⟩
theorem sub_c (t : List Tab.C) (a : Option Addr) (cp : Nat) (s u : ByteArray) (w : World) (hTb : Tb w) (h : TabAt w (.slice a t.length cp) t) (hS : Small t) :
  Calls Tryz.prog 36 #[.slice a t.length cp, .string s, .string u] w fun e w' => e = .returned (.bool (Tab.sub t s u)) ∧ Kept w w' := by
 have H1 := Lib.hid (types_c t a cp s u w hTb h hS)
 have H2 := Lib.hid (fun w' (k : Kept w w') => reach_c a cp t s u w' (tab_kept h k) hS.len)
 unfold Tab.sub
 generalize Tab.ats t s u = x1 at *
 generalize decide (u ∈ Tab.up t s) = x2 at *
 clear hTb h hS
 cases x1 with
 | false =>
  go_enter Tryz.func36, Tryz.ntmps36
  go_wp2_with fail
  refine H1.out.mono ?_
  rintro e w1 ⟨rfl, k1⟩
  go_wp2_with fail
  go_ret
  exact ⟨rfl, k1⟩
 | true =>
  go_enter Tryz.func36, Tryz.ntmps36
  go_wp2_with fail
  refine H1.out.mono ?_
  rintro e w1 ⟨rfl, k1⟩
  go_wp2_with fail
  refine (H2.out _ k1).mono ?_
  rintro e w2 ⟨rfl, k2⟩
  go_wp2_with fail
  go_ret
  exact ⟨rfl, k1.trans k2⟩
end Go.Proofs.YtjdkegfckkbpeaaGreatDoor
namespace Go.Proofs.YtjdkegfckkbpeaaGreatDoor
open Go.ChangeShapes Go.WideShapes Go.ChangeAt Go.RowKit Go.Shelf
attribute [local go_sem] Oper.semAt_some
end Go.Proofs.YtjdkegfckkbpeaaGreatDoor
namespace Go.Proofs.YtjdkegfckkbpeaaGreatDoor
open Go.ChangeShapes Go.WideShapes Go.ChangeAt Go.RowKit Go.Shelf
attribute [local go_sem] Oper.semAt_some
end Go.Proofs.YtjdkegfckkbpeaaGreatDoor
