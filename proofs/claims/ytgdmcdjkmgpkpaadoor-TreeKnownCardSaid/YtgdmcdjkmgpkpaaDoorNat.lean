/- At: the tree at a place, whatever is told of its copy. -/
import Derived.Test.YtgdmcdjkmgpkpaaDoorTro
import Derived.Laws.Rows
set_option linter.unusedSimpArgs false
set_option linter.unusedVariables false
set_option maxRecDepth 100000
namespace Go.Proofs.YtgdmcdjkmgpkpaaDoor
open Go.ChangeShapes Go.WideShapes Go.ChangeAt Go.RowKit Go.Shelf
attribute [local go_sem] Oper.semAt_some

/-- What is told of a copy: a node's value like it, and what else. -/
def CpyR (w : World) (y : Nd) (R : World → Value → Prop) (e : Ending) (w' : World) : Prop := ∃ ad c, e = .returned (ndV y (.slice ad y.kids.length c)) ∧ R w' (.slice ad y.kids.length c) ∧ Kept w w'

theorem at_results {fn : Func} {p q : Tmp} (h : fn.results = #[.cell p 24, .cell q 28]) (tmps : Array Value) (W : World) {g g' : Nat} {x0 x1 x2 x3 x4 x5 : Value} {e : Int}
    (hp : tmps.getD p undef = .pointer (some ⟨g, 0, none⟩)) (hq : tmps.getD q undef = .pointer (some ⟨g', 0, none⟩))
    (hg : Blk W g 24 #[x0, x1, x2, x3, x4, x5]) (hg' : Blk W g' 28 #[.int .i64 e]) :
    (results fn tmps).run Tryd.prog W = .ok (.tuple #[.agg #[x0, x1, x2, x3, x4, x5], .int .i64 e]) W := by
  have hp' : tmps[p]?.getD undef = .pointer (some ⟨g, 0, none⟩) := by simpa using hp
  have hq' : tmps[q]?.getD undef = .pointer (some ⟨g', 0, none⟩) := by simpa using hq
  have e2 := run_loadVar_row (P := Tryd.prog) W g 24 24 #[x0, x1, x2, x3, x4, x5] (0, 0) _ hg Tryd.underlying24 (by rfl) (by kernel_rfl)
  have c3 := hg'.cell 0
  simp at c3
  have e3 : (loadVar 28 ⟨g', 0, none⟩).run Tryd.prog W = .ok (.int .i64 e) W := by simp [go_sem, c3]
  simp [results, h, hp', hq', asAddr, e2, e3]

/-- A node's six cells stored, and then one more. -/
def pt7 (W : World) (g g' : Nat) (v0 v1 v2 v3 v4 v5 u : Value) : World := ((((((W.setCell ⟨g, 0, none⟩ v0).setCell ⟨g, 1, none⟩ v1).setCell ⟨g, 2, none⟩ v2).setCell ⟨g, 3, none⟩ v3).setCell ⟨g, 4, none⟩ v4).setCell ⟨g, 5, none⟩ v5).setCell ⟨g', 0, none⟩ u
theorem pt7_only (W : World) (g g' : Nat) (v0 v1 v2 v3 v4 v5 u : Value) : Only (fun k => k = g ∨ k = g') W (pt7 W g g' v0 v1 v2 v3 v4 v5 u) :=
  (((((((Only.refl _ W).setCell (.inl (.inl rfl)) _).setCell (.inl (.inl rfl)) _).setCell (.inl (.inl rfl)) _).setCell (.inl (.inl rfl)) _).setCell (.inl (.inl rfl)) _).setCell (.inl (.inl rfl)) _).setCell (.inl (.inr rfl)) _
theorem pt7_blk {W : World} {g g' : Nat} {t t' : TypeId} {a0 a1 a2 a3 a4 a5 b : Value} (h : Blk W g t #[a0, a1, a2, a3, a4, a5]) (h' : Blk W g' t' #[b]) (hne : g ≠ g') (v0 v1 v2 v3 v4 v5 u : Value) :
    Blk (pt7 W g g' v0 v1 v2 v3 v4 v5 u) g t #[v0, v1, v2, v3, v4, v5] ∧ Blk (pt7 W g g' v0 v1 v2 v3 v4 v5 u) g' t' #[u] := by
  have h1 := (((((h.put 0 v0).put 1 v1).put 2 v2).put 3 v3).put 4 v4).put 5 v5
  simp only [List.setIfInBounds_toArray, List.set_cons_zero, List.set_cons_succ] at h1
  have h2 := h'.only ((((((((Only.refl (· = g) W).put 0 v0).put 1 v1).put 2 v2).put 3 v3).put 4 v4).put 5 v5)) (fun e => hne e.symm)
  have h3 := h2.put 0 u
  simp only [List.setIfInBounds_toArray, List.set_cons_zero] at h3
  exact ⟨h1.only ((Only.refl (· = g') _).put 0 u) hne, h3⟩

/-- What At tells. -/
def atQ (x : Nd) (p : Int) : Option Nd := if 0 ≤ p then ((x.all 0)[p.toNat]?).map (·.2) else none
def atI (x : Nd) (w : World) (p : Int) (pre : List ItN) (W : World) (O : Nat → Prop) : Prop :=
  (O = fun k => w.heap.size + 1 < k ∧ k < w.heap.size + 4) ∧ Blk W (w.heap.size + 1) 3 #[.int .i64 p] ∧ Blk W (w.heap.size + 2) 24 #[.int .i64 0, .string ⟨#[]⟩, .string ⟨#[]⟩, .string ⟨#[]⟩, .int .i64 0, .slice none 0 0] ∧ Blk W (w.heap.size + 3) 28 #[.int .i64 0] ∧ Kept w W ∧ itOk x pre ∧ ¬ (0 ≤ p ∧ p < (pre.length : Int))
def atX (x : Nd) (w : World) (p : Int) (R : World → Value → Prop) (c : Code) (pre : List ItN) (W : World) : Prop :=
  c = .ret ∧ ∃ y ad ck, atQ x p = some y ∧ Blk W (w.heap.size + 2) 24 (ndC y (.slice ad y.kids.length ck)).toArray ∧ Blk W (w.heap.size + 3) 28 #[.int .i64 0] ∧ R W (.slice ad y.kids.length ck) ∧ Kept w W
theorem atI.stay {x : Nd} {w : World} {p : Int} {n : Nat} {pre : List ItN} {A B : World} {O : Nat → Prop} (h : atI x w p pre A O) (k : Only (fun k => n ≤ k ∧ ¬ O k) A B) (hn : w.heap.size + 4 ≤ n) : atI x w p pre B O := by
  obtain ⟨h1, h2, h3, h4, h5, h6⟩ := h
  subst h1
  exact ⟨rfl, h2.only k (fun h => by have := h.1; omega), h3.only k (fun h => by have := h.1; omega), h4.only k (fun h => by have := h.1; omega), h5.only k rfl (fun k h => by have := h.1; omega), h6⟩
/-- What else is told of a copy lives on where only the call's own first blocks turn. -/
def LowStay (lo hi : Nat) (R : World → Value → Prop) : Prop := ∀ A B s, R A s → Only (fun k => lo ≤ k ∧ k < hi) A B → R B s
theorem atX.stay {x : Nd} {w : World} {p : Int} {R : World → Value → Prop} {c : Code} {n hi : Nat} {pre : List ItN} {A B : World} (h : atX x w p R c pre A) (hR : LowStay w.heap.size hi R) (k : Only (fun k => n ≤ k ∧ k < n + 2) A B) (hn : w.heap.size + 4 ≤ n) (hh : n + 2 ≤ hi) : atX x w p R c pre B := by
  obtain ⟨h1, y, ad, ck, h2, h3, h4, h5, h6⟩ := h
  exact ⟨h1, y, ad, ck, h2, h3.only k (fun h => by omega), h4.only k (fun h => by omega), hR _ _ _ h5 (k.mono fun j _ h => ⟨by omega, by omega⟩), h6.only k rfl (fun k h => by omega)⟩

set_option maxHeartbeats 16000000 in
theorem at_c (x : Nd) (ad : Option Addr) (ck : Nat) (p : Int) (w : World) (R : World → Value → Prop) (hi : Nat) (hhi : hi = w.heap.size + 7) (hok : x.ok1) (hk : KidsAt w (.slice ad x.kids.length ck) x.kids) (hcnt : x.count ≤ 1000000000) (hR : LowStay w.heap.size hi R)
    (hcp : ∀ y a c W, atQ x p = some y → y.ok1 → KidsAt W (.slice a y.kids.length c) y.kids → Kept w W → hi ≤ W.heap.size → Calls Tryd.prog 32 #[ndV y (.slice a y.kids.length c)] W (CpyR W y R)) :
    Calls Tryd.prog 11 #[ndV x (.slice ad x.kids.length ck), .int .i64 p] w fun e w' => ((∃ y a c, atQ x p = some y ∧ e = .returned (.tuple #[ndV y (.slice a y.kids.length c), .int .i64 0]) ∧ R w' (.slice a y.kids.length c)) ∨ (atQ x p = none ∧ e = .returned (.tuple #[.agg #[.int .i64 0, .string ⟨#[]⟩, .string ⟨#[]⟩, .string ⟨#[]⟩, .int .i64 0, .slice none 0 0], .int .i64 3]))) ∧ Kept w w' := by
  obtain ⟨W1, hW1⟩ : ∃ W1, (((w.alloc (.cells #[.int .i64 x.kind, .string x.text, .string x.typ, .string x.frm, .int .i64 x.n, .slice ad x.kids.length ck] 24)).alloc (.cells #[.int .i64 p] 3)).alloc (.cells #[.int .i64 0, .string ⟨#[]⟩, .string ⟨#[]⟩, .string ⟨#[]⟩, .int .i64 0, .slice none 0 0] 24)).alloc (.cells #[.int .i64 0] 28) = W1 := ⟨_, rfl⟩
  obtain ⟨W2, hW2⟩ : ∃ W2, W1.alloc (.cells (ndC x (.slice ad x.kids.length ck)).toArray 24) = W2 := ⟨_, rfl⟩
  have k1 : Kept w W1 := by rw [← hW1]; exact ((((Kept.refl w).alloc _).alloc _).alloc _).alloc _
  have k2 : Kept W1 W2 := by rw [← hW2]; exact (Kept.refl W1).alloc _
  have hs1 : W1.heap.size = w.heap.size + 4 := by rw [← hW1]; simp
  have hs2 : W2.heap.size = w.heap.size + 5 := by rw [← hW2]; simp [hs1]
  have hc1 : Blk W1 (w.heap.size + 1) 3 #[.int .i64 p] := by rw [← hW1]; exact ((Blk.at (by simp)).alloc _).alloc _
  have hc2 : Blk W1 (w.heap.size + 2) 24 #[.int .i64 0, .string ⟨#[]⟩, .string ⟨#[]⟩, .string ⟨#[]⟩, .int .i64 0, .slice none 0 0] := by rw [← hW1]; exact (Blk.at (by simp)).alloc _
  have hc3 : Blk W1 (w.heap.size + 3) 28 #[.int .i64 0] := by rw [← hW1]; exact Blk.at (by simp)
  have hb2 : Blk W2 W1.heap.size 24 (ndC x (.slice ad x.kids.length ck)).toArray := by rw [← hW2]; exact Blk.new _ _ _
  have HN := Lib.hid (nodes_c x ad ck W1)
  rw [hW2] at HN
  have HK := Lib.hid (fun W k => box_kids (W := W) hk k)
  have HKW := Lib.hid (k1.trans k2)
  have HS1 := Lib.hid hs1
  have HS2 := Lib.hid hs2
  have HB2 := Lib.hid hb2
  have HI0 := Lib.hid (show atI x w p [] W2 (fun k => w.heap.size + 1 < k ∧ k < w.heap.size + 4) from ⟨rfl, hc1.kept k2, hc2.kept k2, hc3.kept k2, k1.trans k2, ⟨List.nil_prefix, fun i it h => by simp at h⟩, by rintro ⟨q1, q2⟩; simp at q2; omega⟩)
  have HW1 := Lib.hid hW1
  have HOK := Lib.hid hok
  have HC := Lib.hid hcnt
  have HR := Lib.hid hR
  have HCP := Lib.hid hcp
  have HHI := Lib.hid hhi
  clear hW1 hW2 k1 k2 hs1 hs2 hc1 hc2 hc3 hb2 hk hok hR hcp hhi
  refine (callsIn_wide (n := 3)).1 (callsIn_of_wp_marks Tryd.func11 rfl trivial (wpIn_wide.2 ?_) rfl)
  simp only [Tryd.ntmps11, List.size_toArray, List.length_cons, List.length_nil, Nat.reduceAdd, Nat.reduceSub, Array.replicate_succ, Array.replicate_zero, List.push_toArray, List.append_toArray, List.nil_append, List.cons_append]
  go_wp2_with fail
  rw [HW1.out]
  refine HN.out.mono ?_
  rintro e w2 ⟨rfl, rfl⟩
  clear HN HW1
  go_wp2_with fail
  refine wpIn_wide.1 (wpIn_rangeFunc_ownO (F := Fence.wide) (n := 3) rfl (by omega) (gf := 40) (lb := #[.pointer (some ⟨W1.heap.size, 0, none⟩)]) rfl trivial (enters_of Tryd.func40 (by kernel_rfl) rfl)
    (encs := encN) (S := itAll x) (Sp := itOk x) (G := itG x w2.heap.size) (b0 := w.heap.size) (fun k => w.heap.size + 1 < k ∧ k < w.heap.size + 4) (fun k hk => by have := HS2.out; omega)
    (fun Wq hkq hsq => nodes1_o (3 - 1) (by omega) x ad ck W1.heap.size w.heap.size w2.heap.size Wq (HB2.out.kept hkq) HOK.out (HK.out Wq (HKW.out.trans hkq)) (by omega) (by have := HS2.out; omega) HC.out)
    (fun s A B O h k => h.stay k) (fun _ => rfl) (atI x w p) (atX x w p R) (fun s A B O h k => h.stay k (by have := HS2.out; omega)) (fun c s A B h k => h.stay HR.out k (by have := HS2.out; omega) (by have := HS2.out; have := HHI.out; omega)) HI0.out
    (fun i W => { tmps := #[ndV x (.slice ad x.kids.length ck), .int .i64 p, .pointer (some ⟨w.heap.size, 0, none⟩), .pointer (some ⟨w.heap.size + 1, 0, none⟩), .pointer (some ⟨w.heap.size + 1 + 1, 0, none⟩), .pointer (some ⟨w.heap.size + 1 + 1 + 1, 0, none⟩), .pointer (some ⟨W.heap.size, 0, none⟩), .pointer (some ⟨i.2.1.1, i.2.1.2, none⟩), ndV x (.slice ad x.kids.length ck), .func (.func 40) #[] #[.pointer (some ⟨W1.heap.size, 0, none⟩)], .agg #[.int .i64 i.1.1, .int .i64 i.1.2], .pointer (some ⟨i.2.1.1, i.2.1.2, none⟩), undef, undef, undef, undef, undef, undef, undef, undef, undef], defers := [] })
    (fun i W => W.alloc (.cells #[.int .i64 i.1.1, .int .i64 i.1.2] 51)) (fun i W => (Kept.refl W).alloc _) ?assign ?body ?done ?stop)
  case assign =>
    intro lr i W K hK
    gi_wp2
    first | exact hK | simpa using hK
  case body =>
    intro lr pre i W0 W O hlr hl0 hob hOl hI hG hsz
    obtain ⟨hO, hI1, hI2, hI3, hI4, hI5, hI6⟩ := hI
    subst hO
    obtain ⟨D, hnd, hDO, hDl⟩ := hG.2 pre i rfl
    have hb5 : Blk W W0.heap.size 51 #[.int .i64 i.1.1, .int .i64 i.1.2] := (Blk.new W0 _ _).only hob (by omega)
    have d0 := hb5.cell 0
    have c0 := hI1.cell 0
    have hat : i.1.1 = pre.length := hG.1.2 pre.length i (by simp)
    have hz : w.heap.size + 6 < W0.heap.size := by have := HS2.out; omega
    simp only [List.getElem?_toArray, List.getElem?_cons_zero] at d0 c0
    rw [hat] at d0
    by_cases hp : (pre.length : Int) = p
    · have hq : atQ x p = some i.2.2 := by
        unfold atQ
        rw [if_pos (by omega), show p.toNat = pre.length by omega]
        have h2 := hG.1.1
        rw [List.map_append] at h2
        obtain ⟨t2, h3⟩ := h2
        rw [← h3, List.append_assoc, List.getElem?_append_right (by simp)]
        simp [plN]
      obtain ⟨kad, kc, ⟨n0, n1, n2, n3, n4, n5⟩, hyok, hyk, _⟩ := hnd.cells
      have HCC := Lib.hid (HCP.out i.2.2 kad kc W hq hyok hyk.at hI4 (by have := HHI.out; have := hob.size; have h9 : (W0.alloc (.cells #[.int .i64 i.1.1, .int .i64 i.1.2] 51)).heap.size = W0.heap.size + 1 := by { simp }; omega))
      have HQ := Lib.hid hq
      have HI2 := Lib.hid hI2
      have HI3 := Lib.hid hI3
      have HI4 := Lib.hid hI4
      have hb : ((pre.length : Int) == p) = true := by simp [hp]
      clear hI1 hI2 hI3 hI4 hI5 hI6 hG hob HI0 hb5 hat hyok hyk hnd hDO hDl hp hq
      generalize i.2.2 = y at *
      gi_wp2
      refine ⟨trivial, (callsIn_wide.2 HCC.out).mono ?_⟩
      rintro e w8 ⟨ya, yc, rfl, hr8, k8⟩
      have b4 := HI2.out.kept k8
      have b5 := HI3.out.kept k8
      obtain ⟨e0, e1, e2, e3, e4, e5⟩ : w8.cell? ⟨w.heap.size + 1 + 1, 0, none⟩ = some (.int .i64 0) ∧ w8.cell? ⟨w.heap.size + 1 + 1, 1, none⟩ = some (.string ⟨#[]⟩) ∧ w8.cell? ⟨w.heap.size + 1 + 1, 2, none⟩ = some (.string ⟨#[]⟩) ∧ w8.cell? ⟨w.heap.size + 1 + 1, 3, none⟩ = some (.string ⟨#[]⟩) ∧ w8.cell? ⟨w.heap.size + 1 + 1, 4, none⟩ = some (.int .i64 0) ∧ w8.cell? ⟨w.heap.size + 1 + 1, 5, none⟩ = some (.slice none 0 0) := ⟨b4.cell 0, b4.cell 1, b4.cell 2, b4.cell 3, b4.cell 4, b4.cell 5⟩
      obtain ⟨f0, f1, f2, f3, f4, f5⟩ : w8.frozen? ⟨w.heap.size + 1 + 1, 0, none⟩ = false ∧ w8.frozen? ⟨w.heap.size + 1 + 1, 1, none⟩ = false ∧ w8.frozen? ⟨w.heap.size + 1 + 1, 2, none⟩ = false ∧ w8.frozen? ⟨w.heap.size + 1 + 1, 3, none⟩ = false ∧ w8.frozen? ⟨w.heap.size + 1 + 1, 4, none⟩ = false ∧ w8.frozen? ⟨w.heap.size + 1 + 1, 5, none⟩ = false := ⟨b4.frozen 0, b4.frozen 1, b4.frozen 2, b4.frozen 3, b4.frozen 4, b4.frozen 5⟩
      have e6 : w8.cell? ⟨w.heap.size + 1 + 1 + 1, 0, none⟩ = some (.int .i64 0) := b5.cell 0
      have f6 : w8.frozen? ⟨w.heap.size + 1 + 1 + 1, 0, none⟩ = false := b5.frozen 0
      have HR8 := Lib.hid hr8
      have HK8 := Lib.hid k8
      have B4 := Lib.hid b4
      have B5 := Lib.hid b5
      clear hr8 k8 b4 b5 n0 n1 n2 n3 n4 n5 d0 c0
      gi_wp2
      exact ⟨(Only.of_kept HK8.out).trans ((pt7_only w8 (w.heap.size + 2) (w.heap.size + 3) (.int .i64 y.kind) (.string y.text) (.string y.typ) (.string y.frm) (.int .i64 y.n) (.slice ya y.kids.length yc) (.int .i64 0)).mono fun k _ h => .inl (by omega)),
        rfl, y, ya, yc, HQ.out, (pt7_blk B4.out B5.out (by omega) _ _ _ _ _ _ _).1, (pt7_blk B4.out B5.out (by omega) _ _ _ _ _ _ _).2, HR.out _ _ _ HR8.out ((pt7_only _ _ _ _ _ _ _ _ _ _).mono fun k _ h => by have := HHI.out; omega),
        (HI4.out.trans HK8.out).only (pt7_only _ _ _ _ _ _ _ _ _ _) rfl (fun k h => by omega)⟩
    · have hb : ((pre.length : Int) == p) = false := by simp; exact hp
      have HRR := Lib.hid (show atI x w p (pre ++ [i]) W (fun k => w.heap.size + 1 < k ∧ k < w.heap.size + 4) from ⟨rfl, hI1, hI2, hI3, hI4, hG.1, by simp; omega⟩)
      clear hI1 hI2 hI3 hI4 hI5 hI6 hG hob HI0 hb5 hat hnd hDO hDl hp
      gi_wp2
      exact ⟨Only.refl _ _, _, fun k hk => .inl hk, HRR.out⟩
  case done =>
    rintro D xs W O hD hS ⟨hO, hI1, hI2, hI3, hI4, hI5, hI6⟩ hK
    subst hO
    have hq : atQ x p = none := by
      unfold atQ
      by_cases h0 : 0 ≤ p
      · rw [if_pos h0, List.getElem?_eq_none]
        · rfl
        · have h1 := congrArg List.length hS.1
          rw [List.length_map] at h1
          have := hI6
          omega
      · rw [if_neg h0]
    obtain ⟨e0, e1, e2, e3, e4, e5⟩ : W.cell? ⟨w.heap.size + 1 + 1, 0, none⟩ = some (.int .i64 0) ∧ W.cell? ⟨w.heap.size + 1 + 1, 1, none⟩ = some (.string ⟨#[]⟩) ∧ W.cell? ⟨w.heap.size + 1 + 1, 2, none⟩ = some (.string ⟨#[]⟩) ∧ W.cell? ⟨w.heap.size + 1 + 1, 3, none⟩ = some (.string ⟨#[]⟩) ∧ W.cell? ⟨w.heap.size + 1 + 1, 4, none⟩ = some (.int .i64 0) ∧ W.cell? ⟨w.heap.size + 1 + 1, 5, none⟩ = some (.slice none 0 0) := ⟨hI2.cell 0, hI2.cell 1, hI2.cell 2, hI2.cell 3, hI2.cell 4, hI2.cell 5⟩
    obtain ⟨f0, f1, f2, f3, f4, f5⟩ : W.frozen? ⟨w.heap.size + 1 + 1, 0, none⟩ = false ∧ W.frozen? ⟨w.heap.size + 1 + 1, 1, none⟩ = false ∧ W.frozen? ⟨w.heap.size + 1 + 1, 2, none⟩ = false ∧ W.frozen? ⟨w.heap.size + 1 + 1, 3, none⟩ = false ∧ W.frozen? ⟨w.heap.size + 1 + 1, 4, none⟩ = false ∧ W.frozen? ⟨w.heap.size + 1 + 1, 5, none⟩ = false := ⟨hI2.frozen 0, hI2.frozen 1, hI2.frozen 2, hI2.frozen 3, hI2.frozen 4, hI2.frozen 5⟩
    have e6 : W.cell? ⟨w.heap.size + 1 + 1 + 1, 0, none⟩ = some (.int .i64 0) := hI3.cell 0
    have f6 : W.frozen? ⟨w.heap.size + 1 + 1 + 1, 0, none⟩ = false := hI3.frozen 0
    have hD2 : D = w.heap.size + 5 := by have := HS2.out; omega
    have ho3 := pt7_only W (w.heap.size + 2) (w.heap.size + 3) (.int .i64 0) (.string ⟨#[]⟩) (.string ⟨#[]⟩) (.string ⟨#[]⟩) (.int .i64 0) (.slice none 0 0) (.int .i64 3)
    obtain ⟨hb1, hb2⟩ := pt7_blk hI2 hI3 (by omega) (.int .i64 0) (.string ⟨#[]⟩) (.string ⟨#[]⟩) (.string ⟨#[]⟩) (.int .i64 0) (.slice none 0 0) (.int .i64 3)
    have hK2 := ho3.same hK (by omega)
    have hd : Only (· = D) (pt7 W (w.heap.size + 2) (w.heap.size + 3) (.int .i64 0) (.string ⟨#[]⟩) (.string ⟨#[]⟩) (.string ⟨#[]⟩) (.int .i64 0) (.slice none 0 0) (.int .i64 3)) ((pt7 W (w.heap.size + 2) (w.heap.size + 3) (.int .i64 0) (.string ⟨#[]⟩) (.string ⟨#[]⟩) (.string ⟨#[]⟩) (.int .i64 0) (.slice none 0 0) (.int .i64 3)).putObj D (.deferred none)) := (Only.refl (· = D) _).putObj (.inl rfl) _
    have HB1 := Lib.hid (hb1.only hd (by omega))
    have HB2 := Lib.hid (hb2.only hd (by omega))
    have HZ := Lib.hid ((hI4.only ho3 rfl (fun k hk => by omega)).only hd rfl (fun k hk => by omega))
    have HK2 := Lib.hid hK2
    have HQ := Lib.hid hq
    clear hI1 hI2 hI3 hI4 hI5 hI6 hb1 hb2 ho3 hK hK2 hd hD hD2 hS hq
    go_wp2_with fail
    refine ⟨by simp, .inl ⟨_, _, rfl, run_takeDeferred HK2.out, ?_⟩⟩
    exact ⟨_, at_results (by rfl) _ _ rfl rfl HB1.out HB2.out, .inr ⟨HQ.out, rfl⟩, HZ.out⟩
  case stop =>
    rintro D cd pre W hD hpre ⟨rfl, y, ya, yc, h2, h3, h4, h5, h6⟩ hK
    have hD2 : D = w.heap.size + 5 := by have := HS2.out; omega
    have hd : Only (· = D) W (W.putObj D (.deferred none)) := (Only.refl (· = D) _).putObj (.inl rfl) _
    have HB1 := Lib.hid (h3.only hd (by omega))
    have HB3 := Lib.hid (h4.only hd (by omega))
    have HZ := Lib.hid (h6.only hd rfl (fun k hk => by omega))
    have HRZ := Lib.hid (HR.out _ _ _ h5 (hd.mono fun k _ h => by have := HHI.out; omega))
    have HQ := Lib.hid h2
    clear h2 h3 h4 h5 h6 hd hD hD2
    gi_wp2
    refine ⟨by simp, .inl ⟨_, _, rfl, run_takeDeferred hK, ?_⟩⟩
    exact ⟨_, at_results (by rfl) _ _ rfl rfl HB1.out HB3.out, .inl ⟨y, ya, yc, HQ.out, rfl, HRZ.out⟩, HZ.out⟩

end Go.Proofs.YtgdmcdjkmgpkpaaDoor
