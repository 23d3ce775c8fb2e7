/- Check: the first fault of a tree. -/
import Derived.Test.YtfpklgffdniegaaGreatDoorQNds
import Derived.Test.YtfpklgffdniegaaGreatDoorQw25
import Derived.Test.YtfpklgffdniegaaGreatDoorQw27
import Derived.Test.YtfpklgffdniegaaGreatDoorQw3
set_option linter.unusedSimpArgs false
set_option linter.unusedVariables false
set_option maxRecDepth 100000
namespace Go.Proofs.YtfpklgffdniegaaGreatDoor
open Go.ChangeShapes Go.WideShapes Go.ChangeAt Go.RowKit Go.Shelf
attribute [local go_sem] Oper.semAt_some
/-- The first node, from place k on, that is not well-formed, or is no program at place 0. -/
def chkF : Nat → List (Nat × Nd) → Int × Int
 | _, [] => (0, 0)
 | k, p :: r => if k = 0 ∧ p.2.kind ≠ 1 then (5, 0) else if nodeE p.2 ≠ 0 then (nodeE p.2, (k : Int)) else chkF (k + 1) r
/-- What Check tells. -/
def checkE (x : Nd) : Int × Int := if (sizeE x).1 ≠ 0 then sizeE x else chkF 0 (x.all 0)
/-- None of these is at fault. -/
def goodC (k : Nat) (l : List (Nat × Nd)) : Prop := ∀ i p, l[i]? = some p → ¬ (k + i = 0 ∧ p.2.kind ≠ 1) ∧ nodeE p.2 = 0
theorem chkF_app : ∀ (l : List (Nat × Nd)) (k : Nat) (m : List (Nat × Nd)), goodC k l → chkF k (l ++ m) = chkF (k + l.length) m
 | [], k, m, _ => by simp
 | p :: r, k, m, h => by
  have h0 := h 0 p rfl
  rw [List.cons_append, chkF, if_neg (by simpa using h0.1), if_neg (by simp [h0.2]), chkF_app r (k + 1) m (fun i q hq => by have := h (i + 1) q (by simpa using hq); rw [show k + 1 + i = k + (i + 1) by omega]; exact this), List.length_cons, show k + 1 + r.length = k + (r.length + 1) by omega]
theorem goodC_snoc {l : List (Nat × Nd)} {p : Nat × Nd} (h : goodC 0 l) (h1 : ¬ (l.length = 0 ∧ p.2.kind ≠ 1)) (h2 : nodeE p.2 = 0) : goodC 0 (l ++ [p]) := fun i q hq => by
 rw [List.getElem?_append] at hq
 split at hq
 ·exact h i q hq
 ·have hi : i - l.length = 0 := by
   have := (List.getElem?_eq_some_iff.1 hq).1
   simp at this; omega
  rw [hi] at hq
  simp at hq
  subst hq
  exact ⟨by rw [Nat.zero_add, show i = l.length by omega]; exact h1, h2⟩
theorem deepF_zero : ∀ (l : List (Nat × Nd)) (k : Nat), (deepF k l).1 = 0 → deepF k l = (0, 0)
 | [], k, _ => rfl
 | p :: r, k, h => by
  rw [deepF] at h ⊢
  split at h
  ·cases h
  ·rename_i hp; rw [if_neg hp]; exact deepF_zero r (k + 1) h
theorem sizeE_zero {x : Nd} (h : (sizeE x).1 = 0) : sizeE x = (0, 0) := by
 unfold sizeE at h ⊢
 split at h
 ·cases h
 ·rename_i hp; rw [if_neg hp]; exact deepF_zero _ _ h
def ckI (x : Nd) (wb : World) (fb : Nat) (pre : List ItN) (W : World) (O : Nat → Prop) : Prop := (O = fun k => k = fb) ∧ Kept wb W ∧ itOk x pre ∧ goodC 0 (pre.map plN)
def ckX (x : Nd) (w : World) (rb fb : Nat) (c : Code) (pre : List ItN) (W : World) : Prop :=
 c = .exit 0 ∧ Blk W rb 32 #[.int .i64 0, .int .i64 0] ∧ Blk W fb 32 #[.int .i64 (checkE x).1, .int .i64 (checkE x).2] ∧ Kept w W
theorem ckI.stay {x : Nd} {wb : World} {fb n : Nat} {pre : List ItN} {A B : World} {O : Nat → Prop} (h : ckI x wb fb pre A O) (k : Only (fun k => n ≤ k ∧ ¬ O k) A B) (hn : wb.heap.size ≤ n) : ckI x wb fb pre B O := by
 obtain ⟨h1, h2, h3, h4⟩ := h
 exact ⟨h1, h2.only k rfl (fun k h => by have := h.1; omega), h3, h4⟩
theorem ckX.stay {x : Nd} {w : World} {rb fb : Nat} {c : Code} {n : Nat} {pre : List ItN} {A B : World} (h : ckX x w rb fb c pre A) (k : Only (fun k => n ≤ k ∧ k < n + 2) A B) (hr : rb < n) (hf : fb < n) (hn : w.heap.size ≤ n) : ckX x w rb fb c pre B := by
 obtain ⟨h1, h2, h3, h4⟩ := h
 exact ⟨h1, h2.only k (fun h => by omega), h3.only k (fun h => by omega), h4.only k rfl (fun k h => by omega)⟩
/-- The two stores into a block of a fault. -/
theorem put2_blk {W : World} {g : Nat} {t : TypeId} {a b u v : Value} (h : Blk W g t #[a, b]) : Blk ((W.setCell ⟨g, 0, none⟩ u).setCell ⟨g, 1, none⟩ v) g t #[u, v] := by
 have := (h.put 0 u).put 1 v
 simpa using this
theorem put2_only (W : World) (g : Nat) (u v : Value) : Only (· = g) W ((W.setCell ⟨g, 0, none⟩ u).setCell ⟨g, 1, none⟩ v) := ((Only.refl _ W).put 0 u).put 1 v
/-- A node of a tree has no more kids than the tree has nodes. -/
theorem all_count (x : Nd) : ∀ a, ∀ p ∈ x.all a, p.2.count ≤ x.count := by
 refine Nd.ind (P := fun x => ∀ a, ∀ p ∈ x.all a, p.2.count ≤ x.count) (fun x ih a p hp => ?_) x
 rw [Nd.all_eq] at hp
 rcases List.mem_cons.1 hp with rfl | hp
 ·exact Nat.le_refl _
 ·have : ∀ (l : List Nd) (a : Nat), (∀ y ∈ l, ∀ a, ∀ p ∈ y.all a, p.2.count ≤ y.count) → ∀ p ∈ Nd.allL l a, p.2.count ≤ Nd.countL l := by
   intro l
   induction l with
   | nil => intro a _ p hp; rw [Nd.allL_nil] at hp; cases hp
   | cons y r ihr =>
    intro a h p hp
    rw [Nd.allL_cons] at hp
    rw [Nd.countL_cons]
    rcases List.mem_append.1 hp with hp | hp
    ·have := h y (by simp) a p hp; omega
    ·have := ihr a (fun z hz => h z (List.mem_cons_of_mem _ hz)) p hp; omega
  have := this x.kids (a + 1) ih p hp
  rw [Nd.count_eq x]; omega
theorem all_kids (x : Nd) (a : Nat) (y : Nd) (h : y ∈ (x.all a).map (·.2)) : y.kids.length ≤ x.count := by
 obtain ⟨p, hp, rfl⟩ := List.mem_map.1 h
 have h1 := all_count x a p hp
 have h2 := Nd.count_eq p.2
 have h3 := Nd.len_le_countL p.2.kids
 omega
set_option maxHeartbeats 16000000 in
theorem check_c (x : Nd) (ad : Option Addr) (ck : Nat) (w : World) (hT : Tb w) (hok : x.ok1) (hk : KidsAt w (.slice ad x.kids.length ck) x.kids) (hcnt : x.count ≤ 1000000000) :
  Calls Tryz.prog 16 #[ndV x (.slice ad x.kids.length ck)] w fun e w' => e = .returned (.agg #[.int .i64 (checkE x).1, .int .i64 (checkE x).2]) ∧ Kept w w' := by
 obtain ⟨W1, hW1⟩ : ∃ W1, (w.alloc (.cells #[.int .i64 x.kind, .string x.text, .string x.typ, .string x.frm, .int .i64 x.n, .slice ad x.kids.length ck] 24)).alloc (.cells #[.int .i64 0, .int .i64 0] 32) = W1 := ⟨_, rfl⟩
 have k1 : Kept w W1 := by rw [← hW1]; exact ((Kept.refl w).alloc _).alloc _
 have hs1 : W1.heap.size = w.heap.size + 2 := by rw [← hW1]; simp
 have hbx : Blk W1 w.heap.size 24 (ndC x (.slice ad x.kids.length ck)).toArray := by rw [← hW1]; exact (Blk.new _ _ _).alloc _
 have hrb : Blk W1 (w.heap.size + 1) 32 #[.int .i64 0, .int .i64 0] := by rw [← hW1]; exact Blk.at (by simp)
 have HSZ := Lib.hid (size_c x ad ck W1 hok (KidsD.kept hk k1) hcnt)
 have HBX := Lib.hid hbx
 have HRB := Lib.hid hrb
 have HK1 := Lib.hid k1
 have HS1 := Lib.hid hs1
 have HW1 := Lib.hid hW1
 have HOK := Lib.hid hok
 have HC := Lib.hid hcnt
 have HT := Lib.hid hT
 have HKD := Lib.hid hk
 clear hW1 k1 hs1 hbx hrb hok hk hT
 refine (callsIn_wide (n := 3)).1 (callsIn_of_wp_marks Tryz.func16 rfl trivial (wpIn_wide.2 ?_) rfl)
 simp only [Tryz.ntmps16, List.size_toArray, List.length_cons, List.length_nil, Nat.reduceAdd, Nat.reduceSub, Array.replicate_succ, Array.replicate_zero, List.push_toArray, List.append_toArray, List.nil_append, List.cons_append]
 go_wp2_with fail
 go_step3
 go_wp2_with fail
 rw [HW1.out]
 refine HSZ.out.mono ?_
 rintro e w3 ⟨rfl, k3⟩
 clear HSZ HW1
 obtain ⟨se, hse⟩ : ∃ se, (sizeE x).1 = se := ⟨_, rfl⟩
 obtain ⟨sa, hsa⟩ : ∃ sa, (sizeE x).2 = sa := ⟨_, rfl⟩
 have HSE := Lib.hid hse
 have HSA := Lib.hid hsa
 rw [hse, hsa]
 clear hse hsa
 obtain ⟨W4, hW4⟩ : ∃ W4, w3.alloc (.cells #[.int .i64 se, .int .i64 sa] 32) = W4 := ⟨_, rfl⟩
 have k4 : Kept w3 W4 := by rw [← hW4]; exact (Kept.refl w3).alloc _
 have hfb : Blk W4 w3.heap.size 32 #[.int .i64 se, .int .i64 sa] := by rw [← hW4]; exact Blk.new _ _ _
 have hs4 : W4.heap.size = w3.heap.size + 1 := by rw [← hW4]; simp
 have hz3 : w.heap.size + 2 ≤ w3.heap.size := by have := k3.size; have := HS1.out; omega
 have HK4 := Lib.hid (HK1.out.trans (k3.trans k4))
 have HRB4 := Lib.hid (HRB.out.kept (k3.trans k4))
 have HBX4 := Lib.hid (HBX.out.kept (k3.trans k4))
 have HFB := Lib.hid hfb
 have HS4 := Lib.hid hs4
 have HZ3 := Lib.hid hz3
 have HW4 := Lib.hid hW4
 have q0 := hfb.cell 0
 have q1 := hfb.cell 1
 have r0 := HRB4.out.cell 0
 have r1 := HRB4.out.cell 1
 have rf0 := HRB4.out.frozen 0
 have rf1 := HRB4.out.frozen 1
 simp only [List.getElem?_toArray, List.getElem?_cons_succ, List.getElem?_cons_zero] at q0 q1 r0 r1
 clear hW4 k4 k3 hfb hs4 hz3 HRB HBX
 by_cases hse0 : se = 0
 ·have hsz0 : sizeE x = (0, 0) := sizeE_zero (by rw [HSE.out, hse0])
  have HCE := Lib.hid (show checkE x = chkF 0 (x.all 0) by unfold checkE; rw [if_neg (by rw [HSE.out, hse0]; simp)])
  obtain rfl : sa = 0 := by rw [← HSA.out, hsz0]
  subst hse0
  have HND := Lib.hid (needs_c W4)
  clear hsz0 HSE HSA
  go_wp2_with fail
  rw [HW4.out]
  refine HND.out.mono ?_
  rintro e w5 ⟨ta, tc, rfl, hnd, k5⟩
  obtain ⟨W6, hW6⟩ : ∃ W6, w5.alloc (.cells #[.slice ta needsT.length tc] 56) = W6 := ⟨_, rfl⟩
  have k6 : Kept w5 W6 := by rw [← hW6]; exact (Kept.refl w5).alloc _
  have htb : Blk W6 w5.heap.size 56 #[.slice ta needsT.length tc] := by rw [← hW6]; exact Blk.new _ _ _
  have hs6 : W6.heap.size = w5.heap.size + 1 := by rw [← hW6]; simp
  have hz5 := k5.size
  obtain ⟨W7, hW7⟩ : ∃ W7, W6.alloc (.cells (ndC x (.slice ad x.kids.length ck)).toArray 24) = W7 := ⟨_, rfl⟩
  have k7 : Kept W6 W7 := by rw [← hW7]; exact (Kept.refl W6).alloc _
  have hs7 : W7.heap.size = w5.heap.size + 2 := by rw [← hW7]; simp [hs6]
  have hbn : Blk W7 W6.heap.size 24 (ndC x (.slice ad x.kids.length ck)).toArray := by rw [← hW7]; exact Blk.new _ _ _
  have hbx6 := HBX4.out.kept (k5.trans k6)
  obtain ⟨g0, g1, g2, g3, g4, g5⟩ : W6.cell? ⟨w.heap.size, 0, none⟩ = some (.int .i64 x.kind) ∧ W6.cell? ⟨w.heap.size, 1, none⟩ = some (.string x.text) ∧ W6.cell? ⟨w.heap.size, 2, none⟩ = some (.string x.typ) ∧ W6.cell? ⟨w.heap.size, 3, none⟩ = some (.string x.frm) ∧ W6.cell? ⟨w.heap.size, 4, none⟩ = some (.int .i64 x.n) ∧ W6.cell? ⟨w.heap.size, 5, none⟩ = some (.slice ad x.kids.length ck) :=
   ⟨hbx6.cell 0, hbx6.cell 1, hbx6.cell 2, hbx6.cell 3, hbx6.cell 4, hbx6.cell 5⟩
  have HN := Lib.hid (nodes_c x ad ck W6)
  rw [hW7] at HN
  have HKB := Lib.hid ((k5.trans k6).trans k7)
  have HKW := Lib.hid (HK4.out.trans HKB.out)
  have HTB := Lib.hid (htb.kept k7)
  have HND7 := Lib.hid (NeedsR.kept hnd (k6.trans k7))
  have HB7 := Lib.hid hbn
  have HSS := Lib.hid (show w.heap.size + 2 ≤ w3.heap.size ∧ W4.heap.size = w3.heap.size + 1 ∧ W4.heap.size ≤ w5.heap.size ∧ W6.heap.size = w5.heap.size + 1 ∧ W7.heap.size = w5.heap.size + 2 from ⟨HZ3.out, HS4.out, hz5, hs6, hs7⟩)
  have HKK := Lib.hid (fun W k => box_kids (W := W) HKD.out k)
  have HI0 := Lib.hid (show ckI x W7 w3.heap.size [] W7 (fun k => k = w3.heap.size) from ⟨rfl, Kept.refl _, ⟨List.nil_prefix, fun i it h => by simp at h⟩, fun i p h => by simp at h⟩)
  have HW6 := Lib.hid hW6
  clear HND hW6 hW7 k5 k6 k7 htb hs6 hs7 hz5 hbn hbx6 hnd q0 q1 r0 r1 rf0 rf1
  go_wp2_with (rw [HW6.out])
  go_step3
  go_wp2_with fail
  refine HN.out.mono ?_
  rintro e w7 ⟨rfl, rfl⟩
  clear HN HW6 g0 g1 g2 g3 g4 g5
  go_wp2_with fail
  refine wpIn_wide.1 (wpIn_rangeFunc_ownO (F := Fence.wide) (n := 3) rfl (by omega) (gf := 43) (lb := #[.pointer (some ⟨W6.heap.size, 0, none⟩)]) rfl trivial (enters_of Tryz.func43 (by kernel_rfl) rfl)
   (encs := encN) (S := itAll x) (Sp := itOk x) (G := itG x w7.heap.size) (b0 := w.heap.size) (fun k => k = w3.heap.size) (fun k hk => by have := HSS.out; omega)
   (fun Wq hkq hsq => nodes1_o (3 - 1) (by omega) x ad ck W6.heap.size w.heap.size w7.heap.size Wq (HB7.out.kept hkq) HOK.out (HKK.out Wq (HKW.out.trans hkq)) (by omega) (by have := HSS.out; omega) HC.out)
   (fun s A B O h k => h.stay k) (fun _ => rfl) (ckI x w7 w3.heap.size) (ckX x w (w.heap.size + 1) w3.heap.size) (fun s A B O h k => h.stay k (by omega)) (fun c s A B h k => h.stay k (by have := HSS.out; omega) (by have := HSS.out; omega) (by have := HSS.out; omega)) HI0.out
   (fun i W => { tmps := #[ndV x (.slice ad x.kids.length ck), .pointer (some ⟨w.heap.size, 0, none⟩), .pointer (some ⟨w.heap.size + 1, 0, none⟩), .pointer (some ⟨w3.heap.size, 0, none⟩), .pointer (some ⟨w5.heap.size, 0, none⟩), .pointer (some ⟨W.heap.size, 0, none⟩), .pointer (some ⟨i.2.1.1, i.2.1.2, none⟩), undef, ndV x (.slice ad x.kids.length ck), .agg #[.int .i64 0, .int .i64 0], .pointer (some ⟨w3.heap.size, 0, none⟩), .int .i64 0, .bool false, undef, .slice ta needsT.length tc, ndV x (.slice ad x.kids.length ck), .func (.func 43) #[] #[.pointer (some ⟨W6.heap.size, 0, none⟩)], .agg #[.int .i64 i.1.1, .int .i64 i.1.2], .pointer (some ⟨i.2.1.1, i.2.1.2, none⟩), undef, undef, undef, undef, undef, undef, undef, undef, undef, undef, undef, undef, undef, undef, undef, undef, undef, undef, undef, undef, undef, undef, undef], defers := [] })
   (fun i W => W.alloc (.cells #[.int .i64 i.1.1, .int .i64 i.1.2] 62)) (fun i W => (Kept.refl W).alloc _) ?assign ?body ?done ?stop)
  case assign =>
   intro lr i W K hK
   gi_wp2
   first | exact hK | simpa using hK
  case body =>
   intro lr pre i W0 W O hlr hl0 hob hOl hI hG hsz
   obtain ⟨hO, hI1, hI2, hI3⟩ := hI
   subst hO
   obtain ⟨D, hnd, hDO, hDl⟩ := hG.2 pre i rfl
   have hb5 : Blk W W0.heap.size 62 #[.int .i64 i.1.1, .int .i64 i.1.2] := (Blk.new W0 _ _).only hob (by omega)
   have hat : i.1.1 = pre.length := hG.1.2 pre.length i (by simp)
   obtain ⟨y, hy⟩ : ∃ y, i.2.2 = y := ⟨_, rfl⟩
   have hpl : pre.length + 1 ≤ x.count ∧ i.2.2 ∈ (x.all 0).map (·.2) := by
    have h1 := hG.1.1.length_le
    rw [List.length_map, Nd.count_all, List.length_append] at h1
    exact ⟨by simpa using h1, List.mem_map.2 ⟨plN i, hG.1.1.subset (by simp), rfl⟩⟩
   have hkl : i.2.2.kids.length ≤ 1000000000000 := by
    have h1 := all_kids x 0 _ hpl.2
    have := HC.out
    omega
   have hall := hG.1.1
   obtain ⟨rest, hrest⟩ := hall
   have hce : checkE x = chkF pre.length ((i.1.2, i.2.2) :: rest) := by
    rw [HCE.out, ← hrest, List.map_append, List.append_assoc, chkF_app _ 0 _ hI3, List.length_map, Nat.zero_add]; rfl
   have HNC := Lib.hid (fun Wz (k : Kept W Wz) => node_c i.2.1.1 i.2.1.2 i.2.2 ta tc Wz (HT.out.kept (HKW.out.trans (hI1.trans k))) (hnd.at.kept k) (NeedsR.kept HND7.out (hI1.trans k)) hkl)
   rw [hat] at hb5
   rw [hy] at HNC hce hnd
   have hgs : ¬ (pre.length = 0 ∧ y.kind ≠ 1) → nodeE y = 0 → goodC 0 ((pre ++ [i]).map plN) := fun h1 h2 => by
    rw [List.map_append, List.map_singleton]
    exact goodC_snoc hI3 (by rw [List.length_map]; show ¬ (pre.length = 0 ∧ i.2.2.kind ≠ 1); rw [hy]; exact h1) (by show nodeE i.2.2 = 0; rw [hy]; exact h2)
   obtain ⟨_, _, ⟨n0, _⟩, _⟩ := hnd.cells
   have t0 := (HTB.out.kept hI1).cell 0
   have p0 := hb5.cell 0
   have p1 := hb5.cell 1
   have f0 := (HFB.out.kept (HKB.out.trans hI1))
   have fz0 := f0.frozen 0
   have fz1 := f0.frozen 1
   have fc0 := f0.cell 0
   have fc1 := f0.cell 1
   simp only [List.getElem?_toArray, List.getElem?_cons_succ, List.getElem?_cons_zero] at t0 p0 p1 fc0 fc1
   have HP5 := Lib.hid hb5
   have HF0 := Lib.hid f0
   have HR0 := Lib.hid (HRB4.out.kept (HKB.out.trans hI1))
   have HII := Lib.hid hI1
   have HOK2 := Lib.hid hG.1
   have HGS := Lib.hid hgs
   have HCC := Lib.hid hce
   have hzz : w3.heap.size < W0.heap.size ∧ w.heap.size + 1 < w3.heap.size ∧ w5.heap.size < W0.heap.size ∧ w3.heap.size < w5.heap.size := by have := HSS.out; omega
   have hz1 : w3.heap.size < W0.heap.size := hzz.1
   clear hI1 hI2 hI3 hG hob HI0 hb5 f0 hgs hce hrest hpl hkl hat hnd hDO hDl
   gi_wp2
   refine ⟨trivial, (callsIn_wide.2 (HNC.out _ (Kept.refl _))).mono ?_⟩
   rintro e w8 ⟨rfl, k8⟩
   have n0 := k8.cell n0
   have p0 := k8.cell p0
   have p1 := k8.cell p1
   have fc0 := k8.cell fc0
   have fc1 := k8.cell fc1
   have fz0 := (HF0.out.kept k8).frozen 0
   have fz1 := (HF0.out.kept k8).frozen 1
   by_cases hg1 : pre.length = 0 ∧ y.kind ≠ 1
   ·have hc1 : checkE x = (5, 0) := by rw [HCC.out, chkF, if_pos hg1]
    have hb0 : ((pre.length : Int) == 0) = true := by simp; exact List.length_eq_zero_iff.1 hg1.1
    have hb1 : (y.kind != 1) = true := by simp [hg1.2]
    clear hg1
    have HX := Lib.hid (show ckX x w (w.heap.size + 1) w3.heap.size (.exit 0) (pre ++ [i]) ((w8.setCell ⟨w3.heap.size, 0, none⟩ (.int .i64 5)).setCell ⟨w3.heap.size, 1, none⟩ (.int .i64 0)) from
     ⟨rfl, (HR0.out.kept k8).only (put2_only w8 w3.heap.size _ _) (by omega), by rw [hc1]; exact put2_blk (HF0.out.kept k8), (HKW.out.trans (HII.out.trans k8)).only (put2_only w8 w3.heap.size _ _) rfl (fun k hk => by omega)⟩)
    have HO := Lib.hid (show Only (fun k => (k = w3.heap.size) ∨ W0.heap.size ≤ k) W ((w8.setCell ⟨w3.heap.size, 0, none⟩ (.int .i64 5)).setCell ⟨w3.heap.size, 1, none⟩ (.int .i64 0)) from (Only.of_kept k8).trans ((put2_only w8 w3.heap.size _ _).mono fun k _ h => .inl h))
    clear hzz k8 HNC HGS HCC
    gi_wp2
    exact ⟨HO.out, HX.out⟩
   ·by_cases he0 : nodeE y = 0
    ·have heb : (nodeE y != 0) = false := by simp [he0]
     by_cases hp0 : pre.length = 0
     ·have hk1 : y.kind = 1 := Classical.byContradiction fun h => hg1 ⟨hp0, h⟩
      have hb0 : ((pre.length : Int) == 0) = true := by rw [hp0]; rfl
      have hb1 : (y.kind != 1) = false := by simp [hk1]
      clear hk1 hp0
      have HR := Lib.hid (show ckI x w7 w3.heap.size (pre ++ [i]) w8 (fun k => k = w3.heap.size) from ⟨rfl, HII.out.trans k8, HOK2.out, HGS.out hg1 he0⟩)
      have HO := Lib.hid (show Only (fun k => (k = w3.heap.size) ∨ W0.heap.size ≤ k) W w8 from Only.of_kept k8)
      clear hzz k8 HNC HGS HCC he0 hg1
      gi_wp2
      exact ⟨HO.out, _, fun k hk => .inl hk, HR.out⟩
     ·have hb0 : ((pre.length : Int) == 0) = false := by simp; intro h; exact hp0 (by rw [h]; rfl)
      clear hp0
      have HR := Lib.hid (show ckI x w7 w3.heap.size (pre ++ [i]) w8 (fun k => k = w3.heap.size) from ⟨rfl, HII.out.trans k8, HOK2.out, HGS.out hg1 he0⟩)
      have HO := Lib.hid (show Only (fun k => (k = w3.heap.size) ∨ W0.heap.size ≤ k) W w8 from Only.of_kept k8)
      clear hzz k8 HNC HGS HCC he0 hg1
      gi_wp2
      exact ⟨HO.out, _, fun k hk => .inl hk, HR.out⟩
    ·have heb : (nodeE y != 0) = true := by simp [he0]
     have hc2 : checkE x = (nodeE y, (pre.length : Int)) := by rw [HCC.out, chkF, if_neg hg1, if_pos he0]
     clear he0
     by_cases hp0 : pre.length = 0
     ·have hk1 : y.kind = 1 := Classical.byContradiction fun h => hg1 ⟨hp0, h⟩
      have hb0 : ((pre.length : Int) == 0) = true := by rw [hp0]; rfl
      have hb1 : (y.kind != 1) = false := by simp [hk1]
      clear hk1 hp0
      have HX := Lib.hid (show ckX x w (w.heap.size + 1) w3.heap.size (.exit 0) (pre ++ [i]) ((w8.setCell ⟨w3.heap.size, 0, none⟩ (.int .i64 (nodeE y))).setCell ⟨w3.heap.size, 1, none⟩ (.int .i64 (pre.length : Int))) from
       ⟨rfl, (HR0.out.kept k8).only (put2_only w8 w3.heap.size _ _) (by omega), by rw [hc2]; exact put2_blk (HF0.out.kept k8), (HKW.out.trans (HII.out.trans k8)).only (put2_only w8 w3.heap.size _ _) rfl (fun k hk => by omega)⟩)
      have HO := Lib.hid (show Only (fun k => (k = w3.heap.size) ∨ W0.heap.size ≤ k) W ((w8.setCell ⟨w3.heap.size, 0, none⟩ (.int .i64 (nodeE y))).setCell ⟨w3.heap.size, 1, none⟩ (.int .i64 (pre.length : Int))) from (Only.of_kept k8).trans ((put2_only w8 w3.heap.size _ _).mono fun k _ h => .inl h))
      clear hzz k8 HNC HGS HCC
      gi_wp2
      exact ⟨HO.out, HX.out⟩
     ·have hb0 : ((pre.length : Int) == 0) = false := by simp; intro h; exact hp0 (by rw [h]; rfl)
      clear hp0
      have HX := Lib.hid (show ckX x w (w.heap.size + 1) w3.heap.size (.exit 0) (pre ++ [i]) ((w8.setCell ⟨w3.heap.size, 0, none⟩ (.int .i64 (nodeE y))).setCell ⟨w3.heap.size, 1, none⟩ (.int .i64 (pre.length : Int))) from
       ⟨rfl, (HR0.out.kept k8).only (put2_only w8 w3.heap.size _ _) (by omega), by rw [hc2]; exact put2_blk (HF0.out.kept k8), (HKW.out.trans (HII.out.trans k8)).only (put2_only w8 w3.heap.size _ _) rfl (fun k hk => by omega)⟩)
      have HO := Lib.hid (show Only (fun k => (k = w3.heap.size) ∨ W0.heap.size ≤ k) W ((w8.setCell ⟨w3.heap.size, 0, none⟩ (.int .i64 (nodeE y))).setCell ⟨w3.heap.size, 1, none⟩ (.int .i64 (pre.length : Int))) from (Only.of_kept k8).trans ((put2_only w8 w3.heap.size _ _).mono fun k _ h => .inl h))
      clear hzz k8 HNC HGS HCC
      gi_wp2
      exact ⟨HO.out, HX.out⟩
  case done =>
   rintro D xs W O hD hS ⟨hO, hI1, hI2, hI3⟩ hK
   subst hO
   have hce : checkE x = (0, 0) := by
    rw [HCE.out, ← hS.1]
    have := chkF_app (xs.map plN) 0 [] hI3
    rw [List.append_nil] at this
    rw [this]; rfl
   have h1 := HRB4.out.kept (HKB.out.trans hI1)
   have h2 := HFB.out.kept (HKB.out.trans hI1)
   have c0 := h2.cell 0
   have c1 := h2.cell 1
   obtain ⟨f0, f1⟩ := (⟨h1.frozen 0, h1.frozen 1⟩ : W.frozen? ⟨w.heap.size + 1, 0, none⟩ = false ∧ W.frozen? ⟨w.heap.size + 1, 1, none⟩ = false)
   have e0 := h1.cell 0
   have e1 := h1.cell 1
   simp only [List.getElem?_toArray, List.getElem?_cons_succ, List.getElem?_cons_zero] at c0 c1 e0 e1
   have hss := HSS.out
   have ho3 := put2_only W (w.heap.size + 1) (.int .i64 0) (.int .i64 0)
   have hK2 := ho3.same hK (by omega)
   have hd : Only (· = D) ((W.setCell ⟨w.heap.size + 1, 0, none⟩ (.int .i64 0)).setCell ⟨w.heap.size + 1, 1, none⟩ (.int .i64 0)) (((W.setCell ⟨w.heap.size + 1, 0, none⟩ (.int .i64 0)).setCell ⟨w.heap.size + 1, 1, none⟩ (.int .i64 0)).putObj D (.deferred none)) := (Only.refl (· = D) _).putObj (.inl rfl) _
   have HB := Lib.hid ((put2_blk (u := .int .i64 0) (v := .int .i64 0) h1).only hd (by omega))
   have HZ := Lib.hid (((HKW.out.trans hI1).only ho3 rfl (fun k hk => by omega)).only hd rfl (fun k hk => by omega))
   have HK2 := Lib.hid hK2
   have HCV := Lib.hid hce
   clear hI1 hI2 hI3 h1 h2 ho3 hK hK2 hd hD hS hce hss
   go_wp2_with fail
   rw [Exit.noGoto_ret]
   refine ⟨by simp, .inl ⟨_, _, rfl, run_takeDeferred HK2.out, ?_⟩⟩
   exact ⟨_, fault_results (by rfl) _ _ rfl HB.out, by rw [HCV.out], HZ.out⟩
  case stop =>
   rintro D cd pre W hD hpre ⟨rfl, h1, h2, h3⟩ hK
   obtain ⟨ce, hce⟩ : ∃ ce, (checkE x).1 = ce := ⟨_, rfl⟩
   obtain ⟨ca, hca⟩ : ∃ ca, (checkE x).2 = ca := ⟨_, rfl⟩
   rw [hce, hca] at h2
   have c0 := h2.cell 0
   have c1 := h2.cell 1
   obtain ⟨f0, f1⟩ := (⟨h1.frozen 0, h1.frozen 1⟩ : W.frozen? ⟨w.heap.size + 1, 0, none⟩ = false ∧ W.frozen? ⟨w.heap.size + 1, 1, none⟩ = false)
   have e0 := h1.cell 0
   have e1 := h1.cell 1
   simp only [List.getElem?_toArray, List.getElem?_cons_succ, List.getElem?_cons_zero] at c0 c1 e0 e1
   have hss := HSS.out
   have ho3 := put2_only W (w.heap.size + 1) (.int .i64 ce) (.int .i64 ca)
   have hK2 := ho3.same hK (by omega)
   have hd : Only (· = D) ((W.setCell ⟨w.heap.size + 1, 0, none⟩ (.int .i64 ce)).setCell ⟨w.heap.size + 1, 1, none⟩ (.int .i64 ca)) (((W.setCell ⟨w.heap.size + 1, 0, none⟩ (.int .i64 ce)).setCell ⟨w.heap.size + 1, 1, none⟩ (.int .i64 ca)).putObj D (.deferred none)) := (Only.refl (· = D) _).putObj (.inl rfl) _
   have HB := Lib.hid ((put2_blk (u := .int .i64 ce) (v := .int .i64 ca) h1).only hd (by omega))
   have HZ := Lib.hid ((h3.only ho3 rfl (fun k hk => by omega)).only hd rfl (fun k hk => by omega))
   have HK2 := Lib.hid hK2
   have HCV := Lib.hid (And.intro hce hca)
   clear h1 h2 h3 ho3 hK hK2 hd hD hce hca hss
   gi_wp2
   go_wp2_with fail
   rw [Exit.noGoto_ret]
   refine ⟨by simp, .inl ⟨_, _, rfl, run_takeDeferred HK2.out, ?_⟩⟩
   exact ⟨_, fault_results (by rfl) _ _ rfl HB.out, by rw [HCV.out.1, HCV.out.2], HZ.out⟩
 ·have HCV := Lib.hid (show checkE x = sizeE x by unfold checkE; rw [if_pos (by rw [HSE.out]; exact hse0)])
  have hsb : (se != 0) = true := by simp [hse0]
  have HB := Lib.hid (put2_blk (u := .int .i64 se) (v := .int .i64 sa) HRB4.out)
  have HZ := Lib.hid (HK4.out.only (put2_only W4 (w.heap.size + 1) (.int .i64 se) (.int .i64 sa)) rfl (fun k hk => by omega))
  clear hse0
  go_wp2_with (rw [HW4.out])
  rw [Exit.noGoto_ret]
  refine ⟨_, fault_results (by rfl) _ _ rfl HB.out, by rw [HCV.out, HSE.out, HSA.out], HZ.out⟩
/-- Kids, part by part. -/
inductive Seg : List Pt → List Nd → Prop
 | nil : Seg [] []
 | cons (p : Pt) (ps : List Pt) (s l : List Nd) (h : ∀ y ∈ s, y.kind ∈ p.kinds) (h1 : p.cnt ≤ (s.length : Int)) (h2 : (s.length : Int) ≤ p.cnt + p.more) (hl : Seg ps l) : Seg (p :: ps) (s ++ l)
theorem takeWhile_len_take {α : Type} (q : α → Bool) : ∀ l : List α, l.take (l.takeWhile q).length = l.takeWhile q
 | [] => rfl
 | x :: r => by
  rw [List.takeWhile_cons]
  cases h : q x with
  | true => simp [takeWhile_len_take q r]
  | false => simp
theorem mem_takeWhile {α : Type} {q : α → Bool} : ∀ {l : List α} {y : α}, y ∈ l.takeWhile q → q y = true
 | [], y, h => by simp at h
 | x :: r, y, h => by
  rw [List.takeWhile_cons] at h
  cases hx : q x with
  | true =>
   rw [hx] at h
   simp at h
   rcases h with rfl | h
   ·exact hx
   ·exact mem_takeWhile h
  | false => rw [hx] at h; simp at h
theorem kSize_mem {l : List Nd} {p : Pt} {f : Nat} : ∀ y ∈ (l.drop f).take (kSize l p f), y.kind ∈ p.kinds := by
 intro y hy
 unfold kSize Nd.lead at hy
 generalize kTo l.length p f - f = c at hy
 generalize l.drop f = m at hy
 have h1 := takeWhile_len_take (fun y : Nd => decide (y.kind ∈ p.kinds)) (m.take c)
 have h2 : m.take ((m.take c).takeWhile fun y => decide (y.kind ∈ p.kinds)).length = (m.take c).take ((m.take c).takeWhile fun y => decide (y.kind ∈ p.kinds)).length := by
  rw [List.take_take]
  congr 1
  have := (List.takeWhile_prefix (l := m.take c) fun y : Nd => decide (y.kind ∈ p.kinds)).length_le
  rw [List.length_take] at this
  omega
 rw [h2, h1] at hy
 have hy := mem_takeWhile hy
 exact of_decide_eq_true hy
theorem kRun_seg (l : List Nd) : ∀ (ps : List Pt) (f : Nat) (e : Int) (f' : Nat), f ≤ l.length → kRun l ps (e, f) = some (0, f') → e = 0 ∧ f' ≤ l.length ∧ ∃ m, Seg ps m ∧ l.drop f = m ++ l.drop f'
 | [], f, e, f', hf, h => by
  rw [kRun] at h
  injection h with h
  injection h with h1 h2
  subst h1 h2
  exact ⟨rfl, hf, [], .nil, rfl⟩
 | p :: ps, f, e, f', hf, h => by
  rw [kRun] at h
  by_cases hc : (kSize l p f : Int) < p.cnt
  ·have : kStep l p (e, f) = none := by unfold kStep; rw [if_pos hc]
   rw [this] at h; cases h
  ·have : kStep l p (e, f) = some (if p.cnt + p.more < (kSize l p f : Int) then 12 else e, f + kSize l p f) := by unfold kStep; rw [if_neg hc]
   rw [this] at h
   have hle := kSize_le (p := p) hf
   obtain ⟨h1, h2, m, h3, h4⟩ := kRun_seg l ps _ _ _ hle h
   have hq : ¬ p.cnt + p.more < (kSize l p f : Int) := fun hq => by rw [if_pos hq] at h1; cases h1
   rw [if_neg hq] at h1
   have hlen : ((l.drop f).take (kSize l p f)).length = kSize l p f := by rw [List.length_take, List.length_drop]; omega
   refine ⟨h1, h2, _, .cons p ps ((l.drop f).take (kSize l p f)) m kSize_mem (by rw [hlen]; omega) (by rw [hlen]; omega) h3, ?_⟩
   rw [List.append_assoc, ← h4, ← List.drop_drop, List.take_append_drop]
theorem kids_seg {l : List Nd} {ps : List Pt} (h : kidsE l ps = 0) : Seg ps l := by
 unfold kidsE at h
 cases hr : kRun l ps (0, 0) with
 | none => rw [hr] at h; cases h
 | some st =>
  obtain ⟨e, f⟩ := st
  rw [hr, kEnd] at h
  by_cases hf : f < l.length
  ·rw [if_pos hf] at h; cases h
  ·rw [if_neg hf] at h
   subst h
   obtain ⟨_, h2, m, h3, h4⟩ := kRun_seg l ps 0 0 f (Nat.zero_le _) hr
   rw [List.drop_zero, List.drop_of_length_le (by omega), List.append_nil] at h4
   rw [h4]; exact h3
theorem seg_nil {l : List Nd} (h : Seg [] l) : l = [] := by cases h; rfl
theorem seg_cons {p : Pt} {ps : List Pt} {l : List Nd} (h : Seg (p :: ps) l) : ∃ s m, l = s ++ m ∧ (∀ y ∈ s, y.kind ∈ p.kinds) ∧ p.cnt ≤ (s.length : Int) ∧ (s.length : Int) ≤ p.cnt + p.more ∧ Seg ps m := by
 cases h with
 | cons _ _ s m h h1 h2 hl => exact ⟨s, m, rfl, h, h1, h2, hl⟩
def Ex (y : Nd) : Prop := y.kind ∈ exprK
theorem seg_one {k : List Int} {ps : List Pt} {l : List Nd} (h : Seg (⟨k, 1, 0⟩ :: ps) l) : ∃ a m, l = a :: m ∧ a.kind ∈ k ∧ Seg ps m := by
 obtain ⟨s, m, rfl, h, h1, h2, h3⟩ := seg_cons h
 have h1 : (1 : Int) ≤ (s.length : Int) := h1
 have h2 : (s.length : Int) ≤ 1 + 0 := h2
 obtain ⟨a, rfl⟩ := List.length_eq_one_iff.1 (show s.length = 1 by omega)
 exact ⟨a, m, rfl, h a (by simp), h3⟩
theorem seg_two {k : List Int} {l : List Nd} (h : Seg [⟨k, 2, 0⟩] l) : ∃ a b, l = [a, b] ∧ a.kind ∈ k ∧ b.kind ∈ k := by
 obtain ⟨s, m, rfl, h, h1, h2, h3⟩ := seg_cons h
 have h1 : (2 : Int) ≤ (s.length : Int) := h1
 have h2 : (s.length : Int) ≤ 2 + 0 := h2
 rw [seg_nil h3, List.append_nil]
 match s, h1, h2, h with
 | [a, b], _, _, h => exact ⟨a, b, rfl, h a (by simp), h b (by simp)⟩
 | [], h1, _, _ => simp at h1
 | [_], h1, _, _ => simp at h1
 | _ :: _ :: _ :: _, _, h2, _ => simp at h2; omega
theorem seg_args {k : List Int} {n : Int} {l : List Nd} (h : Seg [⟨k, 0, n⟩] l) : (∀ y ∈ l, y.kind ∈ k) ∧ (l.length : Int) ≤ n := by
 obtain ⟨s, m, rfl, h, h1, h2, h3⟩ := seg_cons h
 have h2 : (s.length : Int) ≤ 0 + n := h2
 rw [seg_nil h3, List.append_nil]
 exact ⟨h, by omega⟩
/-- A node that is well-formed, kind by kind. -/
inductive Sh : Nd → Prop
 | prog (cs : List Nd) (b : Nd) (h1 : ∀ c ∈ cs, c.kind = 2) (h2 : b.kind = 6) : Sh (.mk 1 ⟨#[]⟩ ⟨#[]⟩ ⟨#[]⟩ 0 (cs ++ [b]))
 | clas (t y : ByteArray) (fs ms : List Nd) (ht : Wrd.cls t = true) (hy : y = ⟨#[]⟩ ∨ Wrd.cls y = true) (h1 : ∀ c ∈ fs, c.kind = 3) (h2 : ∀ c ∈ ms, c.kind = 4) : Sh (.mk 2 t y ⟨#[]⟩ 0 (fs ++ ms))
 | field (t y : ByteArray) (ht : Wrd.name t = true) (hy : Wrd.typ y = true) : Sh (.mk 3 t y ⟨#[]⟩ 0 [])
 | method (t y : ByteArray) (ps : List Nd) (b : Nd) (ht : Wrd.name t = true) (hy : Wrd.typ y = true) (h1 : ∀ c ∈ ps, c.kind = 5) (h2 : b.kind = 6) : Sh (.mk 4 t y ⟨#[]⟩ 0 (ps ++ [b]))
 | param (t y : ByteArray) (ht : Wrd.name t = true) (hy : Wrd.typ y = true) : Sh (.mk 5 t y ⟨#[]⟩ 0 [])
 | block (l : List Nd) (h : ∀ c ∈ l, Ex c ∨ c.kind = 15) : Sh (.mk 6 ⟨#[]⟩ ⟨#[]⟩ ⟨#[]⟩ 0 l)
 | int (n : Int) (h : 0 ≤ n ∧ n ≤ 9223372036854775807) : Sh (.mk 7 ⟨#[]⟩ ⟨#[]⟩ ⟨#[]⟩ n [])
 | real (n : Int) (h : 0 ≤ n ∧ n ≤ 9007199254740992) : Sh (.mk 8 ⟨#[]⟩ ⟨#[]⟩ ⟨#[]⟩ n [])
 | noNum (t : ByteArray) (h : t = ⟨#[110, 97, 110]⟩ ∨ t = ⟨#[105, 110, 102]⟩) : Sh (.mk 8 t ⟨#[]⟩ ⟨#[]⟩ 0 [])
 | bool (n : Int) (h : n = 0 ∨ n = 1) : Sh (.mk 9 ⟨#[]⟩ ⟨#[]⟩ ⟨#[]⟩ n [])
 | str (t : ByteArray) (h : contsB t = true) (hs : t.size ≤ 1000) : Sh (.mk 10 t ⟨#[]⟩ ⟨#[]⟩ 0 [])
 | unit : Sh (.mk 11 ⟨#[]⟩ ⟨#[]⟩ ⟨#[]⟩ 0 [])
 | none (y : ByteArray) (hy : Wrd.cls y = true) : Sh (.mk 12 ⟨#[]⟩ y ⟨#[]⟩ 0 [])
 | this : Sh (.mk 13 ⟨#[]⟩ ⟨#[]⟩ ⟨#[]⟩ 0 [])
 | var (t : ByteArray) (ht : Wrd.name t = true) : Sh (.mk 14 t ⟨#[]⟩ ⟨#[]⟩ 0 [])
 | let_ (t y : ByteArray) (a : Nd) (ht : Wrd.name t = true) (hy : Wrd.typ y = true) (h : Ex a) : Sh (.mk 15 t y ⟨#[]⟩ 0 [a])
 | set (t : ByteArray) (a : Nd) (ht : Wrd.name t = true) (h : Ex a) : Sh (.mk 16 t ⟨#[]⟩ ⟨#[]⟩ 0 [a])
 | get (t : ByteArray) (a : Nd) (ht : Wrd.name t = true) (h : Ex a) : Sh (.mk 17 t ⟨#[]⟩ ⟨#[]⟩ 0 [a])
 | put (t : ByteArray) (a b : Nd) (ht : Wrd.name t = true) (h : Ex a) (h2 : Ex b) : Sh (.mk 18 t ⟨#[]⟩ ⟨#[]⟩ 0 [a, b])
 | call (t : ByteArray) (a : Nd) (l : List Nd) (ht : Wrd.name t = true) (h : Ex a) (hl : ∀ c ∈ l, Ex c) : Sh (.mk 19 t ⟨#[]⟩ ⟨#[]⟩ 0 (a :: l))
 | super (t : ByteArray) (l : List Nd) (ht : Wrd.name t = true) (hl : ∀ c ∈ l, Ex c) : Sh (.mk 20 t ⟨#[]⟩ ⟨#[]⟩ 0 l)
 | new (y : ByteArray) (l : List Nd) (hy : Wrd.cls y = true) (hl : ∀ c ∈ l, Ex c) : Sh (.mk 21 ⟨#[]⟩ y ⟨#[]⟩ 0 l)
 | cond (a b c : Nd) (h : Ex a) (h1 : b.kind = 6) (h2 : c.kind = 6) : Sh (.mk 22 ⟨#[]⟩ ⟨#[]⟩ ⟨#[]⟩ 0 [a, b, c])
 | loop (a b : Nd) (h : Ex a) (h1 : b.kind = 6) : Sh (.mk 23 ⟨#[]⟩ ⟨#[]⟩ ⟨#[]⟩ 0 [a, b])
 | un (t : ByteArray) (a : Nd) (ht : t = ⟨#[45]⟩ ∨ t = ⟨#[33]⟩) (h : Ex a) : Sh (.mk 24 t ⟨#[]⟩ ⟨#[]⟩ 0 [a])
 | bin (t : ByteArray) (a b : Nd) (ht : hasW wBin t = true) (h : Ex a) (h2 : Ex b) : Sh (.mk 25 t ⟨#[]⟩ ⟨#[]⟩ 0 [a, b])
 | read : Sh (.mk 26 ⟨#[]⟩ ⟨#[]⟩ ⟨#[]⟩ 0 [])
 | print (a : Nd) (h : Ex a) : Sh (.mk 27 ⟨#[]⟩ ⟨#[]⟩ ⟨#[]⟩ 0 [a])
 | as_ (y : ByteArray) (a : Nd) (hy : Wrd.typ y = true) (h : Ex a) : Sh (.mk 28 ⟨#[]⟩ y ⟨#[]⟩ 0 [a])
 | conv (t : ByteArray) (a : Nd) (ht : t = ⟨#[114, 101, 97, 108]⟩ ∨ t = ⟨#[105, 110, 116]⟩ ∨ t = ⟨#[108, 101, 110]⟩) (h : Ex a) : Sh (.mk 29 t ⟨#[]⟩ ⟨#[]⟩ 0 [a])
theorem ruleE_zero {nd : Ne} {x : Nd} (h : ruleE nd x = 0) : Seg nd.kids x.kids ∧ formedB nd x = true ∧ namedB nd x = true ∧ (nd.typ = 4 → Wrd.typ x.typ = true) ∧ 0 ≤ x.n ∧ x.n ≤ nd.most ∧ (nd.text = 7 → x.text.size ≤ 1000) := by
 unfold ruleE at h
 split at h
 ·rename_i hk; exact absurd h hk
 ·rename_i hk
  split at h
  ·cases h
  ·rename_i hf
   split at h
   ·cases h
   ·rename_i hn
    split at h
    ·cases h
    ·rename_i ht
     split at h
     ·cases h
     ·rename_i hr
      split at h
      ·cases h
      ·rename_i hl
       refine ⟨kids_seg (by simpa using hk), by simpa using hf, by simpa using hn, fun e => ?_, by omega, by omega, fun e => ?_⟩
       ·cases hq : Wrd.typ x.typ with
        | true => rfl
        | false => exact absurd ⟨e, hq⟩ ht
       ·rcases Nat.lt_or_ge 1000 x.text.size with h | h
        ·exact absurd ⟨e, h⟩ hl
        ·exact h
theorem flds_num : Wrd.flds wNum = [⟨#[110, 97, 110]⟩, ⟨#[105, 110, 102]⟩] := by kernel_rfl
theorem flds_un : Wrd.flds wUn = [⟨#[45]⟩, ⟨#[33]⟩] := by kernel_rfl
theorem flds_conv : Wrd.flds wConv = [⟨#[114, 101, 97, 108]⟩, ⟨#[105, 110, 116]⟩, ⟨#[108, 101, 110]⟩] := by kernel_rfl
theorem flds_bin : Wrd.flds wBin = [⟨#[124, 124]⟩, ⟨#[38, 38]⟩, ⟨#[61, 61]⟩, ⟨#[33, 61]⟩, ⟨#[60]⟩, ⟨#[60, 61]⟩, ⟨#[43]⟩, ⟨#[45]⟩, ⟨#[42]⟩, ⟨#[47]⟩, ⟨#[37]⟩] := by kernel_rfl
theorem has2 {a b t : ByteArray} (h : Wrd.has [a, b] t = true) : t = a ∨ t = b := by
 have h : (decide (a = t) || (decide (b = t) || false)) = true := h
 rw [Bool.or_eq_true, Bool.or_eq_true, decide_eq_true_iff, decide_eq_true_iff] at h
 rcases h with h | h | h
 ·exact .inl h.symm
 ·exact .inr h.symm
 ·cases h
theorem has3 {a b c t : ByteArray} (h : Wrd.has [a, b, c] t = true) : t = a ∨ t = b ∨ t = c := by
 have h : (decide (a = t) || (decide (b = t) || (decide (c = t) || false))) = true := h
 rw [Bool.or_eq_true, Bool.or_eq_true, Bool.or_eq_true, decide_eq_true_iff, decide_eq_true_iff, decide_eq_true_iff] at h
 rcases h with h | h | h | h
 ·exact .inl h.symm
 ·exact .inr (.inl h.symm)
 ·exact .inr (.inr h.symm)
 ·cases h
theorem ent_or {k : Int} (h : k ∈ entK) : k ∈ exprK ∨ k = 15 := by
 unfold entK at h
 rcases List.mem_append.1 h with h | h
 ·exact .inl h
 ·exact .inr (List.mem_singleton.1 h)
theorem isNm3 {s : ByteArray} (h : isNm 3 s = true) : s = ⟨#[]⟩ ∨ Wrd.cls s = true := by
 have h : (decide (s = ⟨#[]⟩) || Wrd.cls s) = true := h
 simpa using h
set_option maxHeartbeats 4000000 in
theorem node_sh {x : Nd} (h : nodeE x = 0) : Sh x := by
 unfold nodeE at h
 split at h
 ·cases h
 ·rename_i hk
  obtain ⟨K, hK⟩ : ∃ K : Nat, K < 30 ∧ x.kind = (K : Int) := ⟨x.kind.toNat, by have : (needsT.length : Int) = 30 := rfl; omega, by omega⟩
  have hp : 0 < K := by omega
  obtain ⟨hK, eK⟩ := hK
  rw [eK, Int.toNat_natCast] at h
  obtain ⟨k, t, y, f, n, ks⟩ := x
  have eK : k = (K : Int) := eK
  subst eK
  have fin : ∀ {nd : Ne}, ruleE nd (.mk K t y f n ks) = 0 → Seg nd.kids ks ∧ textB nd.text nd.words t n = true ∧ isNm nd.text t = true ∧ isNm nd.typ y = true ∧ f = ⟨#[]⟩ ∧ (nd.typ = 0 → y = ⟨#[]⟩) ∧ (¬ 0 < nd.most → n = 0) ∧ (nd.typ = 4 → Wrd.typ y = true) ∧ 0 ≤ n ∧ n ≤ nd.most ∧ (nd.text = 7 → t.size ≤ 1000) := fun {nd} h => by
   obtain ⟨a1, a2, a3, a4, a5, a6, a7⟩ := ruleE_zero h
   have a2 : (textB nd.text nd.words t n && restB nd.typ nd.most f y n) = true := a2
   have a3 : (isNm nd.text t && isNm nd.typ y) = true := a3
   rw [Bool.and_eq_true] at a2 a3
   have b2 := a2.2
   unfold restB at b2
   simp only [Bool.and_eq_true, Bool.or_eq_true, decide_eq_true_eq] at b2
   exact ⟨a1, a2.1, a3.1, a3.2, b2.1.1, fun e => b2.1.2.resolve_left (fun h => h e), fun e => b2.2.resolve_left e, a4, a5, a6, a7⟩
  match K, hK, hp, h with
  | 1, _, _, h =>
   obtain ⟨hs, htx, hnt, hny, hf, hy0, hn0, ht4, h1, h2, h3⟩ := fin (nd := ⟨0, 0, noW, 0, [pUp 40 2, pBlock]⟩) h
   subst hf
   obtain rfl := hy0 rfl
   obtain rfl := hn0 (by decide)
   obtain rfl : t = ⟨#[]⟩ := of_decide_eq_true htx
   obtain ⟨l, m, rfl, hl, _, _, hs⟩ := seg_cons hs
   obtain ⟨b, m, rfl, hb, hs⟩ := seg_one hs
   obtain rfl := seg_nil hs
   have hb := List.mem_singleton.1 hb
   exact .prog l b (fun c hc => List.mem_singleton.1 (hl c hc)) hb
  | 2, _, _, h =>
   obtain ⟨hs, htx, hnt, hny, hf, hy0, hn0, ht4, h1, h2, h3⟩ := fin (nd := ⟨2, 3, noW, 0, [pUp 20 3, pUp 20 4]⟩) h
   subst hf
   obtain rfl := hn0 (by decide)
   obtain ⟨fs, m, rfl, hl, _, _, hs⟩ := seg_cons hs
   have hm := (seg_args hs).1
   exact .clas t y fs m hnt (isNm3 hny) (fun c hc => List.mem_singleton.1 (hl c hc)) (fun c hc => List.mem_singleton.1 (hm c hc))
  | 3, _, _, h =>
   obtain ⟨hs, htx, hnt, hny, hf, hy0, hn0, ht4, h1, h2, h3⟩ := fin (nd := ⟨1, 4, noW, 0, []⟩) h
   subst hf
   obtain rfl := hn0 (by decide)
   obtain rfl := seg_nil hs
   exact .field t y hnt (ht4 rfl)
  | 4, _, _, h =>
   obtain ⟨hs, htx, hnt, hny, hf, hy0, hn0, ht4, h1, h2, h3⟩ := fin (nd := ⟨1, 4, noW, 0, [pUp 8 5, pBlock]⟩) h
   subst hf
   obtain rfl := hn0 (by decide)
   obtain ⟨l, m, rfl, hl, _, _, hs⟩ := seg_cons hs
   obtain ⟨b, m, rfl, hb, hs⟩ := seg_one hs
   obtain rfl := seg_nil hs
   have hb := List.mem_singleton.1 hb
   exact .method t y l b hnt (ht4 rfl) (fun c hc => List.mem_singleton.1 (hl c hc)) hb
  | 5, _, _, h =>
   obtain ⟨hs, htx, hnt, hny, hf, hy0, hn0, ht4, h1, h2, h3⟩ := fin (nd := ⟨1, 4, noW, 0, []⟩) h
   subst hf
   obtain rfl := hn0 (by decide)
   obtain rfl := seg_nil hs
   exact .param t y hnt (ht4 rfl)
  | 6, _, _, h =>
   obtain ⟨hs, htx, hnt, hny, hf, hy0, hn0, ht4, h1, h2, h3⟩ := fin (nd := ⟨0, 0, noW, 0, [pEnt]⟩) h
   subst hf
   obtain rfl := hy0 rfl
   obtain rfl := hn0 (by decide)
   obtain rfl : t = ⟨#[]⟩ := of_decide_eq_true htx
   have hl := (seg_args hs).1
   exact .block ks (fun c hc => ent_or (hl c hc))
  | 7, _, _, h =>
   obtain ⟨hs, htx, hnt, hny, hf, hy0, hn0, ht4, h1, h2, h3⟩ := fin (nd := ⟨0, 0, noW, 9223372036854775807, []⟩) h
   subst hf
   obtain rfl := hy0 rfl
   obtain rfl : t = ⟨#[]⟩ := of_decide_eq_true htx
   obtain rfl := seg_nil hs
   exact .int n ⟨h1, h2⟩
  | 8, _, _, h =>
   obtain ⟨hs, htx, hnt, hny, hf, hy0, hn0, ht4, h1, h2, h3⟩ := fin (nd := ⟨6, 0, wNum, 9007199254740992, []⟩) h
   subst hf
   obtain rfl := hy0 rfl
   obtain rfl := seg_nil hs
   have htx : (decide (t = ⟨#[]⟩) || (decide (n = 0) && hasW wNum t)) = true := htx
   rw [Bool.or_eq_true, Bool.and_eq_true, decide_eq_true_iff, decide_eq_true_iff] at htx
   rcases htx with rfl | ⟨rfl, ht⟩
   ·exact .real n ⟨h1, h2⟩
   ·exact .noNum t (has2 (by rw [← flds_num]; exact ht))
  | 9, _, _, h =>
   obtain ⟨hs, htx, hnt, hny, hf, hy0, hn0, ht4, h1, h2, h3⟩ := fin (nd := ⟨0, 0, noW, 1, []⟩) h
   subst hf
   obtain rfl := hy0 rfl
   obtain rfl : t = ⟨#[]⟩ := of_decide_eq_true htx
   obtain rfl := seg_nil hs
   exact .bool n (by have h2 : n ≤ 1 := h2; omega)
  | 10, _, _, h =>
   obtain ⟨hs, htx, hnt, hny, hf, hy0, hn0, ht4, h1, h2, h3⟩ := fin (nd := ⟨7, 0, noW, 0, []⟩) h
   subst hf
   obtain rfl := hy0 rfl
   obtain rfl := hn0 (by decide)
   obtain rfl := seg_nil hs
   exact .str t htx (h3 rfl)
  | 11, _, _, h =>
   obtain ⟨hs, htx, hnt, hny, hf, hy0, hn0, ht4, h1, h2, h3⟩ := fin (nd := ⟨0, 0, noW, 0, []⟩) h
   subst hf
   obtain rfl := hy0 rfl
   obtain rfl := hn0 (by decide)
   obtain rfl : t = ⟨#[]⟩ := of_decide_eq_true htx
   obtain rfl := seg_nil hs
   exact .unit
  | 12, _, _, h =>
   obtain ⟨hs, htx, hnt, hny, hf, hy0, hn0, ht4, h1, h2, h3⟩ := fin (nd := ⟨0, 2, noW, 0, []⟩) h
   subst hf
   obtain rfl := hn0 (by decide)
   obtain rfl : t = ⟨#[]⟩ := of_decide_eq_true htx
   obtain rfl := seg_nil hs
   exact .none y hny
  | 13, _, _, h =>
   obtain ⟨hs, htx, hnt, hny, hf, hy0, hn0, ht4, h1, h2, h3⟩ := fin (nd := ⟨0, 0, noW, 0, []⟩) h
   subst hf
   obtain rfl := hy0 rfl
   obtain rfl := hn0 (by decide)
   obtain rfl : t = ⟨#[]⟩ := of_decide_eq_true htx
   obtain rfl := seg_nil hs
   exact .this
  | 14, _, _, h =>
   obtain ⟨hs, htx, hnt, hny, hf, hy0, hn0, ht4, h1, h2, h3⟩ := fin (nd := ⟨1, 0, noW, 0, []⟩) h
   subst hf
   obtain rfl := hy0 rfl
   obtain rfl := hn0 (by decide)
   obtain rfl := seg_nil hs
   exact .var t hnt
  | 15, _, _, h =>
   obtain ⟨hs, htx, hnt, hny, hf, hy0, hn0, ht4, h1, h2, h3⟩ := fin (nd := ⟨1, 4, noW, 0, [pOne]⟩) h
   subst hf
   obtain rfl := hn0 (by decide)
   obtain ⟨a, m, rfl, ha, hs⟩ := seg_one hs
   obtain rfl := seg_nil hs
   exact .let_ t y a hnt (ht4 rfl) ha
  | 16, _, _, h =>
   obtain ⟨hs, htx, hnt, hny, hf, hy0, hn0, ht4, h1, h2, h3⟩ := fin (nd := ⟨1, 0, noW, 0, [pOne]⟩) h
   subst hf
   obtain rfl := hy0 rfl
   obtain rfl := hn0 (by decide)
   obtain ⟨a, m, rfl, ha, hs⟩ := seg_one hs
   obtain rfl := seg_nil hs
   exact .set t a hnt ha
  | 17, _, _, h =>
   obtain ⟨hs, htx, hnt, hny, hf, hy0, hn0, ht4, h1, h2, h3⟩ := fin (nd := ⟨1, 0, noW, 0, [pOne]⟩) h
   subst hf
   obtain rfl := hy0 rfl
   obtain rfl := hn0 (by decide)
   obtain ⟨a, m, rfl, ha, hs⟩ := seg_one hs
   obtain rfl := seg_nil hs
   exact .get t a hnt ha
  | 18, _, _, h =>
   obtain ⟨hs, htx, hnt, hny, hf, hy0, hn0, ht4, h1, h2, h3⟩ := fin (nd := ⟨1, 0, noW, 0, [pTwo]⟩) h
   subst hf
   obtain rfl := hy0 rfl
   obtain rfl := hn0 (by decide)
   obtain ⟨a, b, rfl, ha, hb⟩ := seg_two hs
   exact .put t a b hnt ha hb
  | 19, _, _, h =>
   obtain ⟨hs, htx, hnt, hny, hf, hy0, hn0, ht4, h1, h2, h3⟩ := fin (nd := ⟨1, 0, noW, 0, [pOne, pArgs]⟩) h
   subst hf
   obtain rfl := hy0 rfl
   obtain rfl := hn0 (by decide)
   obtain ⟨a, l, rfl, ha, hs⟩ := seg_one hs
   have hl := (seg_args hs).1
   exact .call t a l hnt ha hl
  | 20, _, _, h =>
   obtain ⟨hs, htx, hnt, hny, hf, hy0, hn0, ht4, h1, h2, h3⟩ := fin (nd := ⟨1, 0, noW, 0, [pArgs]⟩) h
   subst hf
   obtain rfl := hy0 rfl
   obtain rfl := hn0 (by decide)
   have hl := (seg_args hs).1
   exact .super t ks hnt hl
  | 21, _, _, h =>
   obtain ⟨hs, htx, hnt, hny, hf, hy0, hn0, ht4, h1, h2, h3⟩ := fin (nd := ⟨0, 2, noW, 0, [pArgs]⟩) h
   subst hf
   obtain rfl := hn0 (by decide)
   obtain rfl : t = ⟨#[]⟩ := of_decide_eq_true htx
   have hl := (seg_args hs).1
   exact .new y ks hny hl
  | 22, _, _, h =>
   obtain ⟨hs, htx, hnt, hny, hf, hy0, hn0, ht4, h1, h2, h3⟩ := fin (nd := ⟨0, 0, noW, 0, [pOne, pBlock, pBlock]⟩) h
   subst hf
   obtain rfl := hy0 rfl
   obtain rfl := hn0 (by decide)
   obtain rfl : t = ⟨#[]⟩ := of_decide_eq_true htx
   obtain ⟨a, m, rfl, ha, hs⟩ := seg_one hs
   obtain ⟨b, m, rfl, hb, hs⟩ := seg_one hs
   obtain ⟨c, m, rfl, hc, hs⟩ := seg_one hs
   obtain rfl := seg_nil hs
   have hb := List.mem_singleton.1 hb
   have hc := List.mem_singleton.1 hc
   exact .cond a b c ha hb hc
  | 23, _, _, h =>
   obtain ⟨hs, htx, hnt, hny, hf, hy0, hn0, ht4, h1, h2, h3⟩ := fin (nd := ⟨0, 0, noW, 0, [pOne, pBlock]⟩) h
   subst hf
   obtain rfl := hy0 rfl
   obtain rfl := hn0 (by decide)
   obtain rfl : t = ⟨#[]⟩ := of_decide_eq_true htx
   obtain ⟨a, m, rfl, ha, hs⟩ := seg_one hs
   obtain ⟨b, m, rfl, hb, hs⟩ := seg_one hs
   obtain rfl := seg_nil hs
   have hb := List.mem_singleton.1 hb
   exact .loop a b ha hb
  | 24, _, _, h =>
   obtain ⟨hs, htx, hnt, hny, hf, hy0, hn0, ht4, h1, h2, h3⟩ := fin (nd := ⟨5, 0, wUn, 0, [pOne]⟩) h
   subst hf
   obtain rfl := hy0 rfl
   obtain rfl := hn0 (by decide)
   obtain ⟨a, m, rfl, ha, hs⟩ := seg_one hs
   obtain rfl := seg_nil hs
   exact .un t a (has2 (by rw [← flds_un]; exact htx)) ha
  | 25, _, _, h =>
   obtain ⟨hs, htx, hnt, hny, hf, hy0, hn0, ht4, h1, h2, h3⟩ := fin (nd := ⟨5, 0, wBin, 0, [pTwo]⟩) h
   subst hf
   obtain rfl := hy0 rfl
   obtain rfl := hn0 (by decide)
   obtain ⟨a, b, rfl, ha, hb⟩ := seg_two hs
   exact .bin t a b htx ha hb
  | 26, _, _, h =>
   obtain ⟨hs, htx, hnt, hny, hf, hy0, hn0, ht4, h1, h2, h3⟩ := fin (nd := ⟨0, 0, noW, 0, []⟩) h
   subst hf
   obtain rfl := hy0 rfl
   obtain rfl := hn0 (by decide)
   obtain rfl : t = ⟨#[]⟩ := of_decide_eq_true htx
   obtain rfl := seg_nil hs
   exact .read
  | 27, _, _, h =>
   obtain ⟨hs, htx, hnt, hny, hf, hy0, hn0, ht4, h1, h2, h3⟩ := fin (nd := ⟨0, 0, noW, 0, [pOne]⟩) h
   subst hf
   obtain rfl := hy0 rfl
   obtain rfl := hn0 (by decide)
   obtain rfl : t = ⟨#[]⟩ := of_decide_eq_true htx
   obtain ⟨a, m, rfl, ha, hs⟩ := seg_one hs
   obtain rfl := seg_nil hs
   exact .print a ha
  | 28, _, _, h =>
   obtain ⟨hs, htx, hnt, hny, hf, hy0, hn0, ht4, h1, h2, h3⟩ := fin (nd := ⟨0, 4, noW, 0, [pOne]⟩) h
   subst hf
   obtain rfl := hn0 (by decide)
   obtain rfl : t = ⟨#[]⟩ := of_decide_eq_true htx
   obtain ⟨a, m, rfl, ha, hs⟩ := seg_one hs
   obtain rfl := seg_nil hs
   exact .as_ y a (ht4 rfl) ha
  | 29, _, _, h =>
   obtain ⟨hs, htx, hnt, hny, hf, hy0, hn0, ht4, h1, h2, h3⟩ := fin (nd := ⟨5, 0, wConv, 0, [pOne]⟩) h
   subst hf
   obtain rfl := hy0 rfl
   obtain rfl := hn0 (by decide)
   obtain ⟨a, m, rfl, ha, hs⟩ := seg_one hs
   obtain rfl := seg_nil hs
   exact .conv t a (has3 (by rw [← flds_conv]; exact htx)) ha
  | K + 30, hK, _, _ => omega
/-- All nodes are well-formed. -/
inductive Wf : Nd → Prop
 | mk (x : Nd) (h : Sh x) (hk : ∀ y ∈ x.kids, Wf y) : Wf x
theorem Wf.sh {x : Nd} (h : Wf x) : Sh x := by cases h; assumption
theorem Wf.kid {x y : Nd} (h : Wf x) (hy : y ∈ x.kids) : Wf y := by cases h with | mk _ _ hk => exact hk y hy
namespace Pr
open Ps (kDot kOpen kShut kEq kComma kSemi kLeft kRight kColon nd e0 kAny)
/-! ### Lists -/
/-! ### Types -/
theorem cls_not {y : ByteArray} (h : Wrd.cls y = true) : isBase y = false ∧ y ≠ kAny := by
 constructor
 ·cases hb : isBase y with
  | false => rfl
  | true =>
   exfalso
   unfold isBase at hb
   simp only [Bool.or_eq_true, decide_eq_true_eq] at hb
   rcases hb with (((rfl | rfl) | rfl) | rfl) | rfl <;> exact absurd h (by decide)
 ·rintro rfl; exact absurd h (by decide)
theorem typT_cls {y : ByteArray} (h : Wrd.cls y = true) : typT y = tk 2 y 0 := by
 unfold typT
 rw [(cls_not h).1, if_neg (by decide), if_neg (cls_not h).2]
theorem typ_three {y : ByteArray} (h : Wrd.typ y = true) : isBase y = true ∨ y = kAny ∨ Wrd.cls y = true := by
 unfold Wrd.typ Wrd.kind at h
 by_cases h1 : Wrd.base y = true
 ·left
  unfold Wrd.base Wrd.has Wrd.bs at h1
  unfold isBase
  simp only [List.any_cons, List.any_nil, Bool.or_eq_true, decide_eq_true_eq, Bool.or_false] at h1 ⊢
  rcases h1 with h | h | h | h | h <;> simp [← h]
 ·rw [if_neg h1] at h
  by_cases h2 : y = ⟨#[63]⟩
  ·exact .inr (.inl h2)
  ·rw [if_neg h2] at h
   by_cases h3 : Wrd.cls y = true
   ·exact .inr (.inr h3)
   ·rw [if_neg h3] at h; cases h
/-! ### Expressions -/
/-! ### Blocks -/
/-! ### What is of something -/
end Pr
namespace Pr
open Ps (kDot kOpen kShut kEq kComma kSemi kLeft kRight kColon nd e0 kAny)
/-! ### Classes, and the whole -/
end Pr
end Go.Proofs.YtfpklgffdniegaaGreatDoor
