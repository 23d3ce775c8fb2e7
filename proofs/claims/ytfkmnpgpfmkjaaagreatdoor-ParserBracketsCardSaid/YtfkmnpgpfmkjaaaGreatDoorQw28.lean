/- Check: the first fault of a tree. -/
import Derived.Test.YtfkmnpgpfmkjaaaGreatDoorQNds
import Derived.Test.YtfkmnpgpfmkjaaaGreatDoorQy25
import Derived.Test.YtfkmnpgpfmkjaaaGreatDoorQw27
import Derived.Test.YtfkmnpgpfmkjaaaGreatDoorQw3
set_option linter.unusedSimpArgs false
set_option linter.unusedVariables false
set_option maxRecDepth 100000
namespace Go.Proofs.YtfkmnpgpfmkjaaaGreatDoor
open Go.ChangeShapes Go.WideShapes Go.ChangeAt Go.RowKit Go.Shelf
attribute [local go_sem] Oper.semAt_some
/-- The first node, from place k on, that is not well-formed, or is no program at place 0. -/
def chkF : Nat → List (Nat × Nd) → Int × Int
 | _, [] => (0, 0)
 | k, p :: r => if k = 0 ∧ p.2.kind ≠ 1 then (5, 0) else if nodeE p.2 ≠ 0 then (nodeE p.2, (k : Int)) else chkF (k + 1) r
/-- What Check tells. -/
def checkE (x : Nd) : Int × Int := if (sizeE x).1 ≠ 0 then sizeE x else chkF 0 (x.all 0)
/-- None of these is at fault. -/
def goodC (k : Nat) (l : List (Nat × Nd)) : Prop := ∀ i p, l[i]? = some p → ¬ (k + i = 0 ∧ p.2.kind ≠ 1) ∧ nodeE p.2 = 0
theorem chkF_app : ∀ (l : List (Nat × Nd)) (k : Nat) (m : List (Nat × Nd)), goodC k l → chkF k (l ++ m) = chkF (k + l.length) m
 | [], k, m, _ => by simp
 | p :: r, k, m, h => by
  have h0 := h 0 p rfl
  rw [List.cons_append, chkF, if_neg (by simpa using h0.1), if_neg (by simp [h0.2]), chkF_app r (k + 1) m (fun i q hq => by have := h (i + 1) q (by simpa using hq); rw [show k + 1 + i = k + (i + 1) by omega]; exact this), List.length_cons, show k + 1 + r.length = k + (r.length + 1) by omega]
theorem goodC_snoc {l : List (Nat × Nd)} {p : Nat × Nd} (h : goodC 0 l) (h1 : ¬ (l.length = 0 ∧ p.2.kind ≠ 1)) (h2 : nodeE p.2 = 0) : goodC 0 (l ++ [p]) := fun i q hq => by
 rw [List.getElem?_append] at hq
 split at hq
 ·exact h i q hq
 ·have hi : i - l.length = 0 := by
   have := (List.getElem?_eq_some_iff.1 hq).1
   simp at this; omega
  rw [hi] at hq
  simp at hq
  subst hq
  exact ⟨by rw [Nat.zero_add, show i = l.length by omega]; exact h1, h2⟩
theorem deepF_zero : ∀ (l : List (Nat × Nd)) (k : Nat), (deepF k l).1 = 0 → deepF k l = (0, 0)
 | [], k, _ => rfl
 | p :: r, k, h => by
  rw [deepF] at h ⊢
  split at h
  ·cases h
  ·rename_i hp; rw [if_neg hp]; exact deepF_zero r (k + 1) h
theorem sizeE_zero {x : Nd} (h : (sizeE x).1 = 0) : sizeE x = (0, 0) := by
 unfold sizeE at h ⊢
 split at h
 ·cases h
 ·rename_i hp; rw [if_neg hp]; exact deepF_zero _ _ h
def ckI (x : Nd) (wb : World) (fb : Nat) (pre : List ItN) (W : World) (O : Nat → Prop) : Prop := (O = fun k => k = fb) ∧ Kept wb W ∧ itOk x pre ∧ goodC 0 (pre.map plN)
def ckX (x : Nd) (w : World) (rb fb : Nat) (c : Code) (pre : List ItN) (W : World) : Prop :=
 c = .exit 0 ∧ Blk W rb 36 #[.int .i64 0, .int .i64 0] ∧ Blk W fb 36 #[.int .i64 (checkE x).1, .int .i64 (checkE x).2] ∧ Kept w W
theorem ckI.stay {x : Nd} {wb : World} {fb n : Nat} {pre : List ItN} {A B : World} {O : Nat → Prop} (h : ckI x wb fb pre A O) (k : Only (fun k => n ≤ k ∧ ¬ O k) A B) (hn : wb.heap.size ≤ n) : ckI x wb fb pre B O := by
 obtain ⟨h1, h2, h3, h4⟩ := h
 exact ⟨h1, h2.only k rfl (fun k h => by have := h.1; omega), h3, h4⟩
theorem ckX.stay {x : Nd} {w : World} {rb fb : Nat} {c : Code} {n : Nat} {pre : List ItN} {A B : World} (h : ckX x w rb fb c pre A) (k : Only (fun k => n ≤ k ∧ k < n + 2) A B) (hr : rb < n) (hf : fb < n) (hn : w.heap.size ≤ n) : ckX x w rb fb c pre B := by
 obtain ⟨h1, h2, h3, h4⟩ := h
 exact ⟨h1, h2.only k (fun h => by omega), h3.only k (fun h => by omega), h4.only k rfl (fun k h => by omega)⟩
/-- The two stores into a block of a fault. -/
theorem put2_blk {W : World} {g : Nat} {t : TypeId} {a b u v : Value} (h : Blk W g t #[a, b]) : Blk ((W.setCell ⟨g, 0, none⟩ u).setCell ⟨g, 1, none⟩ v) g t #[u, v] := by
 have := (h.put 0 u).put 1 v
 simpa using this
theorem put2_only (W : World) (g : Nat) (u v : Value) : Only (· = g) W ((W.setCell ⟨g, 0, none⟩ u).setCell ⟨g, 1, none⟩ v) := ((Only.refl _ W).put 0 u).put 1 v
/-- A node of a tree has no more kids than the tree has nodes. -/
theorem all_count (x : Nd) : ∀ a, ∀ p ∈ x.all a, p.2.count ≤ x.count := by
 refine Nd.ind (P := fun x => ∀ a, ∀ p ∈ x.all a, p.2.count ≤ x.count) (fun x ih a p hp => ?_) x
 rw [Nd.all_eq] at hp
 rcases List.mem_cons.1 hp with rfl | hp
 ·exact Nat.le_refl _
 ·have : ∀ (l : List Nd) (a : Nat), (∀ y ∈ l, ∀ a, ∀ p ∈ y.all a, p.2.count ≤ y.count) → ∀ p ∈ Nd.allL l a, p.2.count ≤ Nd.countL l := by
   intro l
   induction l with
   | nil => intro a _ p hp; rw [Nd.allL_nil] at hp; cases hp
   | cons y r ihr =>
    intro a h p hp
    rw [Nd.allL_cons] at hp
    rw [Nd.countL_cons]
    rcases List.mem_append.1 hp with hp | hp
    ·have := h y (by simp) a p hp; omega
    ·have := ihr a (fun z hz => h z (List.mem_cons_of_mem _ hz)) p hp; omega
  have := this x.kids (a + 1) ih p hp
  rw [Nd.count_eq x]; omega
theorem all_kids (x : Nd) (a : Nat) (y : Nd) (h : y ∈ (x.all a).map (·.2)) : y.kids.length ≤ x.count := by
 obtain ⟨p, hp, rfl⟩ := List.mem_map.1 h
 have h1 := all_count x a p hp
 have h2 := Nd.count_eq p.2
 have h3 := Nd.len_le_countL p.2.kids
 omega
set_option maxHeartbeats 16000000 in
theorem check_c (x : Nd) (ad : Option Addr) (ck : Nat) (w : World) (hT : Tb w) (hok : x.ok1) (hk : KidsAt w (.slice ad x.kids.length ck) x.kids) (hcnt : x.count ≤ 1000000000) :
  Calls Tryz.prog 20 #[ndV x (.slice ad x.kids.length ck)] w fun e w' => e = .returned (.agg #[.int .i64 (checkE x).1, .int .i64 (checkE x).2]) ∧ Kept w w' := by
 obtain ⟨W1, hW1⟩ : ∃ W1, (w.alloc (.cells #[.int .i64 x.kind, .string x.text, .string x.typ, .string x.frm, .int .i64 x.n, .slice ad x.kids.length ck] 25)).alloc (.cells #[.int .i64 0, .int .i64 0] 36) = W1 := ⟨_, rfl⟩
 have k1 : Kept w W1 := by rw [← hW1]; exact ((Kept.refl w).alloc _).alloc _
 have hs1 : W1.heap.size = w.heap.size + 2 := by rw [← hW1]; simp
 have hbx : Blk W1 w.heap.size 25 (ndC x (.slice ad x.kids.length ck)).toArray := by rw [← hW1]; exact (Blk.new _ _ _).alloc _
 have hrb : Blk W1 (w.heap.size + 1) 36 #[.int .i64 0, .int .i64 0] := by rw [← hW1]; exact Blk.at (by simp)
 have HSZ := Lib.hid (size_c x ad ck W1 hok (KidsD.kept hk k1) hcnt)
 have HBX := Lib.hid hbx
 have HRB := Lib.hid hrb
 have HK1 := Lib.hid k1
 have HS1 := Lib.hid hs1
 have HW1 := Lib.hid hW1
 have HOK := Lib.hid hok
 have HC := Lib.hid hcnt
 have HT := Lib.hid hT
 have HKD := Lib.hid hk
 clear hW1 k1 hs1 hbx hrb hok hk hT
 refine (callsIn_wide (n := 3)).1 (callsIn_of_wp_marks Tryz.func20 rfl trivial (wpIn_wide.2 ?_) rfl)
 simp only [Tryz.ntmps20, List.size_toArray, List.length_cons, List.length_nil, Nat.reduceAdd, Nat.reduceSub, Array.replicate_succ, Array.replicate_zero, List.push_toArray, List.append_toArray, List.nil_append, List.cons_append]
 go_wp2_with fail
 go_step3
 go_wp2_with fail
 rw [HW1.out]
 refine HSZ.out.mono ?_
 rintro e w3 ⟨rfl, k3⟩
 clear HSZ HW1
 obtain ⟨se, hse⟩ : ∃ se, (sizeE x).1 = se := ⟨_, rfl⟩
 obtain ⟨sa, hsa⟩ : ∃ sa, (sizeE x).2 = sa := ⟨_, rfl⟩
 have HSE := Lib.hid hse
 have HSA := Lib.hid hsa
 rw [hse, hsa]
 clear hse hsa
 obtain ⟨W4, hW4⟩ : ∃ W4, w3.alloc (.cells #[.int .i64 se, .int .i64 sa] 36) = W4 := ⟨_, rfl⟩
 have k4 : Kept w3 W4 := by rw [← hW4]; exact (Kept.refl w3).alloc _
 have hfb : Blk W4 w3.heap.size 36 #[.int .i64 se, .int .i64 sa] := by rw [← hW4]; exact Blk.new _ _ _
 have hs4 : W4.heap.size = w3.heap.size + 1 := by rw [← hW4]; simp
 have hz3 : w.heap.size + 2 ≤ w3.heap.size := by have := k3.size; have := HS1.out; omega
 have HK4 := Lib.hid (HK1.out.trans (k3.trans k4))
 have HRB4 := Lib.hid (HRB.out.kept (k3.trans k4))
 have HBX4 := Lib.hid (HBX.out.kept (k3.trans k4))
 have HFB := Lib.hid hfb
 have HS4 := Lib.hid hs4
 have HZ3 := Lib.hid hz3
 have HW4 := Lib.hid hW4
 have q0 := hfb.cell 0
 have q1 := hfb.cell 1
 have r0 := HRB4.out.cell 0
 have r1 := HRB4.out.cell 1
 have rf0 := HRB4.out.frozen 0
 have rf1 := HRB4.out.frozen 1
 simp only [List.getElem?_toArray, List.getElem?_cons_succ, List.getElem?_cons_zero] at q0 q1 r0 r1
 clear hW4 k4 k3 hfb hs4 hz3 HRB HBX
 by_cases hse0 : se = 0
 ·have hsz0 : sizeE x = (0, 0) := sizeE_zero (by rw [HSE.out, hse0])
  have HCE := Lib.hid (show checkE x = chkF 0 (x.all 0) by unfold checkE; rw [if_neg (by rw [HSE.out, hse0]; simp)])
  obtain rfl : sa = 0 := by rw [← HSA.out, hsz0]
  subst hse0
  have HND := Lib.hid (needs_c W4)
  clear hsz0 HSE HSA
  go_wp2_with fail
  rw [HW4.out]
  refine HND.out.mono ?_
  rintro e w5 ⟨ta, tc, rfl, hnd, k5⟩
  obtain ⟨W6, hW6⟩ : ∃ W6, w5.alloc (.cells #[.slice ta needsT.length tc] 73) = W6 := ⟨_, rfl⟩
  have k6 : Kept w5 W6 := by rw [← hW6]; exact (Kept.refl w5).alloc _
  have htb : Blk W6 w5.heap.size 73 #[.slice ta needsT.length tc] := by rw [← hW6]; exact Blk.new _ _ _
  have hs6 : W6.heap.size = w5.heap.size + 1 := by rw [← hW6]; simp
  have hz5 := k5.size
  obtain ⟨W7, hW7⟩ : ∃ W7, W6.alloc (.cells (ndC x (.slice ad x.kids.length ck)).toArray 25) = W7 := ⟨_, rfl⟩
  have k7 : Kept W6 W7 := by rw [← hW7]; exact (Kept.refl W6).alloc _
  have hs7 : W7.heap.size = w5.heap.size + 2 := by rw [← hW7]; simp [hs6]
  have hbn : Blk W7 W6.heap.size 25 (ndC x (.slice ad x.kids.length ck)).toArray := by rw [← hW7]; exact Blk.new _ _ _
  have hbx6 := HBX4.out.kept (k5.trans k6)
  obtain ⟨g0, g1, g2, g3, g4, g5⟩ : W6.cell? ⟨w.heap.size, 0, none⟩ = some (.int .i64 x.kind) ∧ W6.cell? ⟨w.heap.size, 1, none⟩ = some (.string x.text) ∧ W6.cell? ⟨w.heap.size, 2, none⟩ = some (.string x.typ) ∧ W6.cell? ⟨w.heap.size, 3, none⟩ = some (.string x.frm) ∧ W6.cell? ⟨w.heap.size, 4, none⟩ = some (.int .i64 x.n) ∧ W6.cell? ⟨w.heap.size, 5, none⟩ = some (.slice ad x.kids.length ck) :=
   ⟨hbx6.cell 0, hbx6.cell 1, hbx6.cell 2, hbx6.cell 3, hbx6.cell 4, hbx6.cell 5⟩
  have HN := Lib.hid (nodes_c x ad ck W6)
  rw [hW7] at HN
  have HKB := Lib.hid ((k5.trans k6).trans k7)
  have HKW := Lib.hid (HK4.out.trans HKB.out)
  have HTB := Lib.hid (htb.kept k7)
  have HND7 := Lib.hid (NeedsR.kept hnd (k6.trans k7))
  have HB7 := Lib.hid hbn
  have HSS := Lib.hid (show w.heap.size + 2 ≤ w3.heap.size ∧ W4.heap.size = w3.heap.size + 1 ∧ W4.heap.size ≤ w5.heap.size ∧ W6.heap.size = w5.heap.size + 1 ∧ W7.heap.size = w5.heap.size + 2 from ⟨HZ3.out, HS4.out, hz5, hs6, hs7⟩)
  have HKK := Lib.hid (fun W k => box_kids (W := W) HKD.out k)
  have HI0 := Lib.hid (show ckI x W7 w3.heap.size [] W7 (fun k => k = w3.heap.size) from ⟨rfl, Kept.refl _, ⟨List.nil_prefix, fun i it h => by simp at h⟩, fun i p h => by simp at h⟩)
  have HW6 := Lib.hid hW6
  clear HND hW6 hW7 k5 k6 k7 htb hs6 hs7 hz5 hbn hbx6 hnd q0 q1 r0 r1 rf0 rf1
  go_wp2_with (rw [HW6.out])
  go_step3
  go_wp2_with fail
  refine HN.out.mono ?_
  rintro e w7 ⟨rfl, rfl⟩
  clear HN HW6 g0 g1 g2 g3 g4 g5
  go_wp2_with fail
  refine wpIn_wide.1 (wpIn_rangeFunc_ownO (F := Fence.wide) (n := 3) rfl (by omega) (gf := 49) (lb := #[.pointer (some ⟨W6.heap.size, 0, none⟩)]) rfl trivial (enters_of Tryz.func49 (by kernel_rfl) rfl)
   (encs := encN) (S := itAll x) (Sp := itOk x) (G := itG x w7.heap.size) (b0 := w.heap.size) (fun k => k = w3.heap.size) (fun k hk => by have := HSS.out; omega)
   (fun Wq hkq hsq => nodes1_o (3 - 1) (by omega) x ad ck W6.heap.size w.heap.size w7.heap.size Wq (HB7.out.kept hkq) HOK.out (HKK.out Wq (HKW.out.trans hkq)) (by omega) (by have := HSS.out; omega) HC.out)
   (fun s A B O h k => h.stay k) (fun _ => rfl) (ckI x w7 w3.heap.size) (ckX x w (w.heap.size + 1) w3.heap.size) (fun s A B O h k => h.stay k (by omega)) (fun c s A B h k => h.stay k (by have := HSS.out; omega) (by have := HSS.out; omega) (by have := HSS.out; omega)) HI0.out
   (fun i W => { tmps := #[ndV x (.slice ad x.kids.length ck), .pointer (some ⟨w.heap.size, 0, none⟩), .pointer (some ⟨w.heap.size + 1, 0, none⟩), .pointer (some ⟨w3.heap.size, 0, none⟩), .pointer (some ⟨w5.heap.size, 0, none⟩), .pointer (some ⟨W.heap.size, 0, none⟩), .pointer (some ⟨i.2.1.1, i.2.1.2, none⟩), undef, ndV x (.slice ad x.kids.length ck), .agg #[.int .i64 0, .int .i64 0], .pointer (some ⟨w3.heap.size, 0, none⟩), .int .i64 0, .bool false, undef, .slice ta needsT.length tc, ndV x (.slice ad x.kids.length ck), .func (.func 49) #[] #[.pointer (some ⟨W6.heap.size, 0, none⟩)], .agg #[.int .i64 i.1.1, .int .i64 i.1.2], .pointer (some ⟨i.2.1.1, i.2.1.2, none⟩), undef, undef, undef, undef, undef, undef, undef, undef, undef, undef, undef, undef, undef, undef, undef, undef, undef, undef, undef, undef, undef, undef, undef], defers := [] })
   (fun i W => W.alloc (.cells #[.int .i64 i.1.1, .int .i64 i.1.2] 79)) (fun i W => (Kept.refl W).alloc _) ?assign ?body ?done ?stop)
  case assign =>
   intro lr i W K hK
   gi_wp2
   first | exact hK | simpa using hK
  case body =>
   intro lr pre i W0 W O hlr hl0 hob hOl hI hG hsz
   obtain ⟨hO, hI1, hI2, hI3⟩ := hI
   subst hO
   obtain ⟨D, hnd, hDO, hDl⟩ := hG.2 pre i rfl
   have hb5 : Blk W W0.heap.size 79 #[.int .i64 i.1.1, .int .i64 i.1.2] := (Blk.new W0 _ _).only hob (by omega)
   have hat : i.1.1 = pre.length := hG.1.2 pre.length i (by simp)
   obtain ⟨y, hy⟩ : ∃ y, i.2.2 = y := ⟨_, rfl⟩
   have hpl : pre.length + 1 ≤ x.count ∧ i.2.2 ∈ (x.all 0).map (·.2) := by
    have h1 := hG.1.1.length_le
    rw [List.length_map, Nd.count_all, List.length_append] at h1
    exact ⟨by simpa using h1, List.mem_map.2 ⟨plN i, hG.1.1.subset (by simp), rfl⟩⟩
   have hkl : i.2.2.kids.length ≤ 1000000000000 := by
    have h1 := all_kids x 0 _ hpl.2
    have := HC.out
    omega
   have hall := hG.1.1
   obtain ⟨rest, hrest⟩ := hall
   have hce : checkE x = chkF pre.length ((i.1.2, i.2.2) :: rest) := by
    rw [HCE.out, ← hrest, List.map_append, List.append_assoc, chkF_app _ 0 _ hI3, List.length_map, Nat.zero_add]; rfl
   have HNC := Lib.hid (fun Wz (k : Kept W Wz) => node_c i.2.1.1 i.2.1.2 i.2.2 ta tc Wz (HT.out.kept (HKW.out.trans (hI1.trans k))) (hnd.at.kept k) (NeedsR.kept HND7.out (hI1.trans k)) hkl)
   rw [hat] at hb5
   rw [hy] at HNC hce hnd
   have hgs : ¬ (pre.length = 0 ∧ y.kind ≠ 1) → nodeE y = 0 → goodC 0 ((pre ++ [i]).map plN) := fun h1 h2 => by
    rw [List.map_append, List.map_singleton]
    exact goodC_snoc hI3 (by rw [List.length_map]; show ¬ (pre.length = 0 ∧ i.2.2.kind ≠ 1); rw [hy]; exact h1) (by show nodeE i.2.2 = 0; rw [hy]; exact h2)
   obtain ⟨_, _, ⟨n0, _⟩, _⟩ := hnd.cells
   have t0 := (HTB.out.kept hI1).cell 0
   have p0 := hb5.cell 0
   have p1 := hb5.cell 1
   have f0 := (HFB.out.kept (HKB.out.trans hI1))
   have fz0 := f0.frozen 0
   have fz1 := f0.frozen 1
   have fc0 := f0.cell 0
   have fc1 := f0.cell 1
   simp only [List.getElem?_toArray, List.getElem?_cons_succ, List.getElem?_cons_zero] at t0 p0 p1 fc0 fc1
   have HP5 := Lib.hid hb5
   have HF0 := Lib.hid f0
   have HR0 := Lib.hid (HRB4.out.kept (HKB.out.trans hI1))
   have HII := Lib.hid hI1
   have HOK2 := Lib.hid hG.1
   have HGS := Lib.hid hgs
   have HCC := Lib.hid hce
   have hzz : w3.heap.size < W0.heap.size ∧ w.heap.size + 1 < w3.heap.size ∧ w5.heap.size < W0.heap.size ∧ w3.heap.size < w5.heap.size := by have := HSS.out; omega
   have hz1 : w3.heap.size < W0.heap.size := hzz.1
   clear hI1 hI2 hI3 hG hob HI0 hb5 f0 hgs hce hrest hpl hkl hat hnd hDO hDl
   gi_wp2
   refine ⟨trivial, (callsIn_wide.2 (HNC.out _ (Kept.refl _))).mono ?_⟩
   rintro e w8 ⟨rfl, k8⟩
   have n0 := k8.cell n0
   have p0 := k8.cell p0
   have p1 := k8.cell p1
   have fc0 := k8.cell fc0
   have fc1 := k8.cell fc1
   have fz0 := (HF0.out.kept k8).frozen 0
   have fz1 := (HF0.out.kept k8).frozen 1
   by_cases hg1 : pre.length = 0 ∧ y.kind ≠ 1
   ·have hc1 : checkE x = (5, 0) := by rw [HCC.out, chkF, if_pos hg1]
    have hb0 : ((pre.length : Int) == 0) = true := by simp; exact List.length_eq_zero_iff.1 hg1.1
    have hb1 : (y.kind != 1) = true := by simp [hg1.2]
    clear hg1
    have HX := Lib.hid (show ckX x w (w.heap.size + 1) w3.heap.size (.exit 0) (pre ++ [i]) ((w8.setCell ⟨w3.heap.size, 0, none⟩ (.int .i64 5)).setCell ⟨w3.heap.size, 1, none⟩ (.int .i64 0)) from
     ⟨rfl, (HR0.out.kept k8).only (put2_only w8 w3.heap.size _ _) (by omega), by rw [hc1]; exact put2_blk (HF0.out.kept k8), (HKW.out.trans (HII.out.trans k8)).only (put2_only w8 w3.heap.size _ _) rfl (fun k hk => by omega)⟩)
    have HO := Lib.hid (show Only (fun k => (k = w3.heap.size) ∨ W0.heap.size ≤ k) W ((w8.setCell ⟨w3.heap.size, 0, none⟩ (.int .i64 5)).setCell ⟨w3.heap.size, 1, none⟩ (.int .i64 0)) from (Only.of_kept k8).trans ((put2_only w8 w3.heap.size _ _).mono fun k _ h => .inl h))
    clear hzz k8 HNC HGS HCC
    gi_wp2
    exact ⟨HO.out, HX.out⟩
   ·by_cases he0 : nodeE y = 0
    ·have heb : (nodeE y != 0) = false := by simp [he0]
     by_cases hp0 : pre.length = 0
     ·have hk1 : y.kind = 1 := Classical.byContradiction fun h => hg1 ⟨hp0, h⟩
      have hb0 : ((pre.length : Int) == 0) = true := by rw [hp0]; rfl
      have hb1 : (y.kind != 1) = false := by simp [hk1]
      clear hk1 hp0
      have HR := Lib.hid (show ckI x w7 w3.heap.size (pre ++ [i]) w8 (fun k => k = w3.heap.size) from ⟨rfl, HII.out.trans k8, HOK2.out, HGS.out hg1 he0⟩)
      have HO := Lib.hid (show Only (fun k => (k = w3.heap.size) ∨ W0.heap.size ≤ k) W w8 from Only.of_kept k8)
      clear hzz k8 HNC HGS HCC he0 hg1
      gi_wp2
      exact ⟨HO.out, _, fun k hk => .inl hk, HR.out⟩
     ·have hb0 : ((pre.length : Int) == 0) = false := by simp; intro h; exact hp0 (by rw [h]; rfl)
      clear hp0
      have HR := Lib.hid (show ckI x w7 w3.heap.size (pre ++ [i]) w8 (fun k => k = w3.heap.size) from ⟨rfl, HII.out.trans k8, HOK2.out, HGS.out hg1 he0⟩)
      have HO := Lib.hid (show Only (fun k => (k = w3.heap.size) ∨ W0.heap.size ≤ k) W w8 from Only.of_kept k8)
      clear hzz k8 HNC HGS HCC he0 hg1
      gi_wp2
      exact ⟨HO.out, _, fun k hk => .inl hk, HR.out⟩
    ·have heb : (nodeE y != 0) = true := by simp [he0]
     have hc2 : checkE x = (nodeE y, (pre.length : Int)) := by rw [HCC.out, chkF, if_neg hg1, if_pos he0]
     clear he0
     by_cases hp0 : pre.length = 0
     ·have hk1 : y.kind = 1 := Classical.byContradiction fun h => hg1 ⟨hp0, h⟩
      have hb0 : ((pre.length : Int) == 0) = true := by rw [hp0]; rfl
      have hb1 : (y.kind != 1) = false := by simp [hk1]
      clear hk1 hp0
      have HX := Lib.hid (show ckX x w (w.heap.size + 1) w3.heap.size (.exit 0) (pre ++ [i]) ((w8.setCell ⟨w3.heap.size, 0, none⟩ (.int .i64 (nodeE y))).setCell ⟨w3.heap.size, 1, none⟩ (.int .i64 (pre.length : Int))) from
       ⟨rfl, (HR0.out.kept k8).only (put2_only w8 w3.heap.size _ _) (by omega), by rw [hc2]; exact put2_blk (HF0.out.kept k8), (HKW.out.trans (HII.out.trans k8)).only (put2_only w8 w3.heap.size _ _) rfl (fun k hk => by omega)⟩)
      have HO := Lib.hid (show Only (fun k => (k = w3.heap.size) ∨ W0.heap.size ≤ k) W ((w8.setCell ⟨w3.heap.size, 0, none⟩ (.int .i64 (nodeE y))).setCell ⟨w3.heap.size, 1, none⟩ (.int .i64 (pre.length : Int))) from (Only.of_kept k8).trans ((put2_only w8 w3.heap.size _ _).mono fun k _ h => .inl h))
      clear hzz k8 HNC HGS HCC
      gi_wp2
      exact ⟨HO.out, HX.out⟩
     ·have hb0 : ((pre.length : Int) == 0) = false := by simp; intro h; exact hp0 (by rw [h]; rfl)
      clear hp0
      have HX := Lib.hid (show ckX x w (w.heap.size + 1) w3.heap.size (.exit 0) (pre ++ [i]) ((w8.setCell ⟨w3.heap.size, 0, none⟩ (.int .i64 (nodeE y))).setCell ⟨w3.heap.size, 1, none⟩ (.int .i64 (pre.length : Int))) from
       ⟨rfl, (HR0.out.kept k8).only (put2_only w8 w3.heap.size _ _) (by omega), by rw [hc2]; exact put2_blk (HF0.out.kept k8), (HKW.out.trans (HII.out.trans k8)).only (put2_only w8 w3.heap.size _ _) rfl (fun k hk => by omega)⟩)
      have HO := Lib.hid (show Only (fun k => (k = w3.heap.size) ∨ W0.heap.size ≤ k) W ((w8.setCell ⟨w3.heap.size, 0, none⟩ (.int .i64 (nodeE y))).setCell ⟨w3.heap.size, 1, none⟩ (.int .i64 (pre.length : Int))) from (Only.of_kept k8).trans ((put2_only w8 w3.heap.size _ _).mono fun k _ h => .inl h))
      clear hzz k8 HNC HGS HCC
      gi_wp2
      exact ⟨HO.out, HX.out⟩
  case done =>
   rintro D xs W O hD hS ⟨hO, hI1, hI2, hI3⟩ hK
   subst hO
   have hce : checkE x = (0, 0) := by
    rw [HCE.out, ← hS.1]
    have := chkF_app (xs.map plN) 0 [] hI3
    rw [List.append_nil] at this
    rw [this]; rfl
   have h1 := HRB4.out.kept (HKB.out.trans hI1)
   have h2 := HFB.out.kept (HKB.out.trans hI1)
   have c0 := h2.cell 0
   have c1 := h2.cell 1
   obtain ⟨f0, f1⟩ := (⟨h1.frozen 0, h1.frozen 1⟩ : W.frozen? ⟨w.heap.size + 1, 0, none⟩ = false ∧ W.frozen? ⟨w.heap.size + 1, 1, none⟩ = false)
   have e0 := h1.cell 0
   have e1 := h1.cell 1
   simp only [List.getElem?_toArray, List.getElem?_cons_succ, List.getElem?_cons_zero] at c0 c1 e0 e1
   have hss := HSS.out
   have ho3 := put2_only W (w.heap.size + 1) (.int .i64 0) (.int .i64 0)
   have hK2 := ho3.same hK (by omega)
   have hd : Only (· = D) ((W.setCell ⟨w.heap.size + 1, 0, none⟩ (.int .i64 0)).setCell ⟨w.heap.size + 1, 1, none⟩ (.int .i64 0)) (((W.setCell ⟨w.heap.size + 1, 0, none⟩ (.int .i64 0)).setCell ⟨w.heap.size + 1, 1, none⟩ (.int .i64 0)).putObj D (.deferred none)) := (Only.refl (· = D) _).putObj (.inl rfl) _
   have HB := Lib.hid ((put2_blk (u := .int .i64 0) (v := .int .i64 0) h1).only hd (by omega))
   have HZ := Lib.hid (((HKW.out.trans hI1).only ho3 rfl (fun k hk => by omega)).only hd rfl (fun k hk => by omega))
   have HK2 := Lib.hid hK2
   have HCV := Lib.hid hce
   clear hI1 hI2 hI3 h1 h2 ho3 hK hK2 hd hD hS hce hss
   go_wp2_with fail
   rw [Exit.noGoto_ret]
   refine ⟨by simp, .inl ⟨_, _, rfl, run_takeDeferred HK2.out, ?_⟩⟩
   exact ⟨_, fault_results (by rfl) _ _ rfl HB.out, by rw [HCV.out], HZ.out⟩
  case stop =>
   rintro D cd pre W hD hpre ⟨rfl, h1, h2, h3⟩ hK
   obtain ⟨ce, hce⟩ : ∃ ce, (checkE x).1 = ce := ⟨_, rfl⟩
   obtain ⟨ca, hca⟩ : ∃ ca, (checkE x).2 = ca := ⟨_, rfl⟩
   rw [hce, hca] at h2
   have c0 := h2.cell 0
   have c1 := h2.cell 1
   obtain ⟨f0, f1⟩ := (⟨h1.frozen 0, h1.frozen 1⟩ : W.frozen? ⟨w.heap.size + 1, 0, none⟩ = false ∧ W.frozen? ⟨w.heap.size + 1, 1, none⟩ = false)
   have e0 := h1.cell 0
   have e1 := h1.cell 1
   simp only [List.getElem?_toArray, List.getElem?_cons_succ, List.getElem?_cons_zero] at c0 c1 e0 e1
   have hss := HSS.out
   have ho3 := put2_only W (w.heap.size + 1) (.int .i64 ce) (.int .i64 ca)
   have hK2 := ho3.same hK (by omega)
   have hd : Only (· = D) ((W.setCell ⟨w.heap.size + 1, 0, none⟩ (.int .i64 ce)).setCell ⟨w.heap.size + 1, 1, none⟩ (.int .i64 ca)) (((W.setCell ⟨w.heap.size + 1, 0, none⟩ (.int .i64 ce)).setCell ⟨w.heap.size + 1, 1, none⟩ (.int .i64 ca)).putObj D (.deferred none)) := (Only.refl (· = D) _).putObj (.inl rfl) _
   have HB := Lib.hid ((put2_blk (u := .int .i64 ce) (v := .int .i64 ca) h1).only hd (by omega))
   have HZ := Lib.hid ((h3.only ho3 rfl (fun k hk => by omega)).only hd rfl (fun k hk => by omega))
   have HK2 := Lib.hid hK2
   have HCV := Lib.hid (And.intro hce hca)
   clear h1 h2 h3 ho3 hK hK2 hd hD hce hca hss
   gi_wp2
   go_wp2_with fail
   rw [Exit.noGoto_ret]
   refine ⟨by simp, .inl ⟨_, _, rfl, run_takeDeferred HK2.out, ?_⟩⟩
   exact ⟨_, fault_results (by rfl) _ _ rfl HB.out, by rw [HCV.out.1, HCV.out.2], HZ.out⟩
 ·have HCV := Lib.hid (show checkE x = sizeE x by unfold checkE; rw [if_pos (by rw [HSE.out]; exact hse0)])
  have hsb : (se != 0) = true := by simp [hse0]
  have HB := Lib.hid (put2_blk (u := .int .i64 se) (v := .int .i64 sa) HRB4.out)
  have HZ := Lib.hid (HK4.out.only (put2_only W4 (w.heap.size + 1) (.int .i64 se) (.int .i64 sa)) rfl (fun k hk => by omega))
  clear hse0
  go_wp2_with (rw [HW4.out])
  rw [Exit.noGoto_ret]
  refine ⟨_, fault_results (by rfl) _ _ rfl HB.out, by rw [HCV.out, HSE.out, HSA.out], HZ.out⟩
namespace Pr
open Ps (O En Fin run post unary oper expr postLoop lvl is mem levels kDot kOpen kShut kEq kComma kSemi kLeft kRight kColon nd e0 aName aClass kAny)
def ops : List ByteArray := levels 0 ++ levels 1 ++ levels 2 ++ levels 3 ++ levels 4 ++ levels 5
theorem mem_app (a b : List ByteArray) (x : ByteArray) : mem (a ++ b) x = (mem a x || mem b x) := by unfold Ps.mem; rw [List.any_append]
theorem lev_off {x : ByteArray} (h : mem ops x = false) (i : Nat) : mem (levels i) x = false := by
 unfold ops at h
 simp only [mem_app, Bool.or_eq_false_iff] at h
 match i with
 | 0 => exact h.1.1.1.1.1
 | 1 => exact h.1.1.1.1.2
 | 2 => exact h.1.1.1.2
 | 3 => exact h.1.1.2
 | 4 => exact h.1.2
 | 5 => exact h.2
 | n + 6 => rfl
def offs : List ByteArray := kDot :: kOpen :: kEq :: ops
theorem fin_of {j : Nat} {l : List T} (h : mem (kDot :: kOpen :: ops) (Ps.hd l) = false) : Fin j l := by
 rw [Ps.mem_cons, Ps.mem_cons, Bool.or_eq_false_iff, Bool.or_eq_false_iff] at h
 refine ⟨?_, ?_, fun i _ => lev_off h.2.2 i⟩
 ·show mem [kDot] (Ps.hd l) = false
  rw [Ps.mem_cons, h.1]; rfl
 ·show mem [kOpen] (Ps.hd l) = false
  rw [Ps.mem_cons, h.2.1]; rfl
/-- An expression ends ahead of it. -/
def Stp (l : List T) : Prop := Fin 0 l ∧ is [kEq] l = false
theorem stp_of {l : List T} (h : mem offs (Ps.hd l) = false) : Stp l := by
 unfold offs at h
 have h1 := h
 rw [Ps.mem_cons, Ps.mem_cons, Ps.mem_cons, Bool.or_eq_false_iff, Bool.or_eq_false_iff, Bool.or_eq_false_iff] at h1
 refine ⟨fin_of ?_, ?_⟩
 ·rw [Ps.mem_cons, Ps.mem_cons, h1.1, h1.2.1, h1.2.2.2]; rfl
 ·show mem [kEq] (Ps.hd l) = false
  rw [Ps.mem_cons, h1.2.2.1]; rfl
/-! ### Lists -/
/-! ### Types -/
/-! ### Expressions -/
/-! ### Blocks -/
/-! ### What is of something -/
end Pr
end Go.Proofs.YtfkmnpgpfmkjaaaGreatDoor
