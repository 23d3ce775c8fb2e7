/- ConsistGreatest: what the law says of a list of pairs, in plain words; lists of pairs in memory. -/
import Derived.Test.YthooiofaicdhgaaGreatDoorKCgc
import Derived.Test.YthooiofaicdhgaaGreatDoorKRmx
import Derived.Test.YthooiofaicdhgaaGreatDoorKTfr
set_option linter.unusedSimpArgs false
set_option linter.unusedVariables false
set_option maxRecDepth 100000
namespace Go.Proofs.YthooiofaicdhgaaGreatDoor
namespace Tab
theorem pairIn_at {t : List C} (hv : Valid t) {L : List (Nat × Nat)} (hL : ∀ p ∈ L, p.1 < t.length ∧ p.2 < t.length) (s u : ByteArray) : pairIn t L s u = (match at' t s, at' t u with
  | some i, some k => inL L i k
  | _, _ => false) := by
 rw [Bool.eq_iff_iff]
 constructor
 ·intro h
  unfold pairIn at h
  rw [List.any_eq_true] at h
  obtain ⟨p, hp, e⟩ := h
  simp only [Bool.and_eq_true, decide_eq_true_eq] at e
  obtain ⟨h1, h2⟩ := hL p hp
  have e1 : at' t s = some p.1 := by rw [← e.1]; exact hv.find h1
  have e2 : at' t u = some p.2 := by rw [← e.2]; exact hv.find h2
  rw [e1, e2]
  exact decide_eq_true hp
 ·intro h
  cases ea : at' t s with
  | none => rw [ea] at h; cases h
  | some i =>
   cases eb : at' t u with
   | none => rw [ea, eb] at h; cases h
   | some k =>
    rw [ea, eb] at h
    have hp : (i, k) ∈ L := of_decide_eq_true h
    unfold pairIn
    rw [List.any_eq_true]
    refine ⟨(i, k), hp, ?_⟩
    simp only [Bool.and_eq_true, decide_eq_true_eq]
    exact ⟨(at_nth ea).2.symm, (at_nth eb).2.symm⟩
theorem within_goG {t : List C} (ho : ok t = true) {L : List (Nat × Nat)} (hL : ∀ p ∈ L, p.1 < t.length ∧ p.2 < t.length) {s u : ByteArray} (hs : isT t s = true) (hu : isT t u = true) : within t L s u = goG t (inL L) s u := by
 unfold within goG
 rw [pairIn_at (ok_valid ho) hL]
 have e1 : sub t s u = decide (u ∈ up t s) := by unfold sub; rw [ats_true ho hs hu]; rfl
 rw [e1]
 rfl
theorem hasB_mapG {α β : Type} (f : α → β) (L U : List (Mb α)) : hasB (L.map (Mb.map f)) (U.map (Mb.map f)) = hasB L U := by
 unfold hasB
 rw [List.all_map]
 refine all_mem fun m _ => ?_
 show (L.map (Mb.map f)).any _ = _
 rw [List.any_map]
 rfl
theorem closed_hoR {t : List C} (ho : ok t = true) {L : List (Nat × Nat)} {i k : Nat} (hi : i < t.length) (hk : k < t.length) : closed t L i k = hoR (within t L) t (nth t i).name (nth t k).name := by
 have hv := ok_valid ho
 have hs := hv.isC hi
 have hu := hv.isC hk
 have hh : has t (nth t i).name (nth t k).name = hasB (mbs t (nth t i).name) (mbs t (nth t k).name) := by
  unfold has shp
  rw [hs, hu, ho, hasB_mapG]
  rfl
 unfold closed hoR
 rw [hh]
 cases hb : hasB (mbs t (nth t i).name) (mbs t (nth t k).name) with
 | false => rfl
 | true =>
  rw [Bool.true_and, Bool.true_and]
  congr 1
  refine all_mem fun q hq => ?_
  have hB := hasB_iff.1 hb
  obtain ⟨x, hx, ha⟩ := hB (mbM q) (by unfold mbs; exact List.mem_append_right _ (List.mem_map.2 ⟨q, hq, rfl⟩))
  have hl := (alike_mth hv hs hx ha).2
  unfold clM gM
  have e : mth t (nth t i).name q.name = mtD t (nth t i).name q.name := rfl
  rw [e, decide_eq_true hl, Bool.and_true]
  rfl
theorem closed_iff {t : List C} (ho : ok t = true) {L : List (Nat × Nat)} (hL : ∀ p ∈ L, p.1 < t.length ∧ p.2 < t.length) {i k : Nat} (hi : i < t.length) (hk : k < t.length) : closed t L i k = true ↔ hoR (goG t (inL L)) t (nth t i).name (nth t k).name = true := by
 have hv := ok_valid ho
 rw [closed_hoR ho hi hk, hoR_holds hv (hv.isC hi), hoR_holds hv (hv.isC hi)]
 constructor
 ·exact fun h => holds_monoT (T := fun a => isT t a = true) (fun a b ha hb e => by rw [← within_goG ho hL ha hb]; exact e) (mbs_isT hv _) (mbs_isT hv _) h
 ·exact fun h => holds_monoT (T := fun a => isT t a = true) (fun a b ha hb e => by rw [within_goG ho hL ha hb]; exact e) (mbs_isT hv _) (mbs_isT hv _) h
theorem isT_of {t : List C} {s : ByteArray} (h : isC t s = true) : isT t s = true := by unfold isT; rw [h]; simp
theorem goes_at {t : List C} (ho : ok t = true) {i k : Nat} (hi : i < t.length) (hk : k < t.length) : goes t (nth t i).name (nth t k).name = (decide ((nth t k).name ∈ up t (nth t i).name) || inL (gfp (shps t)) i k) := by
 have hv := ok_valid ho
 rw [goG_goes ho (P := inL (gfp (shps t))) (fun _ _ _ _ => rfl) (isT_of (hv.isC hi)) (isT_of (hv.isC hk))]
 unfold goG
 have hd : ∀ j, j < t.length → decide ((nth t j).name = ⟨#[63]⟩) = false := fun j hj => decide_eq_false fun e => by
  have := hv.isC hj
  rw [e, isC_dyn hv] at this
  cases this
 rw [hd i hi, hd k hk, show at' t (nth t i).name = some i from hv.find hi, show at' t (nth t k).name = some k from hv.find hk]
 rfl
/-- All pairs that go are closed. -/
theorem all_closed {t : List C} (ho : ok t = true) {A : List (Nat × Nat)} (hA : ∀ a b, (a, b) ∈ A ↔ (a < t.length ∧ b < t.length) ∧ goes t (nth t a).name (nth t b).name = true) {i k : Nat} (hp : (i, k) ∈ A) (hn : sub t (nth t i).name (nth t k).name = false) : closed t A i k = true := by
 have hv := ok_valid ho
 obtain ⟨⟨hi, hk⟩, hg⟩ := (hA i k).1 hp
 rw [closed_iff ho (fun p hp => ((hA p.1 p.2).1 hp).1) hi hk]
 refine goG_keep hv (fun a b ha hb h => decide_eq_true ((hA a b).2 ⟨⟨ha, hb⟩, ?_⟩)) hi hk ?_
 ·rw [goes_at ho ha hb, h]; simp
 ·rw [goes_at ho hi hk] at hg
  have e1 : sub t (nth t i).name (nth t k).name = decide ((nth t k).name ∈ up t (nth t i).name) := by unfold sub; rw [ats_true ho (isT_of (hv.isC hi)) (isT_of (hv.isC hk))]; rfl
  rw [← e1, hn] at hg
  simpa using hg
/-- What is closed in itself goes. -/
theorem mine_goes {t : List C} (ho : ok t = true) {L : List (Nat × Nat)} (hL : ∀ p ∈ L, p.1 < t.length ∧ p.2 < t.length) (hc : ∀ p ∈ L, closed t L p.1 p.2 = true) {p : Nat × Nat} (hp : p ∈ L) : goes t (nth t p.1).name (nth t p.2).name = true := by
 have hv := ok_valid ho
 obtain ⟨hi, hk⟩ := hL p hp
 rw [goes_at ho hi hk]
 have := goG_end hv (P := inL L) (fun i k hi hk h => .inr ((closed_iff ho hL hi hk).1 (hc (i, k) (of_decide_eq_true h)))) hi hk (decide_eq_true hp)
 rw [this]
 simp
end Tab
open Go.ChangeShapes Go.WideShapes Go.ChangeAt Go.RowKit
/-- A list of pairs of any ints. -/
def PrIAt (w : World) (b o : Nat) (p : Int × Int) : Prop := w.cell? ⟨b, o, none⟩ = some (.int .i64 p.1) ∧ w.cell? ⟨b, o + 1, none⟩ = some (.int .i64 p.2) ∧ (-9223372036854775808 ≤ p.1 ∧ p.1 ≤ 9223372036854775807) ∧ -9223372036854775808 ≤ p.2 ∧ p.2 ≤ 9223372036854775807
abbrev PrsI (w : World) (v : Value) (l : List (Int × Int)) : Prop := Row 2 PrIAt w v l
theorem prsI_kept {w w' : World} {v : Value} {l : List (Int × Int)} (h : PrsI w v l) (k : Kept w w') : PrsI w' v l := h.mono fun _ _ _ r => ⟨k.cell r.1, k.cell r.2.1, r.2.2⟩
def prN (p : Nat × Nat) : List Value := [.int .i64 p.1, .int .i64 p.2]
theorem prN_len (p : Nat × Nat) : (prN p).length = 2 := rfl
theorem info_prN : (Tryz.prog.info? 42).map (fun i => (i.zero, i.size, i.bytes)) = some (some (.agg #[.int .i64 0, .int .i64 0]), 2, 16) := by kernel_rfl
theorem src_prN (w : World) (x y : Nat) : Src Tryz.prog 2 35 (.slice (some ⟨w.heap.size, 0, none⟩) 1 1) 1 (prN (x, y)) (w.alloc (.cells #[.int .i64 x, .int .i64 y] 42)) := by
 refine Src.ofSlice _ Tryz.underlying35 ⟨w.heap.size, 0, none⟩ 1 1 (prN (x, y)) rfl ?_ ?_
 ·intro j v hv
  rw [addr_plain, (Blk.new w _ _).cell, Nat.zero_add]
  simpa [prN] using hv
 ·intro v hv
  simp [prN] at hv
  rcases hv with rfl | rfl <;> rfl
theorem pairs_of_row {W : World} {n₁ : Nat} {v : Value} {l : List (Nat × Nat)} (h : W.ownsRow n₁ 42 2 v l.length (l.flatMap prN)) : PairsAt W v l := by
 rcases h.2 with ⟨h0, h1⟩ | ⟨g, cap, cur, hv, h1, h2, h3, h4, h5, h6⟩
 ·rw [h0]
  have : l = [] := List.eq_nil_of_length_eq_zero h1
  rw [this]
  exact Row.nil
 ·subst hv
  refine ⟨_, cap, rfl, h3, h4, fun i p hp => ⟨g, 0, rfl, ?_⟩⟩
  have c0 := h.cells (g := g) rfl _ _ (flat_at prN prN_len l i 0 p hp (by omega))
  have c1 := h.cells (g := g) rfl _ _ (flat_at prN prN_len l i 1 p hp (by omega))
  rw [addr_plain] at c0 c1
  refine ⟨by simpa using c0, ?_⟩
  have : 0 + i * 2 + 1 = i * 2 + 1 := by omega
  rw [this]; simpa using c1
open Go.Deep
section
variable {H : Type} {enc : TypeId × Value → H} {w : World} {base : Nat} {spare : Nat → Bool} {held : Bool}
theorem prI_fields : ∃ fs : Array Field, Tryz.prog.underlying 42 = some (.struct fs) ∧ oneCellFields Tryz.prog fs = true ∧ fs.size = 2 ∧ (∃ f, fs[0]? = some f ∧ f.type = 3) ∧ (∃ f, fs[1]? = some f ∧ f.type = 3) := by
 refine ⟨_, Tryz.underlying42, ?_, rfl, ⟨_, rfl, rfl⟩, ⟨_, rfl, rfl⟩⟩
 kernel_rfl
theorem open_prI {fuel : Nat} {ad : Addr} {x : DataW H × List MemPlace} {cs : List Value} (hc : w.cells? base ad 2 = some cs) (h : DataW.trod enc Tryz.prog w base spare held fuel 42 cs = some x) :
  ∃ y : Int × Int, w.cell? (ad.add 0) = some (.int .i64 y.1) ∧ w.cell? (ad.add 1) = some (.int .i64 y.2) ∧ (-9223372036854775808 ≤ y.1 ∧ y.1 ≤ 9223372036854775807) ∧ -9223372036854775808 ≤ y.2 ∧ y.2 ≤ 9223372036854775807 := by
 obtain ⟨fs, hs, hone, hsz, ⟨f0, e0, t0⟩, ⟨f1, e1, t1⟩⟩ := prI_fields
 obtain ⟨ys, n', hn', hy, hlen, hyl, hf⟩ := DataW.trod_struct hs h
 obtain ⟨_, hcl, hat⟩ := World.cells?_some hc
 have hcl2 : cs.length = 2 := hcl
 match cs, hcl2 with
 | [v0, v1], _ =>
  obtain ⟨o0, k0⟩ := hone_of hone 0 f0 e0
  obtain ⟨o1, k1⟩ := hone_of hone 1 f1 e1
  have g0 := hf 0 f0 e0
  have g1 := hf 1 f1 e1
  rw [hsz] at hyl
  match ys, hyl with
  | [y0, y1], _ =>
   rw [o0, k0, t0] at g0
   rw [o1, k1, t1] at g1
   have c0 := hat 0 (by decide)
   have c1 := hat 1 (by decide)
   have g0' : DataW.trod enc Tryz.prog w base spare held n' 3 [v0] = some y0 := g0
   have g1' : DataW.trod enc Tryz.prog w base spare held n' 3 [v1] = some y1 := g1
   obtain ⟨m0, r0, _, w0⟩ := DataW.trod_int Tryz.underlying3 g0'
   obtain ⟨m1, r1, _, w1⟩ := DataW.trod_int Tryz.underlying3 g1'
   injection r0 with r0
   injection r1 with r1
   subst r0 r1
   obtain ⟨p0, q0⟩ := bounds_i64 w0
   obtain ⟨p1, q1⟩ := bounds_i64 w1
   exact ⟨(m0, m1), c0, c1, ⟨p0, q0⟩, p1, q1⟩
theorem open_pairs {fuel : Nat} {v : Value} {x : DataW H × List MemPlace} (h : DataW.trod enc Tryz.prog w base spare held fuel 35 [v] = some x) :
  ∃ l : List (Int × Int), PrsI w v l := by
 rcases open_slice Tryz.underlying35 h with ⟨hcs, _⟩ | ⟨ad, len, cap, m, k, D, Pl, hcs, hb, hl, hm, hmm, hx, hi⟩
 ·cases hcs
  exact ⟨[], Row.nil⟩
 ·cases hcs
  have hC : Tryz.prog.cellsOf 42 = 2 := by kernel_rfl
  obtain ⟨l, hl', hr⟩ := row_of_each (k := 2) (R := PrIAt) (w := w) (ad := ad) hl hm (fun i hin => by
   have hspot : ad.spot = none := by
    obtain ⟨cs0, hc0, ht0⟩ := hi 0 (by rw [hmm]; split <;> omega)
    rw [hC] at hc0
    obtain ⟨_, d0, _⟩ := open_prI hc0 ht0
    simpa [Addr.add] using World.cell?_spot d0
   obtain ⟨cs', hc, ht'⟩ := hi i (by rw [hmm]; split <;> omega)
   rw [hC] at hc
   obtain ⟨y, c0, c1, z0, z1⟩ := open_prI hc ht'
   obtain ⟨b, off, spot⟩ := ad
   have hs2 : spot = none := hspot
   subst hs2
   simp only [addr_plain, Nat.add_zero] at c0 c1
   exact ⟨y, b, off, rfl, c0, c1, z0, z1⟩)
  exact ⟨l, hr⟩
end
end Go.Proofs.YthooiofaicdhgaaGreatDoor
