/- The laws' list of a table's types; which one a number picks; the walk of PreciseGoes over a table that lies in memory. -/
import Derived.Test.YtnjgagbblkjjeaaGreatDoorPkn
import Derived.Test.YtnjgagbblkjjeaaGreatDoorLgt
import Derived.Test.YtnjgagbblkjjeaaGreatDoorSbt
import Derived.Test.YtnjgagbblkjjeaaGreatDoorTfr
import Derived.Test.YtnjgagbblkjjeaaGreatDoorTbl
set_option linter.unusedSimpArgs false
set_option linter.unusedVariables false
set_option maxRecDepth 100000
namespace Go.Proofs.YtnjgagbblkjjeaaGreatDoor
open Go.ChangeShapes Go.WideShapes Go.ChangeAt Go.RowKit

theorem small_short {t : List Tab.C} (h : t.length ≤ 9 ∧ ∀ c ∈ t, ShortC c) : Small t :=
  ⟨by omega, fun c hc => by have := (h.2 c hc).1; omega, fun c hc => by have := (h.2 c hc).2.1; omega, fun c hc m hm => by have := (h.2 c hc).2.2 m hm; unfold ShortM at this; omega⟩

theorem owns_block {w : World} {base : Nat} {e : TypeId} {size : Nat} {v : Value} {n : Nat} {xs : List Value} (h : w.ownsRow base e size v n xs) {g : Nat} (hg : v.ownBlock = some g) : base ≤ g ∧ ∃ cur, w.heap[g]? = some (.cells cur e (0, 0)) := by
  rcases h.2 with ⟨rfl, _⟩ | ⟨g', cap, cur, rfl, hb, hgg, _⟩
  · cases hg
  · have : g' = g := by simpa [Value.ownBlock] using hg
    subst this
    exact ⟨hb, cur, hgg⟩

theorem owns_row {w : World} {base : Nat} {v : Value} {l : List ByteArray} (h : w.ownsRow base 9 1 v l.length (l.map Value.string)) : Row 1 (fun w b o x => w.cell? ⟨b, o, none⟩ = some (.string x)) w v l := by
  rcases h.2 with ⟨rfl, hl0⟩ | ⟨g, cap, cur, rfl, hg1, hg2, hg3, hg4, hg5, hg6⟩
  · obtain rfl : l = [] := List.eq_nil_of_length_eq_zero hl0
    exact Row.nil
  · refine ⟨_, cap, rfl, by simpa using hg3, hg4, fun i x hx => ⟨g, 0, rfl, ?_⟩⟩
    have := h.cells (g := g) rfl i (.string x) (by rw [List.getElem?_map, hx]; rfl)
    rw [addr_plain] at this
    simpa using this

def TxtR (w : World) (b o : Nat) (x : ByteArray) : Prop := w.cell? ⟨b, o, none⟩ = some (.string x)

/-- Which of n things a number picks. -/
def pickN (x : Int) (n : Nat) : Nat := (if x.tmod n < 0 then x.tmod n + n else x.tmod n).toNat

theorem tmod_bounds (x : Int) {n : Nat} (h0 : 0 < n) : -(n : Int) < x.tmod n ∧ x.tmod n < (n : Int) := by
  rcases Int.natAbs_eq x with h | h
  · rw [h, show ((x.natAbs : Int)).tmod (n : Int) = ((x.natAbs % n : Nat) : Int) from (Int.ofNat_tmod _ _).symm]
    have := Nat.mod_lt x.natAbs h0; omega
  · rw [h, Int.neg_tmod, show ((x.natAbs : Int)).tmod (n : Int) = ((x.natAbs % n : Nat) : Int) from (Int.ofNat_tmod _ _).symm]
    have := Nat.mod_lt x.natAbs h0; omega

theorem pickN_lt (x : Int) {n : Nat} (h0 : 0 < n) : pickN x n < n := by
  obtain ⟨h1, h2⟩ := tmod_bounds x h0
  unfold pickN
  split <;> omega

theorem pick_v (x : Int) (n : Nat) (w : World) (h0 : 0 < n) (hn : n ≤ 1000) (h1 : -9223372036854775808 ≤ x) (h2 : x ≤ 9223372036854775807) :
    Calls Tryz.prog 33 #[.int .i64 x, .int .i64 n] w fun e w' => e = .returned (.int .i64 (pickN x n : Int)) ∧ w' = w := by
  have hnI : ¬ (n : Int) ≤ 0 := by omega
  have hne : ¬ (n : Int) = 0 := by omega
  obtain ⟨hm1, hm2⟩ := tmod_bounds x h0
  have HP := Lib.hid (show (pickN x n : Int) = if x.tmod n < 0 then x.tmod n + n else x.tmod n by unfold pickN; split <;> omega)
  generalize pickN x n = pn at HP ⊢
  generalize hr : x.tmod n = r at hm1 hm2 HP
  by_cases hneg : r < 0
  · have HQ := Lib.hid (show (pn : Int) = r + n by rw [HP.out, if_pos hneg])
    go_enter Tryz.func33, Tryz.ntmps33
    go_wp2_with fail
    go_ret
    exact ⟨by rw [HQ.out]; first | rfl | (congr 2; go_num), rfl⟩
  · have HQ := Lib.hid (show (pn : Int) = r by rw [HP.out, if_neg hneg])
    go_enter Tryz.func33, Tryz.ntmps33
    go_wp2_with fail
    go_ret
    exact ⟨by rw [HQ.out]; rfl, rfl⟩

/-- All types of a table. -/
def typL (t : List Tab.C) (j : Nat) : List ByteArray := Tab.basics ++ (t.map Tab.C.name).take j
def typs (t : List Tab.C) : List ByteArray := typL t t.length

theorem typL_len (t : List Tab.C) {j : Nat} (hj : j ≤ t.length) : (typL t j).length = 6 + j := by
  unfold typL Tab.basics
  simp
  omega
theorem typL_next {t : List Tab.C} {j : Nat} (hj : j < t.length) : typL t (j + 1) = typL t j ++ [(Tab.nth t j).name] := by
  unfold typL
  rw [List.take_add_one, List.getElem?_map, Tab.of_nth hj]
  simp
theorem typs_typ {t : List Tab.C} (ho : Tab.ok t = true) {s : ByteArray} (h : s ∈ typs t) : Tab.isT t s = true := by
  have hv := Tab.ok_valid ho
  unfold typs typL at h
  rw [List.take_of_length_le (by simp)] at h
  rcases List.mem_append.1 h with h | h
  · exact Tab.isT_own h
  · obtain ⟨c, hc, rfl⟩ := List.mem_map.1 h
    obtain ⟨i, hi, rfl⟩ := List.getElem_of_mem hc
    have := hv.isC hi
    rw [Tab.nth_of (List.getElem?_eq_getElem hi)] at this
    exact Tab.isT_cls this

def TyR (w : World) (l : List ByteArray) (v : Value) (W : World) : Prop := W.ownsRow w.heap.size 9 1 v l.length (l.map Value.string) ∧ Kept w W

theorem TyR.next {w W X w2 : World} {l : List ByteArray} {v v' : Value} {x : ByteArray} (h : TyR w l v W) (hk : Kept W X) (hr : w2.ownsRow w.heap.size 9 1 v' (l.length + 1) (l.map Value.string ++ [.string x])) (hg : X.grownBy w2 v.ownBlock) : TyR w (l ++ [x]) v' w2 :=
  ⟨by simpa using hr, (h.2.trans hk).grown hg fun k e => (owns_block h.1 e).1⟩
theorem TyR.keep {w W X : World} {l : List ByteArray} {v : Value} (h : TyR w l v W) (hk : Kept W X) : TyR w l v X :=
  ⟨owns_only (S := fun _ => False) h.1 (Only.of_kept hk) (fun _ _ h => h), h.2.trans hk⟩

theorem src_txt (w : World) (x : ByteArray) : Src Tryz.prog 1 28 (.slice (some ⟨w.heap.size, 0, none⟩) 1 1) 1 [.string x] (w.alloc (.cells #[.string x] 9)) :=
  Src.ofSlice (P := Tryz.prog) (size := 1) (tx := 28) _ Tryz.underlying28 ⟨w.heap.size, 0, none⟩ 1 1 [.string x] rfl (cell_one_new w _ _) (by simp [Value.oneCell'])

theorem types_start (t : List Tab.C) (w : World) : TyR w (typL t 0) (.slice (some ⟨w.heap.size, 0, none⟩) 6 6) (w.alloc (.cells #[.string ⟨#[105, 110, 116]⟩, .string ⟨#[114, 101, 97, 108]⟩, .string ⟨#[98, 111, 111, 108]⟩, .string ⟨#[115, 116, 114]⟩, .string ⟨#[117, 110, 105, 116]⟩, .string ⟨#[63]⟩] 9)) :=
  ⟨⟨by rw [List.length_map]; simp, .inr ⟨w.heap.size, 6, _, rfl, Nat.le_refl _, Blk.new w _ _, Nat.le_refl _, by decide, rfl, rfl⟩⟩, (Kept.refl w).alloc _⟩

set_option maxHeartbeats 2000000 in
theorem types8_c (t : List Tab.C) (a : Option Addr) (cp : Nat) (w : World) (h : TabAt w (.slice a t.length cp) t) (ht : t.length ≤ 1000) :
    Calls Tryz.prog 43 #[.slice a t.length cp] w fun e w' => ∃ v, e = .returned v ∧ TyR w (typs t) v w' := by
  obtain ⟨i0, hi, hz0, hzz1, hzz2⟩ := info_parts info_str
  have HT := Lib.hid h
  clear h
  go_enter Tryz.func43, Tryz.ntmps43
  go_wp2_with fail
  go_loopw [3, 4] (fun l q wr => ∃ j : Nat, q = .int .i64 j ∧ j ≤ t.length ∧ TyR w (typL t j) l wr) (fun l q wr => t.length - (intOf q).toNat)
  case atStart => exact ⟨0, rfl, Nat.zero_le _, types_start t w⟩
  case round =>
    obtain ⟨j, rfl, hj, hR⟩ := hrel
    have hlen := typL_len t hj
    by_cases hlt : j < t.length
    · have hltI : (j : Int) < (t.length : Int) := by omega
      obtain ⟨b, o, rfl, hcl⟩ := Row.cellsC (tab_kept HT.out hR.2) hlt
      have hcp : j ≤ cp := by obtain ⟨_, c', e, h1, h2, _⟩ := HT.out; injection e with _ _ e3; subst e3; omega
      have c0 := hcl.1
      have HX := Lib.hid (typL_next hlt)
      obtain ⟨nj, hnj⟩ : ∃ nj, (Tab.nth t j).name = nj := ⟨_, rfl⟩
      rw [hnj] at c0 HX
      have HM := Lib.hid hR
      obtain ⟨la, ln, lc, rfl⟩ := owns_slice hR.1
      have HRX := Lib.hid (hR.keep ((Kept.refl wr).alloc (.cells #[.string nj] 9)))
      have HSX := Lib.hid (src_txt wr nj)
      have hlw := hR.2.size
      clear hR hcl hnj
      go_wp2_with (at_builtin; refine wpList_apk rfl (.tmp 12) (.tmp 18) 28 28 rfl w.heap.size 1 9 i0 _ 16 Tryz.underlying28 hi hz0 hzz1 hzz2 rfl rfl HRX.out.1 rfl HSX.out (by unfold maxLen; omega) (by omega) (by simp; omega) ?_; intro v' w2 hown' hgrow hlies; have HN := Lib.hid (HRX.out.next (Kept.refl _) hown' hgrow); obtain ⟨va', vn', vc', rfl⟩ := owns_slice hown'; clear hown' hgrow hlies)
      go_roundw
      case rel => exact ⟨j + 1, by go_num, by omega, by rw [HX.out]; exact HN.out⟩
      case measure => simp [intOf]; omega
    · have hltI : ¬ (j : Int) < (t.length : Int) := by omega
      obtain rfl : j = t.length := by omega
      have HM := Lib.hid hR
      obtain ⟨la, ln, lc, rfl⟩ := owns_slice hR.1
      clear hR
      go_wp2_with fail
      go_ret
      exact ⟨_, rfl, HM.out⟩

/-- A region's orders come to one act. -/
theorem wp_cutG {P : Program} {c : Code} {K : Act → World → Prop} {Q : Exit → Act → World → Prop} {a : Act} {w : World} {A : Act} (F : World → Prop)
    (h : c.wp P (Exit.then (fun a' w' => a' = A ∧ F w') (fun _ _ _ => False)) a w) (hk : ∀ w', F w' → K A w') : c.wp P (Exit.then K Q) a w := by
  refine wp_mono h fun e a' w' hp => ?_
  cases e with
  | normal =>
    obtain ⟨rfl, hf⟩ := hp
    exact hk _ hf
  | _ => exact hp.elim

/-- What is left of a region, behind a name. -/
theorem any_states {P : Program} {md : Region.Mode} {ops : Array Oper} {Q : Exit → Act → World → Prop} {n : Nat} {mask : Array Bool} {a : Act} {w : World} (k : ∀ G : Nat → Array Bool → Act → World → Prop, G = wpAny P md ops Q → wpAny P md ops Q n mask a w) : wpAny P md ops Q n mask a w := k _ rfl
theorem any_eq {P : Program} {md : Region.Mode} {ops : Array Oper} {Q : Exit → Act → World → Prop} {G : Nat → Array Bool → Act → World → Prop} (hG : G = wpAny P md ops Q) {n n' : Nat} {m m' : Array Bool} {a a' : Act} {w : World} (h1 : n = n') (h2 : m = m') (h3 : a = a') (h : G n' m' a' w) : wpAny P md ops Q n m a w := by
  subst h1 h2 h3
  rw [← hG]
  exact h

theorem typ_cell {w : World} {v : Value} {t : List Tab.C} {b o n c : Nat} (h : Row 1 TxtR w (.slice (some ⟨b, o, none⟩) n c) (typs t)) {i : Nat} (hi : i < n) : ∃ X, w.cell? ⟨b, o + i, none⟩ = some (.string X) ∧ X ∈ typs t ∧ n ≤ c ∧ c ≤ 9223372036854775807 := by
  obtain ⟨a', c', e, h1, h2, h3⟩ := h
  injection e with e1 e2 e3
  subst e1 e2 e3
  have hx := List.getElem?_eq_getElem hi
  obtain ⟨b', o', e, hr⟩ := h3 i _ hx
  injection e with e
  injection e with e1 e2
  subst e1 e2
  unfold maxLen at h2
  exact ⟨_, by simpa [TxtR] using hr, List.getElem_mem hi, h1, by omega⟩

theorem typs_size {w : World} {t : List Tab.C} {a : Option Addr} {cp : Nat} (h : TabAt w (.slice a t.length cp) t) {x : ByteArray} (hx : x ∈ typs t) : x.size ≤ maxLen := by
  unfold typs typL at hx
  rcases List.mem_append.1 hx with hx | hx
  · unfold Tab.basics at hx
    simp at hx
    rcases hx with rfl | rfl | rfl | rfl | rfl | rfl <;> decide
  · rw [List.take_of_length_le (by simp)] at hx
    obtain ⟨c, hc, rfl⟩ := List.mem_map.1 hx
    obtain ⟨i, hi, rfl⟩ := List.getElem_of_mem hc
    obtain ⟨b, o, _, hcl⟩ := Row.cellsC h hi
    rw [Tab.nth_of (List.getElem?_eq_getElem hi)] at hcl
    exact hcl.2.2.2.2.1
theorem dyn_size : (⟨#[63]⟩ : ByteArray).size ≤ maxLen := by decide
theorem pr_no {t : List Tab.C} (h : Tab.ok t = false) (x y : ByteArray) : Tab.precise t x y = false := by unfold Tab.precise Tab.ats; rw [h]; simp
theorem mo_no {t : List Tab.C} (h : Tab.ok t = false) (x y : ByteArray) : Tab.more t x y = 0 := by unfold Tab.more; rw [pr_no h, pr_no h]; rfl
theorem pr_ats {t : List Tab.C} (h : Tab.ok t = true) {x y : ByteArray} (hx : Tab.isT t x = true) (hy : Tab.isT t y = true) : Tab.precise t x y = Tab.pcs t (x, y) := by
  unfold Tab.precise Tab.ats
  rw [h, hx, hy]
  rfl
theorem pr_self {t : List Tab.C} (h : Tab.ok t = true) {x : ByteArray} (hx : Tab.isT t x = true) : Tab.precise t x x = true := by rw [pr_ats h hx hx]; exact Tab.pcs_self t x
theorem pr_dyn {t : List Tab.C} (h : Tab.ok t = true) {x : ByteArray} (hx : Tab.isT t x = true) : Tab.precise t x ⟨#[63]⟩ = true := by rw [pr_ats h hx (Tab.isT_own (by unfold Tab.basics; simp))]; exact Tab.pcs_dyn t x
theorem pr_trans {t : List Tab.C} (h : Tab.ok t = true) {x y z : ByteArray} (hx : Tab.isT t x = true) (hy : Tab.isT t y = true) (hz : Tab.isT t z = true) (h1 : Tab.precise t x y = true) (h2 : Tab.precise t y z = true) : Tab.precise t x z = true := by
  rw [pr_ats h hx hy] at h1
  rw [pr_ats h hy hz] at h2
  rw [pr_ats h hx hz]
  exact Tab.pcs_trans (Tab.ok_valid h) h1 h2
theorem pr_sub {t : List Tab.C} (h : Tab.ok t = true) {x y : ByteArray} (hx : Tab.isT t x = true) (hy : Tab.isT t y = true) (h1 : Tab.sub t x y = true) : Tab.precise t x y = true := by
  rw [pr_ats h hx hy]
  exact Tab.pcs_sub h1

set_option maxHeartbeats 16000000 in
theorem goes8_c (t : List Tab.C) (a : Option Addr) (cp : Nat) (x1 x2 x3 : Int) (w : World) (hTb : Tb w) (h : TabAt w (.slice a t.length cp) t) (p1 : -9223372036854775808 ≤ x1) (q1 : x1 ≤ 9223372036854775807) (p2 : -9223372036854775808 ≤ x2) (q2 : x2 ≤ 9223372036854775807) (p3 : -9223372036854775808 ≤ x3) (q3 : x3 ≤ 9223372036854775807) :
    Calls Tryz.prog 9 #[.slice a t.length cp, .int .i64 x1, .int .i64 x2, .int .i64 x3] w fun e w' => e = .returned (.bool true) ∧ Kept w w' := by
  have HTB := Lib.hid hTb
  have HT := Lib.hid h
  clear hTb h
  have hfd : ∀ (fe fa : Int) (w : World), (Instr.field 38 (.agg #[.int .i64 fe, .int .i64 fa]) 0).run Tryz.prog w = .ok (.int .i64 fe) w := fun _ _ _ => by kernel_rfl
  go_enter Tryz.func9, Tryz.ntmps9
  go_wp2_with fail
  refine (known8_c w HTB.out).mono ?_
  rintro e w1 ⟨rfl, k1⟩
  have HK1 := Lib.hid k1
  have HL := Lib.hid (long_c t (.slice a t.length cp) w1 (tab_kept HT.out k1))
  clear k1
  go_wp2_with fail
  refine HL.out.mono ?_
  rintro e w2 ⟨⟨lb, rfl, hsh⟩, k2⟩
  have HK2 := Lib.hid (HK1.out.trans k2)
  clear k2
  cases lb with
  | true =>
    clear hsh
    go_wp2_with fail
    go_ret
    exact ⟨rfl, HK2.out⟩
  | false =>
    have HSH := Lib.hid (hsh rfl)
    clear hsh HL
    have h9 := HSH.out.1
    have HY := Lib.hid (types8_c t a cp w2 (tab_kept HT.out HK2.out) (by omega))
    go_wp2_with fail
    refine HY.out.mono ?_
    rintro e w3 ⟨v3, rfl, hr3, k3⟩
    have HK3 := Lib.hid (HK2.out.trans k3)
    have hrow := owns_row hr3
    have hln : (typs t).length = 6 + t.length := typL_len t (Nat.le_refl t.length)
    obtain ⟨la, lc, rfl⟩ := owns_slice_n hr3
    obtain ⟨n, hn⟩ : ∃ n, (typs t).length = n := ⟨_, rfl⟩
    rw [hn] at hrow hln ⊢
    have h0 : 0 < n := by omega
    have hn9 : n ≤ 1000 := by omega
    obtain ⟨lb, lo, rfl⟩ : ∃ b o, la = some ⟨b, o, none⟩ := by
      obtain ⟨a', c', e, g1, g2, g3⟩ := hrow
      injection e with e1 e2 e3
      have hx := List.getElem?_eq_getElem (show 0 < (typs t).length by omega)
      obtain ⟨b, o, e, _⟩ := g3 0 _ hx
      exact ⟨b, o, by rw [e1, e]⟩
    clear hln
    have HP1 := Lib.hid (pick_v x1 n w3.drew h0 (by omega) p1 q1)
    have HP2 := Lib.hid (pick_v x2 n w3.drew h0 (by omega) p2 q2)
    have HP3 := Lib.hid (pick_v x3 n w3.drew h0 (by omega) p3 q3)
    have l1 := pickN_lt x1 h0
    have l2 := pickN_lt x2 h0
    have l3 := pickN_lt x3 h0
    generalize pickN x1 n = i1 at HP1 l1
    generalize pickN x2 n = i2 at HP2 l2
    generalize pickN x3 n = i3 at HP3 l3
    have l1I : (i1 : Int) < (n : Int) := by omega
    have l2I : (i2 : Int) < (n : Int) := by omega
    have l3I : (i3 : Int) < (n : Int) := by omega
    obtain ⟨X, cX, mX, hc1, hc2⟩ := typ_cell (v := .slice none 0 0) hrow l1
    obtain ⟨Y, cY, mY, _, _⟩ := typ_cell (v := .slice none 0 0) hrow l2
    obtain ⟨Z, cZ, mZ, _, _⟩ := typ_cell (v := .slice none 0 0) hrow l3
    have HX := Lib.hid mX
    have HYY := Lib.hid mY
    have HZ := Lib.hid mZ
    clear hr3 k3 HY hrow hn mX mY mZ
    go_wp2_with fail
    refine wp_cutG (A := { tmps := #[.slice a t.length cp, .int .i64 x1, .int .i64 x2, .int .i64 x3, undef, undef, undef, undef, .bool false, .bool true, .slice (some ⟨lb, lo, none⟩) n lc, .string X, .string Y, .string Z, undef, undef, undef, .bool true, .slice a t.length cp, .bool false, undef, .slice a t.length cp, .slice (some ⟨lb, lo, none⟩) n lc, .slice (some ⟨lb, lo, none⟩) n lc, .int .i64 x1, .slice (some ⟨lb, lo, none⟩) n lc, .int .i64 (n : Int), .int .i64 (i1 : Int), .pointer (some ⟨lb, lo + i1, none⟩), .string X, .slice (some ⟨lb, lo, none⟩) n lc, .int .i64 x2, .slice (some ⟨lb, lo, none⟩) n lc, .int .i64 (n : Int), .int .i64 (i2 : Int), .pointer (some ⟨lb, lo + i2, none⟩), .string Y, .slice (some ⟨lb, lo, none⟩) n lc, .int .i64 x3, .slice (some ⟨lb, lo, none⟩) n lc, .int .i64 (n : Int), .int .i64 (i3 : Int), .pointer (some ⟨lb, lo + i3, none⟩), .string Z, undef, undef, undef, undef, undef, undef, undef, undef, undef, undef, undef, undef, undef, undef, undef, undef, undef, undef, undef, undef, undef, undef, undef, undef, undef, undef, undef, undef, undef, undef, undef, undef, undef, undef, undef, undef, undef, undef, undef, undef, undef, undef, undef, undef, undef, undef, undef, undef, undef, undef, undef, undef, undef, undef, undef, undef, undef, undef, undef, undef, undef, undef, undef, undef, undef, undef, undef, undef, undef, undef, undef, undef, undef, undef, undef, undef, undef, undef, undef, undef, undef, undef, undef, undef, undef, undef, undef, undef, undef, undef, undef, undef, undef, undef, undef, undef, undef, undef, undef, undef, undef, undef], defers := [] }) (fun w' => w' = w3.drew) ?h ?hk
    case h =>
      refine wp_region_any (by kernel_rfl) ?_
      change wpAny _ _ _ _ _ _ _ (World.drew _)
      refine any_states (fun G hG => ?_)
      have hs0' : G 0 #[true, true, true, true, true, true, true, true, true, true, true, true, true, true, true, true, true, true, true, true, true, true, true, true] { tmps := #[.slice a t.length cp, .int .i64 x1, .int .i64 x2, .int .i64 x3, undef, undef, undef, undef, .bool false, .bool true, .slice (some ⟨lb, lo, none⟩) n lc, .string X, .string Y, .string Z, undef, undef, undef, .bool true, .slice a t.length cp, .bool false, undef, .slice a t.length cp, .slice (some ⟨lb, lo, none⟩) n lc, .slice (some ⟨lb, lo, none⟩) n lc, .int .i64 x1, .slice (some ⟨lb, lo, none⟩) n lc, .int .i64 (n : Int), .int .i64 (i1 : Int), .pointer (some ⟨lb, lo + i1, none⟩), .string X, .slice (some ⟨lb, lo, none⟩) n lc, .int .i64 x2, .slice (some ⟨lb, lo, none⟩) n lc, .int .i64 (n : Int), .int .i64 (i2 : Int), .pointer (some ⟨lb, lo + i2, none⟩), .string Y, .slice (some ⟨lb, lo, none⟩) n lc, .int .i64 x3, .slice (some ⟨lb, lo, none⟩) n lc, .int .i64 (n : Int), .int .i64 (i3 : Int), .pointer (some ⟨lb, lo + i3, none⟩), .string Z, undef, undef, undef, undef, undef, undef, undef, undef, undef, undef, undef, undef, undef, undef, undef, undef, undef, undef, undef, undef, undef, undef, undef, undef, undef, undef, undef, undef, undef, undef, undef, undef, undef, undef, undef, undef, undef, undef, undef, undef, undef, undef, undef, undef, undef, undef, undef, undef, undef, undef, undef, undef, undef, undef, undef, undef, undef, undef, undef, undef, undef, undef, undef, undef, undef, undef, undef, undef, undef, undef, undef, undef, undef, undef, undef, undef, undef, undef, undef, undef, undef, undef, undef, undef, undef, undef, undef, undef, undef, undef, undef, undef, undef, undef, undef, undef, undef, undef, undef, undef, undef, undef], defers := [] } w3.drew := by
        rw [hG]
        refine wpAny_done (by kernel_rfl) ?_ _
        exact ⟨rfl, rfl⟩
      have hs0 := Lib.hid hs0'
      clear hs0'
      have hs1' : G 2 #[true, true, true, true, true, true, true, true, true, true, true, true, true, true, true, true, true, true, true, true, false, true, true, false] { tmps := #[.slice a t.length cp, .int .i64 x1, .int .i64 x2, .int .i64 x3, undef, undef, undef, undef, .bool false, .bool true, .slice (some ⟨lb, lo, none⟩) n lc, .string X, .string Y, undef, undef, undef, undef, .bool true, .slice a t.length cp, .bool false, undef, .slice a t.length cp, .slice (some ⟨lb, lo, none⟩) n lc, .slice (some ⟨lb, lo, none⟩) n lc, .int .i64 x1, .slice (some ⟨lb, lo, none⟩) n lc, .int .i64 (n : Int), .int .i64 (i1 : Int), .pointer (some ⟨lb, lo + i1, none⟩), .string X, .slice (some ⟨lb, lo, none⟩) n lc, .int .i64 x2, .slice (some ⟨lb, lo, none⟩) n lc, .int .i64 (n : Int), .int .i64 (i2 : Int), .pointer (some ⟨lb, lo + i2, none⟩), .string Y, .slice (some ⟨lb, lo, none⟩) n lc, .int .i64 x3, .slice (some ⟨lb, lo, none⟩) n lc, .int .i64 (n : Int), .int .i64 (i3 : Int), .pointer (some ⟨lb, lo + i3, none⟩), undef, undef, undef, undef, undef, undef, undef, undef, undef, undef, undef, undef, undef, undef, undef, undef, undef, undef, undef, undef, undef, undef, undef, undef, undef, undef, undef, undef, undef, undef, undef, undef, undef, undef, undef, undef, undef, undef, undef, undef, undef, undef, undef, undef, undef, undef, undef, undef, undef, undef, undef, undef, undef, undef, undef, undef, undef, undef, undef, undef, undef, undef, undef, undef, undef, undef, undef, undef, undef, undef, undef, undef, undef, undef, undef, undef, undef, undef, undef, undef, undef, undef, undef, undef, undef, undef, undef, undef, undef, undef, undef, undef, undef, undef, undef, undef, undef, undef, undef, undef, undef, undef, undef], defers := [] } w3.drew := by
        rw [hG]
        refine wpAny_ready (rs := [20]) (by kernel_rfl) (by simp) ?_
        refine AllReady.cons rfl (fun K hK => ?_) ?_
        · go_simp
          refine hK _ _ ?_; clear hK K
          refine wpAny_take (i := 23) (v := .string Z) rfl (by kernel_rfl) (by kernel_rfl) (by kernel_rfl) (fun _ _ _ h => h) (Or.inl ⟨by kernel_rfl, by intro w; kernel_rfl⟩) ?_
          exact any_eq hG (by kernel_rfl) (by kernel_rfl) (by kernel_rfl) hs0.out
        exact AllReady.nil
      have hs1 := Lib.hid hs1'
      clear hs1'
      have hs2' : G 6 #[true, true, true, true, true, true, true, true, true, true, true, true, true, true, true, true, true, true, false, false, false, false, false, false] { tmps := #[.slice a t.length cp, .int .i64 x1, .int .i64 x2, .int .i64 x3, undef, undef, undef, undef, .bool false, .bool true, .slice (some ⟨lb, lo, none⟩) n lc, undef, undef, undef, undef, undef, undef, .bool true, .slice a t.length cp, .bool false, undef, .slice a t.length cp, .slice (some ⟨lb, lo, none⟩) n lc, .slice (some ⟨lb, lo, none⟩) n lc, .int .i64 x1, .slice (some ⟨lb, lo, none⟩) n lc, .int .i64 (n : Int), .int .i64 (i1 : Int), .pointer (some ⟨lb, lo + i1, none⟩), .string X, .slice (some ⟨lb, lo, none⟩) n lc, .int .i64 x2, .slice (some ⟨lb, lo, none⟩) n lc, .int .i64 (n : Int), .int .i64 (i2 : Int), .pointer (some ⟨lb, lo + i2, none⟩), .string Y, .slice (some ⟨lb, lo, none⟩) n lc, .int .i64 x3, .slice (some ⟨lb, lo, none⟩) n lc, .int .i64 (n : Int), undef, undef, undef, undef, undef, undef, undef, undef, undef, undef, undef, undef, undef, undef, undef, undef, undef, undef, undef, undef, undef, undef, undef, undef, undef, undef, undef, undef, undef, undef, undef, undef, undef, undef, undef, undef, undef, undef, undef, undef, undef, undef, undef, undef, undef, undef, undef, undef, undef, undef, undef, undef, undef, undef, undef, undef, undef, undef, undef, undef, undef, undef, undef, undef, undef, undef, undef, undef, undef, undef, undef, undef, undef, undef, undef, undef, undef, undef, undef, undef, undef, undef, undef, undef, undef, undef, undef, undef, undef, undef, undef, undef, undef, undef, undef, undef, undef, undef, undef, undef, undef, undef, undef, undef, undef], defers := [] } w3.drew := by
        rw [hG]
        refine wpAny_ready (rs := [18]) (by kernel_rfl) (by simp) ?_
        refine AllReady.cons rfl (fun K hK => ?_) ?_
        · go_simp
          go_wp2_with fail
          refine HP3.out.mono ?_
          rintro e w9 ⟨rfl, rfl⟩
          dsimp only
          refine hK _ _ ?_; clear hK K
          refine wpAny_take (i := 19) (v := .pointer (some ⟨lb, lo + i3, none⟩)) rfl (by kernel_rfl) (by kernel_rfl) (by kernel_rfl) (fun _ _ _ h => h) (Or.inl ⟨by kernel_rfl, by intro w; go_simp; try with_reducible rfl⟩) ?_
          refine wpAny_take (i := 21) (v := .string X) rfl (by kernel_rfl) (by kernel_rfl) (by kernel_rfl) (fun _ _ _ h => h) (Or.inl ⟨by kernel_rfl, by intro w; kernel_rfl⟩) ?_
          refine wpAny_take (i := 22) (v := .string Y) rfl (by kernel_rfl) (by kernel_rfl) (by kernel_rfl) (fun _ _ _ h => h) (Or.inl ⟨by kernel_rfl, by intro w; kernel_rfl⟩) ?_
          exact any_eq hG (by kernel_rfl) (by kernel_rfl) (by kernel_rfl) hs1.out
        exact AllReady.nil
      have hs2 := Lib.hid hs2'
      clear hs2'
      have hs3' : G 7 #[true, true, true, true, true, true, true, true, true, true, true, true, true, true, true, true, true, false, false, false, false, false, false, false] { tmps := #[.slice a t.length cp, .int .i64 x1, .int .i64 x2, .int .i64 x3, undef, undef, undef, undef, .bool false, .bool true, .slice (some ⟨lb, lo, none⟩) n lc, undef, undef, undef, undef, undef, undef, .bool true, .slice a t.length cp, .bool false, undef, .slice a t.length cp, .slice (some ⟨lb, lo, none⟩) n lc, .slice (some ⟨lb, lo, none⟩) n lc, .int .i64 x1, .slice (some ⟨lb, lo, none⟩) n lc, .int .i64 (n : Int), .int .i64 (i1 : Int), .pointer (some ⟨lb, lo + i1, none⟩), .string X, .slice (some ⟨lb, lo, none⟩) n lc, .int .i64 x2, .slice (some ⟨lb, lo, none⟩) n lc, .int .i64 (n : Int), .int .i64 (i2 : Int), .pointer (some ⟨lb, lo + i2, none⟩), .string Y, .slice (some ⟨lb, lo, none⟩) n lc, .int .i64 x3, .slice (some ⟨lb, lo, none⟩) n lc, undef, undef, undef, undef, undef, undef, undef, undef, undef, undef, undef, undef, undef, undef, undef, undef, undef, undef, undef, undef, undef, undef, undef, undef, undef, undef, undef, undef, undef, undef, undef, undef, undef, undef, undef, undef, undef, undef, undef, undef, undef, undef, undef, undef, undef, undef, undef, undef, undef, undef, undef, undef, undef, undef, undef, undef, undef, undef, undef, undef, undef, undef, undef, undef, undef, undef, undef, undef, undef, undef, undef, undef, undef, undef, undef, undef, undef, undef, undef, undef, undef, undef, undef, undef, undef, undef, undef, undef, undef, undef, undef, undef, undef, undef, undef, undef, undef, undef, undef, undef, undef, undef, undef, undef, undef, undef], defers := [] } w3.drew := by
        rw [hG]
        refine wpAny_ready (rs := [17]) (by kernel_rfl) (by simp) ?_
        refine AllReady.cons rfl (fun K hK => ?_) ?_
        · go_simp
          refine hK _ _ ?_; clear hK K
          exact any_eq hG (by kernel_rfl) (by kernel_rfl) (by kernel_rfl) hs2.out
        exact AllReady.nil
      have hs3 := Lib.hid hs3'
      clear hs3'
      have hs4' : G 3 #[true, true, true, true, true, true, true, true, true, true, true, true, true, false, true, true, true, true, true, true, true, true, false, false] { tmps := #[.slice a t.length cp, .int .i64 x1, .int .i64 x2, .int .i64 x3, undef, undef, undef, undef, .bool false, .bool true, .slice (some ⟨lb, lo, none⟩) n lc, .string X, undef, undef, undef, undef, undef, .bool true, .slice a t.length cp, .bool false, undef, .slice a t.length cp, .slice (some ⟨lb, lo, none⟩) n lc, .slice (some ⟨lb, lo, none⟩) n lc, .int .i64 x1, .slice (some ⟨lb, lo, none⟩) n lc, .int .i64 (n : Int), .int .i64 (i1 : Int), .pointer (some ⟨lb, lo + i1, none⟩), .string X, .slice (some ⟨lb, lo, none⟩) n lc, .int .i64 x2, .slice (some ⟨lb, lo, none⟩) n lc, .int .i64 (n : Int), .int .i64 (i2 : Int), .pointer (some ⟨lb, lo + i2, none⟩), undef, .slice (some ⟨lb, lo, none⟩) n lc, .int .i64 x3, .slice (some ⟨lb, lo, none⟩) n lc, .int .i64 (n : Int), .int .i64 (i3 : Int), .pointer (some ⟨lb, lo + i3, none⟩), .string Z, undef, undef, undef, undef, undef, undef, undef, undef, undef, undef, undef, undef, undef, undef, undef, undef, undef, undef, undef, undef, undef, undef, undef, undef, undef, undef, undef, undef, undef, undef, undef, undef, undef, undef, undef, undef, undef, undef, undef, undef, undef, undef, undef, undef, undef, undef, undef, undef, undef, undef, undef, undef, undef, undef, undef, undef, undef, undef, undef, undef, undef, undef, undef, undef, undef, undef, undef, undef, undef, undef, undef, undef, undef, undef, undef, undef, undef, undef, undef, undef, undef, undef, undef, undef, undef, undef, undef, undef, undef, undef, undef, undef, undef, undef, undef, undef, undef, undef, undef, undef, undef, undef], defers := [] } w3.drew := by
        rw [hG]
        refine wpAny_ready (rs := [13]) (by kernel_rfl) (by simp) ?_
        refine AllReady.cons rfl (fun K hK => ?_) ?_
        · go_simp
          refine hK _ _ ?_; clear hK K
          refine wpAny_take (i := 22) (v := .string Y) rfl (by kernel_rfl) (by kernel_rfl) (by kernel_rfl) (fun _ _ _ h => h) (Or.inl ⟨by kernel_rfl, by intro w; kernel_rfl⟩) ?_
          refine wpAny_take (i := 23) (v := .string Z) rfl (by kernel_rfl) (by kernel_rfl) (by kernel_rfl) (fun _ _ _ h => h) (Or.inl ⟨by kernel_rfl, by intro w; kernel_rfl⟩) ?_
          exact any_eq hG (by kernel_rfl) (by kernel_rfl) (by kernel_rfl) hs0.out
        exact AllReady.nil
      have hs4 := Lib.hid hs4'
      clear hs4'
      have hs5' : G 4 #[true, true, true, true, true, true, true, true, true, true, true, true, true, false, true, true, true, true, true, true, false, true, false, false] { tmps := #[.slice a t.length cp, .int .i64 x1, .int .i64 x2, .int .i64 x3, undef, undef, undef, undef, .bool false, .bool true, .slice (some ⟨lb, lo, none⟩) n lc, .string X, undef, undef, undef, undef, undef, .bool true, .slice a t.length cp, .bool false, undef, .slice a t.length cp, .slice (some ⟨lb, lo, none⟩) n lc, .slice (some ⟨lb, lo, none⟩) n lc, .int .i64 x1, .slice (some ⟨lb, lo, none⟩) n lc, .int .i64 (n : Int), .int .i64 (i1 : Int), .pointer (some ⟨lb, lo + i1, none⟩), .string X, .slice (some ⟨lb, lo, none⟩) n lc, .int .i64 x2, .slice (some ⟨lb, lo, none⟩) n lc, .int .i64 (n : Int), .int .i64 (i2 : Int), .pointer (some ⟨lb, lo + i2, none⟩), undef, .slice (some ⟨lb, lo, none⟩) n lc, .int .i64 x3, .slice (some ⟨lb, lo, none⟩) n lc, .int .i64 (n : Int), .int .i64 (i3 : Int), .pointer (some ⟨lb, lo + i3, none⟩), undef, undef, undef, undef, undef, undef, undef, undef, undef, undef, undef, undef, undef, undef, undef, undef, undef, undef, undef, undef, undef, undef, undef, undef, undef, undef, undef, undef, undef, undef, undef, undef, undef, undef, undef, undef, undef, undef, undef, undef, undef, undef, undef, undef, undef, undef, undef, undef, undef, undef, undef, undef, undef, undef, undef, undef, undef, undef, undef, undef, undef, undef, undef, undef, undef, undef, undef, undef, undef, undef, undef, undef, undef, undef, undef, undef, undef, undef, undef, undef, undef, undef, undef, undef, undef, undef, undef, undef, undef, undef, undef, undef, undef, undef, undef, undef, undef, undef, undef, undef, undef, undef, undef], defers := [] } w3.drew := by
        rw [hG]
        refine wpAny_ready (rs := [13, 20]) (by kernel_rfl) (by simp) ?_
        refine AllReady.cons rfl (fun K hK => ?_) ?_
        · go_simp
          refine hK _ _ ?_; clear hK K
          refine wpAny_take (i := 22) (v := .string Y) rfl (by kernel_rfl) (by kernel_rfl) (by kernel_rfl) (fun _ _ _ h => h) (Or.inl ⟨by kernel_rfl, by intro w; kernel_rfl⟩) ?_
          exact any_eq hG (by kernel_rfl) (by kernel_rfl) (by kernel_rfl) hs1.out
        refine AllReady.cons rfl (fun K hK => ?_) ?_
        · go_simp
          refine hK _ _ ?_; clear hK K
          exact any_eq hG (by kernel_rfl) (by kernel_rfl) (by kernel_rfl) hs4.out
        exact AllReady.nil
      have hs5 := Lib.hid hs5'
      clear hs5'
      have hs6' : G 7 #[true, true, true, true, true, true, true, true, true, true, true, true, true, false, true, true, true, true, false, false, false, false, false, false] { tmps := #[.slice a t.length cp, .int .i64 x1, .int .i64 x2, .int .i64 x3, undef, undef, undef, undef, .bool false, .bool true, .slice (some ⟨lb, lo, none⟩) n lc, undef, undef, undef, undef, undef, undef, .bool true, .slice a t.length cp, .bool false, undef, .slice a t.length cp, .slice (some ⟨lb, lo, none⟩) n lc, .slice (some ⟨lb, lo, none⟩) n lc, .int .i64 x1, .slice (some ⟨lb, lo, none⟩) n lc, .int .i64 (n : Int), .int .i64 (i1 : Int), .pointer (some ⟨lb, lo + i1, none⟩), .string X, .slice (some ⟨lb, lo, none⟩) n lc, .int .i64 x2, .slice (some ⟨lb, lo, none⟩) n lc, .int .i64 (n : Int), .int .i64 (i2 : Int), .pointer (some ⟨lb, lo + i2, none⟩), undef, .slice (some ⟨lb, lo, none⟩) n lc, .int .i64 x3, .slice (some ⟨lb, lo, none⟩) n lc, .int .i64 (n : Int), undef, undef, undef, undef, undef, undef, undef, undef, undef, undef, undef, undef, undef, undef, undef, undef, undef, undef, undef, undef, undef, undef, undef, undef, undef, undef, undef, undef, undef, undef, undef, undef, undef, undef, undef, undef, undef, undef, undef, undef, undef, undef, undef, undef, undef, undef, undef, undef, undef, undef, undef, undef, undef, undef, undef, undef, undef, undef, undef, undef, undef, undef, undef, undef, undef, undef, undef, undef, undef, undef, undef, undef, undef, undef, undef, undef, undef, undef, undef, undef, undef, undef, undef, undef, undef, undef, undef, undef, undef, undef, undef, undef, undef, undef, undef, undef, undef, undef, undef, undef, undef, undef, undef, undef, undef], defers := [] } w3.drew := by
        rw [hG]
        refine wpAny_ready (rs := [13, 18]) (by kernel_rfl) (by simp) ?_
        refine AllReady.cons rfl (fun K hK => ?_) ?_
        · go_simp
          refine hK _ _ ?_; clear hK K
          exact any_eq hG (by kernel_rfl) (by kernel_rfl) (by kernel_rfl) hs2.out
        refine AllReady.cons rfl (fun K hK => ?_) ?_
        · go_simp
          go_wp2_with fail
          refine HP3.out.mono ?_
          rintro e w9 ⟨rfl, rfl⟩
          dsimp only
          refine hK _ _ ?_; clear hK K
          refine wpAny_take (i := 19) (v := .pointer (some ⟨lb, lo + i3, none⟩)) rfl (by kernel_rfl) (by kernel_rfl) (by kernel_rfl) (fun _ _ _ h => h) (Or.inl ⟨by kernel_rfl, by intro w; go_simp; try with_reducible rfl⟩) ?_
          refine wpAny_take (i := 21) (v := .string X) rfl (by kernel_rfl) (by kernel_rfl) (by kernel_rfl) (fun _ _ _ h => h) (Or.inl ⟨by kernel_rfl, by intro w; kernel_rfl⟩) ?_
          exact any_eq hG (by kernel_rfl) (by kernel_rfl) (by kernel_rfl) hs5.out
        exact AllReady.nil
      have hs6 := Lib.hid hs6'
      clear hs6'
      have hs7' : G 8 #[true, true, true, true, true, true, true, true, true, true, true, true, true, false, true, true, true, false, false, false, false, false, false, false] { tmps := #[.slice a t.length cp, .int .i64 x1, .int .i64 x2, .int .i64 x3, undef, undef, undef, undef, .bool false, .bool true, .slice (some ⟨lb, lo, none⟩) n lc, undef, undef, undef, undef, undef, undef, .bool true, .slice a t.length cp, .bool false, undef, .slice a t.length cp, .slice (some ⟨lb, lo, none⟩) n lc, .slice (some ⟨lb, lo, none⟩) n lc, .int .i64 x1, .slice (some ⟨lb, lo, none⟩) n lc, .int .i64 (n : Int), .int .i64 (i1 : Int), .pointer (some ⟨lb, lo + i1, none⟩), .string X, .slice (some ⟨lb, lo, none⟩) n lc, .int .i64 x2, .slice (some ⟨lb, lo, none⟩) n lc, .int .i64 (n : Int), .int .i64 (i2 : Int), .pointer (some ⟨lb, lo + i2, none⟩), undef, .slice (some ⟨lb, lo, none⟩) n lc, .int .i64 x3, .slice (some ⟨lb, lo, none⟩) n lc, undef, undef, undef, undef, undef, undef, undef, undef, undef, undef, undef, undef, undef, undef, undef, undef, undef, undef, undef, undef, undef, undef, undef, undef, undef, undef, undef, undef, undef, undef, undef, undef, undef, undef, undef, undef, undef, undef, undef, undef, undef, undef, undef, undef, undef, undef, undef, undef, undef, undef, undef, undef, undef, undef, undef, undef, undef, undef, undef, undef, undef, undef, undef, undef, undef, undef, undef, undef, undef, undef, undef, undef, undef, undef, undef, undef, undef, undef, undef, undef, undef, undef, undef, undef, undef, undef, undef, undef, undef, undef, undef, undef, undef, undef, undef, undef, undef, undef, undef, undef, undef, undef, undef, undef, undef, undef], defers := [] } w3.drew := by
        rw [hG]
        refine wpAny_ready (rs := [13, 17]) (by kernel_rfl) (by simp) ?_
        refine AllReady.cons rfl (fun K hK => ?_) ?_
        · go_simp
          refine hK _ _ ?_; clear hK K
          exact any_eq hG (by kernel_rfl) (by kernel_rfl) (by kernel_rfl) hs3.out
        refine AllReady.cons rfl (fun K hK => ?_) ?_
        · go_simp
          refine hK _ _ ?_; clear hK K
          exact any_eq hG (by kernel_rfl) (by kernel_rfl) (by kernel_rfl) hs6.out
        exact AllReady.nil
      have hs7 := Lib.hid hs7'
      clear hs7'
      have hs8' : G 9 #[true, true, true, true, true, true, true, true, true, true, true, false, false, false, true, true, true, true, false, false, false, false, false, false] { tmps := #[.slice a t.length cp, .int .i64 x1, .int .i64 x2, .int .i64 x3, undef, undef, undef, undef, .bool false, .bool true, .slice (some ⟨lb, lo, none⟩) n lc, undef, undef, undef, undef, undef, undef, .bool true, .slice a t.length cp, .bool false, undef, .slice a t.length cp, .slice (some ⟨lb, lo, none⟩) n lc, .slice (some ⟨lb, lo, none⟩) n lc, .int .i64 x1, .slice (some ⟨lb, lo, none⟩) n lc, .int .i64 (n : Int), .int .i64 (i1 : Int), .pointer (some ⟨lb, lo + i1, none⟩), .string X, .slice (some ⟨lb, lo, none⟩) n lc, .int .i64 x2, .slice (some ⟨lb, lo, none⟩) n lc, .int .i64 (n : Int), undef, undef, undef, .slice (some ⟨lb, lo, none⟩) n lc, .int .i64 x3, .slice (some ⟨lb, lo, none⟩) n lc, .int .i64 (n : Int), undef, undef, undef, undef, undef, undef, undef, undef, undef, undef, undef, undef, undef, undef, undef, undef, undef, undef, undef, undef, undef, undef, undef, undef, undef, undef, undef, undef, undef, undef, undef, undef, undef, undef, undef, undef, undef, undef, undef, undef, undef, undef, undef, undef, undef, undef, undef, undef, undef, undef, undef, undef, undef, undef, undef, undef, undef, undef, undef, undef, undef, undef, undef, undef, undef, undef, undef, undef, undef, undef, undef, undef, undef, undef, undef, undef, undef, undef, undef, undef, undef, undef, undef, undef, undef, undef, undef, undef, undef, undef, undef, undef, undef, undef, undef, undef, undef, undef, undef, undef, undef, undef, undef, undef, undef], defers := [] } w3.drew := by
        rw [hG]
        refine wpAny_ready (rs := [11]) (by kernel_rfl) (by simp) ?_
        refine AllReady.cons rfl (fun K hK => ?_) ?_
        · go_simp
          go_wp2_with fail
          refine HP2.out.mono ?_
          rintro e w9 ⟨rfl, rfl⟩
          dsimp only
          refine hK _ _ ?_; clear hK K
          refine wpAny_take (i := 12) (v := .pointer (some ⟨lb, lo + i2, none⟩)) rfl (by kernel_rfl) (by kernel_rfl) (by kernel_rfl) (fun _ _ _ h => h) (Or.inl ⟨by kernel_rfl, by intro w; go_simp; try with_reducible rfl⟩) ?_
          exact any_eq hG (by kernel_rfl) (by kernel_rfl) (by kernel_rfl) hs6.out
        exact AllReady.nil
      have hs8 := Lib.hid hs8'
      clear hs8'
      have hs9' : G 10 #[true, true, true, true, true, true, true, true, true, true, true, false, false, false, true, true, true, false, false, false, false, false, false, false] { tmps := #[.slice a t.length cp, .int .i64 x1, .int .i64 x2, .int .i64 x3, undef, undef, undef, undef, .bool false, .bool true, .slice (some ⟨lb, lo, none⟩) n lc, undef, undef, undef, undef, undef, undef, .bool true, .slice a t.length cp, .bool false, undef, .slice a t.length cp, .slice (some ⟨lb, lo, none⟩) n lc, .slice (some ⟨lb, lo, none⟩) n lc, .int .i64 x1, .slice (some ⟨lb, lo, none⟩) n lc, .int .i64 (n : Int), .int .i64 (i1 : Int), .pointer (some ⟨lb, lo + i1, none⟩), .string X, .slice (some ⟨lb, lo, none⟩) n lc, .int .i64 x2, .slice (some ⟨lb, lo, none⟩) n lc, .int .i64 (n : Int), undef, undef, undef, .slice (some ⟨lb, lo, none⟩) n lc, .int .i64 x3, .slice (some ⟨lb, lo, none⟩) n lc, undef, undef, undef, undef, undef, undef, undef, undef, undef, undef, undef, undef, undef, undef, undef, undef, undef, undef, undef, undef, undef, undef, undef, undef, undef, undef, undef, undef, undef, undef, undef, undef, undef, undef, undef, undef, undef, undef, undef, undef, undef, undef, undef, undef, undef, undef, undef, undef, undef, undef, undef, undef, undef, undef, undef, undef, undef, undef, undef, undef, undef, undef, undef, undef, undef, undef, undef, undef, undef, undef, undef, undef, undef, undef, undef, undef, undef, undef, undef, undef, undef, undef, undef, undef, undef, undef, undef, undef, undef, undef, undef, undef, undef, undef, undef, undef, undef, undef, undef, undef, undef, undef, undef, undef, undef, undef], defers := [] } w3.drew := by
        rw [hG]
        refine wpAny_ready (rs := [11, 17]) (by kernel_rfl) (by simp) ?_
        refine AllReady.cons rfl (fun K hK => ?_) ?_
        · go_simp
          go_wp2_with fail
          refine HP2.out.mono ?_
          rintro e w9 ⟨rfl, rfl⟩
          dsimp only
          refine hK _ _ ?_; clear hK K
          refine wpAny_take (i := 12) (v := .pointer (some ⟨lb, lo + i2, none⟩)) rfl (by kernel_rfl) (by kernel_rfl) (by kernel_rfl) (fun _ _ _ h => h) (Or.inl ⟨by kernel_rfl, by intro w; go_simp; try with_reducible rfl⟩) ?_
          exact any_eq hG (by kernel_rfl) (by kernel_rfl) (by kernel_rfl) hs7.out
        refine AllReady.cons rfl (fun K hK => ?_) ?_
        · go_simp
          refine hK _ _ ?_; clear hK K
          exact any_eq hG (by kernel_rfl) (by kernel_rfl) (by kernel_rfl) hs8.out
        exact AllReady.nil
      have hs9 := Lib.hid hs9'
      clear hs9'
      have hs10' : G 10 #[true, true, true, true, true, true, true, true, true, true, false, false, false, false, true, true, true, true, false, false, false, false, false, false] { tmps := #[.slice a t.length cp, .int .i64 x1, .int .i64 x2, .int .i64 x3, undef, undef, undef, undef, .bool false, .bool true, .slice (some ⟨lb, lo, none⟩) n lc, undef, undef, undef, undef, undef, undef, .bool true, .slice a t.length cp, .bool false, undef, .slice a t.length cp, .slice (some ⟨lb, lo, none⟩) n lc, .slice (some ⟨lb, lo, none⟩) n lc, .int .i64 x1, .slice (some ⟨lb, lo, none⟩) n lc, .int .i64 (n : Int), .int .i64 (i1 : Int), .pointer (some ⟨lb, lo + i1, none⟩), .string X, .slice (some ⟨lb, lo, none⟩) n lc, .int .i64 x2, .slice (some ⟨lb, lo, none⟩) n lc, undef, undef, undef, undef, .slice (some ⟨lb, lo, none⟩) n lc, .int .i64 x3, .slice (some ⟨lb, lo, none⟩) n lc, .int .i64 (n : Int), undef, undef, undef, undef, undef, undef, undef, undef, undef, undef, undef, undef, undef, undef, undef, undef, undef, undef, undef, undef, undef, undef, undef, undef, undef, undef, undef, undef, undef, undef, undef, undef, undef, undef, undef, undef, undef, undef, undef, undef, undef, undef, undef, undef, undef, undef, undef, undef, undef, undef, undef, undef, undef, undef, undef, undef, undef, undef, undef, undef, undef, undef, undef, undef, undef, undef, undef, undef, undef, undef, undef, undef, undef, undef, undef, undef, undef, undef, undef, undef, undef, undef, undef, undef, undef, undef, undef, undef, undef, undef, undef, undef, undef, undef, undef, undef, undef, undef, undef, undef, undef, undef, undef, undef, undef], defers := [] } w3.drew := by
        rw [hG]
        refine wpAny_ready (rs := [10]) (by kernel_rfl) (by simp) ?_
        refine AllReady.cons rfl (fun K hK => ?_) ?_
        · go_simp
          refine hK _ _ ?_; clear hK K
          exact any_eq hG (by kernel_rfl) (by kernel_rfl) (by kernel_rfl) hs8.out
        exact AllReady.nil
      have hs10 := Lib.hid hs10'
      clear hs10'
      have hs11' : G 11 #[true, true, true, true, true, true, true, true, true, true, false, false, false, false, true, true, true, false, false, false, false, false, false, false] { tmps := #[.slice a t.length cp, .int .i64 x1, .int .i64 x2, .int .i64 x3, undef, undef, undef, undef, .bool false, .bool true, .slice (some ⟨lb, lo, none⟩) n lc, undef, undef, undef, undef, undef, undef, .bool true, .slice a t.length cp, .bool false, undef, .slice a t.length cp, .slice (some ⟨lb, lo, none⟩) n lc, .slice (some ⟨lb, lo, none⟩) n lc, .int .i64 x1, .slice (some ⟨lb, lo, none⟩) n lc, .int .i64 (n : Int), .int .i64 (i1 : Int), .pointer (some ⟨lb, lo + i1, none⟩), .string X, .slice (some ⟨lb, lo, none⟩) n lc, .int .i64 x2, .slice (some ⟨lb, lo, none⟩) n lc, undef, undef, undef, undef, .slice (some ⟨lb, lo, none⟩) n lc, .int .i64 x3, .slice (some ⟨lb, lo, none⟩) n lc, undef, undef, undef, undef, undef, undef, undef, undef, undef, undef, undef, undef, undef, undef, undef, undef, undef, undef, undef, undef, undef, undef, undef, undef, undef, undef, undef, undef, undef, undef, undef, undef, undef, undef, undef, undef, undef, undef, undef, undef, undef, undef, undef, undef, undef, undef, undef, undef, undef, undef, undef, undef, undef, undef, undef, undef, undef, undef, undef, undef, undef, undef, undef, undef, undef, undef, undef, undef, undef, undef, undef, undef, undef, undef, undef, undef, undef, undef, undef, undef, undef, undef, undef, undef, undef, undef, undef, undef, undef, undef, undef, undef, undef, undef, undef, undef, undef, undef, undef, undef, undef, undef, undef, undef, undef, undef], defers := [] } w3.drew := by
        rw [hG]
        refine wpAny_ready (rs := [10, 17]) (by kernel_rfl) (by simp) ?_
        refine AllReady.cons rfl (fun K hK => ?_) ?_
        · go_simp
          refine hK _ _ ?_; clear hK K
          exact any_eq hG (by kernel_rfl) (by kernel_rfl) (by kernel_rfl) hs9.out
        refine AllReady.cons rfl (fun K hK => ?_) ?_
        · go_simp
          refine hK _ _ ?_; clear hK K
          exact any_eq hG (by kernel_rfl) (by kernel_rfl) (by kernel_rfl) hs10.out
        exact AllReady.nil
      have hs11 := Lib.hid hs11'
      clear hs11'
      have hs12' : G 4 #[true, true, true, true, true, true, false, true, true, true, true, true, true, true, true, true, true, true, true, true, true, false, false, false] { tmps := #[.slice a t.length cp, .int .i64 x1, .int .i64 x2, .int .i64 x3, undef, undef, undef, undef, .bool false, .bool true, .slice (some ⟨lb, lo, none⟩) n lc, undef, undef, undef, undef, undef, undef, .bool true, .slice a t.length cp, .bool false, undef, .slice a t.length cp, .slice (some ⟨lb, lo, none⟩) n lc, .slice (some ⟨lb, lo, none⟩) n lc, .int .i64 x1, .slice (some ⟨lb, lo, none⟩) n lc, .int .i64 (n : Int), .int .i64 (i1 : Int), .pointer (some ⟨lb, lo + i1, none⟩), undef, .slice (some ⟨lb, lo, none⟩) n lc, .int .i64 x2, .slice (some ⟨lb, lo, none⟩) n lc, .int .i64 (n : Int), .int .i64 (i2 : Int), .pointer (some ⟨lb, lo + i2, none⟩), .string Y, .slice (some ⟨lb, lo, none⟩) n lc, .int .i64 x3, .slice (some ⟨lb, lo, none⟩) n lc, .int .i64 (n : Int), .int .i64 (i3 : Int), .pointer (some ⟨lb, lo + i3, none⟩), .string Z, undef, undef, undef, undef, undef, undef, undef, undef, undef, undef, undef, undef, undef, undef, undef, undef, undef, undef, undef, undef, undef, undef, undef, undef, undef, undef, undef, undef, undef, undef, undef, undef, undef, undef, undef, undef, undef, undef, undef, undef, undef, undef, undef, undef, undef, undef, undef, undef, undef, undef, undef, undef, undef, undef, undef, undef, undef, undef, undef, undef, undef, undef, undef, undef, undef, undef, undef, undef, undef, undef, undef, undef, undef, undef, undef, undef, undef, undef, undef, undef, undef, undef, undef, undef, undef, undef, undef, undef, undef, undef, undef, undef, undef, undef, undef, undef, undef, undef, undef, undef, undef, undef], defers := [] } w3.drew := by
        rw [hG]
        refine wpAny_ready (rs := [6]) (by kernel_rfl) (by simp) ?_
        refine AllReady.cons rfl (fun K hK => ?_) ?_
        · go_simp
          refine hK _ _ ?_; clear hK K
          refine wpAny_take (i := 21) (v := .string X) rfl (by kernel_rfl) (by kernel_rfl) (by kernel_rfl) (fun _ _ _ h => h) (Or.inl ⟨by kernel_rfl, by intro w; kernel_rfl⟩) ?_
          refine wpAny_take (i := 22) (v := .string Y) rfl (by kernel_rfl) (by kernel_rfl) (by kernel_rfl) (fun _ _ _ h => h) (Or.inl ⟨by kernel_rfl, by intro w; kernel_rfl⟩) ?_
          refine wpAny_take (i := 23) (v := .string Z) rfl (by kernel_rfl) (by kernel_rfl) (by kernel_rfl) (fun _ _ _ h => h) (Or.inl ⟨by kernel_rfl, by intro w; kernel_rfl⟩) ?_
          exact any_eq hG (by kernel_rfl) (by kernel_rfl) (by kernel_rfl) hs0.out
        exact AllReady.nil
      have hs12 := Lib.hid hs12'
      clear hs12'
      have hs13' : G 5 #[true, true, true, true, true, true, false, true, true, true, true, true, true, true, true, true, true, true, true, true, false, false, false, false] { tmps := #[.slice a t.length cp, .int .i64 x1, .int .i64 x2, .int .i64 x3, undef, undef, undef, undef, .bool false, .bool true, .slice (some ⟨lb, lo, none⟩) n lc, undef, undef, undef, undef, undef, undef, .bool true, .slice a t.length cp, .bool false, undef, .slice a t.length cp, .slice (some ⟨lb, lo, none⟩) n lc, .slice (some ⟨lb, lo, none⟩) n lc, .int .i64 x1, .slice (some ⟨lb, lo, none⟩) n lc, .int .i64 (n : Int), .int .i64 (i1 : Int), .pointer (some ⟨lb, lo + i1, none⟩), undef, .slice (some ⟨lb, lo, none⟩) n lc, .int .i64 x2, .slice (some ⟨lb, lo, none⟩) n lc, .int .i64 (n : Int), .int .i64 (i2 : Int), .pointer (some ⟨lb, lo + i2, none⟩), .string Y, .slice (some ⟨lb, lo, none⟩) n lc, .int .i64 x3, .slice (some ⟨lb, lo, none⟩) n lc, .int .i64 (n : Int), .int .i64 (i3 : Int), .pointer (some ⟨lb, lo + i3, none⟩), undef, undef, undef, undef, undef, undef, undef, undef, undef, undef, undef, undef, undef, undef, undef, undef, undef, undef, undef, undef, undef, undef, undef, undef, undef, undef, undef, undef, undef, undef, undef, undef, undef, undef, undef, undef, undef, undef, undef, undef, undef, undef, undef, undef, undef, undef, undef, undef, undef, undef, undef, undef, undef, undef, undef, undef, undef, undef, undef, undef, undef, undef, undef, undef, undef, undef, undef, undef, undef, undef, undef, undef, undef, undef, undef, undef, undef, undef, undef, undef, undef, undef, undef, undef, undef, undef, undef, undef, undef, undef, undef, undef, undef, undef, undef, undef, undef, undef, undef, undef, undef, undef, undef], defers := [] } w3.drew := by
        rw [hG]
        refine wpAny_ready (rs := [6, 20]) (by kernel_rfl) (by simp) ?_
        refine AllReady.cons rfl (fun K hK => ?_) ?_
        · go_simp
          refine hK _ _ ?_; clear hK K
          refine wpAny_take (i := 21) (v := .string X) rfl (by kernel_rfl) (by kernel_rfl) (by kernel_rfl) (fun _ _ _ h => h) (Or.inl ⟨by kernel_rfl, by intro w; kernel_rfl⟩) ?_
          refine wpAny_take (i := 22) (v := .string Y) rfl (by kernel_rfl) (by kernel_rfl) (by kernel_rfl) (fun _ _ _ h => h) (Or.inl ⟨by kernel_rfl, by intro w; kernel_rfl⟩) ?_
          exact any_eq hG (by kernel_rfl) (by kernel_rfl) (by kernel_rfl) hs1.out
        refine AllReady.cons rfl (fun K hK => ?_) ?_
        · go_simp
          refine hK _ _ ?_; clear hK K
          exact any_eq hG (by kernel_rfl) (by kernel_rfl) (by kernel_rfl) hs12.out
        exact AllReady.nil
      have hs13 := Lib.hid hs13'
      clear hs13'
      have hs14' : G 7 #[true, true, true, true, true, true, false, true, true, true, true, true, true, true, true, true, true, true, false, false, false, false, false, false] { tmps := #[.slice a t.length cp, .int .i64 x1, .int .i64 x2, .int .i64 x3, undef, undef, undef, undef, .bool false, .bool true, .slice (some ⟨lb, lo, none⟩) n lc, undef, undef, undef, undef, undef, undef, .bool true, .slice a t.length cp, .bool false, undef, .slice a t.length cp, .slice (some ⟨lb, lo, none⟩) n lc, .slice (some ⟨lb, lo, none⟩) n lc, .int .i64 x1, .slice (some ⟨lb, lo, none⟩) n lc, .int .i64 (n : Int), .int .i64 (i1 : Int), .pointer (some ⟨lb, lo + i1, none⟩), undef, .slice (some ⟨lb, lo, none⟩) n lc, .int .i64 x2, .slice (some ⟨lb, lo, none⟩) n lc, .int .i64 (n : Int), .int .i64 (i2 : Int), .pointer (some ⟨lb, lo + i2, none⟩), .string Y, .slice (some ⟨lb, lo, none⟩) n lc, .int .i64 x3, .slice (some ⟨lb, lo, none⟩) n lc, .int .i64 (n : Int), undef, undef, undef, undef, undef, undef, undef, undef, undef, undef, undef, undef, undef, undef, undef, undef, undef, undef, undef, undef, undef, undef, undef, undef, undef, undef, undef, undef, undef, undef, undef, undef, undef, undef, undef, undef, undef, undef, undef, undef, undef, undef, undef, undef, undef, undef, undef, undef, undef, undef, undef, undef, undef, undef, undef, undef, undef, undef, undef, undef, undef, undef, undef, undef, undef, undef, undef, undef, undef, undef, undef, undef, undef, undef, undef, undef, undef, undef, undef, undef, undef, undef, undef, undef, undef, undef, undef, undef, undef, undef, undef, undef, undef, undef, undef, undef, undef, undef, undef, undef, undef, undef, undef, undef, undef], defers := [] } w3.drew := by
        rw [hG]
        refine wpAny_ready (rs := [6, 18]) (by kernel_rfl) (by simp) ?_
        refine AllReady.cons rfl (fun K hK => ?_) ?_
        · go_simp
          refine hK _ _ ?_; clear hK K
          exact any_eq hG (by kernel_rfl) (by kernel_rfl) (by kernel_rfl) hs2.out
        refine AllReady.cons rfl (fun K hK => ?_) ?_
        · go_simp
          go_wp2_with fail
          refine HP3.out.mono ?_
          rintro e w9 ⟨rfl, rfl⟩
          dsimp only
          refine hK _ _ ?_; clear hK K
          refine wpAny_take (i := 19) (v := .pointer (some ⟨lb, lo + i3, none⟩)) rfl (by kernel_rfl) (by kernel_rfl) (by kernel_rfl) (fun _ _ _ h => h) (Or.inl ⟨by kernel_rfl, by intro w; go_simp; try with_reducible rfl⟩) ?_
          exact any_eq hG (by kernel_rfl) (by kernel_rfl) (by kernel_rfl) hs13.out
        exact AllReady.nil
      have hs14 := Lib.hid hs14'
      clear hs14'
      have hs15' : G 8 #[true, true, true, true, true, true, false, true, true, true, true, true, true, true, true, true, true, false, false, false, false, false, false, false] { tmps := #[.slice a t.length cp, .int .i64 x1, .int .i64 x2, .int .i64 x3, undef, undef, undef, undef, .bool false, .bool true, .slice (some ⟨lb, lo, none⟩) n lc, undef, undef, undef, undef, undef, undef, .bool true, .slice a t.length cp, .bool false, undef, .slice a t.length cp, .slice (some ⟨lb, lo, none⟩) n lc, .slice (some ⟨lb, lo, none⟩) n lc, .int .i64 x1, .slice (some ⟨lb, lo, none⟩) n lc, .int .i64 (n : Int), .int .i64 (i1 : Int), .pointer (some ⟨lb, lo + i1, none⟩), undef, .slice (some ⟨lb, lo, none⟩) n lc, .int .i64 x2, .slice (some ⟨lb, lo, none⟩) n lc, .int .i64 (n : Int), .int .i64 (i2 : Int), .pointer (some ⟨lb, lo + i2, none⟩), .string Y, .slice (some ⟨lb, lo, none⟩) n lc, .int .i64 x3, .slice (some ⟨lb, lo, none⟩) n lc, undef, undef, undef, undef, undef, undef, undef, undef, undef, undef, undef, undef, undef, undef, undef, undef, undef, undef, undef, undef, undef, undef, undef, undef, undef, undef, undef, undef, undef, undef, undef, undef, undef, undef, undef, undef, undef, undef, undef, undef, undef, undef, undef, undef, undef, undef, undef, undef, undef, undef, undef, undef, undef, undef, undef, undef, undef, undef, undef, undef, undef, undef, undef, undef, undef, undef, undef, undef, undef, undef, undef, undef, undef, undef, undef, undef, undef, undef, undef, undef, undef, undef, undef, undef, undef, undef, undef, undef, undef, undef, undef, undef, undef, undef, undef, undef, undef, undef, undef, undef, undef, undef, undef, undef, undef, undef], defers := [] } w3.drew := by
        rw [hG]
        refine wpAny_ready (rs := [6, 17]) (by kernel_rfl) (by simp) ?_
        refine AllReady.cons rfl (fun K hK => ?_) ?_
        · go_simp
          refine hK _ _ ?_; clear hK K
          exact any_eq hG (by kernel_rfl) (by kernel_rfl) (by kernel_rfl) hs3.out
        refine AllReady.cons rfl (fun K hK => ?_) ?_
        · go_simp
          refine hK _ _ ?_; clear hK K
          exact any_eq hG (by kernel_rfl) (by kernel_rfl) (by kernel_rfl) hs14.out
        exact AllReady.nil
      have hs15 := Lib.hid hs15'
      clear hs15'
      have hs16' : G 5 #[true, true, true, true, true, true, false, true, true, true, true, true, true, false, true, true, true, true, true, true, true, false, false, false] { tmps := #[.slice a t.length cp, .int .i64 x1, .int .i64 x2, .int .i64 x3, undef, undef, undef, undef, .bool false, .bool true, .slice (some ⟨lb, lo, none⟩) n lc, undef, undef, undef, undef, undef, undef, .bool true, .slice a t.length cp, .bool false, undef, .slice a t.length cp, .slice (some ⟨lb, lo, none⟩) n lc, .slice (some ⟨lb, lo, none⟩) n lc, .int .i64 x1, .slice (some ⟨lb, lo, none⟩) n lc, .int .i64 (n : Int), .int .i64 (i1 : Int), .pointer (some ⟨lb, lo + i1, none⟩), undef, .slice (some ⟨lb, lo, none⟩) n lc, .int .i64 x2, .slice (some ⟨lb, lo, none⟩) n lc, .int .i64 (n : Int), .int .i64 (i2 : Int), .pointer (some ⟨lb, lo + i2, none⟩), undef, .slice (some ⟨lb, lo, none⟩) n lc, .int .i64 x3, .slice (some ⟨lb, lo, none⟩) n lc, .int .i64 (n : Int), .int .i64 (i3 : Int), .pointer (some ⟨lb, lo + i3, none⟩), .string Z, undef, undef, undef, undef, undef, undef, undef, undef, undef, undef, undef, undef, undef, undef, undef, undef, undef, undef, undef, undef, undef, undef, undef, undef, undef, undef, undef, undef, undef, undef, undef, undef, undef, undef, undef, undef, undef, undef, undef, undef, undef, undef, undef, undef, undef, undef, undef, undef, undef, undef, undef, undef, undef, undef, undef, undef, undef, undef, undef, undef, undef, undef, undef, undef, undef, undef, undef, undef, undef, undef, undef, undef, undef, undef, undef, undef, undef, undef, undef, undef, undef, undef, undef, undef, undef, undef, undef, undef, undef, undef, undef, undef, undef, undef, undef, undef, undef, undef, undef, undef, undef, undef], defers := [] } w3.drew := by
        rw [hG]
        refine wpAny_ready (rs := [6, 13]) (by kernel_rfl) (by simp) ?_
        refine AllReady.cons rfl (fun K hK => ?_) ?_
        · go_simp
          refine hK _ _ ?_; clear hK K
          refine wpAny_take (i := 21) (v := .string X) rfl (by kernel_rfl) (by kernel_rfl) (by kernel_rfl) (fun _ _ _ h => h) (Or.inl ⟨by kernel_rfl, by intro w; kernel_rfl⟩) ?_
          exact any_eq hG (by kernel_rfl) (by kernel_rfl) (by kernel_rfl) hs4.out
        refine AllReady.cons rfl (fun K hK => ?_) ?_
        · go_simp
          refine hK _ _ ?_; clear hK K
          exact any_eq hG (by kernel_rfl) (by kernel_rfl) (by kernel_rfl) hs12.out
        exact AllReady.nil
      have hs16 := Lib.hid hs16'
      clear hs16'
      have hs17' : G 6 #[true, true, true, true, true, true, false, true, true, true, true, true, true, false, true, true, true, true, true, true, false, false, false, false] { tmps := #[.slice a t.length cp, .int .i64 x1, .int .i64 x2, .int .i64 x3, undef, undef, undef, undef, .bool false, .bool true, .slice (some ⟨lb, lo, none⟩) n lc, undef, undef, undef, undef, undef, undef, .bool true, .slice a t.length cp, .bool false, undef, .slice a t.length cp, .slice (some ⟨lb, lo, none⟩) n lc, .slice (some ⟨lb, lo, none⟩) n lc, .int .i64 x1, .slice (some ⟨lb, lo, none⟩) n lc, .int .i64 (n : Int), .int .i64 (i1 : Int), .pointer (some ⟨lb, lo + i1, none⟩), undef, .slice (some ⟨lb, lo, none⟩) n lc, .int .i64 x2, .slice (some ⟨lb, lo, none⟩) n lc, .int .i64 (n : Int), .int .i64 (i2 : Int), .pointer (some ⟨lb, lo + i2, none⟩), undef, .slice (some ⟨lb, lo, none⟩) n lc, .int .i64 x3, .slice (some ⟨lb, lo, none⟩) n lc, .int .i64 (n : Int), .int .i64 (i3 : Int), .pointer (some ⟨lb, lo + i3, none⟩), undef, undef, undef, undef, undef, undef, undef, undef, undef, undef, undef, undef, undef, undef, undef, undef, undef, undef, undef, undef, undef, undef, undef, undef, undef, undef, undef, undef, undef, undef, undef, undef, undef, undef, undef, undef, undef, undef, undef, undef, undef, undef, undef, undef, undef, undef, undef, undef, undef, undef, undef, undef, undef, undef, undef, undef, undef, undef, undef, undef, undef, undef, undef, undef, undef, undef, undef, undef, undef, undef, undef, undef, undef, undef, undef, undef, undef, undef, undef, undef, undef, undef, undef, undef, undef, undef, undef, undef, undef, undef, undef, undef, undef, undef, undef, undef, undef, undef, undef, undef, undef, undef, undef], defers := [] } w3.drew := by
        rw [hG]
        refine wpAny_ready (rs := [6, 13, 20]) (by kernel_rfl) (by simp) ?_
        refine AllReady.cons rfl (fun K hK => ?_) ?_
        · go_simp
          refine hK _ _ ?_; clear hK K
          refine wpAny_take (i := 21) (v := .string X) rfl (by kernel_rfl) (by kernel_rfl) (by kernel_rfl) (fun _ _ _ h => h) (Or.inl ⟨by kernel_rfl, by intro w; kernel_rfl⟩) ?_
          exact any_eq hG (by kernel_rfl) (by kernel_rfl) (by kernel_rfl) hs5.out
        refine AllReady.cons rfl (fun K hK => ?_) ?_
        · go_simp
          refine hK _ _ ?_; clear hK K
          exact any_eq hG (by kernel_rfl) (by kernel_rfl) (by kernel_rfl) hs13.out
        refine AllReady.cons rfl (fun K hK => ?_) ?_
        · go_simp
          refine hK _ _ ?_; clear hK K
          exact any_eq hG (by kernel_rfl) (by kernel_rfl) (by kernel_rfl) hs16.out
        exact AllReady.nil
      have hs17 := Lib.hid hs17'
      clear hs17'
      have hs18' : G 8 #[true, true, true, true, true, true, false, true, true, true, true, true, true, false, true, true, true, true, false, false, false, false, false, false] { tmps := #[.slice a t.length cp, .int .i64 x1, .int .i64 x2, .int .i64 x3, undef, undef, undef, undef, .bool false, .bool true, .slice (some ⟨lb, lo, none⟩) n lc, undef, undef, undef, undef, undef, undef, .bool true, .slice a t.length cp, .bool false, undef, .slice a t.length cp, .slice (some ⟨lb, lo, none⟩) n lc, .slice (some ⟨lb, lo, none⟩) n lc, .int .i64 x1, .slice (some ⟨lb, lo, none⟩) n lc, .int .i64 (n : Int), .int .i64 (i1 : Int), .pointer (some ⟨lb, lo + i1, none⟩), undef, .slice (some ⟨lb, lo, none⟩) n lc, .int .i64 x2, .slice (some ⟨lb, lo, none⟩) n lc, .int .i64 (n : Int), .int .i64 (i2 : Int), .pointer (some ⟨lb, lo + i2, none⟩), undef, .slice (some ⟨lb, lo, none⟩) n lc, .int .i64 x3, .slice (some ⟨lb, lo, none⟩) n lc, .int .i64 (n : Int), undef, undef, undef, undef, undef, undef, undef, undef, undef, undef, undef, undef, undef, undef, undef, undef, undef, undef, undef, undef, undef, undef, undef, undef, undef, undef, undef, undef, undef, undef, undef, undef, undef, undef, undef, undef, undef, undef, undef, undef, undef, undef, undef, undef, undef, undef, undef, undef, undef, undef, undef, undef, undef, undef, undef, undef, undef, undef, undef, undef, undef, undef, undef, undef, undef, undef, undef, undef, undef, undef, undef, undef, undef, undef, undef, undef, undef, undef, undef, undef, undef, undef, undef, undef, undef, undef, undef, undef, undef, undef, undef, undef, undef, undef, undef, undef, undef, undef, undef, undef, undef, undef, undef, undef, undef], defers := [] } w3.drew := by
        rw [hG]
        refine wpAny_ready (rs := [6, 13, 18]) (by kernel_rfl) (by simp) ?_
        refine AllReady.cons rfl (fun K hK => ?_) ?_
        · go_simp
          refine hK _ _ ?_; clear hK K
          exact any_eq hG (by kernel_rfl) (by kernel_rfl) (by kernel_rfl) hs6.out
        refine AllReady.cons rfl (fun K hK => ?_) ?_
        · go_simp
          refine hK _ _ ?_; clear hK K
          exact any_eq hG (by kernel_rfl) (by kernel_rfl) (by kernel_rfl) hs14.out
        refine AllReady.cons rfl (fun K hK => ?_) ?_
        · go_simp
          go_wp2_with fail
          refine HP3.out.mono ?_
          rintro e w9 ⟨rfl, rfl⟩
          dsimp only
          refine hK _ _ ?_; clear hK K
          refine wpAny_take (i := 19) (v := .pointer (some ⟨lb, lo + i3, none⟩)) rfl (by kernel_rfl) (by kernel_rfl) (by kernel_rfl) (fun _ _ _ h => h) (Or.inl ⟨by kernel_rfl, by intro w; go_simp; try with_reducible rfl⟩) ?_
          exact any_eq hG (by kernel_rfl) (by kernel_rfl) (by kernel_rfl) hs17.out
        exact AllReady.nil
      have hs18 := Lib.hid hs18'
      clear hs18'
      have hs19' : G 9 #[true, true, true, true, true, true, false, true, true, true, true, true, true, false, true, true, true, false, false, false, false, false, false, false] { tmps := #[.slice a t.length cp, .int .i64 x1, .int .i64 x2, .int .i64 x3, undef, undef, undef, undef, .bool false, .bool true, .slice (some ⟨lb, lo, none⟩) n lc, undef, undef, undef, undef, undef, undef, .bool true, .slice a t.length cp, .bool false, undef, .slice a t.length cp, .slice (some ⟨lb, lo, none⟩) n lc, .slice (some ⟨lb, lo, none⟩) n lc, .int .i64 x1, .slice (some ⟨lb, lo, none⟩) n lc, .int .i64 (n : Int), .int .i64 (i1 : Int), .pointer (some ⟨lb, lo + i1, none⟩), undef, .slice (some ⟨lb, lo, none⟩) n lc, .int .i64 x2, .slice (some ⟨lb, lo, none⟩) n lc, .int .i64 (n : Int), .int .i64 (i2 : Int), .pointer (some ⟨lb, lo + i2, none⟩), undef, .slice (some ⟨lb, lo, none⟩) n lc, .int .i64 x3, .slice (some ⟨lb, lo, none⟩) n lc, undef, undef, undef, undef, undef, undef, undef, undef, undef, undef, undef, undef, undef, undef, undef, undef, undef, undef, undef, undef, undef, undef, undef, undef, undef, undef, undef, undef, undef, undef, undef, undef, undef, undef, undef, undef, undef, undef, undef, undef, undef, undef, undef, undef, undef, undef, undef, undef, undef, undef, undef, undef, undef, undef, undef, undef, undef, undef, undef, undef, undef, undef, undef, undef, undef, undef, undef, undef, undef, undef, undef, undef, undef, undef, undef, undef, undef, undef, undef, undef, undef, undef, undef, undef, undef, undef, undef, undef, undef, undef, undef, undef, undef, undef, undef, undef, undef, undef, undef, undef, undef, undef, undef, undef, undef, undef], defers := [] } w3.drew := by
        rw [hG]
        refine wpAny_ready (rs := [6, 13, 17]) (by kernel_rfl) (by simp) ?_
        refine AllReady.cons rfl (fun K hK => ?_) ?_
        · go_simp
          refine hK _ _ ?_; clear hK K
          exact any_eq hG (by kernel_rfl) (by kernel_rfl) (by kernel_rfl) hs7.out
        refine AllReady.cons rfl (fun K hK => ?_) ?_
        · go_simp
          refine hK _ _ ?_; clear hK K
          exact any_eq hG (by kernel_rfl) (by kernel_rfl) (by kernel_rfl) hs15.out
        refine AllReady.cons rfl (fun K hK => ?_) ?_
        · go_simp
          refine hK _ _ ?_; clear hK K
          exact any_eq hG (by kernel_rfl) (by kernel_rfl) (by kernel_rfl) hs18.out
        exact AllReady.nil
      have hs19 := Lib.hid hs19'
      clear hs19'
      have hs20' : G 10 #[true, true, true, true, true, true, false, true, true, true, true, false, false, false, true, true, true, true, false, false, false, false, false, false] { tmps := #[.slice a t.length cp, .int .i64 x1, .int .i64 x2, .int .i64 x3, undef, undef, undef, undef, .bool false, .bool true, .slice (some ⟨lb, lo, none⟩) n lc, undef, undef, undef, undef, undef, undef, .bool true, .slice a t.length cp, .bool false, undef, .slice a t.length cp, .slice (some ⟨lb, lo, none⟩) n lc, .slice (some ⟨lb, lo, none⟩) n lc, .int .i64 x1, .slice (some ⟨lb, lo, none⟩) n lc, .int .i64 (n : Int), .int .i64 (i1 : Int), .pointer (some ⟨lb, lo + i1, none⟩), undef, .slice (some ⟨lb, lo, none⟩) n lc, .int .i64 x2, .slice (some ⟨lb, lo, none⟩) n lc, .int .i64 (n : Int), undef, undef, undef, .slice (some ⟨lb, lo, none⟩) n lc, .int .i64 x3, .slice (some ⟨lb, lo, none⟩) n lc, .int .i64 (n : Int), undef, undef, undef, undef, undef, undef, undef, undef, undef, undef, undef, undef, undef, undef, undef, undef, undef, undef, undef, undef, undef, undef, undef, undef, undef, undef, undef, undef, undef, undef, undef, undef, undef, undef, undef, undef, undef, undef, undef, undef, undef, undef, undef, undef, undef, undef, undef, undef, undef, undef, undef, undef, undef, undef, undef, undef, undef, undef, undef, undef, undef, undef, undef, undef, undef, undef, undef, undef, undef, undef, undef, undef, undef, undef, undef, undef, undef, undef, undef, undef, undef, undef, undef, undef, undef, undef, undef, undef, undef, undef, undef, undef, undef, undef, undef, undef, undef, undef, undef, undef, undef, undef, undef, undef, undef], defers := [] } w3.drew := by
        rw [hG]
        refine wpAny_ready (rs := [6, 11]) (by kernel_rfl) (by simp) ?_
        refine AllReady.cons rfl (fun K hK => ?_) ?_
        · go_simp
          refine hK _ _ ?_; clear hK K
          exact any_eq hG (by kernel_rfl) (by kernel_rfl) (by kernel_rfl) hs8.out
        refine AllReady.cons rfl (fun K hK => ?_) ?_
        · go_simp
          go_wp2_with fail
          refine HP2.out.mono ?_
          rintro e w9 ⟨rfl, rfl⟩
          dsimp only
          refine hK _ _ ?_; clear hK K
          refine wpAny_take (i := 12) (v := .pointer (some ⟨lb, lo + i2, none⟩)) rfl (by kernel_rfl) (by kernel_rfl) (by kernel_rfl) (fun _ _ _ h => h) (Or.inl ⟨by kernel_rfl, by intro w; go_simp; try with_reducible rfl⟩) ?_
          exact any_eq hG (by kernel_rfl) (by kernel_rfl) (by kernel_rfl) hs18.out
        exact AllReady.nil
      have hs20 := Lib.hid hs20'
      clear hs20'
      have hs21' : G 11 #[true, true, true, true, true, true, false, true, true, true, true, false, false, false, true, true, true, false, false, false, false, false, false, false] { tmps := #[.slice a t.length cp, .int .i64 x1, .int .i64 x2, .int .i64 x3, undef, undef, undef, undef, .bool false, .bool true, .slice (some ⟨lb, lo, none⟩) n lc, undef, undef, undef, undef, undef, undef, .bool true, .slice a t.length cp, .bool false, undef, .slice a t.length cp, .slice (some ⟨lb, lo, none⟩) n lc, .slice (some ⟨lb, lo, none⟩) n lc, .int .i64 x1, .slice (some ⟨lb, lo, none⟩) n lc, .int .i64 (n : Int), .int .i64 (i1 : Int), .pointer (some ⟨lb, lo + i1, none⟩), undef, .slice (some ⟨lb, lo, none⟩) n lc, .int .i64 x2, .slice (some ⟨lb, lo, none⟩) n lc, .int .i64 (n : Int), undef, undef, undef, .slice (some ⟨lb, lo, none⟩) n lc, .int .i64 x3, .slice (some ⟨lb, lo, none⟩) n lc, undef, undef, undef, undef, undef, undef, undef, undef, undef, undef, undef, undef, undef, undef, undef, undef, undef, undef, undef, undef, undef, undef, undef, undef, undef, undef, undef, undef, undef, undef, undef, undef, undef, undef, undef, undef, undef, undef, undef, undef, undef, undef, undef, undef, undef, undef, undef, undef, undef, undef, undef, undef, undef, undef, undef, undef, undef, undef, undef, undef, undef, undef, undef, undef, undef, undef, undef, undef, undef, undef, undef, undef, undef, undef, undef, undef, undef, undef, undef, undef, undef, undef, undef, undef, undef, undef, undef, undef, undef, undef, undef, undef, undef, undef, undef, undef, undef, undef, undef, undef, undef, undef, undef, undef, undef, undef], defers := [] } w3.drew := by
        rw [hG]
        refine wpAny_ready (rs := [6, 11, 17]) (by kernel_rfl) (by simp) ?_
        refine AllReady.cons rfl (fun K hK => ?_) ?_
        · go_simp
          refine hK _ _ ?_; clear hK K
          exact any_eq hG (by kernel_rfl) (by kernel_rfl) (by kernel_rfl) hs9.out
        refine AllReady.cons rfl (fun K hK => ?_) ?_
        · go_simp
          go_wp2_with fail
          refine HP2.out.mono ?_
          rintro e w9 ⟨rfl, rfl⟩
          dsimp only
          refine hK _ _ ?_; clear hK K
          refine wpAny_take (i := 12) (v := .pointer (some ⟨lb, lo + i2, none⟩)) rfl (by kernel_rfl) (by kernel_rfl) (by kernel_rfl) (fun _ _ _ h => h) (Or.inl ⟨by kernel_rfl, by intro w; go_simp; try with_reducible rfl⟩) ?_
          exact any_eq hG (by kernel_rfl) (by kernel_rfl) (by kernel_rfl) hs19.out
        refine AllReady.cons rfl (fun K hK => ?_) ?_
        · go_simp
          refine hK _ _ ?_; clear hK K
          exact any_eq hG (by kernel_rfl) (by kernel_rfl) (by kernel_rfl) hs20.out
        exact AllReady.nil
      have hs21 := Lib.hid hs21'
      clear hs21'
      have hs22' : G 11 #[true, true, true, true, true, true, false, true, true, true, false, false, false, false, true, true, true, true, false, false, false, false, false, false] { tmps := #[.slice a t.length cp, .int .i64 x1, .int .i64 x2, .int .i64 x3, undef, undef, undef, undef, .bool false, .bool true, .slice (some ⟨lb, lo, none⟩) n lc, undef, undef, undef, undef, undef, undef, .bool true, .slice a t.length cp, .bool false, undef, .slice a t.length cp, .slice (some ⟨lb, lo, none⟩) n lc, .slice (some ⟨lb, lo, none⟩) n lc, .int .i64 x1, .slice (some ⟨lb, lo, none⟩) n lc, .int .i64 (n : Int), .int .i64 (i1 : Int), .pointer (some ⟨lb, lo + i1, none⟩), undef, .slice (some ⟨lb, lo, none⟩) n lc, .int .i64 x2, .slice (some ⟨lb, lo, none⟩) n lc, undef, undef, undef, undef, .slice (some ⟨lb, lo, none⟩) n lc, .int .i64 x3, .slice (some ⟨lb, lo, none⟩) n lc, .int .i64 (n : Int), undef, undef, undef, undef, undef, undef, undef, undef, undef, undef, undef, undef, undef, undef, undef, undef, undef, undef, undef, undef, undef, undef, undef, undef, undef, undef, undef, undef, undef, undef, undef, undef, undef, undef, undef, undef, undef, undef, undef, undef, undef, undef, undef, undef, undef, undef, undef, undef, undef, undef, undef, undef, undef, undef, undef, undef, undef, undef, undef, undef, undef, undef, undef, undef, undef, undef, undef, undef, undef, undef, undef, undef, undef, undef, undef, undef, undef, undef, undef, undef, undef, undef, undef, undef, undef, undef, undef, undef, undef, undef, undef, undef, undef, undef, undef, undef, undef, undef, undef, undef, undef, undef, undef, undef, undef], defers := [] } w3.drew := by
        rw [hG]
        refine wpAny_ready (rs := [6, 10]) (by kernel_rfl) (by simp) ?_
        refine AllReady.cons rfl (fun K hK => ?_) ?_
        · go_simp
          refine hK _ _ ?_; clear hK K
          exact any_eq hG (by kernel_rfl) (by kernel_rfl) (by kernel_rfl) hs10.out
        refine AllReady.cons rfl (fun K hK => ?_) ?_
        · go_simp
          refine hK _ _ ?_; clear hK K
          exact any_eq hG (by kernel_rfl) (by kernel_rfl) (by kernel_rfl) hs20.out
        exact AllReady.nil
      have hs22 := Lib.hid hs22'
      clear hs22'
      have hs23' : G 12 #[true, true, true, true, true, true, false, true, true, true, false, false, false, false, true, true, true, false, false, false, false, false, false, false] { tmps := #[.slice a t.length cp, .int .i64 x1, .int .i64 x2, .int .i64 x3, undef, undef, undef, undef, .bool false, .bool true, .slice (some ⟨lb, lo, none⟩) n lc, undef, undef, undef, undef, undef, undef, .bool true, .slice a t.length cp, .bool false, undef, .slice a t.length cp, .slice (some ⟨lb, lo, none⟩) n lc, .slice (some ⟨lb, lo, none⟩) n lc, .int .i64 x1, .slice (some ⟨lb, lo, none⟩) n lc, .int .i64 (n : Int), .int .i64 (i1 : Int), .pointer (some ⟨lb, lo + i1, none⟩), undef, .slice (some ⟨lb, lo, none⟩) n lc, .int .i64 x2, .slice (some ⟨lb, lo, none⟩) n lc, undef, undef, undef, undef, .slice (some ⟨lb, lo, none⟩) n lc, .int .i64 x3, .slice (some ⟨lb, lo, none⟩) n lc, undef, undef, undef, undef, undef, undef, undef, undef, undef, undef, undef, undef, undef, undef, undef, undef, undef, undef, undef, undef, undef, undef, undef, undef, undef, undef, undef, undef, undef, undef, undef, undef, undef, undef, undef, undef, undef, undef, undef, undef, undef, undef, undef, undef, undef, undef, undef, undef, undef, undef, undef, undef, undef, undef, undef, undef, undef, undef, undef, undef, undef, undef, undef, undef, undef, undef, undef, undef, undef, undef, undef, undef, undef, undef, undef, undef, undef, undef, undef, undef, undef, undef, undef, undef, undef, undef, undef, undef, undef, undef, undef, undef, undef, undef, undef, undef, undef, undef, undef, undef, undef, undef, undef, undef, undef, undef], defers := [] } w3.drew := by
        rw [hG]
        refine wpAny_ready (rs := [6, 10, 17]) (by kernel_rfl) (by simp) ?_
        refine AllReady.cons rfl (fun K hK => ?_) ?_
        · go_simp
          refine hK _ _ ?_; clear hK K
          exact any_eq hG (by kernel_rfl) (by kernel_rfl) (by kernel_rfl) hs11.out
        refine AllReady.cons rfl (fun K hK => ?_) ?_
        · go_simp
          refine hK _ _ ?_; clear hK K
          exact any_eq hG (by kernel_rfl) (by kernel_rfl) (by kernel_rfl) hs21.out
        refine AllReady.cons rfl (fun K hK => ?_) ?_
        · go_simp
          refine hK _ _ ?_; clear hK K
          exact any_eq hG (by kernel_rfl) (by kernel_rfl) (by kernel_rfl) hs22.out
        exact AllReady.nil
      have hs23 := Lib.hid hs23'
      clear hs23'
      have hs24' : G 12 #[true, true, true, true, false, false, false, true, true, true, true, false, false, false, true, true, true, true, false, false, false, false, false, false] { tmps := #[.slice a t.length cp, .int .i64 x1, .int .i64 x2, .int .i64 x3, undef, undef, undef, undef, .bool false, .bool true, .slice (some ⟨lb, lo, none⟩) n lc, undef, undef, undef, undef, undef, undef, .bool true, .slice a t.length cp, .bool false, undef, .slice a t.length cp, .slice (some ⟨lb, lo, none⟩) n lc, .slice (some ⟨lb, lo, none⟩) n lc, .int .i64 x1, .slice (some ⟨lb, lo, none⟩) n lc, .int .i64 (n : Int), undef, undef, undef, .slice (some ⟨lb, lo, none⟩) n lc, .int .i64 x2, .slice (some ⟨lb, lo, none⟩) n lc, .int .i64 (n : Int), undef, undef, undef, .slice (some ⟨lb, lo, none⟩) n lc, .int .i64 x3, .slice (some ⟨lb, lo, none⟩) n lc, .int .i64 (n : Int), undef, undef, undef, undef, undef, undef, undef, undef, undef, undef, undef, undef, undef, undef, undef, undef, undef, undef, undef, undef, undef, undef, undef, undef, undef, undef, undef, undef, undef, undef, undef, undef, undef, undef, undef, undef, undef, undef, undef, undef, undef, undef, undef, undef, undef, undef, undef, undef, undef, undef, undef, undef, undef, undef, undef, undef, undef, undef, undef, undef, undef, undef, undef, undef, undef, undef, undef, undef, undef, undef, undef, undef, undef, undef, undef, undef, undef, undef, undef, undef, undef, undef, undef, undef, undef, undef, undef, undef, undef, undef, undef, undef, undef, undef, undef, undef, undef, undef, undef, undef, undef, undef, undef, undef, undef], defers := [] } w3.drew := by
        rw [hG]
        refine wpAny_ready (rs := [4]) (by kernel_rfl) (by simp) ?_
        refine AllReady.cons rfl (fun K hK => ?_) ?_
        · go_simp
          go_wp2_with fail
          refine HP1.out.mono ?_
          rintro e w9 ⟨rfl, rfl⟩
          dsimp only
          refine hK _ _ ?_; clear hK K
          refine wpAny_take (i := 5) (v := .pointer (some ⟨lb, lo + i1, none⟩)) rfl (by kernel_rfl) (by kernel_rfl) (by kernel_rfl) (fun _ _ _ h => h) (Or.inl ⟨by kernel_rfl, by intro w; go_simp; try with_reducible rfl⟩) ?_
          exact any_eq hG (by kernel_rfl) (by kernel_rfl) (by kernel_rfl) hs20.out
        exact AllReady.nil
      have hs24 := Lib.hid hs24'
      clear hs24'
      have hs25' : G 13 #[true, true, true, true, false, false, false, true, true, true, true, false, false, false, true, true, true, false, false, false, false, false, false, false] { tmps := #[.slice a t.length cp, .int .i64 x1, .int .i64 x2, .int .i64 x3, undef, undef, undef, undef, .bool false, .bool true, .slice (some ⟨lb, lo, none⟩) n lc, undef, undef, undef, undef, undef, undef, .bool true, .slice a t.length cp, .bool false, undef, .slice a t.length cp, .slice (some ⟨lb, lo, none⟩) n lc, .slice (some ⟨lb, lo, none⟩) n lc, .int .i64 x1, .slice (some ⟨lb, lo, none⟩) n lc, .int .i64 (n : Int), undef, undef, undef, .slice (some ⟨lb, lo, none⟩) n lc, .int .i64 x2, .slice (some ⟨lb, lo, none⟩) n lc, .int .i64 (n : Int), undef, undef, undef, .slice (some ⟨lb, lo, none⟩) n lc, .int .i64 x3, .slice (some ⟨lb, lo, none⟩) n lc, undef, undef, undef, undef, undef, undef, undef, undef, undef, undef, undef, undef, undef, undef, undef, undef, undef, undef, undef, undef, undef, undef, undef, undef, undef, undef, undef, undef, undef, undef, undef, undef, undef, undef, undef, undef, undef, undef, undef, undef, undef, undef, undef, undef, undef, undef, undef, undef, undef, undef, undef, undef, undef, undef, undef, undef, undef, undef, undef, undef, undef, undef, undef, undef, undef, undef, undef, undef, undef, undef, undef, undef, undef, undef, undef, undef, undef, undef, undef, undef, undef, undef, undef, undef, undef, undef, undef, undef, undef, undef, undef, undef, undef, undef, undef, undef, undef, undef, undef, undef, undef, undef, undef, undef, undef, undef], defers := [] } w3.drew := by
        rw [hG]
        refine wpAny_ready (rs := [4, 17]) (by kernel_rfl) (by simp) ?_
        refine AllReady.cons rfl (fun K hK => ?_) ?_
        · go_simp
          go_wp2_with fail
          refine HP1.out.mono ?_
          rintro e w9 ⟨rfl, rfl⟩
          dsimp only
          refine hK _ _ ?_; clear hK K
          refine wpAny_take (i := 5) (v := .pointer (some ⟨lb, lo + i1, none⟩)) rfl (by kernel_rfl) (by kernel_rfl) (by kernel_rfl) (fun _ _ _ h => h) (Or.inl ⟨by kernel_rfl, by intro w; go_simp; try with_reducible rfl⟩) ?_
          exact any_eq hG (by kernel_rfl) (by kernel_rfl) (by kernel_rfl) hs21.out
        refine AllReady.cons rfl (fun K hK => ?_) ?_
        · go_simp
          refine hK _ _ ?_; clear hK K
          exact any_eq hG (by kernel_rfl) (by kernel_rfl) (by kernel_rfl) hs24.out
        exact AllReady.nil
      have hs25 := Lib.hid hs25'
      clear hs25'
      have hs26' : G 13 #[true, true, true, true, false, false, false, true, true, true, false, false, false, false, true, true, true, true, false, false, false, false, false, false] { tmps := #[.slice a t.length cp, .int .i64 x1, .int .i64 x2, .int .i64 x3, undef, undef, undef, undef, .bool false, .bool true, .slice (some ⟨lb, lo, none⟩) n lc, undef, undef, undef, undef, undef, undef, .bool true, .slice a t.length cp, .bool false, undef, .slice a t.length cp, .slice (some ⟨lb, lo, none⟩) n lc, .slice (some ⟨lb, lo, none⟩) n lc, .int .i64 x1, .slice (some ⟨lb, lo, none⟩) n lc, .int .i64 (n : Int), undef, undef, undef, .slice (some ⟨lb, lo, none⟩) n lc, .int .i64 x2, .slice (some ⟨lb, lo, none⟩) n lc, undef, undef, undef, undef, .slice (some ⟨lb, lo, none⟩) n lc, .int .i64 x3, .slice (some ⟨lb, lo, none⟩) n lc, .int .i64 (n : Int), undef, undef, undef, undef, undef, undef, undef, undef, undef, undef, undef, undef, undef, undef, undef, undef, undef, undef, undef, undef, undef, undef, undef, undef, undef, undef, undef, undef, undef, undef, undef, undef, undef, undef, undef, undef, undef, undef, undef, undef, undef, undef, undef, undef, undef, undef, undef, undef, undef, undef, undef, undef, undef, undef, undef, undef, undef, undef, undef, undef, undef, undef, undef, undef, undef, undef, undef, undef, undef, undef, undef, undef, undef, undef, undef, undef, undef, undef, undef, undef, undef, undef, undef, undef, undef, undef, undef, undef, undef, undef, undef, undef, undef, undef, undef, undef, undef, undef, undef, undef, undef, undef, undef, undef, undef], defers := [] } w3.drew := by
        rw [hG]
        refine wpAny_ready (rs := [4, 10]) (by kernel_rfl) (by simp) ?_
        refine AllReady.cons rfl (fun K hK => ?_) ?_
        · go_simp
          go_wp2_with fail
          refine HP1.out.mono ?_
          rintro e w9 ⟨rfl, rfl⟩
          dsimp only
          refine hK _ _ ?_; clear hK K
          refine wpAny_take (i := 5) (v := .pointer (some ⟨lb, lo + i1, none⟩)) rfl (by kernel_rfl) (by kernel_rfl) (by kernel_rfl) (fun _ _ _ h => h) (Or.inl ⟨by kernel_rfl, by intro w; go_simp; try with_reducible rfl⟩) ?_
          exact any_eq hG (by kernel_rfl) (by kernel_rfl) (by kernel_rfl) hs22.out
        refine AllReady.cons rfl (fun K hK => ?_) ?_
        · go_simp
          refine hK _ _ ?_; clear hK K
          exact any_eq hG (by kernel_rfl) (by kernel_rfl) (by kernel_rfl) hs24.out
        exact AllReady.nil
      have hs26 := Lib.hid hs26'
      clear hs26'
      have hs27' : G 14 #[true, true, true, true, false, false, false, true, true, true, false, false, false, false, true, true, true, false, false, false, false, false, false, false] { tmps := #[.slice a t.length cp, .int .i64 x1, .int .i64 x2, .int .i64 x3, undef, undef, undef, undef, .bool false, .bool true, .slice (some ⟨lb, lo, none⟩) n lc, undef, undef, undef, undef, undef, undef, .bool true, .slice a t.length cp, .bool false, undef, .slice a t.length cp, .slice (some ⟨lb, lo, none⟩) n lc, .slice (some ⟨lb, lo, none⟩) n lc, .int .i64 x1, .slice (some ⟨lb, lo, none⟩) n lc, .int .i64 (n : Int), undef, undef, undef, .slice (some ⟨lb, lo, none⟩) n lc, .int .i64 x2, .slice (some ⟨lb, lo, none⟩) n lc, undef, undef, undef, undef, .slice (some ⟨lb, lo, none⟩) n lc, .int .i64 x3, .slice (some ⟨lb, lo, none⟩) n lc, undef, undef, undef, undef, undef, undef, undef, undef, undef, undef, undef, undef, undef, undef, undef, undef, undef, undef, undef, undef, undef, undef, undef, undef, undef, undef, undef, undef, undef, undef, undef, undef, undef, undef, undef, undef, undef, undef, undef, undef, undef, undef, undef, undef, undef, undef, undef, undef, undef, undef, undef, undef, undef, undef, undef, undef, undef, undef, undef, undef, undef, undef, undef, undef, undef, undef, undef, undef, undef, undef, undef, undef, undef, undef, undef, undef, undef, undef, undef, undef, undef, undef, undef, undef, undef, undef, undef, undef, undef, undef, undef, undef, undef, undef, undef, undef, undef, undef, undef, undef, undef, undef, undef, undef, undef, undef], defers := [] } w3.drew := by
        rw [hG]
        refine wpAny_ready (rs := [4, 10, 17]) (by kernel_rfl) (by simp) ?_
        refine AllReady.cons rfl (fun K hK => ?_) ?_
        · go_simp
          go_wp2_with fail
          refine HP1.out.mono ?_
          rintro e w9 ⟨rfl, rfl⟩
          dsimp only
          refine hK _ _ ?_; clear hK K
          refine wpAny_take (i := 5) (v := .pointer (some ⟨lb, lo + i1, none⟩)) rfl (by kernel_rfl) (by kernel_rfl) (by kernel_rfl) (fun _ _ _ h => h) (Or.inl ⟨by kernel_rfl, by intro w; go_simp; try with_reducible rfl⟩) ?_
          exact any_eq hG (by kernel_rfl) (by kernel_rfl) (by kernel_rfl) hs23.out
        refine AllReady.cons rfl (fun K hK => ?_) ?_
        · go_simp
          refine hK _ _ ?_; clear hK K
          exact any_eq hG (by kernel_rfl) (by kernel_rfl) (by kernel_rfl) hs25.out
        refine AllReady.cons rfl (fun K hK => ?_) ?_
        · go_simp
          refine hK _ _ ?_; clear hK K
          exact any_eq hG (by kernel_rfl) (by kernel_rfl) (by kernel_rfl) hs26.out
        exact AllReady.nil
      have hs27 := Lib.hid hs27'
      clear hs27'
      have hs28' : G 13 #[true, true, true, false, false, false, false, true, true, true, true, false, false, false, true, true, true, true, false, false, false, false, false, false] { tmps := #[.slice a t.length cp, .int .i64 x1, .int .i64 x2, .int .i64 x3, undef, undef, undef, undef, .bool false, .bool true, .slice (some ⟨lb, lo, none⟩) n lc, undef, undef, undef, undef, undef, undef, .bool true, .slice a t.length cp, .bool false, undef, .slice a t.length cp, .slice (some ⟨lb, lo, none⟩) n lc, .slice (some ⟨lb, lo, none⟩) n lc, .int .i64 x1, .slice (some ⟨lb, lo, none⟩) n lc, undef, undef, undef, undef, .slice (some ⟨lb, lo, none⟩) n lc, .int .i64 x2, .slice (some ⟨lb, lo, none⟩) n lc, .int .i64 (n : Int), undef, undef, undef, .slice (some ⟨lb, lo, none⟩) n lc, .int .i64 x3, .slice (some ⟨lb, lo, none⟩) n lc, .int .i64 (n : Int), undef, undef, undef, undef, undef, undef, undef, undef, undef, undef, undef, undef, undef, undef, undef, undef, undef, undef, undef, undef, undef, undef, undef, undef, undef, undef, undef, undef, undef, undef, undef, undef, undef, undef, undef, undef, undef, undef, undef, undef, undef, undef, undef, undef, undef, undef, undef, undef, undef, undef, undef, undef, undef, undef, undef, undef, undef, undef, undef, undef, undef, undef, undef, undef, undef, undef, undef, undef, undef, undef, undef, undef, undef, undef, undef, undef, undef, undef, undef, undef, undef, undef, undef, undef, undef, undef, undef, undef, undef, undef, undef, undef, undef, undef, undef, undef, undef, undef, undef, undef, undef, undef, undef, undef, undef], defers := [] } w3.drew := by
        rw [hG]
        refine wpAny_ready (rs := [3]) (by kernel_rfl) (by simp) ?_
        refine AllReady.cons rfl (fun K hK => ?_) ?_
        · go_simp
          refine hK _ _ ?_; clear hK K
          exact any_eq hG (by kernel_rfl) (by kernel_rfl) (by kernel_rfl) hs24.out
        exact AllReady.nil
      have hs28 := Lib.hid hs28'
      clear hs28'
      have hs29' : G 14 #[true, true, true, false, false, false, false, true, true, true, true, false, false, false, true, true, true, false, false, false, false, false, false, false] { tmps := #[.slice a t.length cp, .int .i64 x1, .int .i64 x2, .int .i64 x3, undef, undef, undef, undef, .bool false, .bool true, .slice (some ⟨lb, lo, none⟩) n lc, undef, undef, undef, undef, undef, undef, .bool true, .slice a t.length cp, .bool false, undef, .slice a t.length cp, .slice (some ⟨lb, lo, none⟩) n lc, .slice (some ⟨lb, lo, none⟩) n lc, .int .i64 x1, .slice (some ⟨lb, lo, none⟩) n lc, undef, undef, undef, undef, .slice (some ⟨lb, lo, none⟩) n lc, .int .i64 x2, .slice (some ⟨lb, lo, none⟩) n lc, .int .i64 (n : Int), undef, undef, undef, .slice (some ⟨lb, lo, none⟩) n lc, .int .i64 x3, .slice (some ⟨lb, lo, none⟩) n lc, undef, undef, undef, undef, undef, undef, undef, undef, undef, undef, undef, undef, undef, undef, undef, undef, undef, undef, undef, undef, undef, undef, undef, undef, undef, undef, undef, undef, undef, undef, undef, undef, undef, undef, undef, undef, undef, undef, undef, undef, undef, undef, undef, undef, undef, undef, undef, undef, undef, undef, undef, undef, undef, undef, undef, undef, undef, undef, undef, undef, undef, undef, undef, undef, undef, undef, undef, undef, undef, undef, undef, undef, undef, undef, undef, undef, undef, undef, undef, undef, undef, undef, undef, undef, undef, undef, undef, undef, undef, undef, undef, undef, undef, undef, undef, undef, undef, undef, undef, undef, undef, undef, undef, undef, undef, undef], defers := [] } w3.drew := by
        rw [hG]
        refine wpAny_ready (rs := [3, 17]) (by kernel_rfl) (by simp) ?_
        refine AllReady.cons rfl (fun K hK => ?_) ?_
        · go_simp
          refine hK _ _ ?_; clear hK K
          exact any_eq hG (by kernel_rfl) (by kernel_rfl) (by kernel_rfl) hs25.out
        refine AllReady.cons rfl (fun K hK => ?_) ?_
        · go_simp
          refine hK _ _ ?_; clear hK K
          exact any_eq hG (by kernel_rfl) (by kernel_rfl) (by kernel_rfl) hs28.out
        exact AllReady.nil
      have hs29 := Lib.hid hs29'
      clear hs29'
      have hs30' : G 14 #[true, true, true, false, false, false, false, true, true, true, false, false, false, false, true, true, true, true, false, false, false, false, false, false] { tmps := #[.slice a t.length cp, .int .i64 x1, .int .i64 x2, .int .i64 x3, undef, undef, undef, undef, .bool false, .bool true, .slice (some ⟨lb, lo, none⟩) n lc, undef, undef, undef, undef, undef, undef, .bool true, .slice a t.length cp, .bool false, undef, .slice a t.length cp, .slice (some ⟨lb, lo, none⟩) n lc, .slice (some ⟨lb, lo, none⟩) n lc, .int .i64 x1, .slice (some ⟨lb, lo, none⟩) n lc, undef, undef, undef, undef, .slice (some ⟨lb, lo, none⟩) n lc, .int .i64 x2, .slice (some ⟨lb, lo, none⟩) n lc, undef, undef, undef, undef, .slice (some ⟨lb, lo, none⟩) n lc, .int .i64 x3, .slice (some ⟨lb, lo, none⟩) n lc, .int .i64 (n : Int), undef, undef, undef, undef, undef, undef, undef, undef, undef, undef, undef, undef, undef, undef, undef, undef, undef, undef, undef, undef, undef, undef, undef, undef, undef, undef, undef, undef, undef, undef, undef, undef, undef, undef, undef, undef, undef, undef, undef, undef, undef, undef, undef, undef, undef, undef, undef, undef, undef, undef, undef, undef, undef, undef, undef, undef, undef, undef, undef, undef, undef, undef, undef, undef, undef, undef, undef, undef, undef, undef, undef, undef, undef, undef, undef, undef, undef, undef, undef, undef, undef, undef, undef, undef, undef, undef, undef, undef, undef, undef, undef, undef, undef, undef, undef, undef, undef, undef, undef, undef, undef, undef, undef, undef, undef], defers := [] } w3.drew := by
        rw [hG]
        refine wpAny_ready (rs := [3, 10]) (by kernel_rfl) (by simp) ?_
        refine AllReady.cons rfl (fun K hK => ?_) ?_
        · go_simp
          refine hK _ _ ?_; clear hK K
          exact any_eq hG (by kernel_rfl) (by kernel_rfl) (by kernel_rfl) hs26.out
        refine AllReady.cons rfl (fun K hK => ?_) ?_
        · go_simp
          refine hK _ _ ?_; clear hK K
          exact any_eq hG (by kernel_rfl) (by kernel_rfl) (by kernel_rfl) hs28.out
        exact AllReady.nil
      have hs30 := Lib.hid hs30'
      clear hs30'
      have hs31' : G 15 #[true, true, true, false, false, false, false, true, true, true, false, false, false, false, true, true, true, false, false, false, false, false, false, false] { tmps := #[.slice a t.length cp, .int .i64 x1, .int .i64 x2, .int .i64 x3, undef, undef, undef, undef, .bool false, .bool true, .slice (some ⟨lb, lo, none⟩) n lc, undef, undef, undef, undef, undef, undef, .bool true, .slice a t.length cp, .bool false, undef, .slice a t.length cp, .slice (some ⟨lb, lo, none⟩) n lc, .slice (some ⟨lb, lo, none⟩) n lc, .int .i64 x1, .slice (some ⟨lb, lo, none⟩) n lc, undef, undef, undef, undef, .slice (some ⟨lb, lo, none⟩) n lc, .int .i64 x2, .slice (some ⟨lb, lo, none⟩) n lc, undef, undef, undef, undef, .slice (some ⟨lb, lo, none⟩) n lc, .int .i64 x3, .slice (some ⟨lb, lo, none⟩) n lc, undef, undef, undef, undef, undef, undef, undef, undef, undef, undef, undef, undef, undef, undef, undef, undef, undef, undef, undef, undef, undef, undef, undef, undef, undef, undef, undef, undef, undef, undef, undef, undef, undef, undef, undef, undef, undef, undef, undef, undef, undef, undef, undef, undef, undef, undef, undef, undef, undef, undef, undef, undef, undef, undef, undef, undef, undef, undef, undef, undef, undef, undef, undef, undef, undef, undef, undef, undef, undef, undef, undef, undef, undef, undef, undef, undef, undef, undef, undef, undef, undef, undef, undef, undef, undef, undef, undef, undef, undef, undef, undef, undef, undef, undef, undef, undef, undef, undef, undef, undef, undef, undef, undef, undef, undef, undef], defers := [] } w3.drew := by
        rw [hG]
        refine wpAny_ready (rs := [3, 10, 17]) (by kernel_rfl) (by simp) ?_
        refine AllReady.cons rfl (fun K hK => ?_) ?_
        · go_simp
          refine hK _ _ ?_; clear hK K
          exact any_eq hG (by kernel_rfl) (by kernel_rfl) (by kernel_rfl) hs27.out
        refine AllReady.cons rfl (fun K hK => ?_) ?_
        · go_simp
          refine hK _ _ ?_; clear hK K
          exact any_eq hG (by kernel_rfl) (by kernel_rfl) (by kernel_rfl) hs29.out
        refine AllReady.cons rfl (fun K hK => ?_) ?_
        · go_simp
          refine hK _ _ ?_; clear hK K
          exact any_eq hG (by kernel_rfl) (by kernel_rfl) (by kernel_rfl) hs30.out
        exact AllReady.nil
      have hs31 := Lib.hid hs31'
      clear hs31'
      refine wpAny_take (i := 0) (v := .slice (some ⟨lb, lo, none⟩) n lc) rfl (by kernel_rfl) (by kernel_rfl) (by kernel_rfl) (fun _ _ _ h => h) (Or.inl ⟨by kernel_rfl, by intro w; kernel_rfl⟩) ?_
      refine wpAny_take (i := 1) (v := .int .i64 x1) rfl (by kernel_rfl) (by kernel_rfl) (by kernel_rfl) (fun _ _ _ h => h) (Or.inl ⟨by kernel_rfl, by intro w; kernel_rfl⟩) ?_
      refine wpAny_take (i := 2) (v := .slice (some ⟨lb, lo, none⟩) n lc) rfl (by kernel_rfl) (by kernel_rfl) (by kernel_rfl) (fun _ _ _ h => h) (Or.inl ⟨by kernel_rfl, by intro w; kernel_rfl⟩) ?_
      refine wpAny_take (i := 7) (v := .slice (some ⟨lb, lo, none⟩) n lc) rfl (by kernel_rfl) (by kernel_rfl) (by kernel_rfl) (fun _ _ _ h => h) (Or.inl ⟨by kernel_rfl, by intro w; kernel_rfl⟩) ?_
      refine wpAny_take (i := 8) (v := .int .i64 x2) rfl (by kernel_rfl) (by kernel_rfl) (by kernel_rfl) (fun _ _ _ h => h) (Or.inl ⟨by kernel_rfl, by intro w; kernel_rfl⟩) ?_
      refine wpAny_take (i := 9) (v := .slice (some ⟨lb, lo, none⟩) n lc) rfl (by kernel_rfl) (by kernel_rfl) (by kernel_rfl) (fun _ _ _ h => h) (Or.inl ⟨by kernel_rfl, by intro w; kernel_rfl⟩) ?_
      refine wpAny_take (i := 14) (v := .slice (some ⟨lb, lo, none⟩) n lc) rfl (by kernel_rfl) (by kernel_rfl) (by kernel_rfl) (fun _ _ _ h => h) (Or.inl ⟨by kernel_rfl, by intro w; kernel_rfl⟩) ?_
      refine wpAny_take (i := 15) (v := .int .i64 x3) rfl (by kernel_rfl) (by kernel_rfl) (by kernel_rfl) (fun _ _ _ h => h) (Or.inl ⟨by kernel_rfl, by intro w; kernel_rfl⟩) ?_
      refine wpAny_take (i := 16) (v := .slice (some ⟨lb, lo, none⟩) n lc) rfl (by kernel_rfl) (by kernel_rfl) (by kernel_rfl) (fun _ _ _ h => h) (Or.inl ⟨by kernel_rfl, by intro w; kernel_rfl⟩) ?_
      exact any_eq hG (by kernel_rfl) (by kernel_rfl) (by kernel_rfl) hs31.out
    case hk =>
      rintro w4 rfl
      have HK4 := Lib.hid HK3.out.drew
      clear cX cY cZ HP1 HP2 HP3 l1 l2 l3 l1I l2I l3I hc1 hc2
      have HSX := Lib.hid (typs_size HT.out HX.out)
      have HSY := Lib.hid (typs_size HT.out HYY.out)
      have HSZ := Lib.hid (typs_size HT.out HZ.out)
      have HC := Lib.hid (check_c t a cp w3.drew (HTB.out.kept HK4.out) (tab_kept HT.out HK4.out) (small_short HSH.out))
      obtain ⟨fe, fa, hfe⟩ : ∃ fe fa, Tab.check t = (fe, fa) := ⟨_, _, rfl⟩
      rw [hfe] at HC
      dsimp only at HC
      go_wp2_with fail
      refine HC.out.mono ?_
      rintro e w5 ⟨rfl, k5⟩
      have HK5 := Lib.hid (HK4.out.trans k5)
      clear k5 HC
      by_cases z1 : fe = 0
      · subst z1
        have HO := Lib.hid (show Tab.ok t = true by unfold Tab.ok; rw [hfe]; rfl)
        have HIX := Lib.hid (typs_typ HO.out HX.out)
        have HIY := Lib.hid (typs_typ HO.out HYY.out)
        have HIZ := Lib.hid (typs_typ HO.out HZ.out)
        have HXX := Lib.hid (pr_self HO.out HIX.out)
        have HXD := Lib.hid (pr_dyn HO.out HIX.out)
        have HTRA := Lib.hid (fun h1 h2 => pr_trans HO.out HIX.out HIY.out HIZ.out h1 h2)
        have HSBA := Lib.hid (fun h1 => pr_sub HO.out HIX.out HIY.out h1)
        clear hfe
        cases e1 : Tab.precise t X Y with
        | false =>
          have HE1 := Lib.hid e1
          have HSB := Lib.hid (show Tab.sub t X Y = false by cases h : Tab.sub t X Y with | false => rfl | true => exact absurd (HSBA.out h) (by rw [HE1.out]; simp))
          clear e1
          have HC := Lib.hid (precise_cc t a cp X Y w5 (HTB.out.kept HK5.out) (tab_kept HT.out HK5.out) (small_short HSH.out) HSX.out HSY.out)
          rw [HE1.out] at HC
          go_wp2_with fail
          refine HC.out.mono ?_
          rintro e w6 ⟨rfl, kk⟩
          have HK6 := Lib.hid (HK5.out.trans kk)
          clear kk HC
          have HC := Lib.hid (precise_cc t a cp Y Z w6 (HTB.out.kept HK6.out) (tab_kept HT.out HK6.out) (small_short HSH.out) HSY.out HSZ.out)
          go_wp2_with fail
          refine HC.out.mono ?_
          rintro e w7 ⟨rfl, kk⟩
          have HK7 := Lib.hid (HK6.out.trans kk)
          clear kk HC
          have HC := Lib.hid (precise_cc t a cp X X w7 (HTB.out.kept HK7.out) (tab_kept HT.out HK7.out) (small_short HSH.out) HSX.out HSX.out)
          rw [HXX.out] at HC
          go_wp2_with fail
          refine HC.out.mono ?_
          rintro e w8 ⟨rfl, kk⟩
          have HK8 := Lib.hid (HK7.out.trans kk)
          clear kk HC
          have HC := Lib.hid (precise_cc t a cp X ⟨#[63]⟩ w8 (HTB.out.kept HK8.out) (tab_kept HT.out HK8.out) (small_short HSH.out) HSX.out dyn_size)
          rw [HXD.out] at HC
          go_wp2_with fail
          refine HC.out.mono ?_
          rintro e w9 ⟨rfl, kk⟩
          have HK9 := Lib.hid (HK8.out.trans kk)
          clear kk HC
          have HC := Lib.hid (sub_c t a cp X Y w9 (HTB.out.kept HK9.out) (tab_kept HT.out HK9.out) (small_short HSH.out))
          rw [HSB.out] at HC
          go_wp2_with fail
          refine HC.out.mono ?_
          rintro e w10 ⟨rfl, kk⟩
          have HK10 := Lib.hid (HK9.out.trans kk)
          clear kk HC
          cases e2 : Tab.precise t Y X with
          | false =>
            have HE2 := Lib.hid e2
            have HM1 := Lib.hid (show Tab.more t X Y = 0 by unfold Tab.more; rw [HE1.out, HE2.out]; rfl)
            have HM2 := Lib.hid (show Tab.more t Y X = 0 by unfold Tab.more; rw [HE2.out, HE1.out]; rfl)
            have HSM := Lib.hid (show Tab.same t X Y = false by unfold Tab.same; rw [HE1.out, HE2.out]; rfl)
            clear e2
            have HC := Lib.hid (more_cc t a cp X Y w10 (HTB.out.kept HK10.out) (tab_kept HT.out HK10.out) (small_short HSH.out) HSX.out HSY.out)
            rw [HM1.out] at HC
            go_wp2_with fail
            refine HC.out.mono ?_
            rintro e w11 ⟨rfl, kk⟩
            have HK11 := Lib.hid (HK10.out.trans kk)
            clear kk HC
            have HC := Lib.hid (more_cc t a cp Y X w11 (HTB.out.kept HK11.out) (tab_kept HT.out HK11.out) (small_short HSH.out) HSY.out HSX.out)
            rw [HM2.out] at HC
            go_wp2_with fail
            refine HC.out.mono ?_
            rintro e w12 ⟨rfl, kk⟩
            have HK12 := Lib.hid (HK11.out.trans kk)
            clear kk HC
            have HC := Lib.hid (same_cc t a cp X Y w12 (HTB.out.kept HK12.out) (tab_kept HT.out HK12.out) (small_short HSH.out) HSX.out HSY.out)
            rw [HSM.out] at HC
            go_wp2_with fail
            refine HC.out.mono ?_
            rintro e w13 ⟨rfl, kk⟩
            have HK13 := Lib.hid (HK12.out.trans kk)
            clear kk HC
            go_wp2_with fail
            go_ret
            exact ⟨rfl, HK13.out⟩
          | true =>
            have HE2 := Lib.hid e2
            have HM1 := Lib.hid (show Tab.more t X Y = -1 by unfold Tab.more; rw [HE1.out, HE2.out]; rfl)
            have HM2 := Lib.hid (show Tab.more t Y X = 1 by unfold Tab.more; rw [HE2.out, HE1.out]; rfl)
            have HSM := Lib.hid (show Tab.same t X Y = false by unfold Tab.same; rw [HE1.out, HE2.out]; rfl)
            clear e2
            have HC := Lib.hid (more_cc t a cp X Y w10 (HTB.out.kept HK10.out) (tab_kept HT.out HK10.out) (small_short HSH.out) HSX.out HSY.out)
            rw [HM1.out] at HC
            go_wp2_with fail
            refine HC.out.mono ?_
            rintro e w11 ⟨rfl, kk⟩
            have HK11 := Lib.hid (HK10.out.trans kk)
            clear kk HC
            have HC := Lib.hid (more_cc t a cp Y X w11 (HTB.out.kept HK11.out) (tab_kept HT.out HK11.out) (small_short HSH.out) HSY.out HSX.out)
            rw [HM2.out] at HC
            go_wp2_with fail
            refine HC.out.mono ?_
            rintro e w12 ⟨rfl, kk⟩
            have HK12 := Lib.hid (HK11.out.trans kk)
            clear kk HC
            have HC := Lib.hid (same_cc t a cp X Y w12 (HTB.out.kept HK12.out) (tab_kept HT.out HK12.out) (small_short HSH.out) HSX.out HSY.out)
            rw [HSM.out] at HC
            go_wp2_with fail
            refine HC.out.mono ?_
            rintro e w13 ⟨rfl, kk⟩
            have HK13 := Lib.hid (HK12.out.trans kk)
            clear kk HC
            go_wp2_with fail
            go_ret
            exact ⟨rfl, HK13.out⟩
        | true =>
          have HE1 := Lib.hid e1
          clear e1
          cases e3 : Tab.precise t Y Z with
          | false =>
            have HE3 := Lib.hid e3
            clear e3
            cases es : Tab.sub t X Y with
            | false =>
              have HSB := Lib.hid es
              clear es
              have HC := Lib.hid (precise_cc t a cp X Y w5 (HTB.out.kept HK5.out) (tab_kept HT.out HK5.out) (small_short HSH.out) HSX.out HSY.out)
              rw [HE1.out] at HC
              go_wp2_with fail
              refine HC.out.mono ?_
              rintro e w6 ⟨rfl, kk⟩
              have HK6 := Lib.hid (HK5.out.trans kk)
              clear kk HC
              have HC := Lib.hid (precise_cc t a cp Y Z w6 (HTB.out.kept HK6.out) (tab_kept HT.out HK6.out) (small_short HSH.out) HSY.out HSZ.out)
              rw [HE3.out] at HC
              go_wp2_with fail
              refine HC.out.mono ?_
              rintro e w7 ⟨rfl, kk⟩
              have HK7 := Lib.hid (HK6.out.trans kk)
              clear kk HC
              have HC := Lib.hid (precise_cc t a cp X X w7 (HTB.out.kept HK7.out) (tab_kept HT.out HK7.out) (small_short HSH.out) HSX.out HSX.out)
              rw [HXX.out] at HC
              go_wp2_with fail
              refine HC.out.mono ?_
              rintro e w8 ⟨rfl, kk⟩
              have HK8 := Lib.hid (HK7.out.trans kk)
              clear kk HC
              have HC := Lib.hid (precise_cc t a cp X ⟨#[63]⟩ w8 (HTB.out.kept HK8.out) (tab_kept HT.out HK8.out) (small_short HSH.out) HSX.out dyn_size)
              rw [HXD.out] at HC
              go_wp2_with fail
              refine HC.out.mono ?_
              rintro e w9 ⟨rfl, kk⟩
              have HK9 := Lib.hid (HK8.out.trans kk)
              clear kk HC
              have HC := Lib.hid (sub_c t a cp X Y w9 (HTB.out.kept HK9.out) (tab_kept HT.out HK9.out) (small_short HSH.out))
              rw [HSB.out] at HC
              go_wp2_with fail
              refine HC.out.mono ?_
              rintro e w10 ⟨rfl, kk⟩
              have HK10 := Lib.hid (HK9.out.trans kk)
              clear kk HC
              cases e2 : Tab.precise t Y X with
              | false =>
                have HE2 := Lib.hid e2
                have HM1 := Lib.hid (show Tab.more t X Y = 1 by unfold Tab.more; rw [HE1.out, HE2.out]; rfl)
                have HM2 := Lib.hid (show Tab.more t Y X = -1 by unfold Tab.more; rw [HE2.out, HE1.out]; rfl)
                have HSM := Lib.hid (show Tab.same t X Y = false by unfold Tab.same; rw [HE1.out, HE2.out]; rfl)
                clear e2
                have HC := Lib.hid (more_cc t a cp X Y w10 (HTB.out.kept HK10.out) (tab_kept HT.out HK10.out) (small_short HSH.out) HSX.out HSY.out)
                rw [HM1.out] at HC
                go_wp2_with fail
                refine HC.out.mono ?_
                rintro e w11 ⟨rfl, kk⟩
                have HK11 := Lib.hid (HK10.out.trans kk)
                clear kk HC
                have HC := Lib.hid (more_cc t a cp Y X w11 (HTB.out.kept HK11.out) (tab_kept HT.out HK11.out) (small_short HSH.out) HSY.out HSX.out)
                rw [HM2.out] at HC
                go_wp2_with fail
                refine HC.out.mono ?_
                rintro e w12 ⟨rfl, kk⟩
                have HK12 := Lib.hid (HK11.out.trans kk)
                clear kk HC
                have HC := Lib.hid (precise_cc t a cp Y X w12 (HTB.out.kept HK12.out) (tab_kept HT.out HK12.out) (small_short HSH.out) HSY.out HSX.out)
                rw [HE2.out] at HC
                go_wp2_with fail
                refine HC.out.mono ?_
                rintro e w13 ⟨rfl, kk⟩
                have HK13 := Lib.hid (HK12.out.trans kk)
                clear kk HC
                have HC := Lib.hid (same_cc t a cp X Y w13 (HTB.out.kept HK13.out) (tab_kept HT.out HK13.out) (small_short HSH.out) HSX.out HSY.out)
                rw [HSM.out] at HC
                go_wp2_with fail
                refine HC.out.mono ?_
                rintro e w14 ⟨rfl, kk⟩
                have HK14 := Lib.hid (HK13.out.trans kk)
                clear kk HC
                have HC := Lib.hid (precise_cc t a cp Y X w14 (HTB.out.kept HK14.out) (tab_kept HT.out HK14.out) (small_short HSH.out) HSY.out HSX.out)
                rw [HE2.out] at HC
                go_wp2_with fail
                refine HC.out.mono ?_
                rintro e w15 ⟨rfl, kk⟩
                have HK15 := Lib.hid (HK14.out.trans kk)
                clear kk HC
                go_wp2_with fail
                go_ret
                exact ⟨rfl, HK15.out⟩
              | true =>
                have HE2 := Lib.hid e2
                have HM1 := Lib.hid (show Tab.more t X Y = 0 by unfold Tab.more; rw [HE1.out, HE2.out]; rfl)
                have HM2 := Lib.hid (show Tab.more t Y X = 0 by unfold Tab.more; rw [HE2.out, HE1.out]; rfl)
                have HSM := Lib.hid (show Tab.same t X Y = true by unfold Tab.same; rw [HE1.out, HE2.out]; rfl)
                clear e2
                have HC := Lib.hid (more_cc t a cp X Y w10 (HTB.out.kept HK10.out) (tab_kept HT.out HK10.out) (small_short HSH.out) HSX.out HSY.out)
                rw [HM1.out] at HC
                go_wp2_with fail
                refine HC.out.mono ?_
                rintro e w11 ⟨rfl, kk⟩
                have HK11 := Lib.hid (HK10.out.trans kk)
                clear kk HC
                have HC := Lib.hid (more_cc t a cp Y X w11 (HTB.out.kept HK11.out) (tab_kept HT.out HK11.out) (small_short HSH.out) HSY.out HSX.out)
                rw [HM2.out] at HC
                go_wp2_with fail
                refine HC.out.mono ?_
                rintro e w12 ⟨rfl, kk⟩
                have HK12 := Lib.hid (HK11.out.trans kk)
                clear kk HC
                have HC := Lib.hid (precise_cc t a cp Y X w12 (HTB.out.kept HK12.out) (tab_kept HT.out HK12.out) (small_short HSH.out) HSY.out HSX.out)
                rw [HE2.out] at HC
                go_wp2_with fail
                refine HC.out.mono ?_
                rintro e w13 ⟨rfl, kk⟩
                have HK13 := Lib.hid (HK12.out.trans kk)
                clear kk HC
                have HC := Lib.hid (same_cc t a cp X Y w13 (HTB.out.kept HK13.out) (tab_kept HT.out HK13.out) (small_short HSH.out) HSX.out HSY.out)
                rw [HSM.out] at HC
                go_wp2_with fail
                refine HC.out.mono ?_
                rintro e w14 ⟨rfl, kk⟩
                have HK14 := Lib.hid (HK13.out.trans kk)
                clear kk HC
                have HC := Lib.hid (precise_cc t a cp Y X w14 (HTB.out.kept HK14.out) (tab_kept HT.out HK14.out) (small_short HSH.out) HSY.out HSX.out)
                rw [HE2.out] at HC
                go_wp2_with fail
                refine HC.out.mono ?_
                rintro e w15 ⟨rfl, kk⟩
                have HK15 := Lib.hid (HK14.out.trans kk)
                clear kk HC
                go_wp2_with fail
                go_ret
                exact ⟨rfl, HK15.out⟩
            | true =>
              have HSB := Lib.hid es
              clear es
              have HC := Lib.hid (precise_cc t a cp X Y w5 (HTB.out.kept HK5.out) (tab_kept HT.out HK5.out) (small_short HSH.out) HSX.out HSY.out)
              rw [HE1.out] at HC
              go_wp2_with fail
              refine HC.out.mono ?_
              rintro e w6 ⟨rfl, kk⟩
              have HK6 := Lib.hid (HK5.out.trans kk)
              clear kk HC
              have HC := Lib.hid (precise_cc t a cp Y Z w6 (HTB.out.kept HK6.out) (tab_kept HT.out HK6.out) (small_short HSH.out) HSY.out HSZ.out)
              rw [HE3.out] at HC
              go_wp2_with fail
              refine HC.out.mono ?_
              rintro e w7 ⟨rfl, kk⟩
              have HK7 := Lib.hid (HK6.out.trans kk)
              clear kk HC
              have HC := Lib.hid (precise_cc t a cp X X w7 (HTB.out.kept HK7.out) (tab_kept HT.out HK7.out) (small_short HSH.out) HSX.out HSX.out)
              rw [HXX.out] at HC
              go_wp2_with fail
              refine HC.out.mono ?_
              rintro e w8 ⟨rfl, kk⟩
              have HK8 := Lib.hid (HK7.out.trans kk)
              clear kk HC
              have HC := Lib.hid (precise_cc t a cp X ⟨#[63]⟩ w8 (HTB.out.kept HK8.out) (tab_kept HT.out HK8.out) (small_short HSH.out) HSX.out dyn_size)
              rw [HXD.out] at HC
              go_wp2_with fail
              refine HC.out.mono ?_
              rintro e w9 ⟨rfl, kk⟩
              have HK9 := Lib.hid (HK8.out.trans kk)
              clear kk HC
              have HC := Lib.hid (sub_c t a cp X Y w9 (HTB.out.kept HK9.out) (tab_kept HT.out HK9.out) (small_short HSH.out))
              rw [HSB.out] at HC
              go_wp2_with fail
              refine HC.out.mono ?_
              rintro e w10 ⟨rfl, kk⟩
              have HK10 := Lib.hid (HK9.out.trans kk)
              clear kk HC
              cases e2 : Tab.precise t Y X with
              | false =>
                have HE2 := Lib.hid e2
                have HM1 := Lib.hid (show Tab.more t X Y = 1 by unfold Tab.more; rw [HE1.out, HE2.out]; rfl)
                have HM2 := Lib.hid (show Tab.more t Y X = -1 by unfold Tab.more; rw [HE2.out, HE1.out]; rfl)
                have HSM := Lib.hid (show Tab.same t X Y = false by unfold Tab.same; rw [HE1.out, HE2.out]; rfl)
                clear e2
                have HC := Lib.hid (more_cc t a cp X Y w10 (HTB.out.kept HK10.out) (tab_kept HT.out HK10.out) (small_short HSH.out) HSX.out HSY.out)
                rw [HM1.out] at HC
                go_wp2_with fail
                refine HC.out.mono ?_
                rintro e w11 ⟨rfl, kk⟩
                have HK11 := Lib.hid (HK10.out.trans kk)
                clear kk HC
                have HC := Lib.hid (more_cc t a cp Y X w11 (HTB.out.kept HK11.out) (tab_kept HT.out HK11.out) (small_short HSH.out) HSY.out HSX.out)
                rw [HM2.out] at HC
                go_wp2_with fail
                refine HC.out.mono ?_
                rintro e w12 ⟨rfl, kk⟩
                have HK12 := Lib.hid (HK11.out.trans kk)
                clear kk HC
                have HC := Lib.hid (precise_cc t a cp Y X w12 (HTB.out.kept HK12.out) (tab_kept HT.out HK12.out) (small_short HSH.out) HSY.out HSX.out)
                rw [HE2.out] at HC
                go_wp2_with fail
                refine HC.out.mono ?_
                rintro e w13 ⟨rfl, kk⟩
                have HK13 := Lib.hid (HK12.out.trans kk)
                clear kk HC
                have HC := Lib.hid (same_cc t a cp X Y w13 (HTB.out.kept HK13.out) (tab_kept HT.out HK13.out) (small_short HSH.out) HSX.out HSY.out)
                rw [HSM.out] at HC
                go_wp2_with fail
                refine HC.out.mono ?_
                rintro e w14 ⟨rfl, kk⟩
                have HK14 := Lib.hid (HK13.out.trans kk)
                clear kk HC
                have HC := Lib.hid (precise_cc t a cp Y X w14 (HTB.out.kept HK14.out) (tab_kept HT.out HK14.out) (small_short HSH.out) HSY.out HSX.out)
                rw [HE2.out] at HC
                go_wp2_with fail
                refine HC.out.mono ?_
                rintro e w15 ⟨rfl, kk⟩
                have HK15 := Lib.hid (HK14.out.trans kk)
                clear kk HC
                go_wp2_with fail
                go_ret
                exact ⟨rfl, HK15.out⟩
              | true =>
                have HE2 := Lib.hid e2
                have HM1 := Lib.hid (show Tab.more t X Y = 0 by unfold Tab.more; rw [HE1.out, HE2.out]; rfl)
                have HM2 := Lib.hid (show Tab.more t Y X = 0 by unfold Tab.more; rw [HE2.out, HE1.out]; rfl)
                have HSM := Lib.hid (show Tab.same t X Y = true by unfold Tab.same; rw [HE1.out, HE2.out]; rfl)
                clear e2
                have HC := Lib.hid (more_cc t a cp X Y w10 (HTB.out.kept HK10.out) (tab_kept HT.out HK10.out) (small_short HSH.out) HSX.out HSY.out)
                rw [HM1.out] at HC
                go_wp2_with fail
                refine HC.out.mono ?_
                rintro e w11 ⟨rfl, kk⟩
                have HK11 := Lib.hid (HK10.out.trans kk)
                clear kk HC
                have HC := Lib.hid (more_cc t a cp Y X w11 (HTB.out.kept HK11.out) (tab_kept HT.out HK11.out) (small_short HSH.out) HSY.out HSX.out)
                rw [HM2.out] at HC
                go_wp2_with fail
                refine HC.out.mono ?_
                rintro e w12 ⟨rfl, kk⟩
                have HK12 := Lib.hid (HK11.out.trans kk)
                clear kk HC
                have HC := Lib.hid (precise_cc t a cp Y X w12 (HTB.out.kept HK12.out) (tab_kept HT.out HK12.out) (small_short HSH.out) HSY.out HSX.out)
                rw [HE2.out] at HC
                go_wp2_with fail
                refine HC.out.mono ?_
                rintro e w13 ⟨rfl, kk⟩
                have HK13 := Lib.hid (HK12.out.trans kk)
                clear kk HC
                have HC := Lib.hid (same_cc t a cp X Y w13 (HTB.out.kept HK13.out) (tab_kept HT.out HK13.out) (small_short HSH.out) HSX.out HSY.out)
                rw [HSM.out] at HC
                go_wp2_with fail
                refine HC.out.mono ?_
                rintro e w14 ⟨rfl, kk⟩
                have HK14 := Lib.hid (HK13.out.trans kk)
                clear kk HC
                have HC := Lib.hid (precise_cc t a cp Y X w14 (HTB.out.kept HK14.out) (tab_kept HT.out HK14.out) (small_short HSH.out) HSY.out HSX.out)
                rw [HE2.out] at HC
                go_wp2_with fail
                refine HC.out.mono ?_
                rintro e w15 ⟨rfl, kk⟩
                have HK15 := Lib.hid (HK14.out.trans kk)
                clear kk HC
                go_wp2_with fail
                go_ret
                exact ⟨rfl, HK15.out⟩
          | true =>
            have HE3 := Lib.hid e3
            have HTR := Lib.hid (HTRA.out HE1.out HE3.out)
            clear e3
            cases es : Tab.sub t X Y with
            | false =>
              have HSB := Lib.hid es
              clear es
              have HC := Lib.hid (precise_cc t a cp X Y w5 (HTB.out.kept HK5.out) (tab_kept HT.out HK5.out) (small_short HSH.out) HSX.out HSY.out)
              rw [HE1.out] at HC
              go_wp2_with fail
              refine HC.out.mono ?_
              rintro e w6 ⟨rfl, kk⟩
              have HK6 := Lib.hid (HK5.out.trans kk)
              clear kk HC
              have HC := Lib.hid (precise_cc t a cp Y Z w6 (HTB.out.kept HK6.out) (tab_kept HT.out HK6.out) (small_short HSH.out) HSY.out HSZ.out)
              rw [HE3.out] at HC
              go_wp2_with fail
              refine HC.out.mono ?_
              rintro e w7 ⟨rfl, kk⟩
              have HK7 := Lib.hid (HK6.out.trans kk)
              clear kk HC
              have HC := Lib.hid (precise_cc t a cp X X w7 (HTB.out.kept HK7.out) (tab_kept HT.out HK7.out) (small_short HSH.out) HSX.out HSX.out)
              rw [HXX.out] at HC
              go_wp2_with fail
              refine HC.out.mono ?_
              rintro e w8 ⟨rfl, kk⟩
              have HK8 := Lib.hid (HK7.out.trans kk)
              clear kk HC
              have HC := Lib.hid (precise_cc t a cp X ⟨#[63]⟩ w8 (HTB.out.kept HK8.out) (tab_kept HT.out HK8.out) (small_short HSH.out) HSX.out dyn_size)
              rw [HXD.out] at HC
              go_wp2_with fail
              refine HC.out.mono ?_
              rintro e w9 ⟨rfl, kk⟩
              have HK9 := Lib.hid (HK8.out.trans kk)
              clear kk HC
              have HC := Lib.hid (precise_cc t a cp X Z w9 (HTB.out.kept HK9.out) (tab_kept HT.out HK9.out) (small_short HSH.out) HSX.out HSZ.out)
              rw [HTR.out] at HC
              go_wp2_with fail
              refine HC.out.mono ?_
              rintro e w10 ⟨rfl, kk⟩
              have HK10 := Lib.hid (HK9.out.trans kk)
              clear kk HC
              have HC := Lib.hid (sub_c t a cp X Y w10 (HTB.out.kept HK10.out) (tab_kept HT.out HK10.out) (small_short HSH.out))
              rw [HSB.out] at HC
              go_wp2_with fail
              refine HC.out.mono ?_
              rintro e w11 ⟨rfl, kk⟩
              have HK11 := Lib.hid (HK10.out.trans kk)
              clear kk HC
              cases e2 : Tab.precise t Y X with
              | false =>
                have HE2 := Lib.hid e2
                have HM1 := Lib.hid (show Tab.more t X Y = 1 by unfold Tab.more; rw [HE1.out, HE2.out]; rfl)
                have HM2 := Lib.hid (show Tab.more t Y X = -1 by unfold Tab.more; rw [HE2.out, HE1.out]; rfl)
                have HSM := Lib.hid (show Tab.same t X Y = false by unfold Tab.same; rw [HE1.out, HE2.out]; rfl)
                clear e2
                have HC := Lib.hid (more_cc t a cp X Y w11 (HTB.out.kept HK11.out) (tab_kept HT.out HK11.out) (small_short HSH.out) HSX.out HSY.out)
                rw [HM1.out] at HC
                go_wp2_with fail
                refine HC.out.mono ?_
                rintro e w12 ⟨rfl, kk⟩
                have HK12 := Lib.hid (HK11.out.trans kk)
                clear kk HC
                have HC := Lib.hid (more_cc t a cp Y X w12 (HTB.out.kept HK12.out) (tab_kept HT.out HK12.out) (small_short HSH.out) HSY.out HSX.out)
                rw [HM2.out] at HC
                go_wp2_with fail
                refine HC.out.mono ?_
                rintro e w13 ⟨rfl, kk⟩
                have HK13 := Lib.hid (HK12.out.trans kk)
                clear kk HC
                have HC := Lib.hid (precise_cc t a cp Y X w13 (HTB.out.kept HK13.out) (tab_kept HT.out HK13.out) (small_short HSH.out) HSY.out HSX.out)
                rw [HE2.out] at HC
                go_wp2_with fail
                refine HC.out.mono ?_
                rintro e w14 ⟨rfl, kk⟩
                have HK14 := Lib.hid (HK13.out.trans kk)
                clear kk HC
                have HC := Lib.hid (same_cc t a cp X Y w14 (HTB.out.kept HK14.out) (tab_kept HT.out HK14.out) (small_short HSH.out) HSX.out HSY.out)
                rw [HSM.out] at HC
                go_wp2_with fail
                refine HC.out.mono ?_
                rintro e w15 ⟨rfl, kk⟩
                have HK15 := Lib.hid (HK14.out.trans kk)
                clear kk HC
                have HC := Lib.hid (precise_cc t a cp Y X w15 (HTB.out.kept HK15.out) (tab_kept HT.out HK15.out) (small_short HSH.out) HSY.out HSX.out)
                rw [HE2.out] at HC
                go_wp2_with fail
                refine HC.out.mono ?_
                rintro e w16 ⟨rfl, kk⟩
                have HK16 := Lib.hid (HK15.out.trans kk)
                clear kk HC
                go_wp2_with fail
                go_ret
                exact ⟨rfl, HK16.out⟩
              | true =>
                have HE2 := Lib.hid e2
                have HM1 := Lib.hid (show Tab.more t X Y = 0 by unfold Tab.more; rw [HE1.out, HE2.out]; rfl)
                have HM2 := Lib.hid (show Tab.more t Y X = 0 by unfold Tab.more; rw [HE2.out, HE1.out]; rfl)
                have HSM := Lib.hid (show Tab.same t X Y = true by unfold Tab.same; rw [HE1.out, HE2.out]; rfl)
                clear e2
                have HC := Lib.hid (more_cc t a cp X Y w11 (HTB.out.kept HK11.out) (tab_kept HT.out HK11.out) (small_short HSH.out) HSX.out HSY.out)
                rw [HM1.out] at HC
                go_wp2_with fail
                refine HC.out.mono ?_
                rintro e w12 ⟨rfl, kk⟩
                have HK12 := Lib.hid (HK11.out.trans kk)
                clear kk HC
                have HC := Lib.hid (more_cc t a cp Y X w12 (HTB.out.kept HK12.out) (tab_kept HT.out HK12.out) (small_short HSH.out) HSY.out HSX.out)
                rw [HM2.out] at HC
                go_wp2_with fail
                refine HC.out.mono ?_
                rintro e w13 ⟨rfl, kk⟩
                have HK13 := Lib.hid (HK12.out.trans kk)
                clear kk HC
                have HC := Lib.hid (precise_cc t a cp Y X w13 (HTB.out.kept HK13.out) (tab_kept HT.out HK13.out) (small_short HSH.out) HSY.out HSX.out)
                rw [HE2.out] at HC
                go_wp2_with fail
                refine HC.out.mono ?_
                rintro e w14 ⟨rfl, kk⟩
                have HK14 := Lib.hid (HK13.out.trans kk)
                clear kk HC
                have HC := Lib.hid (same_cc t a cp X Y w14 (HTB.out.kept HK14.out) (tab_kept HT.out HK14.out) (small_short HSH.out) HSX.out HSY.out)
                rw [HSM.out] at HC
                go_wp2_with fail
                refine HC.out.mono ?_
                rintro e w15 ⟨rfl, kk⟩
                have HK15 := Lib.hid (HK14.out.trans kk)
                clear kk HC
                have HC := Lib.hid (precise_cc t a cp Y X w15 (HTB.out.kept HK15.out) (tab_kept HT.out HK15.out) (small_short HSH.out) HSY.out HSX.out)
                rw [HE2.out] at HC
                go_wp2_with fail
                refine HC.out.mono ?_
                rintro e w16 ⟨rfl, kk⟩
                have HK16 := Lib.hid (HK15.out.trans kk)
                clear kk HC
                go_wp2_with fail
                go_ret
                exact ⟨rfl, HK16.out⟩
            | true =>
              have HSB := Lib.hid es
              clear es
              have HC := Lib.hid (precise_cc t a cp X Y w5 (HTB.out.kept HK5.out) (tab_kept HT.out HK5.out) (small_short HSH.out) HSX.out HSY.out)
              rw [HE1.out] at HC
              go_wp2_with fail
              refine HC.out.mono ?_
              rintro e w6 ⟨rfl, kk⟩
              have HK6 := Lib.hid (HK5.out.trans kk)
              clear kk HC
              have HC := Lib.hid (precise_cc t a cp Y Z w6 (HTB.out.kept HK6.out) (tab_kept HT.out HK6.out) (small_short HSH.out) HSY.out HSZ.out)
              rw [HE3.out] at HC
              go_wp2_with fail
              refine HC.out.mono ?_
              rintro e w7 ⟨rfl, kk⟩
              have HK7 := Lib.hid (HK6.out.trans kk)
              clear kk HC
              have HC := Lib.hid (precise_cc t a cp X X w7 (HTB.out.kept HK7.out) (tab_kept HT.out HK7.out) (small_short HSH.out) HSX.out HSX.out)
              rw [HXX.out] at HC
              go_wp2_with fail
              refine HC.out.mono ?_
              rintro e w8 ⟨rfl, kk⟩
              have HK8 := Lib.hid (HK7.out.trans kk)
              clear kk HC
              have HC := Lib.hid (precise_cc t a cp X ⟨#[63]⟩ w8 (HTB.out.kept HK8.out) (tab_kept HT.out HK8.out) (small_short HSH.out) HSX.out dyn_size)
              rw [HXD.out] at HC
              go_wp2_with fail
              refine HC.out.mono ?_
              rintro e w9 ⟨rfl, kk⟩
              have HK9 := Lib.hid (HK8.out.trans kk)
              clear kk HC
              have HC := Lib.hid (precise_cc t a cp X Z w9 (HTB.out.kept HK9.out) (tab_kept HT.out HK9.out) (small_short HSH.out) HSX.out HSZ.out)
              rw [HTR.out] at HC
              go_wp2_with fail
              refine HC.out.mono ?_
              rintro e w10 ⟨rfl, kk⟩
              have HK10 := Lib.hid (HK9.out.trans kk)
              clear kk HC
              have HC := Lib.hid (sub_c t a cp X Y w10 (HTB.out.kept HK10.out) (tab_kept HT.out HK10.out) (small_short HSH.out))
              rw [HSB.out] at HC
              go_wp2_with fail
              refine HC.out.mono ?_
              rintro e w11 ⟨rfl, kk⟩
              have HK11 := Lib.hid (HK10.out.trans kk)
              clear kk HC
              cases e2 : Tab.precise t Y X with
              | false =>
                have HE2 := Lib.hid e2
                have HM1 := Lib.hid (show Tab.more t X Y = 1 by unfold Tab.more; rw [HE1.out, HE2.out]; rfl)
                have HM2 := Lib.hid (show Tab.more t Y X = -1 by unfold Tab.more; rw [HE2.out, HE1.out]; rfl)
                have HSM := Lib.hid (show Tab.same t X Y = false by unfold Tab.same; rw [HE1.out, HE2.out]; rfl)
                clear e2
                have HC := Lib.hid (more_cc t a cp X Y w11 (HTB.out.kept HK11.out) (tab_kept HT.out HK11.out) (small_short HSH.out) HSX.out HSY.out)
                rw [HM1.out] at HC
                go_wp2_with fail
                refine HC.out.mono ?_
                rintro e w12 ⟨rfl, kk⟩
                have HK12 := Lib.hid (HK11.out.trans kk)
                clear kk HC
                have HC := Lib.hid (more_cc t a cp Y X w12 (HTB.out.kept HK12.out) (tab_kept HT.out HK12.out) (small_short HSH.out) HSY.out HSX.out)
                rw [HM2.out] at HC
                go_wp2_with fail
                refine HC.out.mono ?_
                rintro e w13 ⟨rfl, kk⟩
                have HK13 := Lib.hid (HK12.out.trans kk)
                clear kk HC
                have HC := Lib.hid (precise_cc t a cp Y X w13 (HTB.out.kept HK13.out) (tab_kept HT.out HK13.out) (small_short HSH.out) HSY.out HSX.out)
                rw [HE2.out] at HC
                go_wp2_with fail
                refine HC.out.mono ?_
                rintro e w14 ⟨rfl, kk⟩
                have HK14 := Lib.hid (HK13.out.trans kk)
                clear kk HC
                have HC := Lib.hid (same_cc t a cp X Y w14 (HTB.out.kept HK14.out) (tab_kept HT.out HK14.out) (small_short HSH.out) HSX.out HSY.out)
                rw [HSM.out] at HC
                go_wp2_with fail
                refine HC.out.mono ?_
                rintro e w15 ⟨rfl, kk⟩
                have HK15 := Lib.hid (HK14.out.trans kk)
                clear kk HC
                have HC := Lib.hid (precise_cc t a cp Y X w15 (HTB.out.kept HK15.out) (tab_kept HT.out HK15.out) (small_short HSH.out) HSY.out HSX.out)
                rw [HE2.out] at HC
                go_wp2_with fail
                refine HC.out.mono ?_
                rintro e w16 ⟨rfl, kk⟩
                have HK16 := Lib.hid (HK15.out.trans kk)
                clear kk HC
                go_wp2_with fail
                go_ret
                exact ⟨rfl, HK16.out⟩
              | true =>
                have HE2 := Lib.hid e2
                have HM1 := Lib.hid (show Tab.more t X Y = 0 by unfold Tab.more; rw [HE1.out, HE2.out]; rfl)
                have HM2 := Lib.hid (show Tab.more t Y X = 0 by unfold Tab.more; rw [HE2.out, HE1.out]; rfl)
                have HSM := Lib.hid (show Tab.same t X Y = true by unfold Tab.same; rw [HE1.out, HE2.out]; rfl)
                clear e2
                have HC := Lib.hid (more_cc t a cp X Y w11 (HTB.out.kept HK11.out) (tab_kept HT.out HK11.out) (small_short HSH.out) HSX.out HSY.out)
                rw [HM1.out] at HC
                go_wp2_with fail
                refine HC.out.mono ?_
                rintro e w12 ⟨rfl, kk⟩
                have HK12 := Lib.hid (HK11.out.trans kk)
                clear kk HC
                have HC := Lib.hid (more_cc t a cp Y X w12 (HTB.out.kept HK12.out) (tab_kept HT.out HK12.out) (small_short HSH.out) HSY.out HSX.out)
                rw [HM2.out] at HC
                go_wp2_with fail
                refine HC.out.mono ?_
                rintro e w13 ⟨rfl, kk⟩
                have HK13 := Lib.hid (HK12.out.trans kk)
                clear kk HC
                have HC := Lib.hid (precise_cc t a cp Y X w13 (HTB.out.kept HK13.out) (tab_kept HT.out HK13.out) (small_short HSH.out) HSY.out HSX.out)
                rw [HE2.out] at HC
                go_wp2_with fail
                refine HC.out.mono ?_
                rintro e w14 ⟨rfl, kk⟩
                have HK14 := Lib.hid (HK13.out.trans kk)
                clear kk HC
                have HC := Lib.hid (same_cc t a cp X Y w14 (HTB.out.kept HK14.out) (tab_kept HT.out HK14.out) (small_short HSH.out) HSX.out HSY.out)
                rw [HSM.out] at HC
                go_wp2_with fail
                refine HC.out.mono ?_
                rintro e w15 ⟨rfl, kk⟩
                have HK15 := Lib.hid (HK14.out.trans kk)
                clear kk HC
                have HC := Lib.hid (precise_cc t a cp Y X w15 (HTB.out.kept HK15.out) (tab_kept HT.out HK15.out) (small_short HSH.out) HSY.out HSX.out)
                rw [HE2.out] at HC
                go_wp2_with fail
                refine HC.out.mono ?_
                rintro e w16 ⟨rfl, kk⟩
                have HK16 := Lib.hid (HK15.out.trans kk)
                clear kk HC
                go_wp2_with fail
                go_ret
                exact ⟨rfl, HK16.out⟩
      · have HO := Lib.hid (show Tab.ok t = false by unfold Tab.ok; rw [hfe]; exact decide_eq_false z1)
        have z1b : (fe == 0) = false := by simp [z1]
        clear hfe
        have HC := Lib.hid (precise_cc t a cp X X w5 (HTB.out.kept HK5.out) (tab_kept HT.out HK5.out) (small_short HSH.out) HSX.out HSX.out)
        rw [pr_no HO.out X X] at HC
        go_wp2_with fail
        refine HC.out.mono ?_
        rintro e w6 ⟨rfl, kk⟩
        have HK6 := Lib.hid (HK5.out.trans kk)
        clear kk HC
        have HC := Lib.hid (more_cc t a cp X Y w6 (HTB.out.kept HK6.out) (tab_kept HT.out HK6.out) (small_short HSH.out) HSX.out HSY.out)
        rw [mo_no HO.out X Y] at HC
        go_wp2_with fail
        refine HC.out.mono ?_
        rintro e w7 ⟨rfl, kk⟩
        have HK7 := Lib.hid (HK6.out.trans kk)
        clear kk HC
        go_wp2_with fail
        go_ret
        exact ⟨rfl, HK7.out⟩

end Go.Proofs.YtnjgagbblkjjeaaGreatDoor
