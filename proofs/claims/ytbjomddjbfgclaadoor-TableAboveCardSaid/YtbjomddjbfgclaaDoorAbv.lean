/- The walk of TableAbove over a table that lies in memory. -/
import Derived.Test.YtbjomddjbfgclaaDoorKwn
import Derived.Test.YtbjomddjbfgclaaDoorLgt
import Derived.Test.YtbjomddjbfgclaaDoorVla
set_option linter.unusedSimpArgs false
set_option linter.unusedVariables false
set_option maxRecDepth 100000
namespace Go.Proofs.YtbjomddjbfgclaaDoor
open Go.ChangeShapes Go.WideShapes Go.ChangeAt Go.RowKit

theorem abv_small {t : List Tab.C} (h : t.length ≤ 9 ∧ ∀ c ∈ t, ShortC c) : Small t :=
  ⟨by omega, fun c hc => by have := (h.2 c hc).1; omega, fun c hc => by have := (h.2 c hc).2.1; omega, fun c hc m hm => by have := (h.2 c hc).2.2 m hm; unfold ShortM at this; omega⟩

/-- A region's orders come to one act. -/
theorem abv_cut {P : Program} {c : Code} {K : Act → World → Prop} {Q : Exit → Act → World → Prop} {a : Act} {w : World} {A : Act} (F : World → Prop)
    (h : c.wp P (Exit.then (fun a' w' => a' = A ∧ F w') (fun _ _ _ => False)) a w) (hk : ∀ w', F w' → K A w') : c.wp P (Exit.then K Q) a w := by
  refine wp_mono h fun e a' w' hp => ?_
  cases e with
  | normal =>
    obtain ⟨rfl, hf⟩ := hp
    exact hk _ hf
  | _ => exact hp.elim

theorem abv_cutp {P : Program} {c : Code} {K : Act → World → Prop} {Q : Exit → Act → World → Prop} {a : Act} {w : World} {A : Nat → Act} (F : Nat → World → Prop)
    (h : c.wp P (Exit.then (fun a' w' => ∃ p, a' = A p ∧ F p w') (fun _ _ _ => False)) a w) (hk : ∀ p w', F p w' → K (A p) w') : c.wp P (Exit.then K Q) a w := by
  refine wp_mono h fun e a' w' hp => ?_
  cases e with
  | normal =>
    obtain ⟨p, rfl, hf⟩ := hp
    exact hk _ _ hf
  | _ => exact hp.elim

/-- A signature in a box of its own. -/
def SigBox (wo w' : World) (p : Nat) (a b c : Value) : Prop := Blk w' p 26 #[a, b, c] ∧ Kept wo w'

theorem sb1 {wo w8 : World} {p : Nat} {a b c x y z : Value} (hp : wo.heap.size ≤ p) (hb : Blk w8 p 26 #[x, y, z]) (hk : Kept wo w8) : SigBox wo (((w8.setCell ⟨p, 0, none⟩ a).setCell ⟨p, 1, none⟩ b).setCell ⟨p, 2, none⟩ c) p a b c :=
  ⟨((hb.put 0 a).put 1 b).put 2 c, ((hk.setCell (p := ⟨p, 0, none⟩) hp a).setCell (p := ⟨p, 1, none⟩) hp b).setCell (p := ⟨p, 2, none⟩) hp c⟩
theorem sb2 {wo w8 : World} {a b c : Value} (hk : Kept wo w8) : SigBox wo (w8.alloc (.cells #[a, b, c] 26)) w8.heap.size a b c := ⟨Blk.new w8 _ _, hk.alloc _⟩

theorem abv_cuts {P : Program} {c : Code} {K : Act → World → Prop} {Q : Exit → Act → World → Prop} {a : Act} {w : World} {A : Nat → Option Addr → Nat → Act} (F : Nat → Option Addr → Nat → World → Prop)
    (h : c.wp P (Exit.then (fun a' w' => ∃ p x n, a' = A p x n ∧ F p x n w') (fun _ _ _ => False)) a w) (hk : ∀ p x n w', F p x n w' → K (A p x n) w') : c.wp P (Exit.then K Q) a w := by
  refine wp_mono h fun e a' w' hp => ?_
  cases e with
  | normal =>
    obtain ⟨p, x, n, rfl, hf⟩ := hp
    exact hk _ _ _ _ hf
  | _ => exact hp.elim

/-- Parameters in a row of one's own. -/
def ParRow (w : World) (v : Value) (l : List Tab.V) : Prop := ∃ base, w.ownsRow base 35 2 v l.length (l.flatMap vCells)

theorem ParRow.kept {w w' : World} {v : Value} {l : List Tab.V} (h : ParRow w v l) (k : Kept w w') : ParRow w' v l := by
  obtain ⟨base, h⟩ := h
  exact ⟨base, owns_only (S := fun _ => False) h (Only.of_kept k) (fun _ _ h => h)⟩
theorem par1 {w8 : World} {p base : Nat} {a b c v : Value} {l : List Tab.V} (h : w8.ownsRow base 35 2 v l.length (l.flatMap vCells)) (hp : p < base) : ParRow (((w8.setCell ⟨p, 0, none⟩ a).setCell ⟨p, 1, none⟩ b).setCell ⟨p, 2, none⟩ c) v l :=
  ⟨base, owns_only h ((((Only.refl (· = p) w8).setCell (p := ⟨p, 0, none⟩) (.inl rfl) a).setCell (p := ⟨p, 1, none⟩) (.inl rfl) b).setCell (p := ⟨p, 2, none⟩) (.inl rfl) c) (fun g hg e => by omega)⟩
theorem par2 {w8 : World} {base : Nat} {v : Value} {l : List Tab.V} {o : Obj} (h : w8.ownsRow base 35 2 v l.length (l.flatMap vCells)) : ParRow (w8.alloc o) v l :=
  ⟨base, owns_only (S := fun _ => False) h ((Only.refl _ w8).alloc o) (fun _ _ h => h)⟩
theorem par_len {w : World} {a : Option Addr} {n c : Nat} {l : List Tab.V} (h : ParRow w (.slice a n c) l) : n ≤ 9223372036854775807 := by
  obtain ⟨base, h⟩ := h
  rcases h.2 with ⟨e, _⟩ | ⟨g, cap, cur, e, _, _, h1, h2, _⟩
  · injection e with _ e _; omega
  · injection e with _ e1 e2
    unfold maxLen at h2
    omega

/-- What two methods have in common, of which one takes the other's place. -/
theorem kin_par {m p : Tab.M} (h : m = p ∨ Tab.sameSig p m = true) : p.params.length = m.params.length ∧ m.res = p.res ∧ ∀ (j : Nat) (x y : Tab.V), m.params[j]? = some x → p.params[j]? = some y → x.typ = y.typ := by
  rcases h with rfl | h
  · exact ⟨rfl, rfl, fun j x y h1 h2 => by rw [h1] at h2; cases h2; rfl⟩
  · unfold Tab.sameSig at h
    simp only [Bool.and_eq_true] at h
    obtain ⟨h1, h2⟩ := h
    have hl := Tab.sameTys_length h2
    refine ⟨hl, (of_decide_eq_true h1).symm, fun j x y hx hy => ?_⟩
    unfold Tab.sameTys at h2
    simp only [Bool.and_eq_true, List.all_eq_true] at h2
    have hz : (p.params.zip m.params)[j]? = some (y, x) := by rw [List.getElem?_zip_eq_some]; exact ⟨hy, hx⟩
    exact (of_decide_eq_true (h2.2 _ (List.mem_of_getElem? hz))).symm

theorem par_two {w : World} {pa pb : Option Addr} {pd pe N : Nat} {m p : Tab.M} (h1 : ParRow w (.slice pa m.params.length pd) m.params) (h2 : ParRow w (.slice pb p.params.length pe) p.params)
    (ht : ∀ (j : Nat) (x y : Tab.V), m.params[j]? = some x → p.params[j]? = some y → x.typ = y.typ) (hN : m.params.length = N) {j : Nat} (hj : j < N) (hl : p.params.length = N := by assumption) :
    ∃ ga gb ty, pa = some ⟨ga, 0, none⟩ ∧ pb = some ⟨gb, 0, none⟩ ∧ w.cell? ⟨ga, j * 2 + 1, none⟩ = some (.string ty) ∧ w.cell? ⟨gb, j * 2 + 1, none⟩ = some (.string ty) ∧ j ≤ pd ∧ j ≤ pe := by
  obtain ⟨b1, h1⟩ := h1
  obtain ⟨b2, h2⟩ := h2
  have hx := List.getElem?_eq_getElem (show j < m.params.length by omega)
  have hy := List.getElem?_eq_getElem (show j < p.params.length by omega)
  have hty := ht j _ _ hx hy
  rcases h1.2 with ⟨e, h0⟩ | ⟨g, cap, cur, e, _, _, hc, _⟩
  · omega
  · injection e with e1 _ e3
    subst e1 e3
    rcases h2.2 with ⟨e, h0⟩ | ⟨g', cap', cur', e, _, _, hc', _⟩
    · omega
    · injection e with e1 _ e3
      subst e1 e3
      exact ⟨g, g', _, rfl, rfl, (var_cells h1 hx).2, by rw [hty]; exact (var_cells h2 hy).2, by omega, by omega⟩

/-- What a class' line is like: it begins with the class, and ends with one that has no superclass. -/
theorem abv_line {t : List Tab.C} (hv : Tab.Valid t) {i : Nat} (hi : i < t.length) : ∃ m z, (Tab.supers t (Tab.nth t i).name).length = m + 1 ∧ m + 1 ≤ t.length ∧ (Tab.supers t (Tab.nth t i).name)[0]? = some (Tab.nth t i).name ∧
    (Tab.supers t (Tab.nth t i).name)[m]? = some (Tab.nth t z).name ∧ z < t.length ∧ (Tab.nth t z).super = ⟨#[]⟩ ∧ (m = 0 ↔ (Tab.nth t i).super = ⟨#[]⟩) := by
  obtain ⟨z, h1, h2, h3⟩ := Tab.line_last hv hi
  have hs := Tab.line_short t (Tab.nth t i).name
  have hl := Tab.line_lone hv hi
  have hc := hv.line_cons hi
  obtain ⟨r, hr⟩ : ∃ r, Tab.line t (Tab.nth t i).super = r := ⟨_, rfl⟩
  rw [hr] at hc
  rw [hc] at h1 hs hl
  refine ⟨r.length, z, by unfold Tab.supers; rw [hc]; simp, by simpa using hs, by unfold Tab.supers; rw [hc]; rfl, ?_, h2, h3, ?_⟩
  · unfold Tab.supers
    rw [hc, List.getElem?_map]
    rw [List.getLast?_eq_getElem?] at h1
    have : (i :: r)[r.length]? = some z := by simpa using h1
    rw [this]; rfl
  · constructor
    · intro e; exact hl.1 (by simp [e])
    · intro e; have := hl.2 e; simp at this; simp [this]

set_option maxHeartbeats 8000000 in
theorem above_law_c (t : List Tab.C) (a : Option Addr) (cp : Nat) (x : Int) (w : World) (hTb : Tb w) (h : TabAt w (.slice a t.length cp) t) (h1 : -9223372036854775808 ≤ x) (h2 : x ≤ 9223372036854775807) :
    Calls Tryd.prog 5 #[.slice a t.length cp, .int .i64 x] w fun e w' => e = .returned (.bool true) ∧ Kept w w' := by
  have HTB := Lib.hid hTb
  have HT := Lib.hid h
  clear hTb h
  go_enter Tryd.func5, Tryd.ntmps5
  go_wp2_with fail
  refine (known_c w HTB.out).mono ?_
  rintro e w1 ⟨rfl, k1⟩
  have HK1 := Lib.hid k1
  have HL := Lib.hid (long_c t (.slice a t.length cp) w1 (tab_kept HT.out k1))
  clear k1
  go_wp2_with fail
  refine HL.out.mono ?_
  rintro e w2 ⟨⟨lb, rfl, hsh⟩, k2⟩
  have HK2 := Lib.hid (HK1.out.trans k2)
  clear k2
  cases lb with
  | true =>
    clear hsh
    go_wp2_with fail
    go_ret
    exact ⟨rfl, HK2.out⟩
  | false =>
    have HSH := Lib.hid (hsh rfl)
    clear hsh
    by_cases h0 : t.length = 0
    · have h0I : (t.length : Int) = 0 := by omega
      go_wp2_with fail
      go_ret
      exact ⟨rfl, HK2.out⟩
    · have h0I : ¬ (t.length : Int) = 0 := by omega
      have h9 := HSH.out.1
      have HC := Lib.hid (check_c t a cp w2 (HTB.out.kept HK2.out) (tab_kept HT.out HK2.out) (abv_small HSH.out))
      obtain ⟨fe, fa, hfe⟩ : ∃ fe fa, Tab.check t = (fe, fa) := ⟨_, _, rfl⟩
      rw [hfe] at HC
      dsimp only at HC
      go_wp2_with fail
      refine HC.out.mono ?_
      rintro e w3 ⟨rfl, k3⟩
      have HK3 := Lib.hid (HK2.out.trans k3)
      clear k3 HC
      by_cases z1 : fe = 0
      · by_cases z2 : fa = 0
        · subst z1 z2
          have HV := Lib.hid (Tab.valid_of hfe)
          clear hfe HL
          have HP := Lib.hid (pick_c x t.length w3 (by omega) (by omega) h1 h2)
          go_wp2_with fail
          refine HP.out.mono ?_
          rintro e w4 ⟨⟨i, hi, rfl⟩, rfl⟩
          obtain ⟨b, o, rfl, hcl⟩ := Row.cellsC (tab_kept HT.out HK3.out) hi
          have hiI : (i : Int) < (t.length : Int) := by omega
          have hcp : t.length ≤ cp ∧ cp ≤ 9223372036854775807 := by obtain ⟨_, c', e, h1, h2, _⟩ := HT.out; injection e with _ e2 e3; subst e3; exact ⟨h1, h2⟩
          obtain ⟨c0, c1, ⟨fu, c2, hf⟩, ⟨mu, c3, hm⟩, _⟩ := hcl
          obtain ⟨fa, fc, rfl, _⟩ := hf
          obtain ⟨ma, mc, rfl, _⟩ := hm
          obtain ⟨m, z, hl1, hl2, hl3, hl4, hl5, hl6, hl7⟩ := abv_line HV.out hi
          have HKIN := Lib.hid (fun (x : ByteArray × Int) (hx : x ∈ Tab.members t (Tab.nth t i).super) => Tab.kin HV.out hi hx)
          have HZ := Lib.hid (HV.out.find hl5)
          generalize hfl : (Tab.nth t i).fields.length = fl at c2
          generalize hml : (Tab.nth t i).methods.length = ml at c3
          obtain ⟨nm, hnm⟩ : ∃ nm, (Tab.nth t i).name = nm := ⟨_, rfl⟩
          obtain ⟨sp, hsp⟩ : ∃ sp, (Tab.nth t i).super = sp := ⟨_, rfl⟩
          rw [hnm] at c0 hl1 hl3 hl4 HKIN
          rw [hsp] at c1 hl7 HKIN
          obtain ⟨cb, hcb⟩ : ∃ cb, w4.heap.size = cb := ⟨_, rfl⟩
          have HB4 := Lib.hid (show Blk (w4.alloc (.cells #[.string nm, .string sp, .slice fa fl fc, .slice ma ml mc] 45)) cb 45 #[.string nm, .string sp, .slice fa fl fc, .slice ma ml mc] by rw [← hcb]; exact Blk.new w4 _ _)
          have HK4 := Lib.hid (HK3.out.alloc (.cells #[.string nm, .string sp, .slice fa fl fc, .slice ma ml mc] 45))
          have d0 := HB4.out.cell 0
          have d1 := HB4.out.cell 1
          simp only [List.getElem?_toArray, List.getElem?_cons_zero, List.getElem?_cons_succ] at d0 d1
          have HS := Lib.hid (supers_b (some ⟨b, o, none⟩) cp t nm _ (tab_kept HT.out HK4.out) (by omega))
          obtain ⟨W5, hW5⟩ : ∃ W5, w4.alloc (.cells #[.string nm, .string sp, .slice fa fl fc, .slice ma ml mc] 45) = W5 := ⟨_, rfl⟩
          rw [hW5] at HB4 HK4 d0 d1 HS
          obtain ⟨n, hn⟩ : ∃ n, m + 1 = n := ⟨_, rfl⟩
          rw [hn] at hl1 hl2
          have HN := Lib.hid hn
          have HHL := Lib.hid hl1
          have HL3 := Lib.hid hl3
          have HL4 := Lib.hid hl4
          have HL6 := Lib.hid hl6
          have HL7 := Lib.hid hl7
          have HNM := Lib.hid hnm
          have HSP := Lib.hid hsp
          clear hl1 hl3 hl4 hl6 hl7 hnm hsp hfl hml HP hn
          go_wp2_with fail
          clear hW5
          refine HS.out.mono ?_
          rintro e w6 ⟨v6, rfl, hr6, k6⟩
          have HK6 := Lib.hid (HK4.out.trans k6)
          have HB6 := Lib.hid (HB4.out.kept k6)
          have hrow := hr6
          obtain ⟨ra, rc, rfl, g1, g2, g3⟩ := hrow
          obtain ⟨rb, ro, rfl, q0⟩ := g3 _ _ HL3.out
          obtain ⟨rb', ro', e', qm⟩ := g3 _ _ HL4.out
          injection e' with e'
          injection e' with e1 e2
          subst e1 e2
          rw [HHL.out] at g1 ⊢
          unfold maxLen at g2
          simp only [Nat.zero_mul, Nat.add_zero, Nat.mul_one] at q0 qm
          have QM := Lib.hid qm
          have u0 := HB6.out.cell 0
          have u1 := HB6.out.cell 1
          simp only [List.getElem?_toArray, List.getElem?_cons_zero, List.getElem?_cons_succ] at u0 u1
          have hbq : (nm.toList == nm.toList) = true := beq_yes rfl
          have hm0 : ¬ (n : Int) = 0 := by have := HN.out; omega
          have hm1 : (n : Int) ≤ (t.length : Int) := by omega
          have hm2 : (0 : Int) < (n : Int) := by have := HN.out; omega
          have hm3 : 0 < n := by have := HN.out; omega
          have hm4 : ¬ n = 0 := by omega
          clear HS hr6 k6 g3 d0 d1 qm
          go_wp2_with fail
          apply abv_cut (fun w' => w' = w6.drew)
          case h =>
            refine wp_region_any (by kernel_rfl) ?_
            change wpAny _ _ _ _ _ _ _ (World.drew _)
            refine wpAny_take (i := 0) (v := .slice (some ⟨rb, ro, none⟩) n rc) rfl (by kernel_rfl) (by kernel_rfl) (by kernel_rfl) (fun _ _ _ h => h) (Or.inl ⟨by kernel_rfl, by intro w; kernel_rfl⟩) ?_
            refine wpAny_ready (rs := [1]) (by kernel_rfl) (by simp) ?_
            refine AllReady.cons rfl (fun K hK => ?_) ?_
            · go_simp
              refine hK _ _ ?_; clear hK K
              refine wpAny_take (i := 2) (v := .bool false) rfl (by kernel_rfl) (by kernel_rfl) (by kernel_rfl) (fun _ _ _ h => h) (Or.inl ⟨by kernel_rfl, by intro w; go_simp; try with_reducible rfl⟩) ?_
              refine wpAny_take (i := 3) (v := .bool false) rfl (by kernel_rfl) (by kernel_rfl) (by kernel_rfl) (fun _ _ _ h => h) (Or.inl ⟨by kernel_rfl, by intro w; kernel_rfl⟩) ?_
              refine wpAny_take (i := 4) (v := .slice (some ⟨rb, ro, none⟩) n rc) rfl (by kernel_rfl) (by kernel_rfl) (by kernel_rfl) (fun _ _ _ h => h) (Or.inl ⟨by kernel_rfl, by intro w; kernel_rfl⟩) ?_
              refine wpAny_take (i := 6) (v := .slice (some ⟨b, o, none⟩) t.length cp) rfl (by kernel_rfl) (by kernel_rfl) (by kernel_rfl) (fun _ _ _ h => h) (Or.inl ⟨by kernel_rfl, by intro w; kernel_rfl⟩) ?_
              refine wpAny_ready (rs := [5, 7]) (by kernel_rfl) (by simp) ?_
              refine AllReady.cons rfl (fun K hK => ?_) ?_
              · go_simp
                refine hK _ _ ?_; clear hK K
                refine wpAny_ready (rs := [7]) (by kernel_rfl) (by simp) ?_
                refine AllReady.cons rfl (fun K hK => ?_) ?_
                · go_simp
                  refine hK _ _ ?_; clear hK K
                  refine wpAny_take (i := 8) (v := .bool false) rfl (by kernel_rfl) (by kernel_rfl) (by kernel_rfl) (fun _ _ _ h => h) (Or.inl ⟨by kernel_rfl, by intro w; go_simp; try with_reducible rfl⟩) ?_
                  refine wpAny_take (i := 9) (v := .bool false) rfl (by kernel_rfl) (by kernel_rfl) (by kernel_rfl) (fun _ _ _ h => h) (Or.inl ⟨by kernel_rfl, by intro w; kernel_rfl⟩) ?_
                  refine wpAny_take (i := 10) (v := .bool false) rfl (by kernel_rfl) (by kernel_rfl) (by kernel_rfl) (fun _ _ _ h => h) (Or.inl ⟨by kernel_rfl, by intro w; kernel_rfl⟩) ?_
                  refine wpAny_take (i := 11) (v := .slice (some ⟨rb, ro, none⟩) n rc) rfl (by kernel_rfl) (by kernel_rfl) (by kernel_rfl) (fun _ _ _ h => h) (Or.inl ⟨by kernel_rfl, by intro w; kernel_rfl⟩) ?_
                  refine wpAny_take (i := 12) (v := .pointer (some ⟨rb, ro, none⟩)) rfl (by kernel_rfl) (by kernel_rfl) (by kernel_rfl) (fun _ _ _ h => h) (Or.inl ⟨by kernel_rfl, by intro w; go_simp; try with_reducible rfl⟩) ?_
                  refine wpAny_take (i := 14) (v := .pointer (some ⟨cb, 0, none⟩)) rfl (by kernel_rfl) (by kernel_rfl) (by kernel_rfl) (fun _ _ _ h => h) (Or.inl ⟨by kernel_rfl, by intro w; kernel_rfl⟩) ?_
                  refine wpAny_ready (rs := [13, 15]) (by kernel_rfl) (by simp) ?_
                  refine AllReady.cons rfl (fun K hK => ?_) ?_
                  · go_simp
                    refine hK _ _ ?_; clear hK K
                    refine wpAny_ready (rs := [15]) (by kernel_rfl) (by simp) ?_
                    refine AllReady.cons rfl (fun K hK => ?_) ?_
                    · go_simp
                      refine hK _ _ ?_; clear hK K
                      refine wpAny_take (i := 16) (v := .bool false) rfl (by kernel_rfl) (by kernel_rfl) (by kernel_rfl) (fun _ _ _ h => h) (Or.inl ⟨by kernel_rfl, by intro w; go_simp; try with_reducible rfl⟩) ?_
                      refine wpAny_take (i := 17) (v := .bool false) rfl (by kernel_rfl) (by kernel_rfl) (by kernel_rfl) (fun _ _ _ h => h) (Or.inl ⟨by kernel_rfl, by intro w; kernel_rfl⟩) ?_
                      refine wpAny_done (by kernel_rfl) ?_ _
                      refine ⟨?_, rfl⟩
                      go_simp
                      try rfl
                    exact AllReady.nil
                  refine AllReady.cons rfl (fun K hK => ?_) ?_
                  · go_simp
                    refine hK _ _ ?_; clear hK K
                    refine wpAny_ready (rs := [13]) (by kernel_rfl) (by simp) ?_
                    refine AllReady.cons rfl (fun K hK => ?_) ?_
                    · go_simp
                      refine hK _ _ ?_; clear hK K
                      refine wpAny_take (i := 16) (v := .bool false) rfl (by kernel_rfl) (by kernel_rfl) (by kernel_rfl) (fun _ _ _ h => h) (Or.inl ⟨by kernel_rfl, by intro w; go_simp; try with_reducible rfl⟩) ?_
                      refine wpAny_take (i := 17) (v := .bool false) rfl (by kernel_rfl) (by kernel_rfl) (by kernel_rfl) (fun _ _ _ h => h) (Or.inl ⟨by kernel_rfl, by intro w; kernel_rfl⟩) ?_
                      refine wpAny_done (by kernel_rfl) ?_ _
                      refine ⟨?_, rfl⟩
                      go_simp
                      try rfl
                    exact AllReady.nil
                  exact AllReady.nil
                exact AllReady.nil
              refine AllReady.cons rfl (fun K hK => ?_) ?_
              · go_simp
                refine hK _ _ ?_; clear hK K
                refine wpAny_ready (rs := [5]) (by kernel_rfl) (by simp) ?_
                refine AllReady.cons rfl (fun K hK => ?_) ?_
                · go_simp
                  refine hK _ _ ?_; clear hK K
                  refine wpAny_take (i := 8) (v := .bool false) rfl (by kernel_rfl) (by kernel_rfl) (by kernel_rfl) (fun _ _ _ h => h) (Or.inl ⟨by kernel_rfl, by intro w; go_simp; try with_reducible rfl⟩) ?_
                  refine wpAny_take (i := 9) (v := .bool false) rfl (by kernel_rfl) (by kernel_rfl) (by kernel_rfl) (fun _ _ _ h => h) (Or.inl ⟨by kernel_rfl, by intro w; kernel_rfl⟩) ?_
                  refine wpAny_take (i := 10) (v := .bool false) rfl (by kernel_rfl) (by kernel_rfl) (by kernel_rfl) (fun _ _ _ h => h) (Or.inl ⟨by kernel_rfl, by intro w; kernel_rfl⟩) ?_
                  refine wpAny_take (i := 11) (v := .slice (some ⟨rb, ro, none⟩) n rc) rfl (by kernel_rfl) (by kernel_rfl) (by kernel_rfl) (fun _ _ _ h => h) (Or.inl ⟨by kernel_rfl, by intro w; kernel_rfl⟩) ?_
                  refine wpAny_take (i := 12) (v := .pointer (some ⟨rb, ro, none⟩)) rfl (by kernel_rfl) (by kernel_rfl) (by kernel_rfl) (fun _ _ _ h => h) (Or.inl ⟨by kernel_rfl, by intro w; go_simp; try with_reducible rfl⟩) ?_
                  refine wpAny_take (i := 14) (v := .pointer (some ⟨cb, 0, none⟩)) rfl (by kernel_rfl) (by kernel_rfl) (by kernel_rfl) (fun _ _ _ h => h) (Or.inl ⟨by kernel_rfl, by intro w; kernel_rfl⟩) ?_
                  refine wpAny_ready (rs := [13, 15]) (by kernel_rfl) (by simp) ?_
                  refine AllReady.cons rfl (fun K hK => ?_) ?_
                  · go_simp
                    refine hK _ _ ?_; clear hK K
                    refine wpAny_ready (rs := [15]) (by kernel_rfl) (by simp) ?_
                    refine AllReady.cons rfl (fun K hK => ?_) ?_
                    · go_simp
                      refine hK _ _ ?_; clear hK K
                      refine wpAny_take (i := 16) (v := .bool false) rfl (by kernel_rfl) (by kernel_rfl) (by kernel_rfl) (fun _ _ _ h => h) (Or.inl ⟨by kernel_rfl, by intro w; go_simp; try with_reducible rfl⟩) ?_
                      refine wpAny_take (i := 17) (v := .bool false) rfl (by kernel_rfl) (by kernel_rfl) (by kernel_rfl) (fun _ _ _ h => h) (Or.inl ⟨by kernel_rfl, by intro w; kernel_rfl⟩) ?_
                      refine wpAny_done (by kernel_rfl) ?_ _
                      refine ⟨?_, rfl⟩
                      go_simp
                      try rfl
                    exact AllReady.nil
                  refine AllReady.cons rfl (fun K hK => ?_) ?_
                  · go_simp
                    refine hK _ _ ?_; clear hK K
                    refine wpAny_ready (rs := [13]) (by kernel_rfl) (by simp) ?_
                    refine AllReady.cons rfl (fun K hK => ?_) ?_
                    · go_simp
                      refine hK _ _ ?_; clear hK K
                      refine wpAny_take (i := 16) (v := .bool false) rfl (by kernel_rfl) (by kernel_rfl) (by kernel_rfl) (fun _ _ _ h => h) (Or.inl ⟨by kernel_rfl, by intro w; go_simp; try with_reducible rfl⟩) ?_
                      refine wpAny_take (i := 17) (v := .bool false) rfl (by kernel_rfl) (by kernel_rfl) (by kernel_rfl) (fun _ _ _ h => h) (Or.inl ⟨by kernel_rfl, by intro w; kernel_rfl⟩) ?_
                      refine wpAny_done (by kernel_rfl) ?_ _
                      refine ⟨?_, rfl⟩
                      go_simp
                      try rfl
                    exact AllReady.nil
                  exact AllReady.nil
                exact AllReady.nil
              exact AllReady.nil
            exact AllReady.nil
          case hk =>
            rintro w7 rfl
            have HK7 := Lib.hid HK6.out.drew
            have HK7s := Lib.hid (Kept.refl w6).drew
            obtain ⟨bz, oz, ez, hcz⟩ := Row.cellsC (tab_kept HT.out HK7.out) hl5
            injection ez with ez
            injection ez with e1 e2
            subst e1 e2
            have s1 := hcz.2.1
            rw [HL6.out] at s1
            have qz := (HK7s.out).cell QM.out
            have hsub : (n : Int) - 1 = (m : Int) := by have := HN.out; omega
            have hmn : (m : Int) < (n : Int) := by have := HN.out; omega
            have hmc : m ≤ rc := by have := HN.out; omega
            have hz0 : ¬ (z : Int) < 0 := by omega
            have hz1 : ¬ (t.length : Int) ≤ (z : Int) := by omega
            have hz2 : (z : Int) < (t.length : Int) := by omega
            have hz3 : z ≤ cp := by omega
            have HF := Lib.hid (tfind_c t (.slice (some ⟨b, o, none⟩) t.length cp) (Tab.nth t z).name w6.drew (tab_kept HT.out HK7.out))
            unfold FindPost at HF
            rw [HZ.out] at HF
            simp only [Tab.num, Option.isSome_some] at HF
            have hem : (⟨#[]⟩ : ByteArray).toList = [] := by rw [ByteArray.toList_eq]
            clear hcz q0 hbq
            by_cases hs0 : sp = ⟨#[]⟩
            · have hm9 : m = 0 := HL7.out.2 hs0
              have hn1 : n = 1 := by have := HN.out; omega
              have hn1I : ((n : Int) == 1) = true := by rw [hn1]; rfl
              have hst : (sp.toList == ([] : List UInt8)) = true := by rw [hs0, hem]; rfl
              have HS0 := Lib.hid hs0
              clear hs0 hm9 hn1
              go_wp2_with fail
              refine HF.out.mono ?_
              rintro e w8 ⟨rfl, rfl⟩
              go_wp2_with fail
              go_ret
              exact ⟨rfl, HK7.out⟩
            · have hn1 : ¬ n = 1 := by
                intro e
                have := HN.out
                exact hs0 (HL7.out.1 (by omega))
              have hn1I : ((n : Int) == 1) = false := by simp; omega
              have hst : (sp.toList == ([] : List UInt8)) = false := by
                have := beq_no hs0
                rwa [hem] at this
              have HME := Lib.hid (members_c (some ⟨b, o, none⟩) cp t sp w6.drew (tab_kept HT.out HK7.out) (abv_small HSH.out))
              clear hs0 hn1
              go_wp2_with fail
              refine HF.out.mono ?_
              rintro e w8 ⟨rfl, rfl⟩
              clear HF
              go_wp2_with fail
              refine HME.out.mono ?_
              rintro e w9 ⟨v9, rfl, hr9, k9⟩
              have hrow := mem_row hr9
              have HK9 := Lib.hid (HK7.out.trans k9)
              have HB9 := Lib.hid (HB6.out.kept ((Kept.refl w6).drew.trans k9))
              obtain ⟨ma9, mc9, rfl⟩ := owns_slice_n hr9
              obtain ⟨l, hl⟩ : ∃ l, Tab.members t sp = l := ⟨_, rfl⟩
              have HKI := Lib.hid (fun (y : ByteArray × Int) (hy : y ∈ l) => HKIN.out y (by rw [hl]; exact hy))
              rw [hl] at hrow
              rw [hl]
              obtain ⟨ma', mc', e, r1, r2, rat⟩ := hrow
              injection e with e1 _ e3
              subst e1 e3
              unfold maxLen at r2
              have HRA := Lib.hid rat
              have HT9 := Lib.hid (tab_kept HT.out HK9.out)
              clear hr9 k9 HME rat hl u0 u1 s1 qz
              go_wp2_with fail
              go_loopw [11] (fun q wr => ∃ k : Nat, k ≤ l.length ∧ q = .int .i64 k ∧ Kept w9 wr) (fun q wr => l.length - (intOf q).toNat)
              case atStart => exact ⟨0, Nat.zero_le _, rfl, Kept.refl _⟩
              case round =>
                obtain ⟨k, hk, rfl, hkp⟩ := hrel
                have HKP := Lib.hid hkp
                by_cases hlk : k < l.length
                · have hlkI : (k : Int) < (l.length : Int) := by omega
                  have hx : l[k]? = some l[k] := List.getElem?_eq_getElem hlk
                  obtain ⟨mb, mo, rfl, hm⟩ := HRA.out _ _ hx
                  have HKY := Lib.hid (HKI.out _ (List.mem_of_getElem? hx))
                  generalize l[k] = y at hx HKY hm
                  have HMM := Lib.hid hm
                  obtain ⟨wo, rfl⟩ : ∃ wo, wo = wr := ⟨_, rfl⟩
                  clear hx hm hkp
                  go_wp2_with fail
                  have z17 := (HB9.out.kept HKP.out).cell 0
                  simp only [List.getElem?_toArray, List.getElem?_cons_zero, List.getElem?_cons_succ] at z17
                  have y17 := HKP.out.cell HMM.out.1
                  have HC17 := Lib.hid (arity_c (some ⟨b, o, none⟩) cp t nm y.1 wo.drew (tab_kept HT9.out HKP.out.drew) (abv_small HSH.out))
                  rw [HKY.out.1] at HC17
                  simp only [Option.getD_some, Option.isSome_some] at HC17
                  apply abv_cut (fun w' => Kept wo.drew w')
                  case h =>
                    refine wp_region_any (by kernel_rfl) ?_
                    change wpAny _ _ _ _ _ _ _ (World.drew _)
                    refine wpAny_take (i := 0) (v := .slice (some ⟨b, o, none⟩) t.length cp) rfl (by kernel_rfl) (by kernel_rfl) (by kernel_rfl) (fun _ _ _ h => h) (Or.inl ⟨by kernel_rfl, by intro w; kernel_rfl⟩) ?_
                    refine wpAny_take (i := 1) (v := .pointer (some ⟨cb, 0, none⟩)) rfl (by kernel_rfl) (by kernel_rfl) (by kernel_rfl) (fun _ _ _ h => h) (Or.inl ⟨by kernel_rfl, by intro w; kernel_rfl⟩) ?_
                    refine wpAny_take (i := 3) (v := .slice (some ⟨mb, mo, none⟩) l.length mc9) rfl (by kernel_rfl) (by kernel_rfl) (by kernel_rfl) (fun _ _ _ h => h) (Or.inl ⟨by kernel_rfl, by intro w; kernel_rfl⟩) ?_
                    refine wpAny_take (i := 4) (v := .int .i64 (k : Int)) rfl (by kernel_rfl) (by kernel_rfl) (by kernel_rfl) (fun _ _ _ h => h) (Or.inl ⟨by kernel_rfl, by intro w; kernel_rfl⟩) ?_
                    refine wpAny_take (i := 5) (v := .pointer (some ⟨mb, mo + k * 2, none⟩)) rfl (by kernel_rfl) (by kernel_rfl) (by kernel_rfl) (fun _ _ _ h => h) (Or.inl ⟨by kernel_rfl, by intro w; go_simp; try with_reducible rfl⟩) ?_
                    refine wpAny_take (i := 6) (v := .pointer (some ⟨mb, mo + k * 2, none⟩)) rfl (by kernel_rfl) (by kernel_rfl) (by kernel_rfl) (fun _ _ _ h => h) (Or.inl ⟨by kernel_rfl, by intro w; kernel_rfl⟩) ?_
                    refine wpAny_ready (rs := [2, 7]) (by kernel_rfl) (by simp) ?_
                    refine AllReady.cons rfl (fun K hK => ?_) ?_
                    · go_simp
                      refine hK _ _ ?_; clear hK K
                      refine wpAny_ready (rs := [7]) (by kernel_rfl) (by simp) ?_
                      refine AllReady.cons rfl (fun K hK => ?_) ?_
                      · go_simp
                        refine hK _ _ ?_; clear hK K
                        refine wpAny_ready (rs := [8]) (by kernel_rfl) (by simp) ?_
                        refine AllReady.cons rfl (fun K hK => ?_) ?_
                        · go_simp
                          go_wp2_with fail
                          refine HC17.out.mono ?_
                          rintro e w7 ⟨rfl, k7⟩
                          have HK7 := Lib.hid k7
                          clear k7
                          dsimp only
                          refine hK _ _ ?_; clear hK K
                          refine wpAny_take (i := 9) (v := .tuple #[.int .i64 y.2, .bool true]) rfl (by kernel_rfl) (by kernel_rfl) (by kernel_rfl) (fun _ _ _ h => h) (Or.inl ⟨by kernel_rfl, by intro w; kernel_rfl⟩) ?_
                          refine wpAny_take (i := 10) (v := .int .i64 y.2) rfl (by kernel_rfl) (by kernel_rfl) (by kernel_rfl) (fun _ _ _ h => h) (Or.inl ⟨by kernel_rfl, by intro w; kernel_rfl⟩) ?_
                          refine wpAny_take (i := 11) (v := .bool true) rfl (by kernel_rfl) (by kernel_rfl) (by kernel_rfl) (fun _ _ _ h => h) (Or.inl ⟨by kernel_rfl, by intro w; kernel_rfl⟩) ?_
                          refine wpAny_take (i := 12) (v := .int .i64 y.2) rfl (by kernel_rfl) (by kernel_rfl) (by kernel_rfl) (fun _ _ _ h => h) (Or.inl ⟨by kernel_rfl, by intro w; kernel_rfl⟩) ?_
                          refine wpAny_take (i := 13) (v := .bool true) rfl (by kernel_rfl) (by kernel_rfl) (by kernel_rfl) (fun _ _ _ h => h) (Or.inl ⟨by kernel_rfl, by intro w; kernel_rfl⟩) ?_
                          refine wpAny_done (by kernel_rfl) ?_ _
                          refine ⟨?_, HK7.out⟩
                          go_simp
                          try rfl
                        exact AllReady.nil
                      exact AllReady.nil
                    refine AllReady.cons rfl (fun K hK => ?_) ?_
                    · go_simp
                      refine hK _ _ ?_; clear hK K
                      refine wpAny_ready (rs := [2]) (by kernel_rfl) (by simp) ?_
                      refine AllReady.cons rfl (fun K hK => ?_) ?_
                      · go_simp
                        refine hK _ _ ?_; clear hK K
                        refine wpAny_ready (rs := [8]) (by kernel_rfl) (by simp) ?_
                        refine AllReady.cons rfl (fun K hK => ?_) ?_
                        · go_simp
                          go_wp2_with fail
                          refine HC17.out.mono ?_
                          rintro e w7 ⟨rfl, k7⟩
                          have HK7 := Lib.hid k7
                          clear k7
                          dsimp only
                          refine hK _ _ ?_; clear hK K
                          refine wpAny_take (i := 9) (v := .tuple #[.int .i64 y.2, .bool true]) rfl (by kernel_rfl) (by kernel_rfl) (by kernel_rfl) (fun _ _ _ h => h) (Or.inl ⟨by kernel_rfl, by intro w; kernel_rfl⟩) ?_
                          refine wpAny_take (i := 10) (v := .int .i64 y.2) rfl (by kernel_rfl) (by kernel_rfl) (by kernel_rfl) (fun _ _ _ h => h) (Or.inl ⟨by kernel_rfl, by intro w; kernel_rfl⟩) ?_
                          refine wpAny_take (i := 11) (v := .bool true) rfl (by kernel_rfl) (by kernel_rfl) (by kernel_rfl) (fun _ _ _ h => h) (Or.inl ⟨by kernel_rfl, by intro w; kernel_rfl⟩) ?_
                          refine wpAny_take (i := 12) (v := .int .i64 y.2) rfl (by kernel_rfl) (by kernel_rfl) (by kernel_rfl) (fun _ _ _ h => h) (Or.inl ⟨by kernel_rfl, by intro w; kernel_rfl⟩) ?_
                          refine wpAny_take (i := 13) (v := .bool true) rfl (by kernel_rfl) (by kernel_rfl) (by kernel_rfl) (fun _ _ _ h => h) (Or.inl ⟨by kernel_rfl, by intro w; kernel_rfl⟩) ?_
                          refine wpAny_done (by kernel_rfl) ?_ _
                          refine ⟨?_, HK7.out⟩
                          go_simp
                          try rfl
                        exact AllReady.nil
                      exact AllReady.nil
                    exact AllReady.nil
                  case hk =>
                    intro wa kk
                    have HKr17 := Lib.hid (HKP.out.drew.trans kk)
                    clear kk z17 y17 HC17
                    go_wp2_with fail
                    have z18 := (HB9.out.kept HKr17.out).cell 0
                    simp only [List.getElem?_toArray, List.getElem?_cons_zero, List.getElem?_cons_succ] at z18
                    have y18 := HKr17.out.cell HMM.out.1
                    have HC18 := Lib.hid (field_c (some ⟨b, o, none⟩) cp t nm y.1 wa.drew (tab_kept HT9.out HKr17.out.drew) (by omega))
                    rw [HKY.out.2.1] at HC18
                    apply abv_cut (fun w' => Kept wa.drew w')
                    case h =>
                      refine wp_region_any (by kernel_rfl) ?_
                      change wpAny _ _ _ _ _ _ _ (World.drew _)
                      refine wpAny_take (i := 0) (v := .slice (some ⟨b, o, none⟩) t.length cp) rfl (by kernel_rfl) (by kernel_rfl) (by kernel_rfl) (fun _ _ _ h => h) (Or.inl ⟨by kernel_rfl, by intro w; kernel_rfl⟩) ?_
                      refine wpAny_take (i := 1) (v := .pointer (some ⟨cb, 0, none⟩)) rfl (by kernel_rfl) (by kernel_rfl) (by kernel_rfl) (fun _ _ _ h => h) (Or.inl ⟨by kernel_rfl, by intro w; kernel_rfl⟩) ?_
                      refine wpAny_take (i := 3) (v := .slice (some ⟨mb, mo, none⟩) l.length mc9) rfl (by kernel_rfl) (by kernel_rfl) (by kernel_rfl) (fun _ _ _ h => h) (Or.inl ⟨by kernel_rfl, by intro w; kernel_rfl⟩) ?_
                      refine wpAny_take (i := 4) (v := .int .i64 (k : Int)) rfl (by kernel_rfl) (by kernel_rfl) (by kernel_rfl) (fun _ _ _ h => h) (Or.inl ⟨by kernel_rfl, by intro w; kernel_rfl⟩) ?_
                      refine wpAny_take (i := 5) (v := .pointer (some ⟨mb, mo + k * 2, none⟩)) rfl (by kernel_rfl) (by kernel_rfl) (by kernel_rfl) (fun _ _ _ h => h) (Or.inl ⟨by kernel_rfl, by intro w; go_simp; try with_reducible rfl⟩) ?_
                      refine wpAny_take (i := 6) (v := .pointer (some ⟨mb, mo + k * 2, none⟩)) rfl (by kernel_rfl) (by kernel_rfl) (by kernel_rfl) (fun _ _ _ h => h) (Or.inl ⟨by kernel_rfl, by intro w; kernel_rfl⟩) ?_
                      refine wpAny_ready (rs := [2, 7]) (by kernel_rfl) (by simp) ?_
                      refine AllReady.cons rfl (fun K hK => ?_) ?_
                      · go_simp
                        refine hK _ _ ?_; clear hK K
                        refine wpAny_ready (rs := [7]) (by kernel_rfl) (by simp) ?_
                        refine AllReady.cons rfl (fun K hK => ?_) ?_
                        · go_simp
                          refine hK _ _ ?_; clear hK K
                          refine wpAny_ready (rs := [8]) (by kernel_rfl) (by simp) ?_
                          refine AllReady.cons rfl (fun K hK => ?_) ?_
                          · go_simp
                            go_wp2_with fail
                            refine HC18.out.mono ?_
                            rintro e w7 ⟨rfl, k7⟩
                            have HK7 := Lib.hid k7
                            clear k7
                            dsimp only
                            refine hK _ _ ?_; clear hK K
                            refine wpAny_take (i := 9) (v := .tuple #[.string ((Tab.field t sp y.1).getD ⟨#[]⟩), .bool (Tab.field t sp y.1).isSome]) rfl (by kernel_rfl) (by kernel_rfl) (by kernel_rfl) (fun _ _ _ h => h) (Or.inl ⟨by kernel_rfl, by intro w; kernel_rfl⟩) ?_
                            refine wpAny_take (i := 10) (v := .string ((Tab.field t sp y.1).getD ⟨#[]⟩)) rfl (by kernel_rfl) (by kernel_rfl) (by kernel_rfl) (fun _ _ _ h => h) (Or.inl ⟨by kernel_rfl, by intro w; kernel_rfl⟩) ?_
                            refine wpAny_take (i := 11) (v := .bool (Tab.field t sp y.1).isSome) rfl (by kernel_rfl) (by kernel_rfl) (by kernel_rfl) (fun _ _ _ h => h) (Or.inl ⟨by kernel_rfl, by intro w; kernel_rfl⟩) ?_
                            refine wpAny_take (i := 12) (v := .string ((Tab.field t sp y.1).getD ⟨#[]⟩)) rfl (by kernel_rfl) (by kernel_rfl) (by kernel_rfl) (fun _ _ _ h => h) (Or.inl ⟨by kernel_rfl, by intro w; kernel_rfl⟩) ?_
                            refine wpAny_take (i := 13) (v := .bool (Tab.field t sp y.1).isSome) rfl (by kernel_rfl) (by kernel_rfl) (by kernel_rfl) (fun _ _ _ h => h) (Or.inl ⟨by kernel_rfl, by intro w; kernel_rfl⟩) ?_
                            refine wpAny_done (by kernel_rfl) ?_ _
                            refine ⟨?_, HK7.out⟩
                            go_simp
                            try rfl
                          exact AllReady.nil
                        exact AllReady.nil
                      refine AllReady.cons rfl (fun K hK => ?_) ?_
                      · go_simp
                        refine hK _ _ ?_; clear hK K
                        refine wpAny_ready (rs := [2]) (by kernel_rfl) (by simp) ?_
                        refine AllReady.cons rfl (fun K hK => ?_) ?_
                        · go_simp
                          refine hK _ _ ?_; clear hK K
                          refine wpAny_ready (rs := [8]) (by kernel_rfl) (by simp) ?_
                          refine AllReady.cons rfl (fun K hK => ?_) ?_
                          · go_simp
                            go_wp2_with fail
                            refine HC18.out.mono ?_
                            rintro e w7 ⟨rfl, k7⟩
                            have HK7 := Lib.hid k7
                            clear k7
                            dsimp only
                            refine hK _ _ ?_; clear hK K
                            refine wpAny_take (i := 9) (v := .tuple #[.string ((Tab.field t sp y.1).getD ⟨#[]⟩), .bool (Tab.field t sp y.1).isSome]) rfl (by kernel_rfl) (by kernel_rfl) (by kernel_rfl) (fun _ _ _ h => h) (Or.inl ⟨by kernel_rfl, by intro w; kernel_rfl⟩) ?_
                            refine wpAny_take (i := 10) (v := .string ((Tab.field t sp y.1).getD ⟨#[]⟩)) rfl (by kernel_rfl) (by kernel_rfl) (by kernel_rfl) (fun _ _ _ h => h) (Or.inl ⟨by kernel_rfl, by intro w; kernel_rfl⟩) ?_
                            refine wpAny_take (i := 11) (v := .bool (Tab.field t sp y.1).isSome) rfl (by kernel_rfl) (by kernel_rfl) (by kernel_rfl) (fun _ _ _ h => h) (Or.inl ⟨by kernel_rfl, by intro w; kernel_rfl⟩) ?_
                            refine wpAny_take (i := 12) (v := .string ((Tab.field t sp y.1).getD ⟨#[]⟩)) rfl (by kernel_rfl) (by kernel_rfl) (by kernel_rfl) (fun _ _ _ h => h) (Or.inl ⟨by kernel_rfl, by intro w; kernel_rfl⟩) ?_
                            refine wpAny_take (i := 13) (v := .bool (Tab.field t sp y.1).isSome) rfl (by kernel_rfl) (by kernel_rfl) (by kernel_rfl) (fun _ _ _ h => h) (Or.inl ⟨by kernel_rfl, by intro w; kernel_rfl⟩) ?_
                            refine wpAny_done (by kernel_rfl) ?_ _
                            refine ⟨?_, HK7.out⟩
                            go_simp
                            try rfl
                          exact AllReady.nil
                        exact AllReady.nil
                      exact AllReady.nil
                    case hk =>
                      intro wb kk
                      have HKr18 := Lib.hid (HKr17.out.drew.trans kk)
                      clear kk z18 y18 HC18
                      go_wp2_with fail
                      have z19 := (HB9.out.kept HKr18.out).cell 1
                      simp only [List.getElem?_toArray, List.getElem?_cons_zero, List.getElem?_cons_succ] at z19
                      have y19 := HKr18.out.cell HMM.out.1
                      have HC19 := Lib.hid (field_c (some ⟨b, o, none⟩) cp t sp y.1 wb.drew (tab_kept HT9.out HKr18.out.drew) (by omega))
                      apply abv_cut (fun w' => Kept wb.drew w')
                      case h =>
                        refine wp_region_any (by kernel_rfl) ?_
                        change wpAny _ _ _ _ _ _ _ (World.drew _)
                        refine wpAny_take (i := 0) (v := .slice (some ⟨b, o, none⟩) t.length cp) rfl (by kernel_rfl) (by kernel_rfl) (by kernel_rfl) (fun _ _ _ h => h) (Or.inl ⟨by kernel_rfl, by intro w; kernel_rfl⟩) ?_
                        refine wpAny_take (i := 1) (v := .pointer (some ⟨cb, 1, none⟩)) rfl (by kernel_rfl) (by kernel_rfl) (by kernel_rfl) (fun _ _ _ h => h) (Or.inl ⟨by kernel_rfl, by intro w; kernel_rfl⟩) ?_
                        refine wpAny_take (i := 3) (v := .slice (some ⟨mb, mo, none⟩) l.length mc9) rfl (by kernel_rfl) (by kernel_rfl) (by kernel_rfl) (fun _ _ _ h => h) (Or.inl ⟨by kernel_rfl, by intro w; kernel_rfl⟩) ?_
                        refine wpAny_take (i := 4) (v := .int .i64 (k : Int)) rfl (by kernel_rfl) (by kernel_rfl) (by kernel_rfl) (fun _ _ _ h => h) (Or.inl ⟨by kernel_rfl, by intro w; kernel_rfl⟩) ?_
                        refine wpAny_take (i := 5) (v := .pointer (some ⟨mb, mo + k * 2, none⟩)) rfl (by kernel_rfl) (by kernel_rfl) (by kernel_rfl) (fun _ _ _ h => h) (Or.inl ⟨by kernel_rfl, by intro w; go_simp; try with_reducible rfl⟩) ?_
                        refine wpAny_take (i := 6) (v := .pointer (some ⟨mb, mo + k * 2, none⟩)) rfl (by kernel_rfl) (by kernel_rfl) (by kernel_rfl) (fun _ _ _ h => h) (Or.inl ⟨by kernel_rfl, by intro w; kernel_rfl⟩) ?_
                        refine wpAny_ready (rs := [2, 7]) (by kernel_rfl) (by simp) ?_
                        refine AllReady.cons rfl (fun K hK => ?_) ?_
                        · go_simp
                          refine hK _ _ ?_; clear hK K
                          refine wpAny_ready (rs := [7]) (by kernel_rfl) (by simp) ?_
                          refine AllReady.cons rfl (fun K hK => ?_) ?_
                          · go_simp
                            refine hK _ _ ?_; clear hK K
                            refine wpAny_ready (rs := [8]) (by kernel_rfl) (by simp) ?_
                            refine AllReady.cons rfl (fun K hK => ?_) ?_
                            · go_simp
                              go_wp2_with fail
                              refine HC19.out.mono ?_
                              rintro e w7 ⟨rfl, k7⟩
                              have HK7 := Lib.hid k7
                              clear k7
                              dsimp only
                              refine hK _ _ ?_; clear hK K
                              refine wpAny_take (i := 9) (v := .tuple #[.string ((Tab.field t sp y.1).getD ⟨#[]⟩), .bool (Tab.field t sp y.1).isSome]) rfl (by kernel_rfl) (by kernel_rfl) (by kernel_rfl) (fun _ _ _ h => h) (Or.inl ⟨by kernel_rfl, by intro w; kernel_rfl⟩) ?_
                              refine wpAny_take (i := 10) (v := .string ((Tab.field t sp y.1).getD ⟨#[]⟩)) rfl (by kernel_rfl) (by kernel_rfl) (by kernel_rfl) (fun _ _ _ h => h) (Or.inl ⟨by kernel_rfl, by intro w; kernel_rfl⟩) ?_
                              refine wpAny_take (i := 11) (v := .bool (Tab.field t sp y.1).isSome) rfl (by kernel_rfl) (by kernel_rfl) (by kernel_rfl) (fun _ _ _ h => h) (Or.inl ⟨by kernel_rfl, by intro w; kernel_rfl⟩) ?_
                              refine wpAny_take (i := 12) (v := .string ((Tab.field t sp y.1).getD ⟨#[]⟩)) rfl (by kernel_rfl) (by kernel_rfl) (by kernel_rfl) (fun _ _ _ h => h) (Or.inl ⟨by kernel_rfl, by intro w; kernel_rfl⟩) ?_
                              refine wpAny_take (i := 13) (v := .bool (Tab.field t sp y.1).isSome) rfl (by kernel_rfl) (by kernel_rfl) (by kernel_rfl) (fun _ _ _ h => h) (Or.inl ⟨by kernel_rfl, by intro w; kernel_rfl⟩) ?_
                              refine wpAny_done (by kernel_rfl) ?_ _
                              refine ⟨?_, HK7.out⟩
                              go_simp
                              try rfl
                            exact AllReady.nil
                          exact AllReady.nil
                        refine AllReady.cons rfl (fun K hK => ?_) ?_
                        · go_simp
                          refine hK _ _ ?_; clear hK K
                          refine wpAny_ready (rs := [2]) (by kernel_rfl) (by simp) ?_
                          refine AllReady.cons rfl (fun K hK => ?_) ?_
                          · go_simp
                            refine hK _ _ ?_; clear hK K
                            refine wpAny_ready (rs := [8]) (by kernel_rfl) (by simp) ?_
                            refine AllReady.cons rfl (fun K hK => ?_) ?_
                            · go_simp
                              go_wp2_with fail
                              refine HC19.out.mono ?_
                              rintro e w7 ⟨rfl, k7⟩
                              have HK7 := Lib.hid k7
                              clear k7
                              dsimp only
                              refine hK _ _ ?_; clear hK K
                              refine wpAny_take (i := 9) (v := .tuple #[.string ((Tab.field t sp y.1).getD ⟨#[]⟩), .bool (Tab.field t sp y.1).isSome]) rfl (by kernel_rfl) (by kernel_rfl) (by kernel_rfl) (fun _ _ _ h => h) (Or.inl ⟨by kernel_rfl, by intro w; kernel_rfl⟩) ?_
                              refine wpAny_take (i := 10) (v := .string ((Tab.field t sp y.1).getD ⟨#[]⟩)) rfl (by kernel_rfl) (by kernel_rfl) (by kernel_rfl) (fun _ _ _ h => h) (Or.inl ⟨by kernel_rfl, by intro w; kernel_rfl⟩) ?_
                              refine wpAny_take (i := 11) (v := .bool (Tab.field t sp y.1).isSome) rfl (by kernel_rfl) (by kernel_rfl) (by kernel_rfl) (fun _ _ _ h => h) (Or.inl ⟨by kernel_rfl, by intro w; kernel_rfl⟩) ?_
                              refine wpAny_take (i := 12) (v := .string ((Tab.field t sp y.1).getD ⟨#[]⟩)) rfl (by kernel_rfl) (by kernel_rfl) (by kernel_rfl) (fun _ _ _ h => h) (Or.inl ⟨by kernel_rfl, by intro w; kernel_rfl⟩) ?_
                              refine wpAny_take (i := 13) (v := .bool (Tab.field t sp y.1).isSome) rfl (by kernel_rfl) (by kernel_rfl) (by kernel_rfl) (fun _ _ _ h => h) (Or.inl ⟨by kernel_rfl, by intro w; kernel_rfl⟩) ?_
                              refine wpAny_done (by kernel_rfl) ?_ _
                              refine ⟨?_, HK7.out⟩
                              go_simp
                              try rfl
                            exact AllReady.nil
                          exact AllReady.nil
                        exact AllReady.nil
                      case hk =>
                        intro wc kk
                        have HKr19 := Lib.hid (HKr18.out.drew.trans kk)
                        clear kk z19 y19 HC19
                        go_wp2_with fail
                        rcases HKY.out.2.2 with ⟨n1, n2⟩ | ⟨mm, oo, pp, qq, n1, n2, hss, hla⟩
                        · have HN20 := Lib.hid n1
                          have HN21 := Lib.hid n2
                          clear n1 n2
                          have z20 := (HB9.out.kept HKr19.out).cell 0
                          have z20a := (HB9.out.kept (HKr19.out.alloc (.cells #[.string ⟨#[]⟩, .slice none 0 0, .string ⟨#[]⟩] 26))).cell 0
                          simp only [List.getElem?_toArray, List.getElem?_cons_zero, List.getElem?_cons_succ] at z20 z20a
                          have y20 := HKr19.out.cell HMM.out.1
                          have y20a := (HKr19.out.alloc (.cells #[.string ⟨#[]⟩, .slice none 0 0, .string ⟨#[]⟩] 26)).cell HMM.out.1
                          have HC20 := Lib.hid (fun (w' : World) (kk : Kept wc w') => method_c (some ⟨b, o, none⟩) cp t nm y.1 w' (tab_kept HT9.out (HKr19.out.trans kk)) (abv_small HSH.out))
                          apply abv_cutp (fun P w' => SigBox wc w' P (.string ⟨#[]⟩) (.slice none 0 0) (.string ⟨#[]⟩))
                          case h =>
                            refine wp_region_any (by kernel_rfl) ?_
                            change wpAny _ _ _ _ _ _ _ (World.drew _)
                            refine wpAny_take (i := 0) (v := .slice (some ⟨b, o, none⟩) t.length cp) rfl (by kernel_rfl) (by kernel_rfl) (by kernel_rfl) (fun _ _ _ h => h) (Or.inl ⟨by kernel_rfl, by intro w; kernel_rfl⟩) ?_
                            refine wpAny_take (i := 1) (v := .pointer (some ⟨cb, 0, none⟩)) rfl (by kernel_rfl) (by kernel_rfl) (by kernel_rfl) (fun _ _ _ h => h) (Or.inl ⟨by kernel_rfl, by intro w; kernel_rfl⟩) ?_
                            refine wpAny_take (i := 3) (v := .slice (some ⟨mb, mo, none⟩) l.length mc9) rfl (by kernel_rfl) (by kernel_rfl) (by kernel_rfl) (fun _ _ _ h => h) (Or.inl ⟨by kernel_rfl, by intro w; kernel_rfl⟩) ?_
                            refine wpAny_take (i := 4) (v := .int .i64 (k : Int)) rfl (by kernel_rfl) (by kernel_rfl) (by kernel_rfl) (fun _ _ _ h => h) (Or.inl ⟨by kernel_rfl, by intro w; kernel_rfl⟩) ?_
                            refine wpAny_take (i := 5) (v := .pointer (some ⟨mb, mo + k * 2, none⟩)) rfl (by kernel_rfl) (by kernel_rfl) (by kernel_rfl) (fun _ _ _ h => h) (Or.inl ⟨by kernel_rfl, by intro w; go_simp; try with_reducible rfl⟩) ?_
                            refine wpAny_take (i := 6) (v := .pointer (some ⟨mb, mo + k * 2, none⟩)) rfl (by kernel_rfl) (by kernel_rfl) (by kernel_rfl) (fun _ _ _ h => h) (Or.inl ⟨by kernel_rfl, by intro w; kernel_rfl⟩) ?_
                            refine wpAny_ready (rs := [2, 7, 13]) (by kernel_rfl) (by simp) ?_
                            refine AllReady.cons rfl (fun K hK => ?_) ?_
                            · go_simp
                              refine hK _ _ ?_; clear hK K
                              refine wpAny_ready (rs := [7, 13]) (by kernel_rfl) (by simp) ?_
                              refine AllReady.cons rfl (fun K hK => ?_) ?_
                              · go_simp
                                refine hK _ _ ?_; clear hK K
                                refine wpAny_ready (rs := [8, 13]) (by kernel_rfl) (by simp) ?_
                                refine AllReady.cons rfl (fun K hK => ?_) ?_
                                · go_simp
                                  go_wp2_with fail
                                  refine (HC20.out _ (Kept.refl wc).drew).mono ?_
                                  rintro e w8 ⟨k8, ⟨h0, rfl⟩ | ⟨m', own', p', h0, rfl, hr⟩⟩
                                  rotate_left
                                  · rw [HN20.out] at h0; cases h0
                                  have HK8 := Lib.hid ((Kept.refl wc).drew.trans k8)
                                  clear k8 h0
                                  dsimp only
                                  refine hK _ _ ?_; clear hK K
                                  refine wpAny_take (i := 9) (v := .tuple #[.agg #[.string ⟨#[]⟩, .slice none 0 0, .string ⟨#[]⟩], .string ⟨#[]⟩, .bool false]) rfl (by kernel_rfl) (by kernel_rfl) (by kernel_rfl) (fun _ _ _ h => h) (Or.inl ⟨by kernel_rfl, by intro w; kernel_rfl⟩) ?_
                                  refine wpAny_take (i := 10) (v := .agg #[.string ⟨#[]⟩, .slice none 0 0, .string ⟨#[]⟩]) rfl (by kernel_rfl) (by kernel_rfl) (by kernel_rfl) (fun _ _ _ h => h) (Or.inl ⟨by kernel_rfl, by intro w; kernel_rfl⟩) ?_
                                  refine wpAny_take (i := 11) (v := .string ⟨#[]⟩) rfl (by kernel_rfl) (by kernel_rfl) (by kernel_rfl) (fun _ _ _ h => h) (Or.inl ⟨by kernel_rfl, by intro w; kernel_rfl⟩) ?_
                                  refine wpAny_take (i := 12) (v := .bool false) rfl (by kernel_rfl) (by kernel_rfl) (by kernel_rfl) (fun _ _ _ h => h) (Or.inl ⟨by kernel_rfl, by intro w; kernel_rfl⟩) ?_
                                  refine wpAny_ready (rs := [13]) (by kernel_rfl) (by simp) ?_
                                  refine AllReady.cons rfl (fun K hK => ?_) ?_
                                  · go_simp
                                    refine hK _ _ ?_; clear hK K
                                    refine wpAny_ready (rs := [14]) (by kernel_rfl) (by simp) ?_
                                    refine AllReady.cons rfl (fun K hK => ?_) ?_
                                    · go_simp
                                      refine hK _ _ ?_; clear hK K
                                      refine wpAny_take (i := 15) (v := .string ⟨#[]⟩) rfl (by kernel_rfl) (by kernel_rfl) (by kernel_rfl) (fun _ _ _ h => h) (Or.inl ⟨by kernel_rfl, by intro w; kernel_rfl⟩) ?_
                                      refine wpAny_take (i := 16) (v := .bool false) rfl (by kernel_rfl) (by kernel_rfl) (by kernel_rfl) (fun _ _ _ h => h) (Or.inl ⟨by kernel_rfl, by intro w; kernel_rfl⟩) ?_
                                      refine wpAny_done (by kernel_rfl) ?_ _
                                      have HS := Lib.hid (sb2 (a := .string ⟨#[]⟩) (b := .slice none 0 0) (c := .string ⟨#[]⟩) HK8.out)
                                      generalize w8.heap.size = PP at HS ⊢
                                      refine ⟨PP, ?_, HS.out⟩
                                      go_simp
                                      try rfl
                                    exact AllReady.nil
                                  exact AllReady.nil
                                refine AllReady.cons rfl (fun K hK => ?_) ?_
                                · go_simp
                                  refine hK _ _ ?_; clear hK K
                                  refine wpAny_ready (rs := [8]) (by kernel_rfl) (by simp) ?_
                                  refine AllReady.cons rfl (fun K hK => ?_) ?_
                                  · go_simp
                                    go_wp2_with fail
                                    refine (HC20.out _ ((Kept.refl wc).drew.alloc _)).mono ?_
                                    rintro e w8 ⟨k8, ⟨h0, rfl⟩ | ⟨m', own', p', h0, rfl, hr⟩⟩
                                    rotate_left
                                    · rw [HN20.out] at h0; cases h0
                                    have HK8 := Lib.hid (((Kept.refl wc).drew.alloc (.cells #[.string ⟨#[]⟩, .slice none 0 0, .string ⟨#[]⟩] 26)).trans k8)
                                    have hb8 := (Blk.new wc.drew 26 #[.string ⟨#[]⟩, .slice none 0 0, .string ⟨#[]⟩]).kept k8
                                    rw [show wc.drew.heap.size = wc.heap.size from rfl] at hb8
                                    have HB8 := Lib.hid hb8
                                    have b0 := hb8.cell 0
                                    have b1 := hb8.cell 1
                                    have b2 := hb8.cell 2
                                    have g0 := hb8.frozen 0
                                    have g1 := hb8.frozen 1
                                    have g2 := hb8.frozen 2
                                    simp only [List.getElem?_toArray, List.getElem?_cons_zero, List.getElem?_cons_succ] at b0 b1 b2
                                    clear hb8 k8 h0
                                    dsimp only
                                    refine hK _ _ ?_; clear hK K
                                    refine wpAny_take (i := 9) (v := .tuple #[.agg #[.string ⟨#[]⟩, .slice none 0 0, .string ⟨#[]⟩], .string ⟨#[]⟩, .bool false]) rfl (by kernel_rfl) (by kernel_rfl) (by kernel_rfl) (fun _ _ _ h => h) (Or.inl ⟨by kernel_rfl, by intro w; kernel_rfl⟩) ?_
                                    refine wpAny_take (i := 10) (v := .agg #[.string ⟨#[]⟩, .slice none 0 0, .string ⟨#[]⟩]) rfl (by kernel_rfl) (by kernel_rfl) (by kernel_rfl) (fun _ _ _ h => h) (Or.inl ⟨by kernel_rfl, by intro w; kernel_rfl⟩) ?_
                                    refine wpAny_take (i := 11) (v := .string ⟨#[]⟩) rfl (by kernel_rfl) (by kernel_rfl) (by kernel_rfl) (fun _ _ _ h => h) (Or.inl ⟨by kernel_rfl, by intro w; kernel_rfl⟩) ?_
                                    refine wpAny_take (i := 12) (v := .bool false) rfl (by kernel_rfl) (by kernel_rfl) (by kernel_rfl) (fun _ _ _ h => h) (Or.inl ⟨by kernel_rfl, by intro w; kernel_rfl⟩) ?_
                                    refine wpAny_ready (rs := [14]) (by kernel_rfl) (by simp) ?_
                                    refine AllReady.cons rfl (fun K hK => ?_) ?_
                                    · go_simp
                                      refine hK _ _ ?_; clear hK K
                                      refine wpAny_take (i := 15) (v := .string ⟨#[]⟩) rfl (by kernel_rfl) (by kernel_rfl) (by kernel_rfl) (fun _ _ _ h => h) (Or.inl ⟨by kernel_rfl, by intro w; kernel_rfl⟩) ?_
                                      refine wpAny_take (i := 16) (v := .bool false) rfl (by kernel_rfl) (by kernel_rfl) (by kernel_rfl) (fun _ _ _ h => h) (Or.inl ⟨by kernel_rfl, by intro w; kernel_rfl⟩) ?_
                                      refine wpAny_done (by kernel_rfl) ?_ _
                                      have HS := Lib.hid (sb1 (a := .string ⟨#[]⟩) (b := .slice none 0 0) (c := .string ⟨#[]⟩) (Nat.le_refl _) HB8.out HK8.out)
                                      generalize wc.heap.size = PP at HS ⊢
                                      refine ⟨PP, ?_, HS.out⟩
                                      go_simp
                                      try rfl
                                    exact AllReady.nil
                                  exact AllReady.nil
                                exact AllReady.nil
                              refine AllReady.cons rfl (fun K hK => ?_) ?_
                              · go_simp
                                refine hK _ _ ?_; clear hK K
                                refine wpAny_ready (rs := [7]) (by kernel_rfl) (by simp) ?_
                                refine AllReady.cons rfl (fun K hK => ?_) ?_
                                · go_simp
                                  refine hK _ _ ?_; clear hK K
                                  refine wpAny_ready (rs := [8]) (by kernel_rfl) (by simp) ?_
                                  refine AllReady.cons rfl (fun K hK => ?_) ?_
                                  · go_simp
                                    go_wp2_with fail
                                    refine (HC20.out _ ((Kept.refl wc).drew.alloc _)).mono ?_
                                    rintro e w8 ⟨k8, ⟨h0, rfl⟩ | ⟨m', own', p', h0, rfl, hr⟩⟩
                                    rotate_left
                                    · rw [HN20.out] at h0; cases h0
                                    have HK8 := Lib.hid (((Kept.refl wc).drew.alloc (.cells #[.string ⟨#[]⟩, .slice none 0 0, .string ⟨#[]⟩] 26)).trans k8)
                                    have hb8 := (Blk.new wc.drew 26 #[.string ⟨#[]⟩, .slice none 0 0, .string ⟨#[]⟩]).kept k8
                                    rw [show wc.drew.heap.size = wc.heap.size from rfl] at hb8
                                    have HB8 := Lib.hid hb8
                                    have b0 := hb8.cell 0
                                    have b1 := hb8.cell 1
                                    have b2 := hb8.cell 2
                                    have g0 := hb8.frozen 0
                                    have g1 := hb8.frozen 1
                                    have g2 := hb8.frozen 2
                                    simp only [List.getElem?_toArray, List.getElem?_cons_zero, List.getElem?_cons_succ] at b0 b1 b2
                                    clear hb8 k8 h0
                                    dsimp only
                                    refine hK _ _ ?_; clear hK K
                                    refine wpAny_take (i := 9) (v := .tuple #[.agg #[.string ⟨#[]⟩, .slice none 0 0, .string ⟨#[]⟩], .string ⟨#[]⟩, .bool false]) rfl (by kernel_rfl) (by kernel_rfl) (by kernel_rfl) (fun _ _ _ h => h) (Or.inl ⟨by kernel_rfl, by intro w; kernel_rfl⟩) ?_
                                    refine wpAny_take (i := 10) (v := .agg #[.string ⟨#[]⟩, .slice none 0 0, .string ⟨#[]⟩]) rfl (by kernel_rfl) (by kernel_rfl) (by kernel_rfl) (fun _ _ _ h => h) (Or.inl ⟨by kernel_rfl, by intro w; kernel_rfl⟩) ?_
                                    refine wpAny_take (i := 11) (v := .string ⟨#[]⟩) rfl (by kernel_rfl) (by kernel_rfl) (by kernel_rfl) (fun _ _ _ h => h) (Or.inl ⟨by kernel_rfl, by intro w; kernel_rfl⟩) ?_
                                    refine wpAny_take (i := 12) (v := .bool false) rfl (by kernel_rfl) (by kernel_rfl) (by kernel_rfl) (fun _ _ _ h => h) (Or.inl ⟨by kernel_rfl, by intro w; kernel_rfl⟩) ?_
                                    refine wpAny_ready (rs := [14]) (by kernel_rfl) (by simp) ?_
                                    refine AllReady.cons rfl (fun K hK => ?_) ?_
                                    · go_simp
                                      refine hK _ _ ?_; clear hK K
                                      refine wpAny_take (i := 15) (v := .string ⟨#[]⟩) rfl (by kernel_rfl) (by kernel_rfl) (by kernel_rfl) (fun _ _ _ h => h) (Or.inl ⟨by kernel_rfl, by intro w; kernel_rfl⟩) ?_
                                      refine wpAny_take (i := 16) (v := .bool false) rfl (by kernel_rfl) (by kernel_rfl) (by kernel_rfl) (fun _ _ _ h => h) (Or.inl ⟨by kernel_rfl, by intro w; kernel_rfl⟩) ?_
                                      refine wpAny_done (by kernel_rfl) ?_ _
                                      have HS := Lib.hid (sb1 (a := .string ⟨#[]⟩) (b := .slice none 0 0) (c := .string ⟨#[]⟩) (Nat.le_refl _) HB8.out HK8.out)
                                      generalize wc.heap.size = PP at HS ⊢
                                      refine ⟨PP, ?_, HS.out⟩
                                      go_simp
                                      try rfl
                                    exact AllReady.nil
                                  exact AllReady.nil
                                exact AllReady.nil
                              exact AllReady.nil
                            refine AllReady.cons rfl (fun K hK => ?_) ?_
                            · go_simp
                              refine hK _ _ ?_; clear hK K
                              refine wpAny_ready (rs := [2, 13]) (by kernel_rfl) (by simp) ?_
                              refine AllReady.cons rfl (fun K hK => ?_) ?_
                              · go_simp
                                refine hK _ _ ?_; clear hK K
                                refine wpAny_ready (rs := [8, 13]) (by kernel_rfl) (by simp) ?_
                                refine AllReady.cons rfl (fun K hK => ?_) ?_
                                · go_simp
                                  go_wp2_with fail
                                  refine (HC20.out _ (Kept.refl wc).drew).mono ?_
                                  rintro e w8 ⟨k8, ⟨h0, rfl⟩ | ⟨m', own', p', h0, rfl, hr⟩⟩
                                  rotate_left
                                  · rw [HN20.out] at h0; cases h0
                                  have HK8 := Lib.hid ((Kept.refl wc).drew.trans k8)
                                  clear k8 h0
                                  dsimp only
                                  refine hK _ _ ?_; clear hK K
                                  refine wpAny_take (i := 9) (v := .tuple #[.agg #[.string ⟨#[]⟩, .slice none 0 0, .string ⟨#[]⟩], .string ⟨#[]⟩, .bool false]) rfl (by kernel_rfl) (by kernel_rfl) (by kernel_rfl) (fun _ _ _ h => h) (Or.inl ⟨by kernel_rfl, by intro w; kernel_rfl⟩) ?_
                                  refine wpAny_take (i := 10) (v := .agg #[.string ⟨#[]⟩, .slice none 0 0, .string ⟨#[]⟩]) rfl (by kernel_rfl) (by kernel_rfl) (by kernel_rfl) (fun _ _ _ h => h) (Or.inl ⟨by kernel_rfl, by intro w; kernel_rfl⟩) ?_
                                  refine wpAny_take (i := 11) (v := .string ⟨#[]⟩) rfl (by kernel_rfl) (by kernel_rfl) (by kernel_rfl) (fun _ _ _ h => h) (Or.inl ⟨by kernel_rfl, by intro w; kernel_rfl⟩) ?_
                                  refine wpAny_take (i := 12) (v := .bool false) rfl (by kernel_rfl) (by kernel_rfl) (by kernel_rfl) (fun _ _ _ h => h) (Or.inl ⟨by kernel_rfl, by intro w; kernel_rfl⟩) ?_
                                  refine wpAny_ready (rs := [13]) (by kernel_rfl) (by simp) ?_
                                  refine AllReady.cons rfl (fun K hK => ?_) ?_
                                  · go_simp
                                    refine hK _ _ ?_; clear hK K
                                    refine wpAny_ready (rs := [14]) (by kernel_rfl) (by simp) ?_
                                    refine AllReady.cons rfl (fun K hK => ?_) ?_
                                    · go_simp
                                      refine hK _ _ ?_; clear hK K
                                      refine wpAny_take (i := 15) (v := .string ⟨#[]⟩) rfl (by kernel_rfl) (by kernel_rfl) (by kernel_rfl) (fun _ _ _ h => h) (Or.inl ⟨by kernel_rfl, by intro w; kernel_rfl⟩) ?_
                                      refine wpAny_take (i := 16) (v := .bool false) rfl (by kernel_rfl) (by kernel_rfl) (by kernel_rfl) (fun _ _ _ h => h) (Or.inl ⟨by kernel_rfl, by intro w; kernel_rfl⟩) ?_
                                      refine wpAny_done (by kernel_rfl) ?_ _
                                      have HS := Lib.hid (sb2 (a := .string ⟨#[]⟩) (b := .slice none 0 0) (c := .string ⟨#[]⟩) HK8.out)
                                      generalize w8.heap.size = PP at HS ⊢
                                      refine ⟨PP, ?_, HS.out⟩
                                      go_simp
                                      try rfl
                                    exact AllReady.nil
                                  exact AllReady.nil
                                refine AllReady.cons rfl (fun K hK => ?_) ?_
                                · go_simp
                                  refine hK _ _ ?_; clear hK K
                                  refine wpAny_ready (rs := [8]) (by kernel_rfl) (by simp) ?_
                                  refine AllReady.cons rfl (fun K hK => ?_) ?_
                                  · go_simp
                                    go_wp2_with fail
                                    refine (HC20.out _ ((Kept.refl wc).drew.alloc _)).mono ?_
                                    rintro e w8 ⟨k8, ⟨h0, rfl⟩ | ⟨m', own', p', h0, rfl, hr⟩⟩
                                    rotate_left
                                    · rw [HN20.out] at h0; cases h0
                                    have HK8 := Lib.hid (((Kept.refl wc).drew.alloc (.cells #[.string ⟨#[]⟩, .slice none 0 0, .string ⟨#[]⟩] 26)).trans k8)
                                    have hb8 := (Blk.new wc.drew 26 #[.string ⟨#[]⟩, .slice none 0 0, .string ⟨#[]⟩]).kept k8
                                    rw [show wc.drew.heap.size = wc.heap.size from rfl] at hb8
                                    have HB8 := Lib.hid hb8
                                    have b0 := hb8.cell 0
                                    have b1 := hb8.cell 1
                                    have b2 := hb8.cell 2
                                    have g0 := hb8.frozen 0
                                    have g1 := hb8.frozen 1
                                    have g2 := hb8.frozen 2
                                    simp only [List.getElem?_toArray, List.getElem?_cons_zero, List.getElem?_cons_succ] at b0 b1 b2
                                    clear hb8 k8 h0
                                    dsimp only
                                    refine hK _ _ ?_; clear hK K
                                    refine wpAny_take (i := 9) (v := .tuple #[.agg #[.string ⟨#[]⟩, .slice none 0 0, .string ⟨#[]⟩], .string ⟨#[]⟩, .bool false]) rfl (by kernel_rfl) (by kernel_rfl) (by kernel_rfl) (fun _ _ _ h => h) (Or.inl ⟨by kernel_rfl, by intro w; kernel_rfl⟩) ?_
                                    refine wpAny_take (i := 10) (v := .agg #[.string ⟨#[]⟩, .slice none 0 0, .string ⟨#[]⟩]) rfl (by kernel_rfl) (by kernel_rfl) (by kernel_rfl) (fun _ _ _ h => h) (Or.inl ⟨by kernel_rfl, by intro w; kernel_rfl⟩) ?_
                                    refine wpAny_take (i := 11) (v := .string ⟨#[]⟩) rfl (by kernel_rfl) (by kernel_rfl) (by kernel_rfl) (fun _ _ _ h => h) (Or.inl ⟨by kernel_rfl, by intro w; kernel_rfl⟩) ?_
                                    refine wpAny_take (i := 12) (v := .bool false) rfl (by kernel_rfl) (by kernel_rfl) (by kernel_rfl) (fun _ _ _ h => h) (Or.inl ⟨by kernel_rfl, by intro w; kernel_rfl⟩) ?_
                                    refine wpAny_ready (rs := [14]) (by kernel_rfl) (by simp) ?_
                                    refine AllReady.cons rfl (fun K hK => ?_) ?_
                                    · go_simp
                                      refine hK _ _ ?_; clear hK K
                                      refine wpAny_take (i := 15) (v := .string ⟨#[]⟩) rfl (by kernel_rfl) (by kernel_rfl) (by kernel_rfl) (fun _ _ _ h => h) (Or.inl ⟨by kernel_rfl, by intro w; kernel_rfl⟩) ?_
                                      refine wpAny_take (i := 16) (v := .bool false) rfl (by kernel_rfl) (by kernel_rfl) (by kernel_rfl) (fun _ _ _ h => h) (Or.inl ⟨by kernel_rfl, by intro w; kernel_rfl⟩) ?_
                                      refine wpAny_done (by kernel_rfl) ?_ _
                                      have HS := Lib.hid (sb1 (a := .string ⟨#[]⟩) (b := .slice none 0 0) (c := .string ⟨#[]⟩) (Nat.le_refl _) HB8.out HK8.out)
                                      generalize wc.heap.size = PP at HS ⊢
                                      refine ⟨PP, ?_, HS.out⟩
                                      go_simp
                                      try rfl
                                    exact AllReady.nil
                                  exact AllReady.nil
                                exact AllReady.nil
                              refine AllReady.cons rfl (fun K hK => ?_) ?_
                              · go_simp
                                refine hK _ _ ?_; clear hK K
                                refine wpAny_ready (rs := [2]) (by kernel_rfl) (by simp) ?_
                                refine AllReady.cons rfl (fun K hK => ?_) ?_
                                · go_simp
                                  refine hK _ _ ?_; clear hK K
                                  refine wpAny_ready (rs := [8]) (by kernel_rfl) (by simp) ?_
                                  refine AllReady.cons rfl (fun K hK => ?_) ?_
                                  · go_simp
                                    go_wp2_with fail
                                    refine (HC20.out _ ((Kept.refl wc).drew.alloc _)).mono ?_
                                    rintro e w8 ⟨k8, ⟨h0, rfl⟩ | ⟨m', own', p', h0, rfl, hr⟩⟩
                                    rotate_left
                                    · rw [HN20.out] at h0; cases h0
                                    have HK8 := Lib.hid (((Kept.refl wc).drew.alloc (.cells #[.string ⟨#[]⟩, .slice none 0 0, .string ⟨#[]⟩] 26)).trans k8)
                                    have hb8 := (Blk.new wc.drew 26 #[.string ⟨#[]⟩, .slice none 0 0, .string ⟨#[]⟩]).kept k8
                                    rw [show wc.drew.heap.size = wc.heap.size from rfl] at hb8
                                    have HB8 := Lib.hid hb8
                                    have b0 := hb8.cell 0
                                    have b1 := hb8.cell 1
                                    have b2 := hb8.cell 2
                                    have g0 := hb8.frozen 0
                                    have g1 := hb8.frozen 1
                                    have g2 := hb8.frozen 2
                                    simp only [List.getElem?_toArray, List.getElem?_cons_zero, List.getElem?_cons_succ] at b0 b1 b2
                                    clear hb8 k8 h0
                                    dsimp only
                                    refine hK _ _ ?_; clear hK K
                                    refine wpAny_take (i := 9) (v := .tuple #[.agg #[.string ⟨#[]⟩, .slice none 0 0, .string ⟨#[]⟩], .string ⟨#[]⟩, .bool false]) rfl (by kernel_rfl) (by kernel_rfl) (by kernel_rfl) (fun _ _ _ h => h) (Or.inl ⟨by kernel_rfl, by intro w; kernel_rfl⟩) ?_
                                    refine wpAny_take (i := 10) (v := .agg #[.string ⟨#[]⟩, .slice none 0 0, .string ⟨#[]⟩]) rfl (by kernel_rfl) (by kernel_rfl) (by kernel_rfl) (fun _ _ _ h => h) (Or.inl ⟨by kernel_rfl, by intro w; kernel_rfl⟩) ?_
                                    refine wpAny_take (i := 11) (v := .string ⟨#[]⟩) rfl (by kernel_rfl) (by kernel_rfl) (by kernel_rfl) (fun _ _ _ h => h) (Or.inl ⟨by kernel_rfl, by intro w; kernel_rfl⟩) ?_
                                    refine wpAny_take (i := 12) (v := .bool false) rfl (by kernel_rfl) (by kernel_rfl) (by kernel_rfl) (fun _ _ _ h => h) (Or.inl ⟨by kernel_rfl, by intro w; kernel_rfl⟩) ?_
                                    refine wpAny_ready (rs := [14]) (by kernel_rfl) (by simp) ?_
                                    refine AllReady.cons rfl (fun K hK => ?_) ?_
                                    · go_simp
                                      refine hK _ _ ?_; clear hK K
                                      refine wpAny_take (i := 15) (v := .string ⟨#[]⟩) rfl (by kernel_rfl) (by kernel_rfl) (by kernel_rfl) (fun _ _ _ h => h) (Or.inl ⟨by kernel_rfl, by intro w; kernel_rfl⟩) ?_
                                      refine wpAny_take (i := 16) (v := .bool false) rfl (by kernel_rfl) (by kernel_rfl) (by kernel_rfl) (fun _ _ _ h => h) (Or.inl ⟨by kernel_rfl, by intro w; kernel_rfl⟩) ?_
                                      refine wpAny_done (by kernel_rfl) ?_ _
                                      have HS := Lib.hid (sb1 (a := .string ⟨#[]⟩) (b := .slice none 0 0) (c := .string ⟨#[]⟩) (Nat.le_refl _) HB8.out HK8.out)
                                      generalize wc.heap.size = PP at HS ⊢
                                      refine ⟨PP, ?_, HS.out⟩
                                      go_simp
                                      try rfl
                                    exact AllReady.nil
                                  exact AllReady.nil
                                exact AllReady.nil
                              exact AllReady.nil
                            refine AllReady.cons rfl (fun K hK => ?_) ?_
                            · go_simp
                              refine hK _ _ ?_; clear hK K
                              refine wpAny_ready (rs := [2, 7]) (by kernel_rfl) (by simp) ?_
                              refine AllReady.cons rfl (fun K hK => ?_) ?_
                              · go_simp
                                refine hK _ _ ?_; clear hK K
                                refine wpAny_ready (rs := [7]) (by kernel_rfl) (by simp) ?_
                                refine AllReady.cons rfl (fun K hK => ?_) ?_
                                · go_simp
                                  refine hK _ _ ?_; clear hK K
                                  refine wpAny_ready (rs := [8]) (by kernel_rfl) (by simp) ?_
                                  refine AllReady.cons rfl (fun K hK => ?_) ?_
                                  · go_simp
                                    go_wp2_with fail
                                    refine (HC20.out _ ((Kept.refl wc).drew.alloc _)).mono ?_
                                    rintro e w8 ⟨k8, ⟨h0, rfl⟩ | ⟨m', own', p', h0, rfl, hr⟩⟩
                                    rotate_left
                                    · rw [HN20.out] at h0; cases h0
                                    have HK8 := Lib.hid (((Kept.refl wc).drew.alloc (.cells #[.string ⟨#[]⟩, .slice none 0 0, .string ⟨#[]⟩] 26)).trans k8)
                                    have hb8 := (Blk.new wc.drew 26 #[.string ⟨#[]⟩, .slice none 0 0, .string ⟨#[]⟩]).kept k8
                                    rw [show wc.drew.heap.size = wc.heap.size from rfl] at hb8
                                    have HB8 := Lib.hid hb8
                                    have b0 := hb8.cell 0
                                    have b1 := hb8.cell 1
                                    have b2 := hb8.cell 2
                                    have g0 := hb8.frozen 0
                                    have g1 := hb8.frozen 1
                                    have g2 := hb8.frozen 2
                                    simp only [List.getElem?_toArray, List.getElem?_cons_zero, List.getElem?_cons_succ] at b0 b1 b2
                                    clear hb8 k8 h0
                                    dsimp only
                                    refine hK _ _ ?_; clear hK K
                                    refine wpAny_take (i := 9) (v := .tuple #[.agg #[.string ⟨#[]⟩, .slice none 0 0, .string ⟨#[]⟩], .string ⟨#[]⟩, .bool false]) rfl (by kernel_rfl) (by kernel_rfl) (by kernel_rfl) (fun _ _ _ h => h) (Or.inl ⟨by kernel_rfl, by intro w; kernel_rfl⟩) ?_
                                    refine wpAny_take (i := 10) (v := .agg #[.string ⟨#[]⟩, .slice none 0 0, .string ⟨#[]⟩]) rfl (by kernel_rfl) (by kernel_rfl) (by kernel_rfl) (fun _ _ _ h => h) (Or.inl ⟨by kernel_rfl, by intro w; kernel_rfl⟩) ?_
                                    refine wpAny_take (i := 11) (v := .string ⟨#[]⟩) rfl (by kernel_rfl) (by kernel_rfl) (by kernel_rfl) (fun _ _ _ h => h) (Or.inl ⟨by kernel_rfl, by intro w; kernel_rfl⟩) ?_
                                    refine wpAny_take (i := 12) (v := .bool false) rfl (by kernel_rfl) (by kernel_rfl) (by kernel_rfl) (fun _ _ _ h => h) (Or.inl ⟨by kernel_rfl, by intro w; kernel_rfl⟩) ?_
                                    refine wpAny_ready (rs := [14]) (by kernel_rfl) (by simp) ?_
                                    refine AllReady.cons rfl (fun K hK => ?_) ?_
                                    · go_simp
                                      refine hK _ _ ?_; clear hK K
                                      refine wpAny_take (i := 15) (v := .string ⟨#[]⟩) rfl (by kernel_rfl) (by kernel_rfl) (by kernel_rfl) (fun _ _ _ h => h) (Or.inl ⟨by kernel_rfl, by intro w; kernel_rfl⟩) ?_
                                      refine wpAny_take (i := 16) (v := .bool false) rfl (by kernel_rfl) (by kernel_rfl) (by kernel_rfl) (fun _ _ _ h => h) (Or.inl ⟨by kernel_rfl, by intro w; kernel_rfl⟩) ?_
                                      refine wpAny_done (by kernel_rfl) ?_ _
                                      have HS := Lib.hid (sb1 (a := .string ⟨#[]⟩) (b := .slice none 0 0) (c := .string ⟨#[]⟩) (Nat.le_refl _) HB8.out HK8.out)
                                      generalize wc.heap.size = PP at HS ⊢
                                      refine ⟨PP, ?_, HS.out⟩
                                      go_simp
                                      try rfl
                                    exact AllReady.nil
                                  exact AllReady.nil
                                exact AllReady.nil
                              refine AllReady.cons rfl (fun K hK => ?_) ?_
                              · go_simp
                                refine hK _ _ ?_; clear hK K
                                refine wpAny_ready (rs := [2]) (by kernel_rfl) (by simp) ?_
                                refine AllReady.cons rfl (fun K hK => ?_) ?_
                                · go_simp
                                  refine hK _ _ ?_; clear hK K
                                  refine wpAny_ready (rs := [8]) (by kernel_rfl) (by simp) ?_
                                  refine AllReady.cons rfl (fun K hK => ?_) ?_
                                  · go_simp
                                    go_wp2_with fail
                                    refine (HC20.out _ ((Kept.refl wc).drew.alloc _)).mono ?_
                                    rintro e w8 ⟨k8, ⟨h0, rfl⟩ | ⟨m', own', p', h0, rfl, hr⟩⟩
                                    rotate_left
                                    · rw [HN20.out] at h0; cases h0
                                    have HK8 := Lib.hid (((Kept.refl wc).drew.alloc (.cells #[.string ⟨#[]⟩, .slice none 0 0, .string ⟨#[]⟩] 26)).trans k8)
                                    have hb8 := (Blk.new wc.drew 26 #[.string ⟨#[]⟩, .slice none 0 0, .string ⟨#[]⟩]).kept k8
                                    rw [show wc.drew.heap.size = wc.heap.size from rfl] at hb8
                                    have HB8 := Lib.hid hb8
                                    have b0 := hb8.cell 0
                                    have b1 := hb8.cell 1
                                    have b2 := hb8.cell 2
                                    have g0 := hb8.frozen 0
                                    have g1 := hb8.frozen 1
                                    have g2 := hb8.frozen 2
                                    simp only [List.getElem?_toArray, List.getElem?_cons_zero, List.getElem?_cons_succ] at b0 b1 b2
                                    clear hb8 k8 h0
                                    dsimp only
                                    refine hK _ _ ?_; clear hK K
                                    refine wpAny_take (i := 9) (v := .tuple #[.agg #[.string ⟨#[]⟩, .slice none 0 0, .string ⟨#[]⟩], .string ⟨#[]⟩, .bool false]) rfl (by kernel_rfl) (by kernel_rfl) (by kernel_rfl) (fun _ _ _ h => h) (Or.inl ⟨by kernel_rfl, by intro w; kernel_rfl⟩) ?_
                                    refine wpAny_take (i := 10) (v := .agg #[.string ⟨#[]⟩, .slice none 0 0, .string ⟨#[]⟩]) rfl (by kernel_rfl) (by kernel_rfl) (by kernel_rfl) (fun _ _ _ h => h) (Or.inl ⟨by kernel_rfl, by intro w; kernel_rfl⟩) ?_
                                    refine wpAny_take (i := 11) (v := .string ⟨#[]⟩) rfl (by kernel_rfl) (by kernel_rfl) (by kernel_rfl) (fun _ _ _ h => h) (Or.inl ⟨by kernel_rfl, by intro w; kernel_rfl⟩) ?_
                                    refine wpAny_take (i := 12) (v := .bool false) rfl (by kernel_rfl) (by kernel_rfl) (by kernel_rfl) (fun _ _ _ h => h) (Or.inl ⟨by kernel_rfl, by intro w; kernel_rfl⟩) ?_
                                    refine wpAny_ready (rs := [14]) (by kernel_rfl) (by simp) ?_
                                    refine AllReady.cons rfl (fun K hK => ?_) ?_
                                    · go_simp
                                      refine hK _ _ ?_; clear hK K
                                      refine wpAny_take (i := 15) (v := .string ⟨#[]⟩) rfl (by kernel_rfl) (by kernel_rfl) (by kernel_rfl) (fun _ _ _ h => h) (Or.inl ⟨by kernel_rfl, by intro w; kernel_rfl⟩) ?_
                                      refine wpAny_take (i := 16) (v := .bool false) rfl (by kernel_rfl) (by kernel_rfl) (by kernel_rfl) (fun _ _ _ h => h) (Or.inl ⟨by kernel_rfl, by intro w; kernel_rfl⟩) ?_
                                      refine wpAny_done (by kernel_rfl) ?_ _
                                      have HS := Lib.hid (sb1 (a := .string ⟨#[]⟩) (b := .slice none 0 0) (c := .string ⟨#[]⟩) (Nat.le_refl _) HB8.out HK8.out)
                                      generalize wc.heap.size = PP at HS ⊢
                                      refine ⟨PP, ?_, HS.out⟩
                                      go_simp
                                      try rfl
                                    exact AllReady.nil
                                  exact AllReady.nil
                                exact AllReady.nil
                              exact AllReady.nil
                            exact AllReady.nil
                          case hk =>
                            intro P20 wd hb
                            have HBX20 := Lib.hid hb.1
                            have HKs20 := Lib.hid hb.2
                            have HKr20 := Lib.hid (HKr19.out.trans hb.2)
                            clear hb z20 y20 z20a y20a HC20
                            go_wp2_with fail
                            have z21 := (HB9.out.kept HKr20.out).cell 1
                            have z21a := (HB9.out.kept (HKr20.out.alloc (.cells #[.string ⟨#[]⟩, .slice none 0 0, .string ⟨#[]⟩] 26))).cell 1
                            simp only [List.getElem?_toArray, List.getElem?_cons_zero, List.getElem?_cons_succ] at z21 z21a
                            have y21 := HKr20.out.cell HMM.out.1
                            have y21a := (HKr20.out.alloc (.cells #[.string ⟨#[]⟩, .slice none 0 0, .string ⟨#[]⟩] 26)).cell HMM.out.1
                            have HC21 := Lib.hid (fun (w' : World) (kk : Kept wd w') => method_c (some ⟨b, o, none⟩) cp t sp y.1 w' (tab_kept HT9.out (HKr20.out.trans kk)) (abv_small HSH.out))
                            apply abv_cutp (fun P w' => SigBox wd w' P (.string ⟨#[]⟩) (.slice none 0 0) (.string ⟨#[]⟩))
                            case h =>
                              refine wp_region_any (by kernel_rfl) ?_
                              change wpAny _ _ _ _ _ _ _ (World.drew _)
                              refine wpAny_take (i := 0) (v := .slice (some ⟨b, o, none⟩) t.length cp) rfl (by kernel_rfl) (by kernel_rfl) (by kernel_rfl) (fun _ _ _ h => h) (Or.inl ⟨by kernel_rfl, by intro w; kernel_rfl⟩) ?_
                              refine wpAny_take (i := 1) (v := .pointer (some ⟨cb, 1, none⟩)) rfl (by kernel_rfl) (by kernel_rfl) (by kernel_rfl) (fun _ _ _ h => h) (Or.inl ⟨by kernel_rfl, by intro w; kernel_rfl⟩) ?_
                              refine wpAny_take (i := 3) (v := .slice (some ⟨mb, mo, none⟩) l.length mc9) rfl (by kernel_rfl) (by kernel_rfl) (by kernel_rfl) (fun _ _ _ h => h) (Or.inl ⟨by kernel_rfl, by intro w; kernel_rfl⟩) ?_
                              refine wpAny_take (i := 4) (v := .int .i64 (k : Int)) rfl (by kernel_rfl) (by kernel_rfl) (by kernel_rfl) (fun _ _ _ h => h) (Or.inl ⟨by kernel_rfl, by intro w; kernel_rfl⟩) ?_
                              refine wpAny_take (i := 5) (v := .pointer (some ⟨mb, mo + k * 2, none⟩)) rfl (by kernel_rfl) (by kernel_rfl) (by kernel_rfl) (fun _ _ _ h => h) (Or.inl ⟨by kernel_rfl, by intro w; go_simp; try with_reducible rfl⟩) ?_
                              refine wpAny_take (i := 6) (v := .pointer (some ⟨mb, mo + k * 2, none⟩)) rfl (by kernel_rfl) (by kernel_rfl) (by kernel_rfl) (fun _ _ _ h => h) (Or.inl ⟨by kernel_rfl, by intro w; kernel_rfl⟩) ?_
                              refine wpAny_ready (rs := [2, 7, 13]) (by kernel_rfl) (by simp) ?_
                              refine AllReady.cons rfl (fun K hK => ?_) ?_
                              · go_simp
                                refine hK _ _ ?_; clear hK K
                                refine wpAny_ready (rs := [7, 13]) (by kernel_rfl) (by simp) ?_
                                refine AllReady.cons rfl (fun K hK => ?_) ?_
                                · go_simp
                                  refine hK _ _ ?_; clear hK K
                                  refine wpAny_ready (rs := [8, 13]) (by kernel_rfl) (by simp) ?_
                                  refine AllReady.cons rfl (fun K hK => ?_) ?_
                                  · go_simp
                                    go_wp2_with fail
                                    refine (HC21.out _ (Kept.refl wd).drew).mono ?_
                                    rintro e w8 ⟨k8, ⟨h0, rfl⟩ | ⟨m', own', p', h0, rfl, hr⟩⟩
                                    rotate_left
                                    · rw [HN21.out] at h0; cases h0
                                    have HK8 := Lib.hid ((Kept.refl wd).drew.trans k8)
                                    clear k8 h0
                                    dsimp only
                                    refine hK _ _ ?_; clear hK K
                                    refine wpAny_take (i := 9) (v := .tuple #[.agg #[.string ⟨#[]⟩, .slice none 0 0, .string ⟨#[]⟩], .string ⟨#[]⟩, .bool false]) rfl (by kernel_rfl) (by kernel_rfl) (by kernel_rfl) (fun _ _ _ h => h) (Or.inl ⟨by kernel_rfl, by intro w; kernel_rfl⟩) ?_
                                    refine wpAny_take (i := 10) (v := .agg #[.string ⟨#[]⟩, .slice none 0 0, .string ⟨#[]⟩]) rfl (by kernel_rfl) (by kernel_rfl) (by kernel_rfl) (fun _ _ _ h => h) (Or.inl ⟨by kernel_rfl, by intro w; kernel_rfl⟩) ?_
                                    refine wpAny_take (i := 11) (v := .string ⟨#[]⟩) rfl (by kernel_rfl) (by kernel_rfl) (by kernel_rfl) (fun _ _ _ h => h) (Or.inl ⟨by kernel_rfl, by intro w; kernel_rfl⟩) ?_
                                    refine wpAny_take (i := 12) (v := .bool false) rfl (by kernel_rfl) (by kernel_rfl) (by kernel_rfl) (fun _ _ _ h => h) (Or.inl ⟨by kernel_rfl, by intro w; kernel_rfl⟩) ?_
                                    refine wpAny_ready (rs := [13]) (by kernel_rfl) (by simp) ?_
                                    refine AllReady.cons rfl (fun K hK => ?_) ?_
                                    · go_simp
                                      refine hK _ _ ?_; clear hK K
                                      refine wpAny_ready (rs := [14]) (by kernel_rfl) (by simp) ?_
                                      refine AllReady.cons rfl (fun K hK => ?_) ?_
                                      · go_simp
                                        refine hK _ _ ?_; clear hK K
                                        refine wpAny_take (i := 15) (v := .string ⟨#[]⟩) rfl (by kernel_rfl) (by kernel_rfl) (by kernel_rfl) (fun _ _ _ h => h) (Or.inl ⟨by kernel_rfl, by intro w; kernel_rfl⟩) ?_
                                        refine wpAny_take (i := 16) (v := .bool false) rfl (by kernel_rfl) (by kernel_rfl) (by kernel_rfl) (fun _ _ _ h => h) (Or.inl ⟨by kernel_rfl, by intro w; kernel_rfl⟩) ?_
                                        refine wpAny_done (by kernel_rfl) ?_ _
                                        have HS := Lib.hid (sb2 (a := .string ⟨#[]⟩) (b := .slice none 0 0) (c := .string ⟨#[]⟩) HK8.out)
                                        generalize w8.heap.size = PP at HS ⊢
                                        refine ⟨PP, ?_, HS.out⟩
                                        go_simp
                                        try rfl
                                      exact AllReady.nil
                                    exact AllReady.nil
                                  refine AllReady.cons rfl (fun K hK => ?_) ?_
                                  · go_simp
                                    refine hK _ _ ?_; clear hK K
                                    refine wpAny_ready (rs := [8]) (by kernel_rfl) (by simp) ?_
                                    refine AllReady.cons rfl (fun K hK => ?_) ?_
                                    · go_simp
                                      go_wp2_with fail
                                      refine (HC21.out _ ((Kept.refl wd).drew.alloc _)).mono ?_
                                      rintro e w8 ⟨k8, ⟨h0, rfl⟩ | ⟨m', own', p', h0, rfl, hr⟩⟩
                                      rotate_left
                                      · rw [HN21.out] at h0; cases h0
                                      have HK8 := Lib.hid (((Kept.refl wd).drew.alloc (.cells #[.string ⟨#[]⟩, .slice none 0 0, .string ⟨#[]⟩] 26)).trans k8)
                                      have hb8 := (Blk.new wd.drew 26 #[.string ⟨#[]⟩, .slice none 0 0, .string ⟨#[]⟩]).kept k8
                                      rw [show wd.drew.heap.size = wd.heap.size from rfl] at hb8
                                      have HB8 := Lib.hid hb8
                                      have b0 := hb8.cell 0
                                      have b1 := hb8.cell 1
                                      have b2 := hb8.cell 2
                                      have g0 := hb8.frozen 0
                                      have g1 := hb8.frozen 1
                                      have g2 := hb8.frozen 2
                                      simp only [List.getElem?_toArray, List.getElem?_cons_zero, List.getElem?_cons_succ] at b0 b1 b2
                                      clear hb8 k8 h0
                                      dsimp only
                                      refine hK _ _ ?_; clear hK K
                                      refine wpAny_take (i := 9) (v := .tuple #[.agg #[.string ⟨#[]⟩, .slice none 0 0, .string ⟨#[]⟩], .string ⟨#[]⟩, .bool false]) rfl (by kernel_rfl) (by kernel_rfl) (by kernel_rfl) (fun _ _ _ h => h) (Or.inl ⟨by kernel_rfl, by intro w; kernel_rfl⟩) ?_
                                      refine wpAny_take (i := 10) (v := .agg #[.string ⟨#[]⟩, .slice none 0 0, .string ⟨#[]⟩]) rfl (by kernel_rfl) (by kernel_rfl) (by kernel_rfl) (fun _ _ _ h => h) (Or.inl ⟨by kernel_rfl, by intro w; kernel_rfl⟩) ?_
                                      refine wpAny_take (i := 11) (v := .string ⟨#[]⟩) rfl (by kernel_rfl) (by kernel_rfl) (by kernel_rfl) (fun _ _ _ h => h) (Or.inl ⟨by kernel_rfl, by intro w; kernel_rfl⟩) ?_
                                      refine wpAny_take (i := 12) (v := .bool false) rfl (by kernel_rfl) (by kernel_rfl) (by kernel_rfl) (fun _ _ _ h => h) (Or.inl ⟨by kernel_rfl, by intro w; kernel_rfl⟩) ?_
                                      refine wpAny_ready (rs := [14]) (by kernel_rfl) (by simp) ?_
                                      refine AllReady.cons rfl (fun K hK => ?_) ?_
                                      · go_simp
                                        refine hK _ _ ?_; clear hK K
                                        refine wpAny_take (i := 15) (v := .string ⟨#[]⟩) rfl (by kernel_rfl) (by kernel_rfl) (by kernel_rfl) (fun _ _ _ h => h) (Or.inl ⟨by kernel_rfl, by intro w; kernel_rfl⟩) ?_
                                        refine wpAny_take (i := 16) (v := .bool false) rfl (by kernel_rfl) (by kernel_rfl) (by kernel_rfl) (fun _ _ _ h => h) (Or.inl ⟨by kernel_rfl, by intro w; kernel_rfl⟩) ?_
                                        refine wpAny_done (by kernel_rfl) ?_ _
                                        have HS := Lib.hid (sb1 (a := .string ⟨#[]⟩) (b := .slice none 0 0) (c := .string ⟨#[]⟩) (Nat.le_refl _) HB8.out HK8.out)
                                        generalize wd.heap.size = PP at HS ⊢
                                        refine ⟨PP, ?_, HS.out⟩
                                        go_simp
                                        try rfl
                                      exact AllReady.nil
                                    exact AllReady.nil
                                  exact AllReady.nil
                                refine AllReady.cons rfl (fun K hK => ?_) ?_
                                · go_simp
                                  refine hK _ _ ?_; clear hK K
                                  refine wpAny_ready (rs := [7]) (by kernel_rfl) (by simp) ?_
                                  refine AllReady.cons rfl (fun K hK => ?_) ?_
                                  · go_simp
                                    refine hK _ _ ?_; clear hK K
                                    refine wpAny_ready (rs := [8]) (by kernel_rfl) (by simp) ?_
                                    refine AllReady.cons rfl (fun K hK => ?_) ?_
                                    · go_simp
                                      go_wp2_with fail
                                      refine (HC21.out _ ((Kept.refl wd).drew.alloc _)).mono ?_
                                      rintro e w8 ⟨k8, ⟨h0, rfl⟩ | ⟨m', own', p', h0, rfl, hr⟩⟩
                                      rotate_left
                                      · rw [HN21.out] at h0; cases h0
                                      have HK8 := Lib.hid (((Kept.refl wd).drew.alloc (.cells #[.string ⟨#[]⟩, .slice none 0 0, .string ⟨#[]⟩] 26)).trans k8)
                                      have hb8 := (Blk.new wd.drew 26 #[.string ⟨#[]⟩, .slice none 0 0, .string ⟨#[]⟩]).kept k8
                                      rw [show wd.drew.heap.size = wd.heap.size from rfl] at hb8
                                      have HB8 := Lib.hid hb8
                                      have b0 := hb8.cell 0
                                      have b1 := hb8.cell 1
                                      have b2 := hb8.cell 2
                                      have g0 := hb8.frozen 0
                                      have g1 := hb8.frozen 1
                                      have g2 := hb8.frozen 2
                                      simp only [List.getElem?_toArray, List.getElem?_cons_zero, List.getElem?_cons_succ] at b0 b1 b2
                                      clear hb8 k8 h0
                                      dsimp only
                                      refine hK _ _ ?_; clear hK K
                                      refine wpAny_take (i := 9) (v := .tuple #[.agg #[.string ⟨#[]⟩, .slice none 0 0, .string ⟨#[]⟩], .string ⟨#[]⟩, .bool false]) rfl (by kernel_rfl) (by kernel_rfl) (by kernel_rfl) (fun _ _ _ h => h) (Or.inl ⟨by kernel_rfl, by intro w; kernel_rfl⟩) ?_
                                      refine wpAny_take (i := 10) (v := .agg #[.string ⟨#[]⟩, .slice none 0 0, .string ⟨#[]⟩]) rfl (by kernel_rfl) (by kernel_rfl) (by kernel_rfl) (fun _ _ _ h => h) (Or.inl ⟨by kernel_rfl, by intro w; kernel_rfl⟩) ?_
                                      refine wpAny_take (i := 11) (v := .string ⟨#[]⟩) rfl (by kernel_rfl) (by kernel_rfl) (by kernel_rfl) (fun _ _ _ h => h) (Or.inl ⟨by kernel_rfl, by intro w; kernel_rfl⟩) ?_
                                      refine wpAny_take (i := 12) (v := .bool false) rfl (by kernel_rfl) (by kernel_rfl) (by kernel_rfl) (fun _ _ _ h => h) (Or.inl ⟨by kernel_rfl, by intro w; kernel_rfl⟩) ?_
                                      refine wpAny_ready (rs := [14]) (by kernel_rfl) (by simp) ?_
                                      refine AllReady.cons rfl (fun K hK => ?_) ?_
                                      · go_simp
                                        refine hK _ _ ?_; clear hK K
                                        refine wpAny_take (i := 15) (v := .string ⟨#[]⟩) rfl (by kernel_rfl) (by kernel_rfl) (by kernel_rfl) (fun _ _ _ h => h) (Or.inl ⟨by kernel_rfl, by intro w; kernel_rfl⟩) ?_
                                        refine wpAny_take (i := 16) (v := .bool false) rfl (by kernel_rfl) (by kernel_rfl) (by kernel_rfl) (fun _ _ _ h => h) (Or.inl ⟨by kernel_rfl, by intro w; kernel_rfl⟩) ?_
                                        refine wpAny_done (by kernel_rfl) ?_ _
                                        have HS := Lib.hid (sb1 (a := .string ⟨#[]⟩) (b := .slice none 0 0) (c := .string ⟨#[]⟩) (Nat.le_refl _) HB8.out HK8.out)
                                        generalize wd.heap.size = PP at HS ⊢
                                        refine ⟨PP, ?_, HS.out⟩
                                        go_simp
                                        try rfl
                                      exact AllReady.nil
                                    exact AllReady.nil
                                  exact AllReady.nil
                                exact AllReady.nil
                              refine AllReady.cons rfl (fun K hK => ?_) ?_
                              · go_simp
                                refine hK _ _ ?_; clear hK K
                                refine wpAny_ready (rs := [2, 13]) (by kernel_rfl) (by simp) ?_
                                refine AllReady.cons rfl (fun K hK => ?_) ?_
                                · go_simp
                                  refine hK _ _ ?_; clear hK K
                                  refine wpAny_ready (rs := [8, 13]) (by kernel_rfl) (by simp) ?_
                                  refine AllReady.cons rfl (fun K hK => ?_) ?_
                                  · go_simp
                                    go_wp2_with fail
                                    refine (HC21.out _ (Kept.refl wd).drew).mono ?_
                                    rintro e w8 ⟨k8, ⟨h0, rfl⟩ | ⟨m', own', p', h0, rfl, hr⟩⟩
                                    rotate_left
                                    · rw [HN21.out] at h0; cases h0
                                    have HK8 := Lib.hid ((Kept.refl wd).drew.trans k8)
                                    clear k8 h0
                                    dsimp only
                                    refine hK _ _ ?_; clear hK K
                                    refine wpAny_take (i := 9) (v := .tuple #[.agg #[.string ⟨#[]⟩, .slice none 0 0, .string ⟨#[]⟩], .string ⟨#[]⟩, .bool false]) rfl (by kernel_rfl) (by kernel_rfl) (by kernel_rfl) (fun _ _ _ h => h) (Or.inl ⟨by kernel_rfl, by intro w; kernel_rfl⟩) ?_
                                    refine wpAny_take (i := 10) (v := .agg #[.string ⟨#[]⟩, .slice none 0 0, .string ⟨#[]⟩]) rfl (by kernel_rfl) (by kernel_rfl) (by kernel_rfl) (fun _ _ _ h => h) (Or.inl ⟨by kernel_rfl, by intro w; kernel_rfl⟩) ?_
                                    refine wpAny_take (i := 11) (v := .string ⟨#[]⟩) rfl (by kernel_rfl) (by kernel_rfl) (by kernel_rfl) (fun _ _ _ h => h) (Or.inl ⟨by kernel_rfl, by intro w; kernel_rfl⟩) ?_
                                    refine wpAny_take (i := 12) (v := .bool false) rfl (by kernel_rfl) (by kernel_rfl) (by kernel_rfl) (fun _ _ _ h => h) (Or.inl ⟨by kernel_rfl, by intro w; kernel_rfl⟩) ?_
                                    refine wpAny_ready (rs := [13]) (by kernel_rfl) (by simp) ?_
                                    refine AllReady.cons rfl (fun K hK => ?_) ?_
                                    · go_simp
                                      refine hK _ _ ?_; clear hK K
                                      refine wpAny_ready (rs := [14]) (by kernel_rfl) (by simp) ?_
                                      refine AllReady.cons rfl (fun K hK => ?_) ?_
                                      · go_simp
                                        refine hK _ _ ?_; clear hK K
                                        refine wpAny_take (i := 15) (v := .string ⟨#[]⟩) rfl (by kernel_rfl) (by kernel_rfl) (by kernel_rfl) (fun _ _ _ h => h) (Or.inl ⟨by kernel_rfl, by intro w; kernel_rfl⟩) ?_
                                        refine wpAny_take (i := 16) (v := .bool false) rfl (by kernel_rfl) (by kernel_rfl) (by kernel_rfl) (fun _ _ _ h => h) (Or.inl ⟨by kernel_rfl, by intro w; kernel_rfl⟩) ?_
                                        refine wpAny_done (by kernel_rfl) ?_ _
                                        have HS := Lib.hid (sb2 (a := .string ⟨#[]⟩) (b := .slice none 0 0) (c := .string ⟨#[]⟩) HK8.out)
                                        generalize w8.heap.size = PP at HS ⊢
                                        refine ⟨PP, ?_, HS.out⟩
                                        go_simp
                                        try rfl
                                      exact AllReady.nil
                                    exact AllReady.nil
                                  refine AllReady.cons rfl (fun K hK => ?_) ?_
                                  · go_simp
                                    refine hK _ _ ?_; clear hK K
                                    refine wpAny_ready (rs := [8]) (by kernel_rfl) (by simp) ?_
                                    refine AllReady.cons rfl (fun K hK => ?_) ?_
                                    · go_simp
                                      go_wp2_with fail
                                      refine (HC21.out _ ((Kept.refl wd).drew.alloc _)).mono ?_
                                      rintro e w8 ⟨k8, ⟨h0, rfl⟩ | ⟨m', own', p', h0, rfl, hr⟩⟩
                                      rotate_left
                                      · rw [HN21.out] at h0; cases h0
                                      have HK8 := Lib.hid (((Kept.refl wd).drew.alloc (.cells #[.string ⟨#[]⟩, .slice none 0 0, .string ⟨#[]⟩] 26)).trans k8)
                                      have hb8 := (Blk.new wd.drew 26 #[.string ⟨#[]⟩, .slice none 0 0, .string ⟨#[]⟩]).kept k8
                                      rw [show wd.drew.heap.size = wd.heap.size from rfl] at hb8
                                      have HB8 := Lib.hid hb8
                                      have b0 := hb8.cell 0
                                      have b1 := hb8.cell 1
                                      have b2 := hb8.cell 2
                                      have g0 := hb8.frozen 0
                                      have g1 := hb8.frozen 1
                                      have g2 := hb8.frozen 2
                                      simp only [List.getElem?_toArray, List.getElem?_cons_zero, List.getElem?_cons_succ] at b0 b1 b2
                                      clear hb8 k8 h0
                                      dsimp only
                                      refine hK _ _ ?_; clear hK K
                                      refine wpAny_take (i := 9) (v := .tuple #[.agg #[.string ⟨#[]⟩, .slice none 0 0, .string ⟨#[]⟩], .string ⟨#[]⟩, .bool false]) rfl (by kernel_rfl) (by kernel_rfl) (by kernel_rfl) (fun _ _ _ h => h) (Or.inl ⟨by kernel_rfl, by intro w; kernel_rfl⟩) ?_
                                      refine wpAny_take (i := 10) (v := .agg #[.string ⟨#[]⟩, .slice none 0 0, .string ⟨#[]⟩]) rfl (by kernel_rfl) (by kernel_rfl) (by kernel_rfl) (fun _ _ _ h => h) (Or.inl ⟨by kernel_rfl, by intro w; kernel_rfl⟩) ?_
                                      refine wpAny_take (i := 11) (v := .string ⟨#[]⟩) rfl (by kernel_rfl) (by kernel_rfl) (by kernel_rfl) (fun _ _ _ h => h) (Or.inl ⟨by kernel_rfl, by intro w; kernel_rfl⟩) ?_
                                      refine wpAny_take (i := 12) (v := .bool false) rfl (by kernel_rfl) (by kernel_rfl) (by kernel_rfl) (fun _ _ _ h => h) (Or.inl ⟨by kernel_rfl, by intro w; kernel_rfl⟩) ?_
                                      refine wpAny_ready (rs := [14]) (by kernel_rfl) (by simp) ?_
                                      refine AllReady.cons rfl (fun K hK => ?_) ?_
                                      · go_simp
                                        refine hK _ _ ?_; clear hK K
                                        refine wpAny_take (i := 15) (v := .string ⟨#[]⟩) rfl (by kernel_rfl) (by kernel_rfl) (by kernel_rfl) (fun _ _ _ h => h) (Or.inl ⟨by kernel_rfl, by intro w; kernel_rfl⟩) ?_
                                        refine wpAny_take (i := 16) (v := .bool false) rfl (by kernel_rfl) (by kernel_rfl) (by kernel_rfl) (fun _ _ _ h => h) (Or.inl ⟨by kernel_rfl, by intro w; kernel_rfl⟩) ?_
                                        refine wpAny_done (by kernel_rfl) ?_ _
                                        have HS := Lib.hid (sb1 (a := .string ⟨#[]⟩) (b := .slice none 0 0) (c := .string ⟨#[]⟩) (Nat.le_refl _) HB8.out HK8.out)
                                        generalize wd.heap.size = PP at HS ⊢
                                        refine ⟨PP, ?_, HS.out⟩
                                        go_simp
                                        try rfl
                                      exact AllReady.nil
                                    exact AllReady.nil
                                  exact AllReady.nil
                                refine AllReady.cons rfl (fun K hK => ?_) ?_
                                · go_simp
                                  refine hK _ _ ?_; clear hK K
                                  refine wpAny_ready (rs := [2]) (by kernel_rfl) (by simp) ?_
                                  refine AllReady.cons rfl (fun K hK => ?_) ?_
                                  · go_simp
                                    refine hK _ _ ?_; clear hK K
                                    refine wpAny_ready (rs := [8]) (by kernel_rfl) (by simp) ?_
                                    refine AllReady.cons rfl (fun K hK => ?_) ?_
                                    · go_simp
                                      go_wp2_with fail
                                      refine (HC21.out _ ((Kept.refl wd).drew.alloc _)).mono ?_
                                      rintro e w8 ⟨k8, ⟨h0, rfl⟩ | ⟨m', own', p', h0, rfl, hr⟩⟩
                                      rotate_left
                                      · rw [HN21.out] at h0; cases h0
                                      have HK8 := Lib.hid (((Kept.refl wd).drew.alloc (.cells #[.string ⟨#[]⟩, .slice none 0 0, .string ⟨#[]⟩] 26)).trans k8)
                                      have hb8 := (Blk.new wd.drew 26 #[.string ⟨#[]⟩, .slice none 0 0, .string ⟨#[]⟩]).kept k8
                                      rw [show wd.drew.heap.size = wd.heap.size from rfl] at hb8
                                      have HB8 := Lib.hid hb8
                                      have b0 := hb8.cell 0
                                      have b1 := hb8.cell 1
                                      have b2 := hb8.cell 2
                                      have g0 := hb8.frozen 0
                                      have g1 := hb8.frozen 1
                                      have g2 := hb8.frozen 2
                                      simp only [List.getElem?_toArray, List.getElem?_cons_zero, List.getElem?_cons_succ] at b0 b1 b2
                                      clear hb8 k8 h0
                                      dsimp only
                                      refine hK _ _ ?_; clear hK K
                                      refine wpAny_take (i := 9) (v := .tuple #[.agg #[.string ⟨#[]⟩, .slice none 0 0, .string ⟨#[]⟩], .string ⟨#[]⟩, .bool false]) rfl (by kernel_rfl) (by kernel_rfl) (by kernel_rfl) (fun _ _ _ h => h) (Or.inl ⟨by kernel_rfl, by intro w; kernel_rfl⟩) ?_
                                      refine wpAny_take (i := 10) (v := .agg #[.string ⟨#[]⟩, .slice none 0 0, .string ⟨#[]⟩]) rfl (by kernel_rfl) (by kernel_rfl) (by kernel_rfl) (fun _ _ _ h => h) (Or.inl ⟨by kernel_rfl, by intro w; kernel_rfl⟩) ?_
                                      refine wpAny_take (i := 11) (v := .string ⟨#[]⟩) rfl (by kernel_rfl) (by kernel_rfl) (by kernel_rfl) (fun _ _ _ h => h) (Or.inl ⟨by kernel_rfl, by intro w; kernel_rfl⟩) ?_
                                      refine wpAny_take (i := 12) (v := .bool false) rfl (by kernel_rfl) (by kernel_rfl) (by kernel_rfl) (fun _ _ _ h => h) (Or.inl ⟨by kernel_rfl, by intro w; kernel_rfl⟩) ?_
                                      refine wpAny_ready (rs := [14]) (by kernel_rfl) (by simp) ?_
                                      refine AllReady.cons rfl (fun K hK => ?_) ?_
                                      · go_simp
                                        refine hK _ _ ?_; clear hK K
                                        refine wpAny_take (i := 15) (v := .string ⟨#[]⟩) rfl (by kernel_rfl) (by kernel_rfl) (by kernel_rfl) (fun _ _ _ h => h) (Or.inl ⟨by kernel_rfl, by intro w; kernel_rfl⟩) ?_
                                        refine wpAny_take (i := 16) (v := .bool false) rfl (by kernel_rfl) (by kernel_rfl) (by kernel_rfl) (fun _ _ _ h => h) (Or.inl ⟨by kernel_rfl, by intro w; kernel_rfl⟩) ?_
                                        refine wpAny_done (by kernel_rfl) ?_ _
                                        have HS := Lib.hid (sb1 (a := .string ⟨#[]⟩) (b := .slice none 0 0) (c := .string ⟨#[]⟩) (Nat.le_refl _) HB8.out HK8.out)
                                        generalize wd.heap.size = PP at HS ⊢
                                        refine ⟨PP, ?_, HS.out⟩
                                        go_simp
                                        try rfl
                                      exact AllReady.nil
                                    exact AllReady.nil
                                  exact AllReady.nil
                                exact AllReady.nil
                              refine AllReady.cons rfl (fun K hK => ?_) ?_
                              · go_simp
                                refine hK _ _ ?_; clear hK K
                                refine wpAny_ready (rs := [2, 7]) (by kernel_rfl) (by simp) ?_
                                refine AllReady.cons rfl (fun K hK => ?_) ?_
                                · go_simp
                                  refine hK _ _ ?_; clear hK K
                                  refine wpAny_ready (rs := [7]) (by kernel_rfl) (by simp) ?_
                                  refine AllReady.cons rfl (fun K hK => ?_) ?_
                                  · go_simp
                                    refine hK _ _ ?_; clear hK K
                                    refine wpAny_ready (rs := [8]) (by kernel_rfl) (by simp) ?_
                                    refine AllReady.cons rfl (fun K hK => ?_) ?_
                                    · go_simp
                                      go_wp2_with fail
                                      refine (HC21.out _ ((Kept.refl wd).drew.alloc _)).mono ?_
                                      rintro e w8 ⟨k8, ⟨h0, rfl⟩ | ⟨m', own', p', h0, rfl, hr⟩⟩
                                      rotate_left
                                      · rw [HN21.out] at h0; cases h0
                                      have HK8 := Lib.hid (((Kept.refl wd).drew.alloc (.cells #[.string ⟨#[]⟩, .slice none 0 0, .string ⟨#[]⟩] 26)).trans k8)
                                      have hb8 := (Blk.new wd.drew 26 #[.string ⟨#[]⟩, .slice none 0 0, .string ⟨#[]⟩]).kept k8
                                      rw [show wd.drew.heap.size = wd.heap.size from rfl] at hb8
                                      have HB8 := Lib.hid hb8
                                      have b0 := hb8.cell 0
                                      have b1 := hb8.cell 1
                                      have b2 := hb8.cell 2
                                      have g0 := hb8.frozen 0
                                      have g1 := hb8.frozen 1
                                      have g2 := hb8.frozen 2
                                      simp only [List.getElem?_toArray, List.getElem?_cons_zero, List.getElem?_cons_succ] at b0 b1 b2
                                      clear hb8 k8 h0
                                      dsimp only
                                      refine hK _ _ ?_; clear hK K
                                      refine wpAny_take (i := 9) (v := .tuple #[.agg #[.string ⟨#[]⟩, .slice none 0 0, .string ⟨#[]⟩], .string ⟨#[]⟩, .bool false]) rfl (by kernel_rfl) (by kernel_rfl) (by kernel_rfl) (fun _ _ _ h => h) (Or.inl ⟨by kernel_rfl, by intro w; kernel_rfl⟩) ?_
                                      refine wpAny_take (i := 10) (v := .agg #[.string ⟨#[]⟩, .slice none 0 0, .string ⟨#[]⟩]) rfl (by kernel_rfl) (by kernel_rfl) (by kernel_rfl) (fun _ _ _ h => h) (Or.inl ⟨by kernel_rfl, by intro w; kernel_rfl⟩) ?_
                                      refine wpAny_take (i := 11) (v := .string ⟨#[]⟩) rfl (by kernel_rfl) (by kernel_rfl) (by kernel_rfl) (fun _ _ _ h => h) (Or.inl ⟨by kernel_rfl, by intro w; kernel_rfl⟩) ?_
                                      refine wpAny_take (i := 12) (v := .bool false) rfl (by kernel_rfl) (by kernel_rfl) (by kernel_rfl) (fun _ _ _ h => h) (Or.inl ⟨by kernel_rfl, by intro w; kernel_rfl⟩) ?_
                                      refine wpAny_ready (rs := [14]) (by kernel_rfl) (by simp) ?_
                                      refine AllReady.cons rfl (fun K hK => ?_) ?_
                                      · go_simp
                                        refine hK _ _ ?_; clear hK K
                                        refine wpAny_take (i := 15) (v := .string ⟨#[]⟩) rfl (by kernel_rfl) (by kernel_rfl) (by kernel_rfl) (fun _ _ _ h => h) (Or.inl ⟨by kernel_rfl, by intro w; kernel_rfl⟩) ?_
                                        refine wpAny_take (i := 16) (v := .bool false) rfl (by kernel_rfl) (by kernel_rfl) (by kernel_rfl) (fun _ _ _ h => h) (Or.inl ⟨by kernel_rfl, by intro w; kernel_rfl⟩) ?_
                                        refine wpAny_done (by kernel_rfl) ?_ _
                                        have HS := Lib.hid (sb1 (a := .string ⟨#[]⟩) (b := .slice none 0 0) (c := .string ⟨#[]⟩) (Nat.le_refl _) HB8.out HK8.out)
                                        generalize wd.heap.size = PP at HS ⊢
                                        refine ⟨PP, ?_, HS.out⟩
                                        go_simp
                                        try rfl
                                      exact AllReady.nil
                                    exact AllReady.nil
                                  exact AllReady.nil
                                refine AllReady.cons rfl (fun K hK => ?_) ?_
                                · go_simp
                                  refine hK _ _ ?_; clear hK K
                                  refine wpAny_ready (rs := [2]) (by kernel_rfl) (by simp) ?_
                                  refine AllReady.cons rfl (fun K hK => ?_) ?_
                                  · go_simp
                                    refine hK _ _ ?_; clear hK K
                                    refine wpAny_ready (rs := [8]) (by kernel_rfl) (by simp) ?_
                                    refine AllReady.cons rfl (fun K hK => ?_) ?_
                                    · go_simp
                                      go_wp2_with fail
                                      refine (HC21.out _ ((Kept.refl wd).drew.alloc _)).mono ?_
                                      rintro e w8 ⟨k8, ⟨h0, rfl⟩ | ⟨m', own', p', h0, rfl, hr⟩⟩
                                      rotate_left
                                      · rw [HN21.out] at h0; cases h0
                                      have HK8 := Lib.hid (((Kept.refl wd).drew.alloc (.cells #[.string ⟨#[]⟩, .slice none 0 0, .string ⟨#[]⟩] 26)).trans k8)
                                      have hb8 := (Blk.new wd.drew 26 #[.string ⟨#[]⟩, .slice none 0 0, .string ⟨#[]⟩]).kept k8
                                      rw [show wd.drew.heap.size = wd.heap.size from rfl] at hb8
                                      have HB8 := Lib.hid hb8
                                      have b0 := hb8.cell 0
                                      have b1 := hb8.cell 1
                                      have b2 := hb8.cell 2
                                      have g0 := hb8.frozen 0
                                      have g1 := hb8.frozen 1
                                      have g2 := hb8.frozen 2
                                      simp only [List.getElem?_toArray, List.getElem?_cons_zero, List.getElem?_cons_succ] at b0 b1 b2
                                      clear hb8 k8 h0
                                      dsimp only
                                      refine hK _ _ ?_; clear hK K
                                      refine wpAny_take (i := 9) (v := .tuple #[.agg #[.string ⟨#[]⟩, .slice none 0 0, .string ⟨#[]⟩], .string ⟨#[]⟩, .bool false]) rfl (by kernel_rfl) (by kernel_rfl) (by kernel_rfl) (fun _ _ _ h => h) (Or.inl ⟨by kernel_rfl, by intro w; kernel_rfl⟩) ?_
                                      refine wpAny_take (i := 10) (v := .agg #[.string ⟨#[]⟩, .slice none 0 0, .string ⟨#[]⟩]) rfl (by kernel_rfl) (by kernel_rfl) (by kernel_rfl) (fun _ _ _ h => h) (Or.inl ⟨by kernel_rfl, by intro w; kernel_rfl⟩) ?_
                                      refine wpAny_take (i := 11) (v := .string ⟨#[]⟩) rfl (by kernel_rfl) (by kernel_rfl) (by kernel_rfl) (fun _ _ _ h => h) (Or.inl ⟨by kernel_rfl, by intro w; kernel_rfl⟩) ?_
                                      refine wpAny_take (i := 12) (v := .bool false) rfl (by kernel_rfl) (by kernel_rfl) (by kernel_rfl) (fun _ _ _ h => h) (Or.inl ⟨by kernel_rfl, by intro w; kernel_rfl⟩) ?_
                                      refine wpAny_ready (rs := [14]) (by kernel_rfl) (by simp) ?_
                                      refine AllReady.cons rfl (fun K hK => ?_) ?_
                                      · go_simp
                                        refine hK _ _ ?_; clear hK K
                                        refine wpAny_take (i := 15) (v := .string ⟨#[]⟩) rfl (by kernel_rfl) (by kernel_rfl) (by kernel_rfl) (fun _ _ _ h => h) (Or.inl ⟨by kernel_rfl, by intro w; kernel_rfl⟩) ?_
                                        refine wpAny_take (i := 16) (v := .bool false) rfl (by kernel_rfl) (by kernel_rfl) (by kernel_rfl) (fun _ _ _ h => h) (Or.inl ⟨by kernel_rfl, by intro w; kernel_rfl⟩) ?_
                                        refine wpAny_done (by kernel_rfl) ?_ _
                                        have HS := Lib.hid (sb1 (a := .string ⟨#[]⟩) (b := .slice none 0 0) (c := .string ⟨#[]⟩) (Nat.le_refl _) HB8.out HK8.out)
                                        generalize wd.heap.size = PP at HS ⊢
                                        refine ⟨PP, ?_, HS.out⟩
                                        go_simp
                                        try rfl
                                      exact AllReady.nil
                                    exact AllReady.nil
                                  exact AllReady.nil
                                exact AllReady.nil
                              exact AllReady.nil
                            case hk =>
                              intro P21 we hb
                              have HBX21 := Lib.hid hb.1
                              have HKs21 := Lib.hid hb.2
                              have HKr21 := Lib.hid (HKr20.out.trans hb.2)
                              clear hb z21 y21 z21a y21a HC21
                              have x20 := (HBX20.out.kept HKs21.out).cell 1
                              have x20r := (HBX20.out.kept HKs21.out).cell 2
                              have x21 := HBX21.out.cell 1
                              have x21r := HBX21.out.cell 2
                              simp only [List.getElem?_toArray, List.getElem?_cons_zero, List.getElem?_cons_succ] at x20 x20r x21 x21r
                              have y22 := HKr21.out.cell HMM.out.2
                              have hfq : ((Tab.field t sp y.1).getD ⟨#[]⟩).toList == ((Tab.field t sp y.1).getD ⟨#[]⟩).toList := beq_yes rfl
                              generalize (Tab.field t sp y.1).getD ⟨#[]⟩ = fx at *
                              generalize (Tab.field t sp y.1).isSome = fb at *
                              go_wp2_with fail
                              go_loopw [24] (fun q wr => q = .int .i64 0 ∧ Kept we wr) (fun q wr => 0)
                              case atStart => exact ⟨rfl, Kept.refl _⟩
                              case round =>
                                obtain ⟨rfl, hkq⟩ := hrel
                                have HKQ := Lib.hid hkq
                                have x30 := ((HBX20.out.kept HKs21.out).kept hkq).cell 1
                                simp only [List.getElem?_toArray, List.getElem?_cons_zero, List.getElem?_cons_succ] at x30
                                clear hkq x20 x20r x21 x21r y22
                                go_wp2_with fail
                                go_roundw
                                case rel => exact ⟨k + 1, by omega, by go_num, HKr21.out.trans HKQ.out⟩
                                case measure => simp [intOf]; omega
                        · have HN20 := Lib.hid n1
                          have HN21 := Lib.hid n2
                          obtain ⟨hPL, hRS, hTY⟩ := kin_par hss
                          have HTY := Lib.hid hTY
                          have HPL := Lib.hid hPL
                          have HRS := Lib.hid hRS
                          clear n1 n2 hss hla hTY hPL hRS
                          have z20 := (HB9.out.kept HKr19.out).cell 0
                          have z20a := (HB9.out.kept (HKr19.out.alloc (.cells #[.string ⟨#[]⟩, .slice none 0 0, .string ⟨#[]⟩] 26))).cell 0
                          simp only [List.getElem?_toArray, List.getElem?_cons_zero, List.getElem?_cons_succ] at z20 z20a
                          have y20 := HKr19.out.cell HMM.out.1
                          have y20a := (HKr19.out.alloc (.cells #[.string ⟨#[]⟩, .slice none 0 0, .string ⟨#[]⟩] 26)).cell HMM.out.1
                          have HC20 := Lib.hid (fun (w' : World) (kk : Kept wc w') => method_c (some ⟨b, o, none⟩) cp t nm y.1 w' (tab_kept HT9.out (HKr19.out.trans kk)) (abv_small HSH.out))
                          apply abv_cuts (fun P pa pd w' => SigBox wc w' P (.string mm.name) (.slice pa mm.params.length pd) (.string mm.res) ∧ ParRow w' (.slice pa mm.params.length pd) mm.params)
                          case h =>
                            refine wp_region_any (by kernel_rfl) ?_
                            change wpAny _ _ _ _ _ _ _ (World.drew _)
                            refine wpAny_take (i := 0) (v := .slice (some ⟨b, o, none⟩) t.length cp) rfl (by kernel_rfl) (by kernel_rfl) (by kernel_rfl) (fun _ _ _ h => h) (Or.inl ⟨by kernel_rfl, by intro w; kernel_rfl⟩) ?_
                            refine wpAny_take (i := 1) (v := .pointer (some ⟨cb, 0, none⟩)) rfl (by kernel_rfl) (by kernel_rfl) (by kernel_rfl) (fun _ _ _ h => h) (Or.inl ⟨by kernel_rfl, by intro w; kernel_rfl⟩) ?_
                            refine wpAny_take (i := 3) (v := .slice (some ⟨mb, mo, none⟩) l.length mc9) rfl (by kernel_rfl) (by kernel_rfl) (by kernel_rfl) (fun _ _ _ h => h) (Or.inl ⟨by kernel_rfl, by intro w; kernel_rfl⟩) ?_
                            refine wpAny_take (i := 4) (v := .int .i64 (k : Int)) rfl (by kernel_rfl) (by kernel_rfl) (by kernel_rfl) (fun _ _ _ h => h) (Or.inl ⟨by kernel_rfl, by intro w; kernel_rfl⟩) ?_
                            refine wpAny_take (i := 5) (v := .pointer (some ⟨mb, mo + k * 2, none⟩)) rfl (by kernel_rfl) (by kernel_rfl) (by kernel_rfl) (fun _ _ _ h => h) (Or.inl ⟨by kernel_rfl, by intro w; go_simp; try with_reducible rfl⟩) ?_
                            refine wpAny_take (i := 6) (v := .pointer (some ⟨mb, mo + k * 2, none⟩)) rfl (by kernel_rfl) (by kernel_rfl) (by kernel_rfl) (fun _ _ _ h => h) (Or.inl ⟨by kernel_rfl, by intro w; kernel_rfl⟩) ?_
                            refine wpAny_ready (rs := [2, 7, 13]) (by kernel_rfl) (by simp) ?_
                            refine AllReady.cons rfl (fun K hK => ?_) ?_
                            · go_simp
                              refine hK _ _ ?_; clear hK K
                              refine wpAny_ready (rs := [7, 13]) (by kernel_rfl) (by simp) ?_
                              refine AllReady.cons rfl (fun K hK => ?_) ?_
                              · go_simp
                                refine hK _ _ ?_; clear hK K
                                refine wpAny_ready (rs := [8, 13]) (by kernel_rfl) (by simp) ?_
                                refine AllReady.cons rfl (fun K hK => ?_) ?_
                                · go_simp
                                  go_wp2_with fail
                                  refine (HC20.out _ (Kept.refl wc).drew).mono ?_
                                  rintro e w8 ⟨k8, ⟨h0, rfl⟩ | ⟨m', own', p', h0, rfl, hr⟩⟩
                                  · rw [HN20.out] at h0; cases h0
                                  rw [HN20.out] at h0
                                  injection h0 with h0
                                  injection h0 with e1 e2
                                  subst e1 e2
                                  obtain ⟨pa, pd, rfl⟩ := owns_slice_n hr
                                  have HRO := Lib.hid hr
                                  clear hr
                                  have HK8 := Lib.hid ((Kept.refl wc).drew.trans k8)
                                  clear k8
                                  dsimp only
                                  refine hK _ _ ?_; clear hK K
                                  refine wpAny_take (i := 9) (v := .tuple #[.agg #[.string mm.name, .slice pa mm.params.length pd, .string mm.res], .string oo, .bool true]) rfl (by kernel_rfl) (by kernel_rfl) (by kernel_rfl) (fun _ _ _ h => h) (Or.inl ⟨by kernel_rfl, by intro w; kernel_rfl⟩) ?_
                                  refine wpAny_take (i := 10) (v := .agg #[.string mm.name, .slice pa mm.params.length pd, .string mm.res]) rfl (by kernel_rfl) (by kernel_rfl) (by kernel_rfl) (fun _ _ _ h => h) (Or.inl ⟨by kernel_rfl, by intro w; kernel_rfl⟩) ?_
                                  refine wpAny_take (i := 11) (v := .string oo) rfl (by kernel_rfl) (by kernel_rfl) (by kernel_rfl) (fun _ _ _ h => h) (Or.inl ⟨by kernel_rfl, by intro w; kernel_rfl⟩) ?_
                                  refine wpAny_take (i := 12) (v := .bool true) rfl (by kernel_rfl) (by kernel_rfl) (by kernel_rfl) (fun _ _ _ h => h) (Or.inl ⟨by kernel_rfl, by intro w; kernel_rfl⟩) ?_
                                  refine wpAny_ready (rs := [13]) (by kernel_rfl) (by simp) ?_
                                  refine AllReady.cons rfl (fun K hK => ?_) ?_
                                  · go_simp
                                    refine hK _ _ ?_; clear hK K
                                    refine wpAny_ready (rs := [14]) (by kernel_rfl) (by simp) ?_
                                    refine AllReady.cons rfl (fun K hK => ?_) ?_
                                    · go_simp
                                      refine hK _ _ ?_; clear hK K
                                      refine wpAny_take (i := 15) (v := .string oo) rfl (by kernel_rfl) (by kernel_rfl) (by kernel_rfl) (fun _ _ _ h => h) (Or.inl ⟨by kernel_rfl, by intro w; kernel_rfl⟩) ?_
                                      refine wpAny_take (i := 16) (v := .bool true) rfl (by kernel_rfl) (by kernel_rfl) (by kernel_rfl) (fun _ _ _ h => h) (Or.inl ⟨by kernel_rfl, by intro w; kernel_rfl⟩) ?_
                                      refine wpAny_done (by kernel_rfl) ?_ _
                                      have HS := Lib.hid (sb2 (a := .string mm.name) (b := .slice pa mm.params.length pd) (c := .string mm.res) HK8.out)
                                      have HRW := Lib.hid (par2 (o := .cells #[.string mm.name, .slice pa mm.params.length pd, .string mm.res] 26) HRO.out)
                                      generalize w8.heap.size = PP at HS ⊢
                                      refine ⟨PP, pa, pd, ?_, HS.out, HRW.out⟩
                                      go_simp
                                      try rfl
                                    exact AllReady.nil
                                  exact AllReady.nil
                                refine AllReady.cons rfl (fun K hK => ?_) ?_
                                · go_simp
                                  refine hK _ _ ?_; clear hK K
                                  refine wpAny_ready (rs := [8]) (by kernel_rfl) (by simp) ?_
                                  refine AllReady.cons rfl (fun K hK => ?_) ?_
                                  · go_simp
                                    go_wp2_with fail
                                    refine (HC20.out _ ((Kept.refl wc).drew.alloc _)).mono ?_
                                    rintro e w8 ⟨k8, ⟨h0, rfl⟩ | ⟨m', own', p', h0, rfl, hr⟩⟩
                                    · rw [HN20.out] at h0; cases h0
                                    rw [HN20.out] at h0
                                    injection h0 with h0
                                    injection h0 with e1 e2
                                    subst e1 e2
                                    obtain ⟨pa, pd, rfl⟩ := owns_slice_n hr
                                    have HRO := Lib.hid hr
                                    clear hr
                                    have HK8 := Lib.hid (((Kept.refl wc).drew.alloc (.cells #[.string ⟨#[]⟩, .slice none 0 0, .string ⟨#[]⟩] 26)).trans k8)
                                    have hb8 := (Blk.new wc.drew 26 #[.string ⟨#[]⟩, .slice none 0 0, .string ⟨#[]⟩]).kept k8
                                    rw [show wc.drew.heap.size = wc.heap.size from rfl] at hb8
                                    have HB8 := Lib.hid hb8
                                    have b0 := hb8.cell 0
                                    have b1 := hb8.cell 1
                                    have b2 := hb8.cell 2
                                    have g0 := hb8.frozen 0
                                    have g1 := hb8.frozen 1
                                    have g2 := hb8.frozen 2
                                    simp only [List.getElem?_toArray, List.getElem?_cons_zero, List.getElem?_cons_succ] at b0 b1 b2
                                    clear hb8 k8
                                    dsimp only
                                    refine hK _ _ ?_; clear hK K
                                    refine wpAny_take (i := 9) (v := .tuple #[.agg #[.string mm.name, .slice pa mm.params.length pd, .string mm.res], .string oo, .bool true]) rfl (by kernel_rfl) (by kernel_rfl) (by kernel_rfl) (fun _ _ _ h => h) (Or.inl ⟨by kernel_rfl, by intro w; kernel_rfl⟩) ?_
                                    refine wpAny_take (i := 10) (v := .agg #[.string mm.name, .slice pa mm.params.length pd, .string mm.res]) rfl (by kernel_rfl) (by kernel_rfl) (by kernel_rfl) (fun _ _ _ h => h) (Or.inl ⟨by kernel_rfl, by intro w; kernel_rfl⟩) ?_
                                    refine wpAny_take (i := 11) (v := .string oo) rfl (by kernel_rfl) (by kernel_rfl) (by kernel_rfl) (fun _ _ _ h => h) (Or.inl ⟨by kernel_rfl, by intro w; kernel_rfl⟩) ?_
                                    refine wpAny_take (i := 12) (v := .bool true) rfl (by kernel_rfl) (by kernel_rfl) (by kernel_rfl) (fun _ _ _ h => h) (Or.inl ⟨by kernel_rfl, by intro w; kernel_rfl⟩) ?_
                                    refine wpAny_ready (rs := [14]) (by kernel_rfl) (by simp) ?_
                                    refine AllReady.cons rfl (fun K hK => ?_) ?_
                                    · go_simp
                                      refine hK _ _ ?_; clear hK K
                                      refine wpAny_take (i := 15) (v := .string oo) rfl (by kernel_rfl) (by kernel_rfl) (by kernel_rfl) (fun _ _ _ h => h) (Or.inl ⟨by kernel_rfl, by intro w; kernel_rfl⟩) ?_
                                      refine wpAny_take (i := 16) (v := .bool true) rfl (by kernel_rfl) (by kernel_rfl) (by kernel_rfl) (fun _ _ _ h => h) (Or.inl ⟨by kernel_rfl, by intro w; kernel_rfl⟩) ?_
                                      refine wpAny_done (by kernel_rfl) ?_ _
                                      have HS := Lib.hid (sb1 (a := .string mm.name) (b := .slice pa mm.params.length pd) (c := .string mm.res) (Nat.le_refl _) HB8.out HK8.out)
                                      have HRW := Lib.hid (par1 (a := .string mm.name) (b := .slice pa mm.params.length pd) (c := .string mm.res) HRO.out (show wc.heap.size < _ by simp))
                                      generalize wc.heap.size = PP at HS HRW ⊢
                                      refine ⟨PP, pa, pd, ?_, HS.out, HRW.out⟩
                                      go_simp
                                      try rfl
                                    exact AllReady.nil
                                  exact AllReady.nil
                                exact AllReady.nil
                              refine AllReady.cons rfl (fun K hK => ?_) ?_
                              · go_simp
                                refine hK _ _ ?_; clear hK K
                                refine wpAny_ready (rs := [7]) (by kernel_rfl) (by simp) ?_
                                refine AllReady.cons rfl (fun K hK => ?_) ?_
                                · go_simp
                                  refine hK _ _ ?_; clear hK K
                                  refine wpAny_ready (rs := [8]) (by kernel_rfl) (by simp) ?_
                                  refine AllReady.cons rfl (fun K hK => ?_) ?_
                                  · go_simp
                                    go_wp2_with fail
                                    refine (HC20.out _ ((Kept.refl wc).drew.alloc _)).mono ?_
                                    rintro e w8 ⟨k8, ⟨h0, rfl⟩ | ⟨m', own', p', h0, rfl, hr⟩⟩
                                    · rw [HN20.out] at h0; cases h0
                                    rw [HN20.out] at h0
                                    injection h0 with h0
                                    injection h0 with e1 e2
                                    subst e1 e2
                                    obtain ⟨pa, pd, rfl⟩ := owns_slice_n hr
                                    have HRO := Lib.hid hr
                                    clear hr
                                    have HK8 := Lib.hid (((Kept.refl wc).drew.alloc (.cells #[.string ⟨#[]⟩, .slice none 0 0, .string ⟨#[]⟩] 26)).trans k8)
                                    have hb8 := (Blk.new wc.drew 26 #[.string ⟨#[]⟩, .slice none 0 0, .string ⟨#[]⟩]).kept k8
                                    rw [show wc.drew.heap.size = wc.heap.size from rfl] at hb8
                                    have HB8 := Lib.hid hb8
                                    have b0 := hb8.cell 0
                                    have b1 := hb8.cell 1
                                    have b2 := hb8.cell 2
                                    have g0 := hb8.frozen 0
                                    have g1 := hb8.frozen 1
                                    have g2 := hb8.frozen 2
                                    simp only [List.getElem?_toArray, List.getElem?_cons_zero, List.getElem?_cons_succ] at b0 b1 b2
                                    clear hb8 k8
                                    dsimp only
                                    refine hK _ _ ?_; clear hK K
                                    refine wpAny_take (i := 9) (v := .tuple #[.agg #[.string mm.name, .slice pa mm.params.length pd, .string mm.res], .string oo, .bool true]) rfl (by kernel_rfl) (by kernel_rfl) (by kernel_rfl) (fun _ _ _ h => h) (Or.inl ⟨by kernel_rfl, by intro w; kernel_rfl⟩) ?_
                                    refine wpAny_take (i := 10) (v := .agg #[.string mm.name, .slice pa mm.params.length pd, .string mm.res]) rfl (by kernel_rfl) (by kernel_rfl) (by kernel_rfl) (fun _ _ _ h => h) (Or.inl ⟨by kernel_rfl, by intro w; kernel_rfl⟩) ?_
                                    refine wpAny_take (i := 11) (v := .string oo) rfl (by kernel_rfl) (by kernel_rfl) (by kernel_rfl) (fun _ _ _ h => h) (Or.inl ⟨by kernel_rfl, by intro w; kernel_rfl⟩) ?_
                                    refine wpAny_take (i := 12) (v := .bool true) rfl (by kernel_rfl) (by kernel_rfl) (by kernel_rfl) (fun _ _ _ h => h) (Or.inl ⟨by kernel_rfl, by intro w; kernel_rfl⟩) ?_
                                    refine wpAny_ready (rs := [14]) (by kernel_rfl) (by simp) ?_
                                    refine AllReady.cons rfl (fun K hK => ?_) ?_
                                    · go_simp
                                      refine hK _ _ ?_; clear hK K
                                      refine wpAny_take (i := 15) (v := .string oo) rfl (by kernel_rfl) (by kernel_rfl) (by kernel_rfl) (fun _ _ _ h => h) (Or.inl ⟨by kernel_rfl, by intro w; kernel_rfl⟩) ?_
                                      refine wpAny_take (i := 16) (v := .bool true) rfl (by kernel_rfl) (by kernel_rfl) (by kernel_rfl) (fun _ _ _ h => h) (Or.inl ⟨by kernel_rfl, by intro w; kernel_rfl⟩) ?_
                                      refine wpAny_done (by kernel_rfl) ?_ _
                                      have HS := Lib.hid (sb1 (a := .string mm.name) (b := .slice pa mm.params.length pd) (c := .string mm.res) (Nat.le_refl _) HB8.out HK8.out)
                                      have HRW := Lib.hid (par1 (a := .string mm.name) (b := .slice pa mm.params.length pd) (c := .string mm.res) HRO.out (show wc.heap.size < _ by simp))
                                      generalize wc.heap.size = PP at HS HRW ⊢
                                      refine ⟨PP, pa, pd, ?_, HS.out, HRW.out⟩
                                      go_simp
                                      try rfl
                                    exact AllReady.nil
                                  exact AllReady.nil
                                exact AllReady.nil
                              exact AllReady.nil
                            refine AllReady.cons rfl (fun K hK => ?_) ?_
                            · go_simp
                              refine hK _ _ ?_; clear hK K
                              refine wpAny_ready (rs := [2, 13]) (by kernel_rfl) (by simp) ?_
                              refine AllReady.cons rfl (fun K hK => ?_) ?_
                              · go_simp
                                refine hK _ _ ?_; clear hK K
                                refine wpAny_ready (rs := [8, 13]) (by kernel_rfl) (by simp) ?_
                                refine AllReady.cons rfl (fun K hK => ?_) ?_
                                · go_simp
                                  go_wp2_with fail
                                  refine (HC20.out _ (Kept.refl wc).drew).mono ?_
                                  rintro e w8 ⟨k8, ⟨h0, rfl⟩ | ⟨m', own', p', h0, rfl, hr⟩⟩
                                  · rw [HN20.out] at h0; cases h0
                                  rw [HN20.out] at h0
                                  injection h0 with h0
                                  injection h0 with e1 e2
                                  subst e1 e2
                                  obtain ⟨pa, pd, rfl⟩ := owns_slice_n hr
                                  have HRO := Lib.hid hr
                                  clear hr
                                  have HK8 := Lib.hid ((Kept.refl wc).drew.trans k8)
                                  clear k8
                                  dsimp only
                                  refine hK _ _ ?_; clear hK K
                                  refine wpAny_take (i := 9) (v := .tuple #[.agg #[.string mm.name, .slice pa mm.params.length pd, .string mm.res], .string oo, .bool true]) rfl (by kernel_rfl) (by kernel_rfl) (by kernel_rfl) (fun _ _ _ h => h) (Or.inl ⟨by kernel_rfl, by intro w; kernel_rfl⟩) ?_
                                  refine wpAny_take (i := 10) (v := .agg #[.string mm.name, .slice pa mm.params.length pd, .string mm.res]) rfl (by kernel_rfl) (by kernel_rfl) (by kernel_rfl) (fun _ _ _ h => h) (Or.inl ⟨by kernel_rfl, by intro w; kernel_rfl⟩) ?_
                                  refine wpAny_take (i := 11) (v := .string oo) rfl (by kernel_rfl) (by kernel_rfl) (by kernel_rfl) (fun _ _ _ h => h) (Or.inl ⟨by kernel_rfl, by intro w; kernel_rfl⟩) ?_
                                  refine wpAny_take (i := 12) (v := .bool true) rfl (by kernel_rfl) (by kernel_rfl) (by kernel_rfl) (fun _ _ _ h => h) (Or.inl ⟨by kernel_rfl, by intro w; kernel_rfl⟩) ?_
                                  refine wpAny_ready (rs := [13]) (by kernel_rfl) (by simp) ?_
                                  refine AllReady.cons rfl (fun K hK => ?_) ?_
                                  · go_simp
                                    refine hK _ _ ?_; clear hK K
                                    refine wpAny_ready (rs := [14]) (by kernel_rfl) (by simp) ?_
                                    refine AllReady.cons rfl (fun K hK => ?_) ?_
                                    · go_simp
                                      refine hK _ _ ?_; clear hK K
                                      refine wpAny_take (i := 15) (v := .string oo) rfl (by kernel_rfl) (by kernel_rfl) (by kernel_rfl) (fun _ _ _ h => h) (Or.inl ⟨by kernel_rfl, by intro w; kernel_rfl⟩) ?_
                                      refine wpAny_take (i := 16) (v := .bool true) rfl (by kernel_rfl) (by kernel_rfl) (by kernel_rfl) (fun _ _ _ h => h) (Or.inl ⟨by kernel_rfl, by intro w; kernel_rfl⟩) ?_
                                      refine wpAny_done (by kernel_rfl) ?_ _
                                      have HS := Lib.hid (sb2 (a := .string mm.name) (b := .slice pa mm.params.length pd) (c := .string mm.res) HK8.out)
                                      have HRW := Lib.hid (par2 (o := .cells #[.string mm.name, .slice pa mm.params.length pd, .string mm.res] 26) HRO.out)
                                      generalize w8.heap.size = PP at HS ⊢
                                      refine ⟨PP, pa, pd, ?_, HS.out, HRW.out⟩
                                      go_simp
                                      try rfl
                                    exact AllReady.nil
                                  exact AllReady.nil
                                refine AllReady.cons rfl (fun K hK => ?_) ?_
                                · go_simp
                                  refine hK _ _ ?_; clear hK K
                                  refine wpAny_ready (rs := [8]) (by kernel_rfl) (by simp) ?_
                                  refine AllReady.cons rfl (fun K hK => ?_) ?_
                                  · go_simp
                                    go_wp2_with fail
                                    refine (HC20.out _ ((Kept.refl wc).drew.alloc _)).mono ?_
                                    rintro e w8 ⟨k8, ⟨h0, rfl⟩ | ⟨m', own', p', h0, rfl, hr⟩⟩
                                    · rw [HN20.out] at h0; cases h0
                                    rw [HN20.out] at h0
                                    injection h0 with h0
                                    injection h0 with e1 e2
                                    subst e1 e2
                                    obtain ⟨pa, pd, rfl⟩ := owns_slice_n hr
                                    have HRO := Lib.hid hr
                                    clear hr
                                    have HK8 := Lib.hid (((Kept.refl wc).drew.alloc (.cells #[.string ⟨#[]⟩, .slice none 0 0, .string ⟨#[]⟩] 26)).trans k8)
                                    have hb8 := (Blk.new wc.drew 26 #[.string ⟨#[]⟩, .slice none 0 0, .string ⟨#[]⟩]).kept k8
                                    rw [show wc.drew.heap.size = wc.heap.size from rfl] at hb8
                                    have HB8 := Lib.hid hb8
                                    have b0 := hb8.cell 0
                                    have b1 := hb8.cell 1
                                    have b2 := hb8.cell 2
                                    have g0 := hb8.frozen 0
                                    have g1 := hb8.frozen 1
                                    have g2 := hb8.frozen 2
                                    simp only [List.getElem?_toArray, List.getElem?_cons_zero, List.getElem?_cons_succ] at b0 b1 b2
                                    clear hb8 k8
                                    dsimp only
                                    refine hK _ _ ?_; clear hK K
                                    refine wpAny_take (i := 9) (v := .tuple #[.agg #[.string mm.name, .slice pa mm.params.length pd, .string mm.res], .string oo, .bool true]) rfl (by kernel_rfl) (by kernel_rfl) (by kernel_rfl) (fun _ _ _ h => h) (Or.inl ⟨by kernel_rfl, by intro w; kernel_rfl⟩) ?_
                                    refine wpAny_take (i := 10) (v := .agg #[.string mm.name, .slice pa mm.params.length pd, .string mm.res]) rfl (by kernel_rfl) (by kernel_rfl) (by kernel_rfl) (fun _ _ _ h => h) (Or.inl ⟨by kernel_rfl, by intro w; kernel_rfl⟩) ?_
                                    refine wpAny_take (i := 11) (v := .string oo) rfl (by kernel_rfl) (by kernel_rfl) (by kernel_rfl) (fun _ _ _ h => h) (Or.inl ⟨by kernel_rfl, by intro w; kernel_rfl⟩) ?_
                                    refine wpAny_take (i := 12) (v := .bool true) rfl (by kernel_rfl) (by kernel_rfl) (by kernel_rfl) (fun _ _ _ h => h) (Or.inl ⟨by kernel_rfl, by intro w; kernel_rfl⟩) ?_
                                    refine wpAny_ready (rs := [14]) (by kernel_rfl) (by simp) ?_
                                    refine AllReady.cons rfl (fun K hK => ?_) ?_
                                    · go_simp
                                      refine hK _ _ ?_; clear hK K
                                      refine wpAny_take (i := 15) (v := .string oo) rfl (by kernel_rfl) (by kernel_rfl) (by kernel_rfl) (fun _ _ _ h => h) (Or.inl ⟨by kernel_rfl, by intro w; kernel_rfl⟩) ?_
                                      refine wpAny_take (i := 16) (v := .bool true) rfl (by kernel_rfl) (by kernel_rfl) (by kernel_rfl) (fun _ _ _ h => h) (Or.inl ⟨by kernel_rfl, by intro w; kernel_rfl⟩) ?_
                                      refine wpAny_done (by kernel_rfl) ?_ _
                                      have HS := Lib.hid (sb1 (a := .string mm.name) (b := .slice pa mm.params.length pd) (c := .string mm.res) (Nat.le_refl _) HB8.out HK8.out)
                                      have HRW := Lib.hid (par1 (a := .string mm.name) (b := .slice pa mm.params.length pd) (c := .string mm.res) HRO.out (show wc.heap.size < _ by simp))
                                      generalize wc.heap.size = PP at HS HRW ⊢
                                      refine ⟨PP, pa, pd, ?_, HS.out, HRW.out⟩
                                      go_simp
                                      try rfl
                                    exact AllReady.nil
                                  exact AllReady.nil
                                exact AllReady.nil
                              refine AllReady.cons rfl (fun K hK => ?_) ?_
                              · go_simp
                                refine hK _ _ ?_; clear hK K
                                refine wpAny_ready (rs := [2]) (by kernel_rfl) (by simp) ?_
                                refine AllReady.cons rfl (fun K hK => ?_) ?_
                                · go_simp
                                  refine hK _ _ ?_; clear hK K
                                  refine wpAny_ready (rs := [8]) (by kernel_rfl) (by simp) ?_
                                  refine AllReady.cons rfl (fun K hK => ?_) ?_
                                  · go_simp
                                    go_wp2_with fail
                                    refine (HC20.out _ ((Kept.refl wc).drew.alloc _)).mono ?_
                                    rintro e w8 ⟨k8, ⟨h0, rfl⟩ | ⟨m', own', p', h0, rfl, hr⟩⟩
                                    · rw [HN20.out] at h0; cases h0
                                    rw [HN20.out] at h0
                                    injection h0 with h0
                                    injection h0 with e1 e2
                                    subst e1 e2
                                    obtain ⟨pa, pd, rfl⟩ := owns_slice_n hr
                                    have HRO := Lib.hid hr
                                    clear hr
                                    have HK8 := Lib.hid (((Kept.refl wc).drew.alloc (.cells #[.string ⟨#[]⟩, .slice none 0 0, .string ⟨#[]⟩] 26)).trans k8)
                                    have hb8 := (Blk.new wc.drew 26 #[.string ⟨#[]⟩, .slice none 0 0, .string ⟨#[]⟩]).kept k8
                                    rw [show wc.drew.heap.size = wc.heap.size from rfl] at hb8
                                    have HB8 := Lib.hid hb8
                                    have b0 := hb8.cell 0
                                    have b1 := hb8.cell 1
                                    have b2 := hb8.cell 2
                                    have g0 := hb8.frozen 0
                                    have g1 := hb8.frozen 1
                                    have g2 := hb8.frozen 2
                                    simp only [List.getElem?_toArray, List.getElem?_cons_zero, List.getElem?_cons_succ] at b0 b1 b2
                                    clear hb8 k8
                                    dsimp only
                                    refine hK _ _ ?_; clear hK K
                                    refine wpAny_take (i := 9) (v := .tuple #[.agg #[.string mm.name, .slice pa mm.params.length pd, .string mm.res], .string oo, .bool true]) rfl (by kernel_rfl) (by kernel_rfl) (by kernel_rfl) (fun _ _ _ h => h) (Or.inl ⟨by kernel_rfl, by intro w; kernel_rfl⟩) ?_
                                    refine wpAny_take (i := 10) (v := .agg #[.string mm.name, .slice pa mm.params.length pd, .string mm.res]) rfl (by kernel_rfl) (by kernel_rfl) (by kernel_rfl) (fun _ _ _ h => h) (Or.inl ⟨by kernel_rfl, by intro w; kernel_rfl⟩) ?_
                                    refine wpAny_take (i := 11) (v := .string oo) rfl (by kernel_rfl) (by kernel_rfl) (by kernel_rfl) (fun _ _ _ h => h) (Or.inl ⟨by kernel_rfl, by intro w; kernel_rfl⟩) ?_
                                    refine wpAny_take (i := 12) (v := .bool true) rfl (by kernel_rfl) (by kernel_rfl) (by kernel_rfl) (fun _ _ _ h => h) (Or.inl ⟨by kernel_rfl, by intro w; kernel_rfl⟩) ?_
                                    refine wpAny_ready (rs := [14]) (by kernel_rfl) (by simp) ?_
                                    refine AllReady.cons rfl (fun K hK => ?_) ?_
                                    · go_simp
                                      refine hK _ _ ?_; clear hK K
                                      refine wpAny_take (i := 15) (v := .string oo) rfl (by kernel_rfl) (by kernel_rfl) (by kernel_rfl) (fun _ _ _ h => h) (Or.inl ⟨by kernel_rfl, by intro w; kernel_rfl⟩) ?_
                                      refine wpAny_take (i := 16) (v := .bool true) rfl (by kernel_rfl) (by kernel_rfl) (by kernel_rfl) (fun _ _ _ h => h) (Or.inl ⟨by kernel_rfl, by intro w; kernel_rfl⟩) ?_
                                      refine wpAny_done (by kernel_rfl) ?_ _
                                      have HS := Lib.hid (sb1 (a := .string mm.name) (b := .slice pa mm.params.length pd) (c := .string mm.res) (Nat.le_refl _) HB8.out HK8.out)
                                      have HRW := Lib.hid (par1 (a := .string mm.name) (b := .slice pa mm.params.length pd) (c := .string mm.res) HRO.out (show wc.heap.size < _ by simp))
                                      generalize wc.heap.size = PP at HS HRW ⊢
                                      refine ⟨PP, pa, pd, ?_, HS.out, HRW.out⟩
                                      go_simp
                                      try rfl
                                    exact AllReady.nil
                                  exact AllReady.nil
                                exact AllReady.nil
                              exact AllReady.nil
                            refine AllReady.cons rfl (fun K hK => ?_) ?_
                            · go_simp
                              refine hK _ _ ?_; clear hK K
                              refine wpAny_ready (rs := [2, 7]) (by kernel_rfl) (by simp) ?_
                              refine AllReady.cons rfl (fun K hK => ?_) ?_
                              · go_simp
                                refine hK _ _ ?_; clear hK K
                                refine wpAny_ready (rs := [7]) (by kernel_rfl) (by simp) ?_
                                refine AllReady.cons rfl (fun K hK => ?_) ?_
                                · go_simp
                                  refine hK _ _ ?_; clear hK K
                                  refine wpAny_ready (rs := [8]) (by kernel_rfl) (by simp) ?_
                                  refine AllReady.cons rfl (fun K hK => ?_) ?_
                                  · go_simp
                                    go_wp2_with fail
                                    refine (HC20.out _ ((Kept.refl wc).drew.alloc _)).mono ?_
                                    rintro e w8 ⟨k8, ⟨h0, rfl⟩ | ⟨m', own', p', h0, rfl, hr⟩⟩
                                    · rw [HN20.out] at h0; cases h0
                                    rw [HN20.out] at h0
                                    injection h0 with h0
                                    injection h0 with e1 e2
                                    subst e1 e2
                                    obtain ⟨pa, pd, rfl⟩ := owns_slice_n hr
                                    have HRO := Lib.hid hr
                                    clear hr
                                    have HK8 := Lib.hid (((Kept.refl wc).drew.alloc (.cells #[.string ⟨#[]⟩, .slice none 0 0, .string ⟨#[]⟩] 26)).trans k8)
                                    have hb8 := (Blk.new wc.drew 26 #[.string ⟨#[]⟩, .slice none 0 0, .string ⟨#[]⟩]).kept k8
                                    rw [show wc.drew.heap.size = wc.heap.size from rfl] at hb8
                                    have HB8 := Lib.hid hb8
                                    have b0 := hb8.cell 0
                                    have b1 := hb8.cell 1
                                    have b2 := hb8.cell 2
                                    have g0 := hb8.frozen 0
                                    have g1 := hb8.frozen 1
                                    have g2 := hb8.frozen 2
                                    simp only [List.getElem?_toArray, List.getElem?_cons_zero, List.getElem?_cons_succ] at b0 b1 b2
                                    clear hb8 k8
                                    dsimp only
                                    refine hK _ _ ?_; clear hK K
                                    refine wpAny_take (i := 9) (v := .tuple #[.agg #[.string mm.name, .slice pa mm.params.length pd, .string mm.res], .string oo, .bool true]) rfl (by kernel_rfl) (by kernel_rfl) (by kernel_rfl) (fun _ _ _ h => h) (Or.inl ⟨by kernel_rfl, by intro w; kernel_rfl⟩) ?_
                                    refine wpAny_take (i := 10) (v := .agg #[.string mm.name, .slice pa mm.params.length pd, .string mm.res]) rfl (by kernel_rfl) (by kernel_rfl) (by kernel_rfl) (fun _ _ _ h => h) (Or.inl ⟨by kernel_rfl, by intro w; kernel_rfl⟩) ?_
                                    refine wpAny_take (i := 11) (v := .string oo) rfl (by kernel_rfl) (by kernel_rfl) (by kernel_rfl) (fun _ _ _ h => h) (Or.inl ⟨by kernel_rfl, by intro w; kernel_rfl⟩) ?_
                                    refine wpAny_take (i := 12) (v := .bool true) rfl (by kernel_rfl) (by kernel_rfl) (by kernel_rfl) (fun _ _ _ h => h) (Or.inl ⟨by kernel_rfl, by intro w; kernel_rfl⟩) ?_
                                    refine wpAny_ready (rs := [14]) (by kernel_rfl) (by simp) ?_
                                    refine AllReady.cons rfl (fun K hK => ?_) ?_
                                    · go_simp
                                      refine hK _ _ ?_; clear hK K
                                      refine wpAny_take (i := 15) (v := .string oo) rfl (by kernel_rfl) (by kernel_rfl) (by kernel_rfl) (fun _ _ _ h => h) (Or.inl ⟨by kernel_rfl, by intro w; kernel_rfl⟩) ?_
                                      refine wpAny_take (i := 16) (v := .bool true) rfl (by kernel_rfl) (by kernel_rfl) (by kernel_rfl) (fun _ _ _ h => h) (Or.inl ⟨by kernel_rfl, by intro w; kernel_rfl⟩) ?_
                                      refine wpAny_done (by kernel_rfl) ?_ _
                                      have HS := Lib.hid (sb1 (a := .string mm.name) (b := .slice pa mm.params.length pd) (c := .string mm.res) (Nat.le_refl _) HB8.out HK8.out)
                                      have HRW := Lib.hid (par1 (a := .string mm.name) (b := .slice pa mm.params.length pd) (c := .string mm.res) HRO.out (show wc.heap.size < _ by simp))
                                      generalize wc.heap.size = PP at HS HRW ⊢
                                      refine ⟨PP, pa, pd, ?_, HS.out, HRW.out⟩
                                      go_simp
                                      try rfl
                                    exact AllReady.nil
                                  exact AllReady.nil
                                exact AllReady.nil
                              refine AllReady.cons rfl (fun K hK => ?_) ?_
                              · go_simp
                                refine hK _ _ ?_; clear hK K
                                refine wpAny_ready (rs := [2]) (by kernel_rfl) (by simp) ?_
                                refine AllReady.cons rfl (fun K hK => ?_) ?_
                                · go_simp
                                  refine hK _ _ ?_; clear hK K
                                  refine wpAny_ready (rs := [8]) (by kernel_rfl) (by simp) ?_
                                  refine AllReady.cons rfl (fun K hK => ?_) ?_
                                  · go_simp
                                    go_wp2_with fail
                                    refine (HC20.out _ ((Kept.refl wc).drew.alloc _)).mono ?_
                                    rintro e w8 ⟨k8, ⟨h0, rfl⟩ | ⟨m', own', p', h0, rfl, hr⟩⟩
                                    · rw [HN20.out] at h0; cases h0
                                    rw [HN20.out] at h0
                                    injection h0 with h0
                                    injection h0 with e1 e2
                                    subst e1 e2
                                    obtain ⟨pa, pd, rfl⟩ := owns_slice_n hr
                                    have HRO := Lib.hid hr
                                    clear hr
                                    have HK8 := Lib.hid (((Kept.refl wc).drew.alloc (.cells #[.string ⟨#[]⟩, .slice none 0 0, .string ⟨#[]⟩] 26)).trans k8)
                                    have hb8 := (Blk.new wc.drew 26 #[.string ⟨#[]⟩, .slice none 0 0, .string ⟨#[]⟩]).kept k8
                                    rw [show wc.drew.heap.size = wc.heap.size from rfl] at hb8
                                    have HB8 := Lib.hid hb8
                                    have b0 := hb8.cell 0
                                    have b1 := hb8.cell 1
                                    have b2 := hb8.cell 2
                                    have g0 := hb8.frozen 0
                                    have g1 := hb8.frozen 1
                                    have g2 := hb8.frozen 2
                                    simp only [List.getElem?_toArray, List.getElem?_cons_zero, List.getElem?_cons_succ] at b0 b1 b2
                                    clear hb8 k8
                                    dsimp only
                                    refine hK _ _ ?_; clear hK K
                                    refine wpAny_take (i := 9) (v := .tuple #[.agg #[.string mm.name, .slice pa mm.params.length pd, .string mm.res], .string oo, .bool true]) rfl (by kernel_rfl) (by kernel_rfl) (by kernel_rfl) (fun _ _ _ h => h) (Or.inl ⟨by kernel_rfl, by intro w; kernel_rfl⟩) ?_
                                    refine wpAny_take (i := 10) (v := .agg #[.string mm.name, .slice pa mm.params.length pd, .string mm.res]) rfl (by kernel_rfl) (by kernel_rfl) (by kernel_rfl) (fun _ _ _ h => h) (Or.inl ⟨by kernel_rfl, by intro w; kernel_rfl⟩) ?_
                                    refine wpAny_take (i := 11) (v := .string oo) rfl (by kernel_rfl) (by kernel_rfl) (by kernel_rfl) (fun _ _ _ h => h) (Or.inl ⟨by kernel_rfl, by intro w; kernel_rfl⟩) ?_
                                    refine wpAny_take (i := 12) (v := .bool true) rfl (by kernel_rfl) (by kernel_rfl) (by kernel_rfl) (fun _ _ _ h => h) (Or.inl ⟨by kernel_rfl, by intro w; kernel_rfl⟩) ?_
                                    refine wpAny_ready (rs := [14]) (by kernel_rfl) (by simp) ?_
                                    refine AllReady.cons rfl (fun K hK => ?_) ?_
                                    · go_simp
                                      refine hK _ _ ?_; clear hK K
                                      refine wpAny_take (i := 15) (v := .string oo) rfl (by kernel_rfl) (by kernel_rfl) (by kernel_rfl) (fun _ _ _ h => h) (Or.inl ⟨by kernel_rfl, by intro w; kernel_rfl⟩) ?_
                                      refine wpAny_take (i := 16) (v := .bool true) rfl (by kernel_rfl) (by kernel_rfl) (by kernel_rfl) (fun _ _ _ h => h) (Or.inl ⟨by kernel_rfl, by intro w; kernel_rfl⟩) ?_
                                      refine wpAny_done (by kernel_rfl) ?_ _
                                      have HS := Lib.hid (sb1 (a := .string mm.name) (b := .slice pa mm.params.length pd) (c := .string mm.res) (Nat.le_refl _) HB8.out HK8.out)
                                      have HRW := Lib.hid (par1 (a := .string mm.name) (b := .slice pa mm.params.length pd) (c := .string mm.res) HRO.out (show wc.heap.size < _ by simp))
                                      generalize wc.heap.size = PP at HS HRW ⊢
                                      refine ⟨PP, pa, pd, ?_, HS.out, HRW.out⟩
                                      go_simp
                                      try rfl
                                    exact AllReady.nil
                                  exact AllReady.nil
                                exact AllReady.nil
                              exact AllReady.nil
                            exact AllReady.nil
                          case hk =>
                            intro P20 pa pd wd hb
                            have HBX20 := Lib.hid hb.1.1
                            have HPR20 := Lib.hid hb.2
                            have HKs20 := Lib.hid hb.1.2
                            have HKr20 := Lib.hid (HKr19.out.trans hb.1.2)
                            clear hb z20 y20 z20a y20a HC20
                            go_wp2_with fail
                            have z21 := (HB9.out.kept HKr20.out).cell 1
                            have z21a := (HB9.out.kept (HKr20.out.alloc (.cells #[.string ⟨#[]⟩, .slice none 0 0, .string ⟨#[]⟩] 26))).cell 1
                            simp only [List.getElem?_toArray, List.getElem?_cons_zero, List.getElem?_cons_succ] at z21 z21a
                            have y21 := HKr20.out.cell HMM.out.1
                            have y21a := (HKr20.out.alloc (.cells #[.string ⟨#[]⟩, .slice none 0 0, .string ⟨#[]⟩] 26)).cell HMM.out.1
                            have HC21 := Lib.hid (fun (w' : World) (kk : Kept wd w') => method_c (some ⟨b, o, none⟩) cp t sp y.1 w' (tab_kept HT9.out (HKr20.out.trans kk)) (abv_small HSH.out))
                            apply abv_cuts (fun P pb pe w' => SigBox wd w' P (.string pp.name) (.slice pb pp.params.length pe) (.string pp.res) ∧ ParRow w' (.slice pb pp.params.length pe) pp.params)
                            case h =>
                              refine wp_region_any (by kernel_rfl) ?_
                              change wpAny _ _ _ _ _ _ _ (World.drew _)
                              refine wpAny_take (i := 0) (v := .slice (some ⟨b, o, none⟩) t.length cp) rfl (by kernel_rfl) (by kernel_rfl) (by kernel_rfl) (fun _ _ _ h => h) (Or.inl ⟨by kernel_rfl, by intro w; kernel_rfl⟩) ?_
                              refine wpAny_take (i := 1) (v := .pointer (some ⟨cb, 1, none⟩)) rfl (by kernel_rfl) (by kernel_rfl) (by kernel_rfl) (fun _ _ _ h => h) (Or.inl ⟨by kernel_rfl, by intro w; kernel_rfl⟩) ?_
                              refine wpAny_take (i := 3) (v := .slice (some ⟨mb, mo, none⟩) l.length mc9) rfl (by kernel_rfl) (by kernel_rfl) (by kernel_rfl) (fun _ _ _ h => h) (Or.inl ⟨by kernel_rfl, by intro w; kernel_rfl⟩) ?_
                              refine wpAny_take (i := 4) (v := .int .i64 (k : Int)) rfl (by kernel_rfl) (by kernel_rfl) (by kernel_rfl) (fun _ _ _ h => h) (Or.inl ⟨by kernel_rfl, by intro w; kernel_rfl⟩) ?_
                              refine wpAny_take (i := 5) (v := .pointer (some ⟨mb, mo + k * 2, none⟩)) rfl (by kernel_rfl) (by kernel_rfl) (by kernel_rfl) (fun _ _ _ h => h) (Or.inl ⟨by kernel_rfl, by intro w; go_simp; try with_reducible rfl⟩) ?_
                              refine wpAny_take (i := 6) (v := .pointer (some ⟨mb, mo + k * 2, none⟩)) rfl (by kernel_rfl) (by kernel_rfl) (by kernel_rfl) (fun _ _ _ h => h) (Or.inl ⟨by kernel_rfl, by intro w; kernel_rfl⟩) ?_
                              refine wpAny_ready (rs := [2, 7, 13]) (by kernel_rfl) (by simp) ?_
                              refine AllReady.cons rfl (fun K hK => ?_) ?_
                              · go_simp
                                refine hK _ _ ?_; clear hK K
                                refine wpAny_ready (rs := [7, 13]) (by kernel_rfl) (by simp) ?_
                                refine AllReady.cons rfl (fun K hK => ?_) ?_
                                · go_simp
                                  refine hK _ _ ?_; clear hK K
                                  refine wpAny_ready (rs := [8, 13]) (by kernel_rfl) (by simp) ?_
                                  refine AllReady.cons rfl (fun K hK => ?_) ?_
                                  · go_simp
                                    go_wp2_with fail
                                    refine (HC21.out _ (Kept.refl wd).drew).mono ?_
                                    rintro e w8 ⟨k8, ⟨h0, rfl⟩ | ⟨m', own', p', h0, rfl, hr⟩⟩
                                    · rw [HN21.out] at h0; cases h0
                                    rw [HN21.out] at h0
                                    injection h0 with h0
                                    injection h0 with e1 e2
                                    subst e1 e2
                                    obtain ⟨pb, pe, rfl⟩ := owns_slice_n hr
                                    have HRO := Lib.hid hr
                                    clear hr
                                    have HK8 := Lib.hid ((Kept.refl wd).drew.trans k8)
                                    clear k8
                                    dsimp only
                                    refine hK _ _ ?_; clear hK K
                                    refine wpAny_take (i := 9) (v := .tuple #[.agg #[.string pp.name, .slice pb pp.params.length pe, .string pp.res], .string qq, .bool true]) rfl (by kernel_rfl) (by kernel_rfl) (by kernel_rfl) (fun _ _ _ h => h) (Or.inl ⟨by kernel_rfl, by intro w; kernel_rfl⟩) ?_
                                    refine wpAny_take (i := 10) (v := .agg #[.string pp.name, .slice pb pp.params.length pe, .string pp.res]) rfl (by kernel_rfl) (by kernel_rfl) (by kernel_rfl) (fun _ _ _ h => h) (Or.inl ⟨by kernel_rfl, by intro w; kernel_rfl⟩) ?_
                                    refine wpAny_take (i := 11) (v := .string qq) rfl (by kernel_rfl) (by kernel_rfl) (by kernel_rfl) (fun _ _ _ h => h) (Or.inl ⟨by kernel_rfl, by intro w; kernel_rfl⟩) ?_
                                    refine wpAny_take (i := 12) (v := .bool true) rfl (by kernel_rfl) (by kernel_rfl) (by kernel_rfl) (fun _ _ _ h => h) (Or.inl ⟨by kernel_rfl, by intro w; kernel_rfl⟩) ?_
                                    refine wpAny_ready (rs := [13]) (by kernel_rfl) (by simp) ?_
                                    refine AllReady.cons rfl (fun K hK => ?_) ?_
                                    · go_simp
                                      refine hK _ _ ?_; clear hK K
                                      refine wpAny_ready (rs := [14]) (by kernel_rfl) (by simp) ?_
                                      refine AllReady.cons rfl (fun K hK => ?_) ?_
                                      · go_simp
                                        refine hK _ _ ?_; clear hK K
                                        refine wpAny_take (i := 15) (v := .string qq) rfl (by kernel_rfl) (by kernel_rfl) (by kernel_rfl) (fun _ _ _ h => h) (Or.inl ⟨by kernel_rfl, by intro w; kernel_rfl⟩) ?_
                                        refine wpAny_take (i := 16) (v := .bool true) rfl (by kernel_rfl) (by kernel_rfl) (by kernel_rfl) (fun _ _ _ h => h) (Or.inl ⟨by kernel_rfl, by intro w; kernel_rfl⟩) ?_
                                        refine wpAny_done (by kernel_rfl) ?_ _
                                        have HS := Lib.hid (sb2 (a := .string pp.name) (b := .slice pb pp.params.length pe) (c := .string pp.res) HK8.out)
                                        have HRW := Lib.hid (par2 (o := .cells #[.string pp.name, .slice pb pp.params.length pe, .string pp.res] 26) HRO.out)
                                        generalize w8.heap.size = PP at HS ⊢
                                        refine ⟨PP, pb, pe, ?_, HS.out, HRW.out⟩
                                        go_simp
                                        try rfl
                                      exact AllReady.nil
                                    exact AllReady.nil
                                  refine AllReady.cons rfl (fun K hK => ?_) ?_
                                  · go_simp
                                    refine hK _ _ ?_; clear hK K
                                    refine wpAny_ready (rs := [8]) (by kernel_rfl) (by simp) ?_
                                    refine AllReady.cons rfl (fun K hK => ?_) ?_
                                    · go_simp
                                      go_wp2_with fail
                                      refine (HC21.out _ ((Kept.refl wd).drew.alloc _)).mono ?_
                                      rintro e w8 ⟨k8, ⟨h0, rfl⟩ | ⟨m', own', p', h0, rfl, hr⟩⟩
                                      · rw [HN21.out] at h0; cases h0
                                      rw [HN21.out] at h0
                                      injection h0 with h0
                                      injection h0 with e1 e2
                                      subst e1 e2
                                      obtain ⟨pb, pe, rfl⟩ := owns_slice_n hr
                                      have HRO := Lib.hid hr
                                      clear hr
                                      have HK8 := Lib.hid (((Kept.refl wd).drew.alloc (.cells #[.string ⟨#[]⟩, .slice none 0 0, .string ⟨#[]⟩] 26)).trans k8)
                                      have hb8 := (Blk.new wd.drew 26 #[.string ⟨#[]⟩, .slice none 0 0, .string ⟨#[]⟩]).kept k8
                                      rw [show wd.drew.heap.size = wd.heap.size from rfl] at hb8
                                      have HB8 := Lib.hid hb8
                                      have b0 := hb8.cell 0
                                      have b1 := hb8.cell 1
                                      have b2 := hb8.cell 2
                                      have g0 := hb8.frozen 0
                                      have g1 := hb8.frozen 1
                                      have g2 := hb8.frozen 2
                                      simp only [List.getElem?_toArray, List.getElem?_cons_zero, List.getElem?_cons_succ] at b0 b1 b2
                                      clear hb8 k8
                                      dsimp only
                                      refine hK _ _ ?_; clear hK K
                                      refine wpAny_take (i := 9) (v := .tuple #[.agg #[.string pp.name, .slice pb pp.params.length pe, .string pp.res], .string qq, .bool true]) rfl (by kernel_rfl) (by kernel_rfl) (by kernel_rfl) (fun _ _ _ h => h) (Or.inl ⟨by kernel_rfl, by intro w; kernel_rfl⟩) ?_
                                      refine wpAny_take (i := 10) (v := .agg #[.string pp.name, .slice pb pp.params.length pe, .string pp.res]) rfl (by kernel_rfl) (by kernel_rfl) (by kernel_rfl) (fun _ _ _ h => h) (Or.inl ⟨by kernel_rfl, by intro w; kernel_rfl⟩) ?_
                                      refine wpAny_take (i := 11) (v := .string qq) rfl (by kernel_rfl) (by kernel_rfl) (by kernel_rfl) (fun _ _ _ h => h) (Or.inl ⟨by kernel_rfl, by intro w; kernel_rfl⟩) ?_
                                      refine wpAny_take (i := 12) (v := .bool true) rfl (by kernel_rfl) (by kernel_rfl) (by kernel_rfl) (fun _ _ _ h => h) (Or.inl ⟨by kernel_rfl, by intro w; kernel_rfl⟩) ?_
                                      refine wpAny_ready (rs := [14]) (by kernel_rfl) (by simp) ?_
                                      refine AllReady.cons rfl (fun K hK => ?_) ?_
                                      · go_simp
                                        refine hK _ _ ?_; clear hK K
                                        refine wpAny_take (i := 15) (v := .string qq) rfl (by kernel_rfl) (by kernel_rfl) (by kernel_rfl) (fun _ _ _ h => h) (Or.inl ⟨by kernel_rfl, by intro w; kernel_rfl⟩) ?_
                                        refine wpAny_take (i := 16) (v := .bool true) rfl (by kernel_rfl) (by kernel_rfl) (by kernel_rfl) (fun _ _ _ h => h) (Or.inl ⟨by kernel_rfl, by intro w; kernel_rfl⟩) ?_
                                        refine wpAny_done (by kernel_rfl) ?_ _
                                        have HS := Lib.hid (sb1 (a := .string pp.name) (b := .slice pb pp.params.length pe) (c := .string pp.res) (Nat.le_refl _) HB8.out HK8.out)
                                        have HRW := Lib.hid (par1 (a := .string pp.name) (b := .slice pb pp.params.length pe) (c := .string pp.res) HRO.out (show wd.heap.size < _ by simp))
                                        generalize wd.heap.size = PP at HS HRW ⊢
                                        refine ⟨PP, pb, pe, ?_, HS.out, HRW.out⟩
                                        go_simp
                                        try rfl
                                      exact AllReady.nil
                                    exact AllReady.nil
                                  exact AllReady.nil
                                refine AllReady.cons rfl (fun K hK => ?_) ?_
                                · go_simp
                                  refine hK _ _ ?_; clear hK K
                                  refine wpAny_ready (rs := [7]) (by kernel_rfl) (by simp) ?_
                                  refine AllReady.cons rfl (fun K hK => ?_) ?_
                                  · go_simp
                                    refine hK _ _ ?_; clear hK K
                                    refine wpAny_ready (rs := [8]) (by kernel_rfl) (by simp) ?_
                                    refine AllReady.cons rfl (fun K hK => ?_) ?_
                                    · go_simp
                                      go_wp2_with fail
                                      refine (HC21.out _ ((Kept.refl wd).drew.alloc _)).mono ?_
                                      rintro e w8 ⟨k8, ⟨h0, rfl⟩ | ⟨m', own', p', h0, rfl, hr⟩⟩
                                      · rw [HN21.out] at h0; cases h0
                                      rw [HN21.out] at h0
                                      injection h0 with h0
                                      injection h0 with e1 e2
                                      subst e1 e2
                                      obtain ⟨pb, pe, rfl⟩ := owns_slice_n hr
                                      have HRO := Lib.hid hr
                                      clear hr
                                      have HK8 := Lib.hid (((Kept.refl wd).drew.alloc (.cells #[.string ⟨#[]⟩, .slice none 0 0, .string ⟨#[]⟩] 26)).trans k8)
                                      have hb8 := (Blk.new wd.drew 26 #[.string ⟨#[]⟩, .slice none 0 0, .string ⟨#[]⟩]).kept k8
                                      rw [show wd.drew.heap.size = wd.heap.size from rfl] at hb8
                                      have HB8 := Lib.hid hb8
                                      have b0 := hb8.cell 0
                                      have b1 := hb8.cell 1
                                      have b2 := hb8.cell 2
                                      have g0 := hb8.frozen 0
                                      have g1 := hb8.frozen 1
                                      have g2 := hb8.frozen 2
                                      simp only [List.getElem?_toArray, List.getElem?_cons_zero, List.getElem?_cons_succ] at b0 b1 b2
                                      clear hb8 k8
                                      dsimp only
                                      refine hK _ _ ?_; clear hK K
                                      refine wpAny_take (i := 9) (v := .tuple #[.agg #[.string pp.name, .slice pb pp.params.length pe, .string pp.res], .string qq, .bool true]) rfl (by kernel_rfl) (by kernel_rfl) (by kernel_rfl) (fun _ _ _ h => h) (Or.inl ⟨by kernel_rfl, by intro w; kernel_rfl⟩) ?_
                                      refine wpAny_take (i := 10) (v := .agg #[.string pp.name, .slice pb pp.params.length pe, .string pp.res]) rfl (by kernel_rfl) (by kernel_rfl) (by kernel_rfl) (fun _ _ _ h => h) (Or.inl ⟨by kernel_rfl, by intro w; kernel_rfl⟩) ?_
                                      refine wpAny_take (i := 11) (v := .string qq) rfl (by kernel_rfl) (by kernel_rfl) (by kernel_rfl) (fun _ _ _ h => h) (Or.inl ⟨by kernel_rfl, by intro w; kernel_rfl⟩) ?_
                                      refine wpAny_take (i := 12) (v := .bool true) rfl (by kernel_rfl) (by kernel_rfl) (by kernel_rfl) (fun _ _ _ h => h) (Or.inl ⟨by kernel_rfl, by intro w; kernel_rfl⟩) ?_
                                      refine wpAny_ready (rs := [14]) (by kernel_rfl) (by simp) ?_
                                      refine AllReady.cons rfl (fun K hK => ?_) ?_
                                      · go_simp
                                        refine hK _ _ ?_; clear hK K
                                        refine wpAny_take (i := 15) (v := .string qq) rfl (by kernel_rfl) (by kernel_rfl) (by kernel_rfl) (fun _ _ _ h => h) (Or.inl ⟨by kernel_rfl, by intro w; kernel_rfl⟩) ?_
                                        refine wpAny_take (i := 16) (v := .bool true) rfl (by kernel_rfl) (by kernel_rfl) (by kernel_rfl) (fun _ _ _ h => h) (Or.inl ⟨by kernel_rfl, by intro w; kernel_rfl⟩) ?_
                                        refine wpAny_done (by kernel_rfl) ?_ _
                                        have HS := Lib.hid (sb1 (a := .string pp.name) (b := .slice pb pp.params.length pe) (c := .string pp.res) (Nat.le_refl _) HB8.out HK8.out)
                                        have HRW := Lib.hid (par1 (a := .string pp.name) (b := .slice pb pp.params.length pe) (c := .string pp.res) HRO.out (show wd.heap.size < _ by simp))
                                        generalize wd.heap.size = PP at HS HRW ⊢
                                        refine ⟨PP, pb, pe, ?_, HS.out, HRW.out⟩
                                        go_simp
                                        try rfl
                                      exact AllReady.nil
                                    exact AllReady.nil
                                  exact AllReady.nil
                                exact AllReady.nil
                              refine AllReady.cons rfl (fun K hK => ?_) ?_
                              · go_simp
                                refine hK _ _ ?_; clear hK K
                                refine wpAny_ready (rs := [2, 13]) (by kernel_rfl) (by simp) ?_
                                refine AllReady.cons rfl (fun K hK => ?_) ?_
                                · go_simp
                                  refine hK _ _ ?_; clear hK K
                                  refine wpAny_ready (rs := [8, 13]) (by kernel_rfl) (by simp) ?_
                                  refine AllReady.cons rfl (fun K hK => ?_) ?_
                                  · go_simp
                                    go_wp2_with fail
                                    refine (HC21.out _ (Kept.refl wd).drew).mono ?_
                                    rintro e w8 ⟨k8, ⟨h0, rfl⟩ | ⟨m', own', p', h0, rfl, hr⟩⟩
                                    · rw [HN21.out] at h0; cases h0
                                    rw [HN21.out] at h0
                                    injection h0 with h0
                                    injection h0 with e1 e2
                                    subst e1 e2
                                    obtain ⟨pb, pe, rfl⟩ := owns_slice_n hr
                                    have HRO := Lib.hid hr
                                    clear hr
                                    have HK8 := Lib.hid ((Kept.refl wd).drew.trans k8)
                                    clear k8
                                    dsimp only
                                    refine hK _ _ ?_; clear hK K
                                    refine wpAny_take (i := 9) (v := .tuple #[.agg #[.string pp.name, .slice pb pp.params.length pe, .string pp.res], .string qq, .bool true]) rfl (by kernel_rfl) (by kernel_rfl) (by kernel_rfl) (fun _ _ _ h => h) (Or.inl ⟨by kernel_rfl, by intro w; kernel_rfl⟩) ?_
                                    refine wpAny_take (i := 10) (v := .agg #[.string pp.name, .slice pb pp.params.length pe, .string pp.res]) rfl (by kernel_rfl) (by kernel_rfl) (by kernel_rfl) (fun _ _ _ h => h) (Or.inl ⟨by kernel_rfl, by intro w; kernel_rfl⟩) ?_
                                    refine wpAny_take (i := 11) (v := .string qq) rfl (by kernel_rfl) (by kernel_rfl) (by kernel_rfl) (fun _ _ _ h => h) (Or.inl ⟨by kernel_rfl, by intro w; kernel_rfl⟩) ?_
                                    refine wpAny_take (i := 12) (v := .bool true) rfl (by kernel_rfl) (by kernel_rfl) (by kernel_rfl) (fun _ _ _ h => h) (Or.inl ⟨by kernel_rfl, by intro w; kernel_rfl⟩) ?_
                                    refine wpAny_ready (rs := [13]) (by kernel_rfl) (by simp) ?_
                                    refine AllReady.cons rfl (fun K hK => ?_) ?_
                                    · go_simp
                                      refine hK _ _ ?_; clear hK K
                                      refine wpAny_ready (rs := [14]) (by kernel_rfl) (by simp) ?_
                                      refine AllReady.cons rfl (fun K hK => ?_) ?_
                                      · go_simp
                                        refine hK _ _ ?_; clear hK K
                                        refine wpAny_take (i := 15) (v := .string qq) rfl (by kernel_rfl) (by kernel_rfl) (by kernel_rfl) (fun _ _ _ h => h) (Or.inl ⟨by kernel_rfl, by intro w; kernel_rfl⟩) ?_
                                        refine wpAny_take (i := 16) (v := .bool true) rfl (by kernel_rfl) (by kernel_rfl) (by kernel_rfl) (fun _ _ _ h => h) (Or.inl ⟨by kernel_rfl, by intro w; kernel_rfl⟩) ?_
                                        refine wpAny_done (by kernel_rfl) ?_ _
                                        have HS := Lib.hid (sb2 (a := .string pp.name) (b := .slice pb pp.params.length pe) (c := .string pp.res) HK8.out)
                                        have HRW := Lib.hid (par2 (o := .cells #[.string pp.name, .slice pb pp.params.length pe, .string pp.res] 26) HRO.out)
                                        generalize w8.heap.size = PP at HS ⊢
                                        refine ⟨PP, pb, pe, ?_, HS.out, HRW.out⟩
                                        go_simp
                                        try rfl
                                      exact AllReady.nil
                                    exact AllReady.nil
                                  refine AllReady.cons rfl (fun K hK => ?_) ?_
                                  · go_simp
                                    refine hK _ _ ?_; clear hK K
                                    refine wpAny_ready (rs := [8]) (by kernel_rfl) (by simp) ?_
                                    refine AllReady.cons rfl (fun K hK => ?_) ?_
                                    · go_simp
                                      go_wp2_with fail
                                      refine (HC21.out _ ((Kept.refl wd).drew.alloc _)).mono ?_
                                      rintro e w8 ⟨k8, ⟨h0, rfl⟩ | ⟨m', own', p', h0, rfl, hr⟩⟩
                                      · rw [HN21.out] at h0; cases h0
                                      rw [HN21.out] at h0
                                      injection h0 with h0
                                      injection h0 with e1 e2
                                      subst e1 e2
                                      obtain ⟨pb, pe, rfl⟩ := owns_slice_n hr
                                      have HRO := Lib.hid hr
                                      clear hr
                                      have HK8 := Lib.hid (((Kept.refl wd).drew.alloc (.cells #[.string ⟨#[]⟩, .slice none 0 0, .string ⟨#[]⟩] 26)).trans k8)
                                      have hb8 := (Blk.new wd.drew 26 #[.string ⟨#[]⟩, .slice none 0 0, .string ⟨#[]⟩]).kept k8
                                      rw [show wd.drew.heap.size = wd.heap.size from rfl] at hb8
                                      have HB8 := Lib.hid hb8
                                      have b0 := hb8.cell 0
                                      have b1 := hb8.cell 1
                                      have b2 := hb8.cell 2
                                      have g0 := hb8.frozen 0
                                      have g1 := hb8.frozen 1
                                      have g2 := hb8.frozen 2
                                      simp only [List.getElem?_toArray, List.getElem?_cons_zero, List.getElem?_cons_succ] at b0 b1 b2
                                      clear hb8 k8
                                      dsimp only
                                      refine hK _ _ ?_; clear hK K
                                      refine wpAny_take (i := 9) (v := .tuple #[.agg #[.string pp.name, .slice pb pp.params.length pe, .string pp.res], .string qq, .bool true]) rfl (by kernel_rfl) (by kernel_rfl) (by kernel_rfl) (fun _ _ _ h => h) (Or.inl ⟨by kernel_rfl, by intro w; kernel_rfl⟩) ?_
                                      refine wpAny_take (i := 10) (v := .agg #[.string pp.name, .slice pb pp.params.length pe, .string pp.res]) rfl (by kernel_rfl) (by kernel_rfl) (by kernel_rfl) (fun _ _ _ h => h) (Or.inl ⟨by kernel_rfl, by intro w; kernel_rfl⟩) ?_
                                      refine wpAny_take (i := 11) (v := .string qq) rfl (by kernel_rfl) (by kernel_rfl) (by kernel_rfl) (fun _ _ _ h => h) (Or.inl ⟨by kernel_rfl, by intro w; kernel_rfl⟩) ?_
                                      refine wpAny_take (i := 12) (v := .bool true) rfl (by kernel_rfl) (by kernel_rfl) (by kernel_rfl) (fun _ _ _ h => h) (Or.inl ⟨by kernel_rfl, by intro w; kernel_rfl⟩) ?_
                                      refine wpAny_ready (rs := [14]) (by kernel_rfl) (by simp) ?_
                                      refine AllReady.cons rfl (fun K hK => ?_) ?_
                                      · go_simp
                                        refine hK _ _ ?_; clear hK K
                                        refine wpAny_take (i := 15) (v := .string qq) rfl (by kernel_rfl) (by kernel_rfl) (by kernel_rfl) (fun _ _ _ h => h) (Or.inl ⟨by kernel_rfl, by intro w; kernel_rfl⟩) ?_
                                        refine wpAny_take (i := 16) (v := .bool true) rfl (by kernel_rfl) (by kernel_rfl) (by kernel_rfl) (fun _ _ _ h => h) (Or.inl ⟨by kernel_rfl, by intro w; kernel_rfl⟩) ?_
                                        refine wpAny_done (by kernel_rfl) ?_ _
                                        have HS := Lib.hid (sb1 (a := .string pp.name) (b := .slice pb pp.params.length pe) (c := .string pp.res) (Nat.le_refl _) HB8.out HK8.out)
                                        have HRW := Lib.hid (par1 (a := .string pp.name) (b := .slice pb pp.params.length pe) (c := .string pp.res) HRO.out (show wd.heap.size < _ by simp))
                                        generalize wd.heap.size = PP at HS HRW ⊢
                                        refine ⟨PP, pb, pe, ?_, HS.out, HRW.out⟩
                                        go_simp
                                        try rfl
                                      exact AllReady.nil
                                    exact AllReady.nil
                                  exact AllReady.nil
                                refine AllReady.cons rfl (fun K hK => ?_) ?_
                                · go_simp
                                  refine hK _ _ ?_; clear hK K
                                  refine wpAny_ready (rs := [2]) (by kernel_rfl) (by simp) ?_
                                  refine AllReady.cons rfl (fun K hK => ?_) ?_
                                  · go_simp
                                    refine hK _ _ ?_; clear hK K
                                    refine wpAny_ready (rs := [8]) (by kernel_rfl) (by simp) ?_
                                    refine AllReady.cons rfl (fun K hK => ?_) ?_
                                    · go_simp
                                      go_wp2_with fail
                                      refine (HC21.out _ ((Kept.refl wd).drew.alloc _)).mono ?_
                                      rintro e w8 ⟨k8, ⟨h0, rfl⟩ | ⟨m', own', p', h0, rfl, hr⟩⟩
                                      · rw [HN21.out] at h0; cases h0
                                      rw [HN21.out] at h0
                                      injection h0 with h0
                                      injection h0 with e1 e2
                                      subst e1 e2
                                      obtain ⟨pb, pe, rfl⟩ := owns_slice_n hr
                                      have HRO := Lib.hid hr
                                      clear hr
                                      have HK8 := Lib.hid (((Kept.refl wd).drew.alloc (.cells #[.string ⟨#[]⟩, .slice none 0 0, .string ⟨#[]⟩] 26)).trans k8)
                                      have hb8 := (Blk.new wd.drew 26 #[.string ⟨#[]⟩, .slice none 0 0, .string ⟨#[]⟩]).kept k8
                                      rw [show wd.drew.heap.size = wd.heap.size from rfl] at hb8
                                      have HB8 := Lib.hid hb8
                                      have b0 := hb8.cell 0
                                      have b1 := hb8.cell 1
                                      have b2 := hb8.cell 2
                                      have g0 := hb8.frozen 0
                                      have g1 := hb8.frozen 1
                                      have g2 := hb8.frozen 2
                                      simp only [List.getElem?_toArray, List.getElem?_cons_zero, List.getElem?_cons_succ] at b0 b1 b2
                                      clear hb8 k8
                                      dsimp only
                                      refine hK _ _ ?_; clear hK K
                                      refine wpAny_take (i := 9) (v := .tuple #[.agg #[.string pp.name, .slice pb pp.params.length pe, .string pp.res], .string qq, .bool true]) rfl (by kernel_rfl) (by kernel_rfl) (by kernel_rfl) (fun _ _ _ h => h) (Or.inl ⟨by kernel_rfl, by intro w; kernel_rfl⟩) ?_
                                      refine wpAny_take (i := 10) (v := .agg #[.string pp.name, .slice pb pp.params.length pe, .string pp.res]) rfl (by kernel_rfl) (by kernel_rfl) (by kernel_rfl) (fun _ _ _ h => h) (Or.inl ⟨by kernel_rfl, by intro w; kernel_rfl⟩) ?_
                                      refine wpAny_take (i := 11) (v := .string qq) rfl (by kernel_rfl) (by kernel_rfl) (by kernel_rfl) (fun _ _ _ h => h) (Or.inl ⟨by kernel_rfl, by intro w; kernel_rfl⟩) ?_
                                      refine wpAny_take (i := 12) (v := .bool true) rfl (by kernel_rfl) (by kernel_rfl) (by kernel_rfl) (fun _ _ _ h => h) (Or.inl ⟨by kernel_rfl, by intro w; kernel_rfl⟩) ?_
                                      refine wpAny_ready (rs := [14]) (by kernel_rfl) (by simp) ?_
                                      refine AllReady.cons rfl (fun K hK => ?_) ?_
                                      · go_simp
                                        refine hK _ _ ?_; clear hK K
                                        refine wpAny_take (i := 15) (v := .string qq) rfl (by kernel_rfl) (by kernel_rfl) (by kernel_rfl) (fun _ _ _ h => h) (Or.inl ⟨by kernel_rfl, by intro w; kernel_rfl⟩) ?_
                                        refine wpAny_take (i := 16) (v := .bool true) rfl (by kernel_rfl) (by kernel_rfl) (by kernel_rfl) (fun _ _ _ h => h) (Or.inl ⟨by kernel_rfl, by intro w; kernel_rfl⟩) ?_
                                        refine wpAny_done (by kernel_rfl) ?_ _
                                        have HS := Lib.hid (sb1 (a := .string pp.name) (b := .slice pb pp.params.length pe) (c := .string pp.res) (Nat.le_refl _) HB8.out HK8.out)
                                        have HRW := Lib.hid (par1 (a := .string pp.name) (b := .slice pb pp.params.length pe) (c := .string pp.res) HRO.out (show wd.heap.size < _ by simp))
                                        generalize wd.heap.size = PP at HS HRW ⊢
                                        refine ⟨PP, pb, pe, ?_, HS.out, HRW.out⟩
                                        go_simp
                                        try rfl
                                      exact AllReady.nil
                                    exact AllReady.nil
                                  exact AllReady.nil
                                exact AllReady.nil
                              refine AllReady.cons rfl (fun K hK => ?_) ?_
                              · go_simp
                                refine hK _ _ ?_; clear hK K
                                refine wpAny_ready (rs := [2, 7]) (by kernel_rfl) (by simp) ?_
                                refine AllReady.cons rfl (fun K hK => ?_) ?_
                                · go_simp
                                  refine hK _ _ ?_; clear hK K
                                  refine wpAny_ready (rs := [7]) (by kernel_rfl) (by simp) ?_
                                  refine AllReady.cons rfl (fun K hK => ?_) ?_
                                  · go_simp
                                    refine hK _ _ ?_; clear hK K
                                    refine wpAny_ready (rs := [8]) (by kernel_rfl) (by simp) ?_
                                    refine AllReady.cons rfl (fun K hK => ?_) ?_
                                    · go_simp
                                      go_wp2_with fail
                                      refine (HC21.out _ ((Kept.refl wd).drew.alloc _)).mono ?_
                                      rintro e w8 ⟨k8, ⟨h0, rfl⟩ | ⟨m', own', p', h0, rfl, hr⟩⟩
                                      · rw [HN21.out] at h0; cases h0
                                      rw [HN21.out] at h0
                                      injection h0 with h0
                                      injection h0 with e1 e2
                                      subst e1 e2
                                      obtain ⟨pb, pe, rfl⟩ := owns_slice_n hr
                                      have HRO := Lib.hid hr
                                      clear hr
                                      have HK8 := Lib.hid (((Kept.refl wd).drew.alloc (.cells #[.string ⟨#[]⟩, .slice none 0 0, .string ⟨#[]⟩] 26)).trans k8)
                                      have hb8 := (Blk.new wd.drew 26 #[.string ⟨#[]⟩, .slice none 0 0, .string ⟨#[]⟩]).kept k8
                                      rw [show wd.drew.heap.size = wd.heap.size from rfl] at hb8
                                      have HB8 := Lib.hid hb8
                                      have b0 := hb8.cell 0
                                      have b1 := hb8.cell 1
                                      have b2 := hb8.cell 2
                                      have g0 := hb8.frozen 0
                                      have g1 := hb8.frozen 1
                                      have g2 := hb8.frozen 2
                                      simp only [List.getElem?_toArray, List.getElem?_cons_zero, List.getElem?_cons_succ] at b0 b1 b2
                                      clear hb8 k8
                                      dsimp only
                                      refine hK _ _ ?_; clear hK K
                                      refine wpAny_take (i := 9) (v := .tuple #[.agg #[.string pp.name, .slice pb pp.params.length pe, .string pp.res], .string qq, .bool true]) rfl (by kernel_rfl) (by kernel_rfl) (by kernel_rfl) (fun _ _ _ h => h) (Or.inl ⟨by kernel_rfl, by intro w; kernel_rfl⟩) ?_
                                      refine wpAny_take (i := 10) (v := .agg #[.string pp.name, .slice pb pp.params.length pe, .string pp.res]) rfl (by kernel_rfl) (by kernel_rfl) (by kernel_rfl) (fun _ _ _ h => h) (Or.inl ⟨by kernel_rfl, by intro w; kernel_rfl⟩) ?_
                                      refine wpAny_take (i := 11) (v := .string qq) rfl (by kernel_rfl) (by kernel_rfl) (by kernel_rfl) (fun _ _ _ h => h) (Or.inl ⟨by kernel_rfl, by intro w; kernel_rfl⟩) ?_
                                      refine wpAny_take (i := 12) (v := .bool true) rfl (by kernel_rfl) (by kernel_rfl) (by kernel_rfl) (fun _ _ _ h => h) (Or.inl ⟨by kernel_rfl, by intro w; kernel_rfl⟩) ?_
                                      refine wpAny_ready (rs := [14]) (by kernel_rfl) (by simp) ?_
                                      refine AllReady.cons rfl (fun K hK => ?_) ?_
                                      · go_simp
                                        refine hK _ _ ?_; clear hK K
                                        refine wpAny_take (i := 15) (v := .string qq) rfl (by kernel_rfl) (by kernel_rfl) (by kernel_rfl) (fun _ _ _ h => h) (Or.inl ⟨by kernel_rfl, by intro w; kernel_rfl⟩) ?_
                                        refine wpAny_take (i := 16) (v := .bool true) rfl (by kernel_rfl) (by kernel_rfl) (by kernel_rfl) (fun _ _ _ h => h) (Or.inl ⟨by kernel_rfl, by intro w; kernel_rfl⟩) ?_
                                        refine wpAny_done (by kernel_rfl) ?_ _
                                        have HS := Lib.hid (sb1 (a := .string pp.name) (b := .slice pb pp.params.length pe) (c := .string pp.res) (Nat.le_refl _) HB8.out HK8.out)
                                        have HRW := Lib.hid (par1 (a := .string pp.name) (b := .slice pb pp.params.length pe) (c := .string pp.res) HRO.out (show wd.heap.size < _ by simp))
                                        generalize wd.heap.size = PP at HS HRW ⊢
                                        refine ⟨PP, pb, pe, ?_, HS.out, HRW.out⟩
                                        go_simp
                                        try rfl
                                      exact AllReady.nil
                                    exact AllReady.nil
                                  exact AllReady.nil
                                refine AllReady.cons rfl (fun K hK => ?_) ?_
                                · go_simp
                                  refine hK _ _ ?_; clear hK K
                                  refine wpAny_ready (rs := [2]) (by kernel_rfl) (by simp) ?_
                                  refine AllReady.cons rfl (fun K hK => ?_) ?_
                                  · go_simp
                                    refine hK _ _ ?_; clear hK K
                                    refine wpAny_ready (rs := [8]) (by kernel_rfl) (by simp) ?_
                                    refine AllReady.cons rfl (fun K hK => ?_) ?_
                                    · go_simp
                                      go_wp2_with fail
                                      refine (HC21.out _ ((Kept.refl wd).drew.alloc _)).mono ?_
                                      rintro e w8 ⟨k8, ⟨h0, rfl⟩ | ⟨m', own', p', h0, rfl, hr⟩⟩
                                      · rw [HN21.out] at h0; cases h0
                                      rw [HN21.out] at h0
                                      injection h0 with h0
                                      injection h0 with e1 e2
                                      subst e1 e2
                                      obtain ⟨pb, pe, rfl⟩ := owns_slice_n hr
                                      have HRO := Lib.hid hr
                                      clear hr
                                      have HK8 := Lib.hid (((Kept.refl wd).drew.alloc (.cells #[.string ⟨#[]⟩, .slice none 0 0, .string ⟨#[]⟩] 26)).trans k8)
                                      have hb8 := (Blk.new wd.drew 26 #[.string ⟨#[]⟩, .slice none 0 0, .string ⟨#[]⟩]).kept k8
                                      rw [show wd.drew.heap.size = wd.heap.size from rfl] at hb8
                                      have HB8 := Lib.hid hb8
                                      have b0 := hb8.cell 0
                                      have b1 := hb8.cell 1
                                      have b2 := hb8.cell 2
                                      have g0 := hb8.frozen 0
                                      have g1 := hb8.frozen 1
                                      have g2 := hb8.frozen 2
                                      simp only [List.getElem?_toArray, List.getElem?_cons_zero, List.getElem?_cons_succ] at b0 b1 b2
                                      clear hb8 k8
                                      dsimp only
                                      refine hK _ _ ?_; clear hK K
                                      refine wpAny_take (i := 9) (v := .tuple #[.agg #[.string pp.name, .slice pb pp.params.length pe, .string pp.res], .string qq, .bool true]) rfl (by kernel_rfl) (by kernel_rfl) (by kernel_rfl) (fun _ _ _ h => h) (Or.inl ⟨by kernel_rfl, by intro w; kernel_rfl⟩) ?_
                                      refine wpAny_take (i := 10) (v := .agg #[.string pp.name, .slice pb pp.params.length pe, .string pp.res]) rfl (by kernel_rfl) (by kernel_rfl) (by kernel_rfl) (fun _ _ _ h => h) (Or.inl ⟨by kernel_rfl, by intro w; kernel_rfl⟩) ?_
                                      refine wpAny_take (i := 11) (v := .string qq) rfl (by kernel_rfl) (by kernel_rfl) (by kernel_rfl) (fun _ _ _ h => h) (Or.inl ⟨by kernel_rfl, by intro w; kernel_rfl⟩) ?_
                                      refine wpAny_take (i := 12) (v := .bool true) rfl (by kernel_rfl) (by kernel_rfl) (by kernel_rfl) (fun _ _ _ h => h) (Or.inl ⟨by kernel_rfl, by intro w; kernel_rfl⟩) ?_
                                      refine wpAny_ready (rs := [14]) (by kernel_rfl) (by simp) ?_
                                      refine AllReady.cons rfl (fun K hK => ?_) ?_
                                      · go_simp
                                        refine hK _ _ ?_; clear hK K
                                        refine wpAny_take (i := 15) (v := .string qq) rfl (by kernel_rfl) (by kernel_rfl) (by kernel_rfl) (fun _ _ _ h => h) (Or.inl ⟨by kernel_rfl, by intro w; kernel_rfl⟩) ?_
                                        refine wpAny_take (i := 16) (v := .bool true) rfl (by kernel_rfl) (by kernel_rfl) (by kernel_rfl) (fun _ _ _ h => h) (Or.inl ⟨by kernel_rfl, by intro w; kernel_rfl⟩) ?_
                                        refine wpAny_done (by kernel_rfl) ?_ _
                                        have HS := Lib.hid (sb1 (a := .string pp.name) (b := .slice pb pp.params.length pe) (c := .string pp.res) (Nat.le_refl _) HB8.out HK8.out)
                                        have HRW := Lib.hid (par1 (a := .string pp.name) (b := .slice pb pp.params.length pe) (c := .string pp.res) HRO.out (show wd.heap.size < _ by simp))
                                        generalize wd.heap.size = PP at HS HRW ⊢
                                        refine ⟨PP, pb, pe, ?_, HS.out, HRW.out⟩
                                        go_simp
                                        try rfl
                                      exact AllReady.nil
                                    exact AllReady.nil
                                  exact AllReady.nil
                                exact AllReady.nil
                              exact AllReady.nil
                            case hk =>
                              intro P21 pb pe we hb
                              have HBX21 := Lib.hid hb.1.1
                              have HPR21 := Lib.hid hb.2
                              have HKs21 := Lib.hid hb.1.2
                              have HKr21 := Lib.hid (HKr20.out.trans hb.1.2)
                              clear hb z21 y21 z21a y21a HC21
                              have x20 := (HBX20.out.kept HKs21.out).cell 1
                              have x20r := (HBX20.out.kept HKs21.out).cell 2
                              have x21 := HBX21.out.cell 1
                              have x21r := HBX21.out.cell 2
                              simp only [List.getElem?_toArray, List.getElem?_cons_zero, List.getElem?_cons_succ] at x20 x20r x21 x21r
                              have y22 := HKr21.out.cell HMM.out.2
                              have hfq : ((Tab.field t sp y.1).getD ⟨#[]⟩).toList == ((Tab.field t sp y.1).getD ⟨#[]⟩).toList := beq_yes rfl
                              generalize (Tab.field t sp y.1).getD ⟨#[]⟩ = fx at *
                              generalize (Tab.field t sp y.1).isSome = fb at *
                              have hN : pp.params.length = mm.params.length := HPL.out
                              rw [hN] at x21
                              have hres : (mm.res.toList == pp.res.toList) = true := beq_yes HRS.out
                              obtain ⟨N, hNN⟩ : ∃ N, mm.params.length = N := ⟨_, rfl⟩
                              have HNN := Lib.hid hNN
                              have HNP := Lib.hid (hN.trans hNN)
                              rw [hNN] at x20 x21
                              have hN9 : N ≤ 9223372036854775807 := by have := HPR20.out; exact par_len (hNN ▸ this)
                              clear hN hNN
                              go_wp2_with fail
                              go_loopw [24] (fun q wr => ∃ j : Nat, j ≤ N ∧ q = .int .i64 j ∧ Kept we wr) (fun q wr => N - (intOf q).toNat)
                              case atStart => exact ⟨0, Nat.zero_le _, rfl, Kept.refl _⟩
                              case round =>
                                obtain ⟨j, hj, rfl, hkq⟩ := hrel
                                have HKQ := Lib.hid hkq
                                have x30 := hkq.cell x20
                                have x31 := hkq.cell x21
                                clear x20 x20r x21 x21r y22
                                by_cases hlj : j < N
                                · have hljI : (j : Int) < (N : Int) := by omega
                                  obtain ⟨ga, gb, ty, rfl, rfl, t0, t1, hc0, hc1⟩ := par_two (HPR20.out.kept (HKs21.out.trans hkq)) (HPR21.out.kept hkq) HTY.out HNN.out hlj (HNP.out)
                                  have htq : (ty.toList == ty.toList) = true := beq_yes rfl
                                  clear hkq
                                  go_wp2_with fail
                                  go_region
                                  all_goals
                                    go_wp2_with fail
                                    go_roundw
                                    case rel => exact ⟨j + 1, by omega, by go_num, HKQ.out.drew⟩
                                    case measure => simp [intOf]; omega
                                · have hljI : ¬ (j : Int) < (N : Int) := by omega
                                  clear hkq
                                  go_wp2_with fail
                                  go_roundw
                                  case rel => exact ⟨k + 1, by omega, by go_num, HKr21.out.trans HKQ.out⟩
                                  case measure => simp [intOf]; omega
                · have hlkI : ¬ (k : Int) < (l.length : Int) := by omega
                  clear hkp
                  go_wp2_with fail
                  go_ret
                  exact ⟨rfl, HK9.out.trans HKP.out⟩
        · go_wp2_with fail
          go_ret
          exact ⟨rfl, HK3.out⟩
      · go_wp2_with fail
        go_ret
        exact ⟨rfl, HK3.out⟩

end Go.Proofs.YtbjomddjbfgclaaDoor
