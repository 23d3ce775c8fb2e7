/- lack, hides; a range that strikes what another set lacks. -/
import Derived.Test.YtdceafncncgfbaaDoorCmm
import Derived.Test.YtdceafncncgfbaaDoorHlt
set_option linter.unusedSimpArgs false
set_option linter.unusedVariables false
set_option maxRecDepth 100000
namespace Go.Proofs.YtdceafncncgfbaaDoor
open Go.ChangeShapes Go.WideShapes Go.ChangeAt Go.RowKit Go.Shelf
open Go.Maps (Keyed)

theorem zero_unit (W : World) : (zeroValue 97).run Tryd.prog W = .ok (.agg #[]) W := by kernel_rfl

theorem lack_c (b n : Nat) (S : List Mbr) (p : Mbr) (w : World) (h : SetM b n S w) (hp : FineM p) :
    Calls Tryd.prog 58 #[.map (some b), mv p] w fun e w' => e = .returned (.bool (!decide (p ∈ S))) ∧ Kept w w' := by
  have hl := (h.kept ((Kept.refl w).alloc (.cells #[.string p.1, .int .i64 p.2] 33))).look (t := tMM) (e := 97) Tryd.underlying89 (zero_unit _) hp
  generalize decide (p ∈ S) = r at *
  clear h hp
  obtain ⟨s, k⟩ := p
  go_enter Tryd.func58, Tryd.ntmps58
  go_wp2
  go_ret
  exact ⟨rfl, ((Kept.refl _).alloc _).alloc _⟩

theorem hides_c (g b n : Nat) (v0 v2 : Value) (S : List Mbr) (p : Mbr) (w : World) (hg : Blk w g 91 #[v0, .map (some b), v2]) (h : SetM b n S w) (hp : FineM p) :
    Calls Tryd.prog 34 #[.pointer (some ⟨g, 0, none⟩), mv p] w fun e w' => e = .returned (.bool (!decide (p ∈ S))) ∧ Kept w w' := by
  obtain ⟨W1, hW1⟩ : ∃ W, w.alloc (.cells #[.string p.1, .int .i64 p.2] 33) = W := ⟨_, rfl⟩
  have k1 : Kept w W1 := by rw [← hW1]; exact (Kept.refl w).alloc _
  have b1 : Blk W1 w.heap.size 33 #[.string p.1, .int .i64 p.2] := by rw [← hW1]; exact Blk.new _ _ _
  have HC := Lib.hid (fun W (k : Kept w W) => lack_c b n S p W (h.kept k) hp)
  generalize decide (p ∈ S) = r at *
  have x1 := (hg.kept k1).cell 1
  have y0 := b1.cell 0
  have y1 := b1.cell 1
  simp at x1 y0 y1
  have HK := Lib.hid k1
  have HW1 := Lib.hid hW1
  clear h hp hg k1 b1 hW1
  obtain ⟨s, k⟩ := p
  go_enter Tryd.func34, Tryd.ntmps34
  go_wp2_with (first | rw [HW1.out])
  refine wp_region_held_drew (S := (fun W => W.cell? ⟨g, 1, none⟩ = some (.map (some b)) ∧ W.cell? ⟨w.heap.size, 0, none⟩ = some (.string s) ∧ W.cell? ⟨w.heap.size, 1, none⟩ = some (.int .i64 k) ∧ Kept W1 W)) (by kernel_rfl) ⟨x1, y0, y1, (Kept.refl _).drew⟩ (fun hHeld0 => ?_)
  refine wpAnyH_take (i := 0) (v := ?_) rfl (by kernel_rfl) (by kernel_rfl) (by kernel_rfl) (fun _ _ _ h => h) (Or.inl ⟨by kernel_rfl, ?_⟩) (by assumption) ?_
  rotate_left
  · intro w hSw; (try dsimp only at hSw); go_simp; (try with_reducible rfl)
  (try simp only [Act.put, List.getElem_toArray, List.getElem_cons_zero, List.getElem_cons_succ, List.setIfInBounds_toArray, List.set_cons_zero, List.set_cons_succ])
  refine wpAnyH_take (i := 1) (v := ?_) rfl (by kernel_rfl) (by kernel_rfl) (by kernel_rfl) (fun _ _ _ h => h) (Or.inl ⟨by kernel_rfl, ?_⟩) (by assumption) ?_
  rotate_left
  · intro w hSw; (try dsimp only at hSw); go_simp; (try with_reducible rfl)
  (try simp only [Act.put, List.getElem_toArray, List.getElem_cons_zero, List.getElem_cons_succ, List.setIfInBounds_toArray, List.set_cons_zero, List.set_cons_succ])
  refine wpAnyH_take (i := 2) (v := ?_) rfl (by kernel_rfl) (by kernel_rfl) (by kernel_rfl) (fun _ _ _ h => h) (Or.inl ⟨by kernel_rfl, ?_⟩) (by assumption) ?_
  rotate_left
  · intro w hSw; (try dsimp only at hSw); go_simp; (try with_reducible rfl)
  (try simp only [Act.put, List.getElem_toArray, List.getElem_cons_zero, List.getElem_cons_succ, List.setIfInBounds_toArray, List.set_cons_zero, List.set_cons_succ])
  refine wpAnyH_take (i := 3) (v := ?_) rfl (by kernel_rfl) (by kernel_rfl) (by kernel_rfl) (fun _ _ _ h => h) (Or.inl ⟨by kernel_rfl, ?_⟩) (by assumption) ?_
  rotate_left
  · intro w hSw; (try dsimp only at hSw); go_simp; (try with_reducible rfl)
  (try simp only [Act.put, List.getElem_toArray, List.getElem_cons_zero, List.getElem_cons_succ, List.setIfInBounds_toArray, List.set_cons_zero, List.set_cons_succ])
  refine wpAnyH_take (i := 4) (v := ?_) rfl (by kernel_rfl) (by kernel_rfl) (by kernel_rfl) (fun _ _ _ h => h) (Or.inl ⟨by kernel_rfl, ?_⟩) (by assumption) ?_
  rotate_left
  · intro w hSw; (try dsimp only at hSw); go_simp; (try with_reducible rfl)
  (try simp only [Act.put, List.getElem_toArray, List.getElem_cons_zero, List.getElem_cons_succ, List.setIfInBounds_toArray, List.set_cons_zero, List.set_cons_succ])
  refine wpAnyH_ready (rs := [5]) (by kernel_rfl) (by simp) ?_
  refine AllReadyH.cons rfl (fun K hK => ?_) AllReadyH.nil
  go_simp
  refine (HC.out _ HK.out.drew).mono ?_
  rintro e w3 ⟨rfl, k3⟩
  refine hK.out _ _ ⟨k3.cell x1, k3.cell y0, k3.cell y1, (Kept.refl W1).drew.trans k3⟩ (fun hHeld1 => ?_)
  clear hK K
  (try simp only [Act.put, List.getElem_toArray, List.getElem_cons_zero, List.getElem_cons_succ, List.setIfInBounds_toArray, List.set_cons_zero, List.set_cons_succ])
  refine wpAnyH_take (i := 6) (v := ?_) rfl (by kernel_rfl) (by kernel_rfl) (by kernel_rfl) (fun _ _ _ h => h) (Or.inl ⟨by kernel_rfl, ?_⟩) (by assumption) ?_
  rotate_left
  · intro w hSw; (try dsimp only at hSw); go_simp; (try with_reducible rfl)
  (try simp only [Act.put, List.getElem_toArray, List.getElem_cons_zero, List.getElem_cons_succ, List.setIfInBounds_toArray, List.set_cons_zero, List.set_cons_succ])
  refine wpAnyH_done (by kernel_rfl) ?_ _
  go_wp2_with fail
  go_ret
  exact ⟨rfl, HK.out.drew.trans k3⟩

def lackD (T : List Mbr) (kl : Lit) (_ : DataW Value) : Bool := !(T.any fun p => (klM p).sameKey kl)
theorem lackD_at {T : List Mbr} (hT : ∀ p ∈ T, FineM p) {p : Mbr} (hp : FineM p) (d : DataW Value) : lackD T (klM p) d = !decide (p ∈ T) := by
  unfold lackD
  congr 1
  by_cases hm : p ∈ T
  · rw [decide_eq_true hm]
    exact List.any_eq_true.2 ⟨p, hm, WideAt.sameKey_self (a := klM p) trivial⟩
  · rw [decide_eq_false hm]
    refine List.any_eq_false.2 fun x hx hs => hm ?_
    exact kl_injM (hT x hx) hp (WideAt.sameKey_eq hs) ▸ hx

/-- What the closure says, in whatever world that the range has made. -/
theorem closure_c (hb b n : Nat) (T : List Mbr) (p : Mbr) (w : World) (hx : w.cell? ⟨hb, 0, none⟩ = some (.map (some b))) (h : SetM b n T w) (hp : FineM p) :
    Calls Tryd.prog 57 #[mv p, .agg #[], .pointer (some ⟨hb, 0, none⟩)] w fun e w' => e = .returned (.bool (!decide (p ∈ T))) ∧ Kept w w' := by
  obtain ⟨W1, hW1⟩ : ∃ W, w.alloc (.cells #[.string p.1, .int .i64 p.2] 33) = W := ⟨_, rfl⟩
  obtain ⟨W2, hW2⟩ : ∃ W, W1.alloc (.cells #[] 97) = W := ⟨_, rfl⟩
  have k1 : Kept w W2 := by rw [← hW2, ← hW1]; exact ((Kept.refl w).alloc _).alloc _
  have z1 : W1.heap.size = w.heap.size + 1 := by rw [← hW1]; simp
  have b1 : Blk W2 w.heap.size 33 #[.string p.1, .int .i64 p.2] := by rw [← hW2, ← hW1]; exact (Blk.new _ _ _).alloc _
  have HC := Lib.hid (lack_c b n T p W2 (h.kept k1) hp)
  generalize decide (p ∈ T) = r at *
  have x1 := k1.cell hx
  have y0 := b1.cell 0
  have y1 := b1.cell 1
  simp at y0 y1
  have HK := Lib.hid k1
  have HW1 := Lib.hid hW1
  have HW2 := Lib.hid hW2
  clear h hp hx k1 b1 hW1 hW2
  obtain ⟨s, k⟩ := p
  go_enter Tryd.func57, Tryd.ntmps57
  go_wp2_with (first | rw [HW1.out] | rw [HW2.out])
  refine HC.out.mono ?_
  rintro e w3 ⟨rfl, k3⟩
  go_wp2
  go_ret
  exact ⟨rfl, HK.out.trans k3⟩

theorem SetM.filter_es {T S : List Mbr} {es : List (Lit × DataW Value)} (hT : ∀ p ∈ T, FineM p) (h2 : (es.map (·.1)).Perm (S.map klM)) (h4 : ∀ p ∈ S, FineM p) :
    ((es.filter fun p => !lackD T p.1 p.2).map (·.1)).Perm ((S.filter fun p => decide (p ∈ T)).map klM) := by
  have e1 : (es.filter fun p => !lackD T p.1 p.2).map (·.1) = (es.map (·.1)).filter fun k => !lackD T k .nil := by rw [List.filter_map]; rfl
  rw [e1]
  refine (h2.filter _).trans ?_
  rw [List.filter_map]
  refine List.Perm.of_eq ?_
  congr 1
  refine List.filter_congr fun p hp => ?_
  show (!lackD T (klM p) .nil) = _
  rw [lackD_at hT (h4 p hp), Bool.not_not]

theorem Only.cellN {T : Nat → Prop} {w w' : World} (h : Only T w w') {b o : Nat} {v : Value} (hc : w.cell? ⟨b, o, none⟩ = some v) (hs : ¬ T b) : w'.cell? ⟨b, o, none⟩ = some v := by
  rw [World.cell?_of_block (h.block b (World.block_lt_of_cell? w ⟨b, o, none⟩ hc) hs)]
  exact hc
theorem ranges_only {T : Nat → Prop} {w w' : World} {b r n cnt : Nat} {D : DataW Value} {left : Lit → Bool} (h : w.ranges Tryd.prog tM uElem b r n D left cnt) (ho : Only T w w') (hb' : ¬ T b) (hr' : ¬ T r) : w'.ranges Tryd.prog tM uElem b r n D left cnt := by
  have h1 := h.owns.lt
  have h2 := h.lt
  obtain ⟨es, clock, since, seen, c0, hb, F, hs, hD, hr, rest⟩ := h
  exact ⟨es, clock, since, seen, c0, (ho.block b h1 hb').trans hb, F, hs, hD, (ho.block r h2 hr').trans hr, rest⟩

set_option maxHeartbeats 4000000 in
/-- maps.DeleteFunc with that closure: what the other set lacks is struck. -/
theorem delfunc_c (b n : Nat) (S : List Mbr) (hb b' n' : Nat) (T : List Mbr) (w : World) (h : SetM b n S w) (hx : w.cell? ⟨hb, 0, none⟩ = some (.map (some b'))) (h' : SetM b' n' T w) (hne : b' ≠ b) (hnx : hb ≠ b) :
    Calls Tryd.prog 56 #[.map (some b), .func (.func 57) #[] #[.pointer (some ⟨hb, 0, none⟩)]] w fun e w' => e = .returned (.tuple #[]) ∧ SetM b n (S.filter fun p => decide (p ∈ T)) w' ∧ Only (· = b) w w' := by
  obtain ⟨es0, hown, hp2, hp3, hp4⟩ := h
  have hT4 : ∀ p ∈ T, FineM p := by obtain ⟨_, _, _, _, h4⟩ := h'; exact h4
  obtain ⟨es1, he1, hap, hkeys⟩ := hown.entries mbr_law
  injection he1 with he1
  subst he1
  have HF := Lib.hid (SetM.filter_es hT4 hp2 hp4)
  have HN := Lib.hid (hp3.filter fun p => decide (p ∈ T))
  have HP4 := Lib.hid hp4
  have HD := Lib.hid (fun (W : World) (p : Mbr) (ho : Only (· = b) w W) (hp : FineM p) => closure_c hb b' n' T p W (ho.cellN hx hnx) (h'.only ho hne) hp)
  have HL := Lib.hid hT4
  have HAP := Lib.hid hap
  have HBL := Lib.hid hown.lt
  have eg : ∀ args w, (callFunc 57 args).run Tryd.prog w = .ok (.enter 57 args) w := enters_of Tryd.func57 (by kernel_rfl) rfl
  clear hp2 hp3 hp4 hT4 h' hx hap
  go_enter Tryd.func56, Tryd.ntmps56
  go_wp2_with (first
    | (at_range; refine wpList_range_own _ rfl _ 89 rfl tM 97 mbr_law Tryd.underlying89 uElem b n _ rfl hown ?_; intro w0 hrg0 hg0 hs0)
    | go_in)
  go_frame
  go_loopw [8] (fun _ wr => ∃ (left : Lit → Bool) (cnt : Nat), wr.ranges Tryd.prog tM uElem b w.heap.size n (Maps.Fk (lackD T) es0 left) left cnt ∧ Only (· = b) w wr)
    (fun _ wr => wr.rangeLeft b w.heap.size)
  case atStart => exact ⟨_, _, by rw [Maps.Fk_start hkeys]; exact hrg0, Only.grown (S := (· = b)) (Only.refl _ _) hg0 (by simp)⟩
  case round =>
    obtain ⟨left, cnt, hrg, hgw⟩ := hrel
    go_wp2_with (first
      | (at_next; refine wpList_next_ranges _ rfl _ rfl tM mbr_law uElem (fun q : {p : Mbr // FineM p} => mv q.1) (fun _ : Unit => .agg #[]) (fun key kl e => by obtain ⟨p, hp, hv, _⟩ := keyOf_mbr_inv e; exact ⟨⟨p, hp⟩, hv⟩) (fun v _ e => ⟨(), uElem_inv e⟩) b w.heap.size n _ _ _ rfl hrg ?_ ?_)
      | go_in)
    · intro _ hl0
      go_wp2
      go_end0
      refine ⟨rfl, ⟨_, by rw [Maps.Fk_end hl0] at hrg; exact hrg.owns, HF.out, HN.out, fun p hp => HP4.out p (List.mem_filter.1 hp).1⟩, hgw⟩
    · intro ps pk hpf kl yd yp w1 cnt1 hkey hlx hv hat hrg1 hlt hg1 hs1 hen
      obtain rfl : kl = klM (ps, pk) := Option.some.inj (hkey.symm.trans (keyOf_mbr hpf))
      have o1 : Only (· = b) w w1 := hgw.grown hg1 fun k e => .inr (by have := Option.some.inj e; omega)
      obtain ⟨W2, hW2⟩ : ∃ W, (w1.alloc (.cells #[.string ps, .int .i64 pk] 33)).alloc (.cells #[] 97) = W := ⟨_, rfl⟩
      have k2 : Kept w1 W2 := by rw [← hW2]; exact ((Kept.refl _).alloc _).alloc _
      have b2 : Blk W2 wr.heap.size 33 #[.string ps, .int .i64 pk] := by rw [← hW2, ← hs1]; exact (Blk.new _ _ _).alloc _
      have o2 := o1.trans (Only.of_kept k2)
      have HC := HD.out W2 (ps, pk) o2 hpf
      have HKY := Lib.hid (mbr_law.key hkey)
      have HLT := Lib.hid hlt
      have HO2 := Lib.hid o2
      have HRG1 := Lib.hid (ranges_only hrg1 (Only.of_kept (S := fun _ => False) k2) (fun h => h) (fun h => h))
      have HAT := Lib.hid hat
      have HLX := Lib.hid hlx
      have HKEY := Lib.hid hkey
      have HPF := Lib.hid hpf
      have HLK := Lib.hid (lackD_at HL.out hpf yd)
      have HRG := Lib.hid hrg
      have HW2 := Lib.hid hW2
      have HB2 := Lib.hid b2
      have d0 := b2.cell 0
      have d1 := b2.cell 1
      simp at d0 d1
      clear hkey hlx hat hlt hg1 hv hrg hrg1 hW2 b2 k2 o1 o2
      cases hdec : decide ((ps, pk) ∈ T) with
      | true =>
        rw [hdec] at HC HLK
        go_wp2_with (first | rw [HW2.out])
        refine HC.mono ?_
        rintro e w3 ⟨rfl, k3⟩
        have HRG3 := Lib.hid (ranges_only HRG1.out (Only.of_kept (S := fun _ => False) k3) (fun h => h) (fun h => h))
        have HO3 := Lib.hid (HO2.out.trans (Only.of_kept k3))
        clear k3
        go_wp2_with fail
        go_roundw
        case rel => exact ⟨_, cnt1, by rw [← Maps.Fk_stays HAP.out HKY.out HLX.out HLK.out HAT.out]; exact HRG3.out, HO3.out⟩
        case measure => rw [HRG3.out.left_eq, HRG.out.left_eq]; exact HLT.out
      | false =>
        rw [hdec] at HC HLK
        go_wp2_with (first | rw [HW2.out])
        refine HC.mono ?_
        rintro e w3 ⟨rfl, k3⟩
        have hrg2 := ranges_only HRG1.out (Only.of_kept (S := fun _ => False) k3) (fun h => h) (fun h => h)
        have HO3 := Lib.hid (HO2.out.trans (Only.of_kept k3))
        have b3 := HB2.out.kept k3
        have c0 := b3.cell 0
        have c1 := b3.cell 1
        simp at c0 c1
        clear k3 b3
        go_wp2_with (first
          | (at_delete; refine wpList_delete_ranges _ rfl _ _ 89 tM rfl 97 mbr_law Tryd.underlying89 uElem b w.heap.size n _ _ _ rfl hrg2 _ _ rfl HKEY.out ?_; intro w4 cnt3 hrg3 hle hturn; go_frame)
          | go_in)
        rw [Maps.strike_twice] at hrg3
        go_roundw
        case rel => exact ⟨_, cnt3, by rw [← Maps.Fk_struck HAP.out HKY.out HLX.out HLK.out HAT.out]; exact hrg3, HO3.out.grown hturn.grown fun k e => .inl (Option.some.inj e).symm⟩
        case measure => rw [hrg3.left_eq, HRG.out.left_eq]; have := HLT.out; omega
end Go.Proofs.YtdceafncncgfbaaDoor
