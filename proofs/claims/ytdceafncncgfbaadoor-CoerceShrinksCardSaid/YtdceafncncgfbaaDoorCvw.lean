/- The view of an object: has, look, narrow. -/
import Derived.Test.YtdceafncncgfbaaDoorCmn
import Derived.Test.YtdceafncncgfbaaDoorCop
set_option linter.unusedSimpArgs false
set_option linter.unusedVariables false
set_option maxRecDepth 100000
namespace Go.Proofs.YtdceafncncgfbaaDoor
open Go.ChangeShapes Go.WideShapes Go.ChangeAt Go.RowKit Go.Shelf
open Co (dd mb shown)

theorem mbr_at {w : World} {base g n c : Nat} {l : List Mbr} (h : w.ownsRow base 33 2 (.slice (some ⟨g, 0, none⟩) n c) l.length (l.flatMap bCells)) {j : Nat} {x : Mbr} (hx : l[j]? = some x) : w.cell? ⟨g, j * 2, none⟩ = some (.string x.1) ∧ w.cell? ⟨g, j * 2 + 1, none⟩ = some (.int .i64 x.2) := by
  have c0 := h.cells (g := g) rfl _ _ (flat_at bCells bCells_len l j 0 x hx (by omega))
  have c1 := h.cells (g := g) rfl _ _ (flat_at bCells bCells_len l j 1 x hx (by omega))
  rw [addr_plain] at c0 c1
  exact ⟨by simpa using c0, by simpa using c1⟩

set_option maxHeartbeats 4000000 in
theorem has_c (g : Nat) (a : Option Addr) (c : Nat) (t : List Tab.C) (s : ByteArray) (w : World) (hg : w.cell? ⟨g, 0, none⟩ = some (.slice a t.length c)) (hT : TabAt w (.slice a t.length c) t) (hS : Small t) :
    Calls Tryd.prog 55 #[.pointer (some ⟨g, 0, none⟩), .string s] w fun e w' => e = .returned (.map (some w.heap.size)) ∧ SetM w.heap.size 2002000 (dd (mb t s)) w' ∧ Kept w w' := by
  obtain ⟨W1, hW1⟩ : ∃ W, w.alloc (.map #[] 0) = W := ⟨_, rfl⟩
  have k1 : Kept w W1 := by rw [← hW1]; exact (Kept.refl w).alloc _
  have m1 : SetM w.heap.size 0 [] W1 := by rw [← hW1]; exact SetM.made w
  have z1 : W1.heap.size = w.heap.size + 1 := by rw [← hW1]; simp
  have hmm := @run_makeMap Tryd.prog
  have x0 := k1.cell hg
  have HM := Lib.hid (members_c a c t s W1 (tab_kept hT k1) hS)
  have HLE := Lib.hid (members_le hS s)
  have HF := Lib.hid (members_fine hT hS s)
  have HW1 := Lib.hid hW1
  have HK1 := Lib.hid k1
  have HM1 := Lib.hid m1
  clear hT hg k1 m1 hW1
  go_enter Tryd.func55, Tryd.ntmps55
  go_wp2_with (first | rw [HW1.out])
  refine HM.out.mono ?_
  rintro e w2 ⟨v, rfl, hrow, k2⟩
  obtain ⟨fa, fc, rfl⟩ := owns_slice_n hrow
  have HR := Lib.hid hrow
  have HM2 := Lib.hid (HM1.out.kept k2)
  have HK2 := Lib.hid (HK1.out.trans k2)
  clear hrow k2
  rw [z1] at HR
  go_wp2_with fail
  go_loopw [16] (fun q wr => ∃ j : Nat, q = .int .i64 j ∧ j ≤ (mb t s).length ∧ SetM w.heap.size j (dd ((mb t s).take j)) wr ∧ Kept w wr ∧ wr.ownsRow (w.heap.size + 1) 33 2 (.slice fa (mb t s).length fc) (mb t s).length ((mb t s).flatMap bCells)) (fun q wr => (mb t s).length - (intOf q).toNat)
  case atStart => exact ⟨0, rfl, Nat.zero_le _, HM2.out, HK2.out, HR.out⟩
  case round =>
    obtain ⟨j, rfl, hj, hm, hk, hr⟩ := hrel
    have hle : (mb t s).length ≤ 2002000 := HLE.out
    by_cases hlt : j < (mb t s).length
    · have hltI : (j : Int) < ((mb t s).length : Int) := by omega
      have hx : (mb t s)[j]? = some (mb t s)[j] := List.getElem?_eq_getElem hlt
      have hfx := HF.out _ (List.getElem_mem hlt)
      generalize (mb t s)[j] = x at hx hfx
      obtain ⟨xs, xn⟩ := x
      obtain ⟨g', rfl, _⟩ := row_cells hr (by omega)
      obtain ⟨c0, c1⟩ := mbr_at hr hx
      obtain ⟨W3, hW3⟩ : ∃ W, wr.alloc (.cells #[.string xs, .int .i64 xn] 33) = W := ⟨_, rfl⟩
      have k3 : Kept wr W3 := by rw [← hW3]; exact (Kept.refl _).alloc _
      have b3 : Blk W3 wr.heap.size 33 #[.string xs, .int .i64 xn] := by rw [← hW3]; exact Blk.new _ _ _
      obtain ⟨W4, hup, hm4, hg4⟩ := (hm.kept k3).store (t := 89) (e := 97) Tryd.underlying89 (by have := HLE.out; unfold maxLen; simp only [mb] at hlt; omega) hfx
      have y0 := b3.cell 0
      have y1 := b3.cell 1
      simp at y0 y1
      have o4 : Only (· = w.heap.size) W3 W4 := Only.grown (S := (· = w.heap.size)) (Only.refl _ _) hg4 fun k e => .inl (Option.some.inj e).symm
      have HX := Lib.hid (show dd ((mb t s).take (j + 1)) = Co.add (dd ((mb t s).take j)) (xs, xn) by rw [List.take_add_one, hx]; exact Co.dd_snoc _ _)
      have HM4 := Lib.hid hm4
      have HK4 := Lib.hid (hk.only (Only.trans (S := (· = w.heap.size)) (Only.of_kept k3) o4) rfl (fun k e => by omega))
      have HR4 := Lib.hid (owns_only (owns_keptL hr k3) o4 (fun g h e => by omega))
      have HW3 := Lib.hid hW3
      clear hm hk hr hx hfx k3 b3 hm4 hg4 o4 hW3
      go_wp2_with (first | rw [HW3.out])
      go_roundw
      case rel => exact ⟨j + 1, by go_num, by omega, by rw [HX.out]; exact HM4.out, HK4.out, HR4.out⟩
      case measure => simp [intOf]; omega
    · have hltI : ¬ (j : Int) < ((mb t s).length : Int) := by omega
      obtain rfl : j = (mb t s).length := by omega
      have HLL := Lib.hid (show (mb t s).length ≤ 2002000 from HLE.out)
      rw [List.take_length] at hm
      have HM5 := Lib.hid (hm.mono HLL.out)
      have HK5 := Lib.hid hk
      clear hm hk hr hlt hj
      go_wp2_with fail
      go_ret
      exact ⟨rfl, HM5.out, HK5.out⟩

abbrev szV (n : Nat) : Value := .agg #[.int .i64 n]
theorem zero_size (W : World) : (zeroValue 94).run Tryd.prog W = .ok (szV 0) W := by kernel_rfl
def looked (t : List Tab.C) (cs : List ByteArray) (c : ByteArray) : Option Value := if (cs.any fun x => decide (x = c)) = true then some (szV (dd (mb t c)).length) else none
theorem looked_snoc (t : List Tab.C) (cs : List ByteArray) (c : ByteArray) : looked t (cs ++ [c]) = fun x => if x = c then some (szV (dd (mb t c)).length) else looked t cs x := by
  funext x
  unfold looked
  by_cases e : x = c
  · subst e; simp
  · have e' : ¬ c = x := fun h => e h.symm
    have : ((cs ++ [c]).any fun y => decide (y = x)) = cs.any fun y => decide (y = x) := by rw [List.any_append]; simp [e']
    rw [this, if_neg e]
theorem looked_again {t : List Tab.C} {cs : List ByteArray} {c : ByteArray} (h : c ∈ cs) : looked t (cs ++ [c]) = looked t cs := by
  rw [looked_snoc]
  funext x
  by_cases e : x = c
  · subst e
    rw [if_pos rfl]
    unfold looked
    rw [if_pos (by simpa using h)]
  · rw [if_neg e]

/-- A view in block g: what it shows, and the classes it has looked at (cs, the own one first). -/
structure ViewAt (g m1 m2 : Nat) (tv : Value) (t : List Tab.C) (own : ByteArray) (cs : List ByteArray) (W : World) : Prop where
  blk : Blk W g 91 #[tv, .map (some m1), .map (some m2)]
  set : SetM m1 2002000 (shown t own cs) W
  map : MapF Tryd.prog 9 m2 cs.length (looked t cs) W
  d1 : m1 ≠ m2
  d2 : g ≠ m1
  d3 : g ≠ m2
theorem ViewAt.only {T : Nat → Prop} {g m1 m2 : Nat} {tv : Value} {t : List Tab.C} {own : ByteArray} {cs : List ByteArray} {W W' : World} (h : ViewAt g m1 m2 tv t own cs W) (ho : Only T W W') (h0 : ¬ T g) (h1 : ¬ T m1) (h2 : ¬ T m2) : ViewAt g m1 m2 tv t own cs W' :=
  ⟨h.blk.only ho h0, h.set.only ho h1, h.map.only ho h2, h.d1, h.d2, h.d3⟩
theorem ViewAt.kept {g m1 m2 : Nat} {tv : Value} {t : List Tab.C} {own : ByteArray} {cs : List ByteArray} {W W' : World} (h : ViewAt g m1 m2 tv t own cs W) (k : Kept W W') : ViewAt g m1 m2 tv t own cs W' :=
  h.only (T := fun _ => False) (Only.of_kept k) (fun h => h) (fun h => h) (fun h => h)

theorem MapF.keptN {b n : Nat} {f : ByteArray → Option Value} {W W' : World} (h : MapF Tryd.prog 9 b n f W) (k : Kept W W') : MapF Tryd.prog 9 b n f W' := h.only (S := fun _ => False) (Only.of_kept k) (fun h => h)
theorem string_key {s : ByteArray} (h : s.size ≤ maxLen) : keyOf Tryd.prog 9 (.string s) = some (.string s.data.toList) := WideMaps.keyOf_string_mk Tryd.underlying9 h

set_option maxHeartbeats 4000000 in
theorem look_c (a : Option Addr) (c : Nat) (t : List Tab.C) (own : ByteArray) (w : World) (hT : TabAt w (.slice a t.length c) t) (hS : Small t) (ho : own.size ≤ maxLen) :
    Calls Tryd.prog 31 #[.slice a t.length c, .string own] w fun e w' => e = .returned (.pointer (some ⟨w.heap.size + 1, 0, none⟩)) ∧ ViewAt (w.heap.size + 1) (w.heap.size + 2) w.heap.size (.slice a t.length c) t own [own] w' ∧ Kept w w' := by
  obtain ⟨W1, hW1⟩ : ∃ W, w.alloc (.map #[] 0) = W := ⟨_, rfl⟩
  have k1 : Kept w W1 := by rw [← hW1]; exact (Kept.refl w).alloc _
  have m1 : MapF Tryd.prog 9 w.heap.size 0 (fun _ => none) W1 := by rw [← hW1]; exact MapF.made w _ _
  have z1 : W1.heap.size = w.heap.size + 1 := by rw [← hW1]; simp
  obtain ⟨W2, hW2⟩ : ∃ W, W1.alloc (.cells #[.slice a t.length c, .map none, .map (some w.heap.size)] 91) = W := ⟨_, rfl⟩
  have k2 : Kept W1 W2 := by rw [← hW2]; exact (Kept.refl _).alloc _
  have b2 : Blk W2 (w.heap.size + 1) 91 #[.slice a t.length c, .map none, .map (some w.heap.size)] := by rw [← hW2, ← z1]; exact Blk.new _ _ _
  have z2 : W2.heap.size = w.heap.size + 2 := by rw [← hW2]; simp [z1]
  have hmm := @run_makeMap Tryd.prog
  have x0 := b2.cell 0
  simp at x0
  have HH := Lib.hid (has_c (w.heap.size + 1) a c t own W2 x0 (tab_kept hT (k1.trans k2)) hS)
  rw [z2] at HH
  have HB2 := Lib.hid b2
  have HM2 := Lib.hid (m1.keptN k2)
  have HK2 := Lib.hid (k1.trans k2)
  have HW1 := Lib.hid hW1
  have HW2 := Lib.hid hW2
  clear hT k1 k2 m1 b2 hW1 hW2 x0
  go_enter Tryd.func31, Tryd.ntmps31
  go_wp2_with (first | rw [HW1.out] | rw [HW2.out])
  refine HH.out.mono ?_
  rintro e w3 ⟨rfl, hs, k3⟩
  have b3 := HB2.out.kept k3
  obtain ⟨W4, hW4⟩ : ∃ W, w3.setCell ⟨w.heap.size + 1, 1, none⟩ (.map (some (w.heap.size + 2))) = W := ⟨_, rfl⟩
  have b4 : Blk W4 (w.heap.size + 1) 91 #[.slice a t.length c, .map (some (w.heap.size + 2)), .map (some w.heap.size)] := by
    have := b3.put 1 (.map (some (w.heap.size + 2)))
    rw [← hW4]; simpa using this
  have o4 : Only (· = w.heap.size + 1) w3 W4 := by rw [← hW4]; exact (Only.refl _ _).put 1 _
  have s4 := hs.only o4 (by omega)
  have q4 := (HM2.out.keptN k3).only o4 (by omega)
  have k4 : Kept w W4 := (HK2.out.trans k3).only o4 rfl (fun k e => by omega)
  have y0 := b3.cell 1
  have y1 := b3.frozen 1
  have u1 := b4.cell 1
  have u2 := b4.cell 2
  simp at y0 u1 u2
  have kd : Kept W4 W4.drew := (Kept.refl _).drew
  have hlen := fun ty => (s4.kept kd).len (t := 89) (e := 97) Tryd.underlying89 ty
  obtain ⟨W5, hup, hm5, hg5⟩ := (q4.keptN kd).store (t := 87) (e := 94) (Maps.string_keyed Tryd.underlying9) Tryd.underlying87 (by unfold maxLen; omega) own (szV (dd (mb t own)).length) (string_key ho)
  have o5 : Only (· = w.heap.size) W4 W5 := (Only.of_kept kd).trans (Only.grown (S := (· = w.heap.size)) (Only.refl _ _) hg5 fun k e => .inl (Option.some.inj e).symm)
  have HV := Lib.hid (show ViewAt (w.heap.size + 1) (w.heap.size + 2) w.heap.size (.slice a t.length c) t own [own] W5 from by
    refine ⟨b4.only o5 (by omega), by rw [Co.shown_own]; exact s4.only o5 (by omega), ?_, by omega, by omega, by omega⟩
    have e : looked t [own] = fun x => if x = own then some (szV (dd (mb t own)).length) else none := by
      have := looked_snoc t [] own
      rw [List.nil_append] at this
      rw [this]
      rfl
    rw [e]
    exact hm5)
  have HK5 := Lib.hid (k4.only o5 rfl (fun k e => by omega))
  have HW4 := Lib.hid hW4
  have HUP := Lib.hid hup
  clear hs b3 b4 o4 s4 q4 k4 kd hm5 hg5 o5 hW4 k3 hup
  go_wp2_with (first | rw [HW4.out])
  refine wp_region_till (S := (fun W => W.cell? ⟨w.heap.size + 1, 1, none⟩ = some (.map (some (w.heap.size + 2))) ∧ W.cell? ⟨w.heap.size + 1, 2, none⟩ = some (.map (some w.heap.size)) ∧ (Builtin.len_ #[89] 3 #[.map (some (w.heap.size + 2))]).run Tryd.prog W = .ok (.int .i64 ((dd (mb t own)).length : Int)) W)) 11 (by kernel_rfl) ⟨u1, u2, hlen _⟩ (fun hHeld0 => ?_)
  refine wpAnyT_take (i := 0) (v := ?_) rfl (by kernel_rfl) (by kernel_rfl) (by kernel_rfl) (fun _ _ _ h => h) (Or.inl ⟨by kernel_rfl, ?_⟩) (by assumption) ?_
  rotate_left
  · intro w hSw; (try dsimp only at hSw); go_simp; (try with_reducible rfl)
  (try simp only [Act.put, List.getElem_toArray, List.getElem_cons_zero, List.getElem_cons_succ, List.setIfInBounds_toArray, List.set_cons_zero, List.set_cons_succ])
  refine wpAnyT_take (i := 1) (v := ?_) rfl (by kernel_rfl) (by kernel_rfl) (by kernel_rfl) (fun _ _ _ h => h) (Or.inl ⟨by kernel_rfl, ?_⟩) (by assumption) ?_
  rotate_left
  · intro w hSw; (try dsimp only at hSw); go_simp; (try with_reducible rfl)
  (try simp only [Act.put, List.getElem_toArray, List.getElem_cons_zero, List.getElem_cons_succ, List.setIfInBounds_toArray, List.set_cons_zero, List.set_cons_succ])
  refine wpAnyT_take (i := 2) (v := ?_) rfl (by kernel_rfl) (by kernel_rfl) (by kernel_rfl) (fun _ _ _ h => h) (Or.inl ⟨by kernel_rfl, ?_⟩) (by assumption) ?_
  rotate_left
  · intro w hSw; (try dsimp only at hSw); go_simp; (try with_reducible rfl)
  (try simp only [Act.put, List.getElem_toArray, List.getElem_cons_zero, List.getElem_cons_succ, List.setIfInBounds_toArray, List.set_cons_zero, List.set_cons_succ])
  refine wpAnyT_take (i := 3) (v := ?_) rfl (by kernel_rfl) (by kernel_rfl) (by kernel_rfl) (fun _ _ _ h => h) (Or.inl ⟨by kernel_rfl, ?_⟩) (by assumption) ?_
  rotate_left
  · intro w hSw; (try dsimp only at hSw); go_simp; (try with_reducible rfl)
  (try simp only [Act.put, List.getElem_toArray, List.getElem_cons_zero, List.getElem_cons_succ, List.setIfInBounds_toArray, List.set_cons_zero, List.set_cons_succ])
  refine wpAnyT_take (i := 4) (v := ?_) rfl (by kernel_rfl) (by kernel_rfl) (by kernel_rfl) (fun _ _ _ h => h) (Or.inl ⟨by kernel_rfl, ?_⟩) (by assumption) ?_
  rotate_left
  · intro w hSw; (try dsimp only at hSw); go_simp; (try with_reducible rfl)
  (try simp only [Act.put, List.getElem_toArray, List.getElem_cons_zero, List.getElem_cons_succ, List.setIfInBounds_toArray, List.set_cons_zero, List.set_cons_succ])
  refine wpAnyT_take (i := 5) (v := ?_) rfl (by kernel_rfl) (by kernel_rfl) (by kernel_rfl) (fun _ _ _ h => h) (Or.inl ⟨by kernel_rfl, ?_⟩) (by assumption) ?_
  rotate_left
  · intro w hSw; (try dsimp only at hSw); go_simp; (try with_reducible rfl)
  (try simp only [Act.put, List.getElem_toArray, List.getElem_cons_zero, List.getElem_cons_succ, List.setIfInBounds_toArray, List.set_cons_zero, List.set_cons_succ])
  refine wpAnyT_take (i := 6) (v := ?_) rfl (by kernel_rfl) (by kernel_rfl) (by kernel_rfl) (fun _ _ _ h => h) (Or.inl ⟨by kernel_rfl, ?_⟩) (by assumption) ?_
  rotate_left
  · intro w hSw; (try dsimp only at hSw); go_simp; (try with_reducible rfl)
  (try simp only [Act.put, List.getElem_toArray, List.getElem_cons_zero, List.getElem_cons_succ, List.setIfInBounds_toArray, List.set_cons_zero, List.set_cons_succ])
  refine wpAnyT_take (i := 7) (v := ?_) rfl (by kernel_rfl) (by kernel_rfl) (by kernel_rfl) (fun _ _ _ h => h) (Or.inl ⟨by kernel_rfl, ?_⟩) (by assumption) ?_
  rotate_left
  · intro w hSw; (try dsimp only at hSw); go_simp; (try with_reducible rfl)
  (try simp only [Act.put, List.getElem_toArray, List.getElem_cons_zero, List.getElem_cons_succ, List.setIfInBounds_toArray, List.set_cons_zero, List.set_cons_succ])
  refine wpAnyT_take (i := 8) (v := ?_) rfl (by kernel_rfl) (by kernel_rfl) (by kernel_rfl) (fun _ _ _ h => h) (Or.inl ⟨by kernel_rfl, ?_⟩) (by assumption) ?_
  rotate_left
  · intro w hSw; (try dsimp only at hSw); go_simp; (try with_reducible rfl)
  (try simp only [Act.put, List.getElem_toArray, List.getElem_cons_zero, List.getElem_cons_succ, List.setIfInBounds_toArray, List.set_cons_zero, List.set_cons_succ])
  refine wpAnyT_ready (rs := [9]) (by kernel_rfl) (by simp) ?_
  refine AllReadyT.cons rfl (fun K hK => ?_) AllReadyT.nil
  go_simp
  refine hK.out _ _ hHeld0 (fun hHeld1 => ?_)
  clear hK K
  (try simp only [Act.put, List.getElem_toArray, List.getElem_cons_zero, List.getElem_cons_succ, List.setIfInBounds_toArray, List.set_cons_zero, List.set_cons_succ])
  refine wpAnyT_take (i := 10) (v := ?_) rfl (by kernel_rfl) (by kernel_rfl) (by kernel_rfl) (fun _ _ _ h => h) (Or.inl ⟨by kernel_rfl, ?_⟩) (by assumption) ?_
  rotate_left
  · intro w hSw; (try dsimp only at hSw); go_simp; (try with_reducible rfl)
  (try simp only [Act.put, List.getElem_toArray, List.getElem_cons_zero, List.getElem_cons_succ, List.setIfInBounds_toArray, List.set_cons_zero, List.set_cons_succ])
  have hup := HUP.out
  refine wpAnyT_ready (rs := [11]) (by kernel_rfl) (by simp) ?_
  refine AllReadyT.fin rfl (fun K hK => ?_)
  go_simp
  refine hK.out _ _ ?_
  clear hK K
  (try simp only [Act.put, List.getElem_toArray, List.getElem_cons_zero, List.getElem_cons_succ, List.setIfInBounds_toArray, List.set_cons_zero, List.set_cons_succ])
  refine wpAnyT_done (by kernel_rfl) ?_ _
  clear hHeld0 hHeld1 hup hlen
  go_wp2_with fail
  go_ret
  exact ⟨rfl, HV.out, HK5.out⟩
end Go.Proofs.YtdceafncncgfbaaDoor
