/- The methods of operands that take one value; the types of operands. -/
import Derived.Test.YtcaailiijmjdlaaGreatDoorZvc
import Derived.Test.YtcaailiijmjdlaaGreatDoorNam
set_option linter.unusedSimpArgs false
set_option linter.unusedVariables false
set_option maxRecDepth 100000
namespace Go.Proofs.YtcaailiijmjdlaaGreatDoor.Zp
open Flo Go.RowKit
def negO (a : V) : Out := if a.tag = 1 then .val (vI (wrap64 (-a.n))) else .val (vR (ng a.bits))
def intO (a : V) : Out := if inR a.bits = true then .val (vI (tv a.bits)) else .trap 5
end Go.Proofs.YtcaailiijmjdlaaGreatDoor.Zp
namespace Go.Proofs.YtcaailiijmjdlaaGreatDoor
open Go.ChangeShapes Go.WideShapes Go.ChangeAt Go.RowKit Flo
attribute [local go_sem] Oper.semAt_some
open Zp (V e0 vI vR vB vS ordL ordS numT Out rdo calcO negO intO)
theorem blkF {W : World} {g : Nat} {t : TypeId} {a : V} {pa : Option Addr} {la ca : Nat} (h : Blk W g t (five a pa la ca)) : W.cell? ⟨g, 0, none⟩ = some (.int .i64 a.tag) ∧ W.cell? ⟨g, 1, none⟩ = some (.int .i64 a.n) ∧ W.cell? ⟨g, 2, none⟩ = some (.int .u64 (a.bits : Int)) ∧ W.cell? ⟨g, 3, none⟩ = some (.string a.s) ∧ W.cell? ⟨g, 4, none⟩ = some (.slice pa la ca) :=
  ⟨h.cell 0, h.cell 1, h.cell 2, h.cell 3, h.cell 4⟩

set_option maxHeartbeats 2000000 in
theorem om_negated (a : V) (pa : Option Addr) (la ca : Nat) (op : ByteArray) (g : Nat) (t : TypeId) (w : World) (hb : Blk w g t (five a pa la ca)) (ha : a.bits < 18446744073709551616) :
    Calls Tryz.prog 90 #[.slice (some ⟨g, 0, none⟩) 1 1, .string op] w (OutPost (negO a) w) := by
  obtain ⟨W0, hW0⟩ : ∃ W, w.alloc (.cells vZ vT) = W := ⟨_, rfl⟩
  obtain ⟨k0, b0, z0⟩ := vnew hW0
  obtain ⟨x0, x1, x2, x3, x4⟩ := blkF (hb.kept k0)
  have HW0 := Lib.hid hW0
  have HB0 := Lib.hid b0
  have HK0 := Lib.hid k0
  clear hW0 b0 k0 hb z0
  by_cases h1 : a.tag = 1
  · have HO := Lib.hid (show negO a = .val (vI (wrap64 (-a.n))) from if_pos h1)
    have c1 : (a.tag == 1) = true := by rw [h1]; rfl
    clear h1
    go_enter Tryz.func90, Tryz.ntmps90
    go_wp2_with (rw [HW0.out])
    refine (inegR_c _ _).mono ?_
    rintro e w1 ⟨rfl, rfl⟩
    go_wp2_with fail
    refine (vint_c _ _).mono ?_
    rintro e w6 ⟨rfl, k6⟩
    obtain ⟨⟨z0, z1, z2, z3, z4⟩, f0, f1, f2, f3, f4⟩ := blk5 (HB0.out.kept k6)
    have HR6 := Lib.hid (HB0.out.kept k6)
    have HK6 := Lib.hid (HK0.out.trans k6)
    clear k6
    go_wp2_with fail
    exact v_endO (r := vI (wrap64 (-a.n))) HO.out (by rfl) rfl rfl HR6.out HK6.out
  · have HO := Lib.hid (show negO a = .val (vR (ng a.bits)) from if_neg h1)
    have c1 : (a.tag == 1) = false := by simpa using h1
    have HA := Lib.hid ha
    clear h1 ha
    go_enter Tryz.func90, Tryz.ntmps90
    go_wp2_with (rw [HW0.out])
    refine (negR_c _ HA.out _).mono ?_
    rintro e w1 ⟨rfl, rfl⟩
    go_wp2_with fail
    refine (vreal_c _ _).mono ?_
    rintro e w6 ⟨rfl, k6⟩
    obtain ⟨⟨z0, z1, z2, z3, z4⟩, f0, f1, f2, f3, f4⟩ := blk5 (HB0.out.kept k6)
    have HR6 := Lib.hid (HB0.out.kept k6)
    have HK6 := Lib.hid (HK0.out.trans k6)
    clear k6
    go_wp2_with fail
    exact v_endO (r := vR (ng a.bits)) HO.out (by rfl) rfl rfl HR6.out HK6.out

set_option maxHeartbeats 2000000 in
theorem om_opposite (a : V) (pa : Option Addr) (la ca : Nat) (op : ByteArray) (g : Nat) (t : TypeId) (w : World) (hb : Blk w g t (five a pa la ca)) :
    Calls Tryz.prog 92 #[.slice (some ⟨g, 0, none⟩) 1 1, .string op] w (OutPost (.val (vB (decide (a.n = 0)))) w) := by
  obtain ⟨W0, hW0⟩ : ∃ W, w.alloc (.cells vZ vT) = W := ⟨_, rfl⟩
  obtain ⟨k0, b0, z0⟩ := vnew hW0
  obtain ⟨x0, x1, x2, x3, x4⟩ := blkF (hb.kept k0)
  have HW0 := Lib.hid hW0
  have HB0 := Lib.hid b0
  have HK0 := Lib.hid k0
  clear hW0 b0 k0 hb z0
  have hc : (a.n == 0) = decide (a.n = 0) := by cases hd : decide (a.n = 0) <;> simp_all
  generalize decide (a.n = 0) = q at *
  go_enter Tryz.func92, Tryz.ntmps92
  go_wp2_with (rw [HW0.out])
  refine (vtruth_c _ _).mono ?_
  rintro e w6 ⟨rfl, k6⟩
  obtain ⟨⟨z0, z1, z2, z3, z4⟩, f0, f1, f2, f3, f4⟩ := blk5 (HB0.out.kept k6)
  have HR6 := Lib.hid (HB0.out.kept k6)
  have HK6 := Lib.hid (HK0.out.trans k6)
  clear k6
  go_wp2_with fail
  exact v_endO (r := vB q) rfl (by rfl) rfl rfl HR6.out HK6.out

set_option maxHeartbeats 2000000 in
theorem om_toReal (a : V) (pa : Option Addr) (la ca : Nat) (op : ByteArray) (g : Nat) (t : TypeId) (w : World) (hb : Blk w g t (five a pa la ca)) :
    Calls Tryz.prog 94 #[.slice (some ⟨g, 0, none⟩) 1 1, .string op] w (OutPost (.val (vR (floatOfInt .f64 a.n))) w) := by
  obtain ⟨W0, hW0⟩ : ∃ W, w.alloc (.cells vZ vT) = W := ⟨_, rfl⟩
  obtain ⟨k0, b0, z0⟩ := vnew hW0
  obtain ⟨x0, x1, x2, x3, x4⟩ := blkF (hb.kept k0)
  have HW0 := Lib.hid hW0
  have HB0 := Lib.hid b0
  have HK0 := Lib.hid k0
  clear hW0 b0 k0 hb z0
  go_enter Tryz.func94, Tryz.ntmps94
  go_wp2_with (rw [HW0.out])
  refine (ofInt_c _ _).mono ?_
  rintro e w1 ⟨rfl, rfl⟩
  go_wp2_with fail
  refine (vreal_c _ _).mono ?_
  rintro e w6 ⟨rfl, k6⟩
  obtain ⟨⟨z0, z1, z2, z3, z4⟩, f0, f1, f2, f3, f4⟩ := blk5 (HB0.out.kept k6)
  have HR6 := Lib.hid (HB0.out.kept k6)
  have HK6 := Lib.hid (HK0.out.trans k6)
  clear k6
  go_wp2_with fail
  exact v_endO (r := vR (floatOfInt .f64 a.n)) rfl (by rfl) rfl rfl HR6.out HK6.out

set_option maxHeartbeats 2000000 in
theorem om_toLength (a : V) (pa : Option Addr) (la ca : Nat) (op : ByteArray) (g : Nat) (t : TypeId) (w : World) (hb : Blk w g t (five a pa la ca)) :
    Calls Tryz.prog 98 #[.slice (some ⟨g, 0, none⟩) 1 1, .string op] w (OutPost (.val (vI (a.s.size : Int))) w) := by
  obtain ⟨W0, hW0⟩ : ∃ W, w.alloc (.cells vZ vT) = W := ⟨_, rfl⟩
  obtain ⟨k0, b0, z0⟩ := vnew hW0
  obtain ⟨x0, x1, x2, x3, x4⟩ := blkF (hb.kept k0)
  have HW0 := Lib.hid hW0
  have HB0 := Lib.hid b0
  have HK0 := Lib.hid k0
  clear hW0 b0 k0 hb z0
  go_enter Tryz.func98, Tryz.ntmps98
  go_wp2_with (rw [HW0.out])
  refine (vint_c _ _).mono ?_
  rintro e w6 ⟨rfl, k6⟩
  obtain ⟨⟨z0, z1, z2, z3, z4⟩, f0, f1, f2, f3, f4⟩ := blk5 (HB0.out.kept k6)
  have HR6 := Lib.hid (HB0.out.kept k6)
  have HK6 := Lib.hid (HK0.out.trans k6)
  clear k6
  go_wp2_with fail
  exact v_endO (r := vI (a.s.size : Int)) rfl (by rfl) rfl rfl HR6.out HK6.out

set_option maxHeartbeats 2000000 in
theorem om_toInt (a : V) (pa : Option Addr) (la ca : Nat) (op : ByteArray) (g : Nat) (t : TypeId) (w : World) (hb : Blk w g t (five a pa la ca)) (ha : a.bits < 18446744073709551616) :
    Calls Tryz.prog 96 #[.slice (some ⟨g, 0, none⟩) 1 1, .string op] w (OutPost (intO a) w) := by
  obtain ⟨W0, hW0⟩ : ∃ W, w.alloc (.cells vZ vT) = W := ⟨_, rfl⟩
  obtain ⟨k0, b0, z0⟩ := vnew hW0
  obtain ⟨x0, x1, x2, x3, x4⟩ := blkF (hb.kept k0)
  have HW0 := Lib.hid hW0
  have HB0 := Lib.hid b0
  have HK0 := Lib.hid k0
  clear hW0 b0 k0 hb z0
  have HC := Lib.hid (toIntR_c a.bits ha W0)
  clear ha
  cases hi : inR a.bits with
  | true =>
    have HO := Lib.hid (show intO a = .val (vI (tv a.bits)) from if_pos hi)
    rw [hi, if_pos rfl] at HC
    clear hi
    go_enter Tryz.func96, Tryz.ntmps96
    go_wp2_with (rw [HW0.out])
    refine HC.out.mono ?_
    rintro e w1 ⟨rfl, rfl⟩
    go_wp2_with fail
    refine (vint_c _ _).mono ?_
    rintro e w6 ⟨rfl, k6⟩
    obtain ⟨⟨z0, z1, z2, z3, z4⟩, f0, f1, f2, f3, f4⟩ := blk5 (HB0.out.kept k6)
    have HR6 := Lib.hid (HB0.out.kept k6)
    have HK6 := Lib.hid (HK0.out.trans k6)
    clear k6
    go_wp2_with fail
    exact v_endO (r := vI (tv a.bits)) HO.out (by rfl) rfl rfl HR6.out HK6.out
  | false =>
    have HO := Lib.hid (show intO a = .trap 5 from if_neg (by rw [hi]; decide))
    rw [hi, if_neg (by decide)] at HC
    clear hi
    go_enter Tryz.func96, Tryz.ntmps96
    go_wp2_with (rw [HW0.out])
    refine HC.out.mono ?_
    rintro e w1 ⟨rfl, rfl⟩
    go_wp2_with fail
    exact ⟨rfl, .inr ⟨5, HO.out, rfl, HK0.out⟩⟩

/-- A value in memory, whatever its chain. -/
def VlB (w : World) (b o : Nat) (x : V) : Prop := ∃ p n c, w.cell? ⟨b, o + 0, none⟩ = some (.int .i64 x.tag) ∧ w.cell? ⟨b, o + 1, none⟩ = some (.int .i64 x.n) ∧ w.cell? ⟨b, o + 2, none⟩ = some (.int .u64 (x.bits : Int)) ∧ w.cell? ⟨b, o + 3, none⟩ = some (.string x.s) ∧ w.cell? ⟨b, o + 4, none⟩ = some (.slice p n c)
abbrev VlR (w : World) (v : Value) (l : List V) : Prop := Row 5 VlB w v l
theorem VlR.kept {w w' : World} {v : Value} {l : List V} (h : VlR w v l) (k : Kept w w') : VlR w' v l := Row.mono h fun b o x ⟨p, n, c, h0, h1, h2, h3, h4⟩ => ⟨p, n, c, k.cell h0, k.cell h1, k.cell h2, k.cell h3, k.cell h4⟩
theorem VlR.two {W : World} {g : Nat} {t : TypeId} {a b : V} {pa pb : Option Addr} {la ca lb cb : Nat} (h : Blk W g t (ten a b pa la ca pb lb cb)) : VlR W (.slice (some ⟨g, 0, none⟩) 2 2) [a, b] := by
  obtain ⟨x0, x1, x2, x3, x4, y0, y1, y2, y3, y4⟩ := blk10 h
  refine ⟨_, _, rfl, Nat.le_refl _, txLen (by simp), fun i x hx => ⟨g, 0, rfl, ?_⟩⟩
  match i, hx with
  | 0, hx => cases hx; exact ⟨_, _, _, x0, x1, x2, x3, x4⟩
  | 1, hx => cases hx; exact ⟨_, _, _, y0, y1, y2, y3, y4⟩
theorem VlR.one {W : World} {g : Nat} {t : TypeId} {a : V} {pa : Option Addr} {la ca : Nat} (h : Blk W g t (five a pa la ca)) : VlR W (.slice (some ⟨g, 0, none⟩) 1 1) [a] := by
  obtain ⟨x0, x1, x2, x3, x4⟩ := blkF h
  refine ⟨_, _, rfl, Nat.le_refl _, txLen (by simp), fun i x hx => ⟨g, 0, rfl, ?_⟩⟩
  match i, hx with
  | 0, hx => cases hx; exact ⟨_, _, _, x0, x1, x2, x3, x4⟩

theorem owns_kept {w w' : World} {base k : Nat} {e : TypeId} {v : Value} {n : Nat} {xs : List Value} (h : w.ownsRow base e k v n xs) (hk : Kept w w') : w'.ownsRow base e k v n xs := by
  refine ⟨h.1, h.2.imp id ?_⟩
  rintro ⟨g, cap, cur, e1, h1, h2, h3⟩
  exact ⟨g, cap, cur, e1, h1, (hk.block g (Array.getElem?_eq_some_iff.1 h2).1).trans h2, h3⟩
theorem own_ge {w : World} {base k n : Nat} {e : TypeId} {v : Value} {xs : List Value} (h : w.ownsRow base e k v n xs) {g : Nat} (hg : v.ownBlock = some g) : base ≤ g := by
  rcases h.2 with ⟨rfl, _⟩ | ⟨g', cap, cur, rfl, hb, _⟩
  · cases hg
  · obtain rfl : g' = g := Option.some.inj hg
    exact hb
set_option maxHeartbeats 4000000 in
theorem typesOf_c (l : List V) (a : Option Addr) (n c : Nat) (w : World) (hn : l.length ≤ 10) (h : VlR w (.slice a n c) l) (hT : Tb w) :
    Calls Tryz.prog 101 #[.slice a n c] w fun e w' => ∃ a' c', e = .returned (.slice a' l.length c') ∧ TxR w' (.slice a' l.length c') (l.map fun x => Wrd.ofT x.tag) ∧ Kept w w' := by
  obtain rfl : n = l.length := by obtain ⟨_, _, e, _⟩ := h; injection e
  obtain ⟨_, _, e0, _, _, hat⟩ := h
  injection e0 with e1 e2 e3
  subst e1 e3
  clear e2
  have HAT := Lib.hid hat
  have HT := Lib.hid hT
  have HN := Lib.hid hn
  have hnI : (l.length : Int) ≤ 10 := by omega
  obtain ⟨i0, hi, hz0, hzz1, hzz2⟩ := str_info
  clear hat hT hn
  go_enter Tryz.func101, Tryz.ntmps101
  go_wp2_with fail
  go_loopw [3, 5, 6, 7, 10] (fun r _ _ _ q wr => ∃ (k : Nat) (a' : Option Addr) (c' : Nat), q = .int .i64 k ∧ k ≤ l.length ∧ r = .slice a' k c' ∧ Hid (wr.ownsRow w.heap.size 9 1 (.slice a' k c') k (((l.take k).map fun x => Wrd.ofT x.tag).map Value.string)) ∧ Hid (Kept w wr)) (fun _ _ _ _ q wr => l.length - (intOf q).toNat)
  case atStart => exact ⟨0, none, 0, rfl, Nat.zero_le _, rfl, Lib.hid ⟨rfl, .inl ⟨rfl, rfl⟩⟩, Lib.hid (Kept.refl _)⟩
  case round =>
    obtain ⟨k, a', c', rfl, hk, rfl, HR, HK⟩ := hrel
    by_cases hlt : k < l.length
    · have hltI : (k : Int) < (l.length : Int) := by omega
      have hx : l[k]? = some l[k] := List.getElem?_eq_getElem hlt
      generalize hy : l[k] = y at hx
      obtain ⟨b, o, rfl, p, m, d, x0, x1, x2, x3, x4⟩ := HAT.out k y hx
      have x0' := HK.out.cell x0
      have x1' := HK.out.cell x1
      have x2' := HK.out.cell x2
      have x3' := HK.out.cell x3
      have x4' := HK.out.cell x4
      simp only [Nat.add_zero] at x0' 
      have HX := Lib.hid hx
      clear hx hy x0 x1 x2 x3 x4
      obtain ⟨wq, hwq⟩ : ∃ wq, wq = wr := ⟨_, rfl⟩
      rw [← hwq] at x0' x1' x2' x3' x4' HR HK ⊢
      clear hwq
      obtain ⟨W1, hW1⟩ : ∃ W, wq.alloc (.cells #[.int .i64 y.tag, .int .i64 y.n, .int .u64 (y.bits : Int), .string y.s, .slice p m d] vT) = W := ⟨_, rfl⟩
      obtain ⟨k1, b1, z1⟩ := vnew hW1
      obtain ⟨⟨y0, y1, y2, y3, y4⟩, _⟩ := blk5 b1
      have HW1 := Lib.hid hW1
      have HK1 := Lib.hid (HK.out.trans k1)
      have HR1 := Lib.hid (owns_kept HR.out k1)
      clear hW1 k1 b1 z1
      go_wp2_with (rw [HW1.out])
      refine (oft_c y.tag W1 (HT.out.kept HK1.out)).mono ?_
      rintro e w2 ⟨rfl, k2⟩
      obtain ⟨W3, hW3⟩ : ∃ W, w2.alloc (.cells #[.string (Wrd.ofT y.tag)] 9) = W := ⟨_, rfl⟩
      obtain ⟨k3, b3, z3⟩ := vnew hW3
      have HS := Lib.hid (show Src Tryz.prog 1 104 (.slice (some ⟨w2.heap.size, 0, none⟩) 1 1) 1 [.string (Wrd.ofT y.tag)] W3 by rw [← hW3]; exact Src.ofSlice (P := Tryz.prog) (size := 1) (tx := 104) _ Tryz.underlying104 ⟨w2.heap.size, 0, none⟩ 1 1 [.string (Wrd.ofT y.tag)] rfl (cell_one_new w2 _ _) (by simp [Value.oneCell']))
      have HR3 := Lib.hid (owns_kept HR1.out (k2.trans k3))
      have HK3 := Lib.hid (HK1.out.trans (k2.trans k3))
      have HW3 := Lib.hid hW3
      clear hW3 k3 b3 z3 k2
      go_wp2_with (first | rw [HW3.out] | (at_builtin; refine wpList_apk rfl (.tmp 20) (.tmp 22) 104 104 rfl w.heap.size 1 9 i0 _ 16 Tryz.underlying104 hi hz0 hzz1 hzz2 rfl rfl HR3.out rfl HS.out (by have := HN.out; unfold maxLen; omega) (by have := HN.out; omega) HK3.out.size ?_; intro v4 w4 o4 g4 _; have HR4 := Lib.hid o4; have HK4 := Lib.hid (HK3.out.grown g4 (fun k e => own_ge HR3.out e)); obtain ⟨va, vc, rfl⟩ := slice_of_ownsZ o4; clear o4 g4))
      go_roundw
      case rel => exact ⟨k + 1, va, vc, by go_num, by omega, by first | rfl | go_num, Lib.hid (by rw [List.take_add_one, HX.out, Option.toList_some, List.map_append, List.map_append]; exact HR4.out), HK4⟩
      case measure => simp [intOf]; omega
    · obtain rfl : k = l.length := by omega
      have HR2 := Lib.hid (show TxR wr (.slice a' l.length c') (l.map fun x => Wrd.ofT x.tag) from TxR.owns (by have := HR.out; rw [List.take_length] at this; exact this))
      go_wp2_with fail
      go_ret
      exact ⟨a', c', rfl, HR2.out, HK.out⟩

end Go.Proofs.YtcaailiijmjdlaaGreatDoor
