/- The contracts of the parser's helpers: slices.Index and Contains at texts, sort, is, next, refuse, take, skip. -/
import Derived.Test.YtfkmnpgpfmkjaaaGreatDoorQPsm
import Derived.Shelf.Abstract
import Derived.Deep.LoopGhost
import Derived.Deep.QuietTactic
import Derived.Laws.BytesString
set_option linter.unusedSimpArgs false
set_option linter.unusedVariables false
set_option maxRecDepth 100000
namespace Go.Proofs.YtfkmnpgpfmkjaaaGreatDoor
open Go.ChangeShapes Go.WideShapes Go.ChangeAt Go.RowKit
attribute [local go_sem] Oper.semAt_some
open Ps (O W)
theorem eqb_yes {x s : ByteArray} (h : x = s) : (x.toList == s.toList) = true := by rw [h]; exact beq_self_eq_true _
theorem eqb_no {x s : ByteArray} (h : ¬ x = s) : (x.toList == s.toList) = false := by
 rw [beq_eq_false_iff_ne]
 intro e
 rw [ByteArray.toList_eq, ByteArray.toList_eq] at e
 exact h (ByteArray.ext (Array.toList_inj.1 e))
/-- Whether a place that was told is one. -/
def IdxT (k : Int) (x : ByteArray) (l : List ByteArray) : Prop := decide (0 ≤ k) = Ps.mem l x
theorem indexT_c (D : Nat → Prop) (a : Option Addr) (c : Nat) (l : List ByteArray) (x : ByteArray) (w : World) (h : LvR D w (.slice a l.length c) l) :
  Calls Tryz.prog 99 #[.slice a l.length c, .string x] w fun e w' => ∃ k : Int, e = .returned (.int .i64 k) ∧ IdxT k x l ∧ w' = w := by
 have hcap : l.length ≤ maxLen := Row.len h
 obtain ⟨_, _, e0, _, _, hat⟩ := h
 injection e0 with e1 e2 e3
 subst e1 e3
 clear e2
 have HAT := Lib.hid hat
 clear hat
 unfold maxLen at hcap
 go_enter Tryz.func99, Tryz.ntmps99
 go_wp2_with fail
 go_loopw [8] (fun i wr => ∃ k : Nat, i = .int .i64 k ∧ k ≤ l.length ∧ Hid (x ∉ l.take k) ∧ wr = w) (fun i wr => l.length - (intOf i).toNat)
 case atStart => exact ⟨0, rfl, Nat.zero_le _, Lib.hid (by simp), rfl⟩
 case round =>
  obtain ⟨k, rfl, hk, HN, rfl⟩ := hrel
  by_cases hlt : k < l.length
  ·have hltI : (k : Int) < (l.length : Int) := by omega
   have hx : l[k]? = some l[k] := List.getElem?_eq_getElem hlt
   generalize hy : l[k] = y at hx
   obtain ⟨b, o, rfl, _, hc⟩ := HAT.out k y hx
   rw [Nat.mul_one] at hc
   have HX := Lib.hid hx
   clear hx hy
   by_cases hxy : x = y
   ·have hb := eqb_yes hxy
    have HD := Lib.hid (show IdxT (k : Int) x l by unfold IdxT; rw [decide_eq_true (by omega : (0 : Int) ≤ (k : Int)), Ps.mem_iff.2 (by rw [hxy]; exact List.mem_of_getElem? HX.out)])
    clear hxy
    go_wp2_with fail
    go_ret
    exact ⟨k, rfl, HD.out, rfl⟩
   ·have hb := eqb_no hxy
    have HN2 := Lib.hid (show x ∉ l.take (k + 1) by
     rw [List.take_add_one, HX.out]
     simp only [Option.toList_some, List.mem_append, List.mem_singleton, not_or]
     exact ⟨HN.out, hxy⟩)
    clear hxy
    go_wp2_with fail
    go_roundw
    case rel => exact ⟨k + 1, by go_num, by omega, HN2, by first | trivial | rfl⟩
    case measure => simp [intOf]; omega
  ·obtain rfl : k = l.length := by omega
   have HD := Lib.hid (show IdxT (-1) x l by
    unfold IdxT
    have := HN.out
    rw [List.take_length] at this
    rw [Ps.mem_f.2 this]; rfl)
   go_wp2_with fail
   go_ret
   exact ⟨-1, rfl, HD.out, rfl⟩
theorem containsT_c (D : Nat → Prop) (a : Option Addr) (c : Nat) (l : List ByteArray) (x : ByteArray) (w : World) (h : LvR D w (.slice a l.length c) l) :
  Calls Tryz.prog 74 #[.slice a l.length c, .string x] w fun e w' => e = .returned (.bool (Ps.mem l x)) ∧ w' = w := by
 have HI := Lib.hid (indexT_c D a c l x w h)
 clear h
 go_enter Tryz.func74, Tryz.ntmps74
 go_wp2_with fail
 refine HI.out.mono ?_
 rintro e w' ⟨k, rfl, HD, rfl⟩
 go_wp2_with fail
 go_ret
 exact ⟨by have := HD; unfold IdxT at this; rw [← this]; rfl, rfl⟩
section
variable {p : PP} {t : Lx.T} {r : List Lx.T}
set_option maxHeartbeats 1000000 in
theorem psort_c (w : World) (hp : Pst p (t :: r) w) : Calls Tryz.prog 75 #[.pointer (some ⟨p.B, 0, none⟩)] w fun e w' => e = .returned (.string (Ps.srt t)) ∧ Kept w w' := by
 obtain ⟨⟨ad, c, hb, hr⟩, hg, hs, _⟩ := hp
 obtain ⟨b, o, rfl, hn, hnc, hcm, ⟨hbB, hbN⟩, h0, h1, h2, h3⟩ := row_head hr
 obtain ⟨⟨hk0, hk7⟩, _, _, _⟩ := hg.ok t (by simp)
 obtain ⟨⟨ty, fr, hso⟩, _⟩ := hs.so
 have cB := hb.cell 0
 simp only [pC] at cB
 simp at cB
 have g0 := cell_of_row w _ 0 _ ty fr hso
 have g1 := cell_of_row w _ 1 _ ty fr hso
 have g2 := cell_of_row w _ 2 _ ty fr hso
 have g4 := cell_of_row w _ 4 _ ty fr hso
 have g5 := cell_of_row w _ 5 _ ty fr hso
 have g6 := cell_of_row w _ 6 _ ty fr hso
 simp at g0 g1 g2 g4 g5 g6
 clear hb hr hg hs hso hn hnc hcm
 have hsrt : Ps.srt t = if t.kind = 3 then t.text else if t.kind = 7 then t.text else Ps.srtK t.kind := rfl
 obtain ⟨kd, hkd⟩ : ∃ kd, t.kind = kd := ⟨_, rfl⟩
 rw [hkd] at h0 hk0 hk7 hsrt
 have hcs : kd = 0 ∨ kd = 1 ∨ kd = 2 ∨ kd = 3 ∨ kd = 4 ∨ kd = 5 ∨ kd = 6 ∨ kd = 7 := by omega
 clear hk0 hk7
 rcases hcs with rfl | rfl | rfl | rfl | rfl | rfl | rfl | rfl
 all_goals
  simp [Ps.srtK] at hsrt
  rw [hsrt]
  clear hsrt hkd
  have gg : ∀ o v, w.cell? ⟨0, o, none⟩ = some v → ∀ ob, (w.alloc ob).cell? ⟨0, o, none⟩ = some v := fun o v h ob => ((Kept.refl w).alloc ob).cell h
  have g0 := gg _ _ g0
  have g1 := gg _ _ g1
  have g2 := gg _ _ g2
  have g4 := gg _ _ g4
  have g5 := gg _ _ g5
  have g6 := gg _ _ g6
  clear gg
  go_enter Tryz.func75, Tryz.ntmps75
  go_wp2_with fail
  go_ret
  exact ⟨rfl, (Kept.refl w).alloc _⟩
theorem is_c (D : Nat → Prop) (ss : List ByteArray) (a : Option Addr) (n c : Nat) (w : World) (hp : Pst p (t :: r) w) (hn : n = ss.length) (hs : LvR D w (.slice a n c) ss) :
  Calls Tryz.prog 37 #[.pointer (some ⟨p.B, 0, none⟩), .slice a n c] w fun e w' => e = .returned (.bool (Ps.mem ss (Ps.srt t))) ∧ Kept w w' := by
 subst hn
 have HS := Lib.hid (psort_c w hp)
 have HL := Lib.hid hs
 clear hp hs
 go_enter Tryz.func37, Tryz.ntmps37
 go_wp2_with fail
 refine HS.out.mono ?_
 rintro e w1 ⟨rfl, k1⟩
 have HC := Lib.hid (containsT_c D a c ss (Ps.srt t) w1 (HL.out.kept k1))
 have HK := Lib.hid k1
 clear k1
 go_wp2_with fail
 refine HC.out.mono ?_
 rintro e w2 ⟨rfl, rfl⟩
 go_wp2_with fail
 go_ret
 exact ⟨rfl, HK.out⟩
set_option maxHeartbeats 1000000 in
theorem pnext_c (w : World) (hp : Pst p (t :: r) w) (hr : Ps.srt t ≠ Ps.theEnd) : Calls Tryz.prog 41 #[.pointer (some ⟨p.B, 0, none⟩)] w fun e w' => e = .returned (tAgg t) ∧ Pst p r w' ∧ Only (· = p.B) w w' := by
 have hgr := hp.good.tail hr
 have hlt := hp.hi
 obtain ⟨W0, hW0⟩ : ∃ W0, w.alloc (.cells #[.int .i64 0, .string ⟨#[]⟩, .int .i64 0, .int .i64 0] 48) = W0 := ⟨_, rfl⟩
 have k0 : Kept w W0 := by rw [← hW0]; exact (Kept.refl w).alloc _
 have z0 : W0.heap.size = w.heap.size + 1 := by rw [← hW0]; simp
 have b0 : Blk W0 w.heap.size 48 #[.int .i64 0, .string ⟨#[]⟩, .int .i64 0, .int .i64 0] := by rw [← hW0]; exact Blk.new _ _ _
 obtain ⟨W1, hW1⟩ : ∃ W1, W0.alloc (.cells #[.int .i64 t.kind, .string t.text, .int .i64 t.n, .int .i64 t.pos] 48) = W1 := ⟨_, rfl⟩
 have k1 : Kept W0 W1 := by rw [← hW1]; exact (Kept.refl W0).alloc _
 have b1 : Blk W1 (w.heap.size + 1) 48 #[.int .i64 t.kind, .string t.text, .int .i64 t.n, .int .i64 t.pos] := by rw [← hW1, ← z0]; exact Blk.new _ _ _
 obtain ⟨⟨ad, c, hbw, hrow⟩, hg, hs, hlN⟩ := hp
 have hb := hbw.kept k0
 obtain ⟨b, o, rfl, hn, hnc, hcm, ⟨hbB, hbN⟩, h0, h1, h2, h3⟩ := row_head (toks_only (S := fun _ => False) hrow (Only.of_kept k0) (fun _ _ h => h))
 obtain ⟨W2, hW2⟩ : ∃ W2, W1.setCell ⟨p.B, 0, none⟩ (.slice (some ⟨b, o + 4, none⟩) r.length (c - 1)) = W2 := ⟨_, rfl⟩
 have o2 : Only (· = p.B) W1 W2 := by rw [← hW2]; exact (Only.refl _ _).put 0 _
 have B2 : Blk W2 p.B pT (pC (.slice (some ⟨b, o + 4, none⟩) r.length (c - 1)) p) := by rw [← hW2]; exact (hb.kept k1).put 0 _
 have cB0 := hb.cell 0
 have cB1 := (hb.kept k1).cell 0
 have fB1 := (hb.kept k1).frozen 0
 simp only [pC] at cB0 cB1
 simp at cB0 cB1
 have b2 : Blk W2 (w.heap.size + 1) 48 #[.int .i64 t.kind, .string t.text, .int .i64 t.n, .int .i64 t.pos] := b1.only o2 (by omega)
 have e2 : Blk W2 w.heap.size 48 #[.int .i64 0, .string ⟨#[]⟩, .int .i64 0, .int .i64 0] := (b0.kept k1).only o2 (by omega)
 have x0 := b2.cell 0
 have x1 := b2.cell 1
 have x2 := b2.cell 2
 have x3 := b2.cell 3
 have y0 := e2.cell 0
 have y1 := e2.cell 1
 have y2 := e2.cell 2
 have y3 := e2.cell 3
 have f0 := e2.frozen 0
 have f1 := e2.frozen 1
 have f2 := e2.frozen 2
 have f3 := e2.frozen 3
 simp at x0 x1 x2 x3 y0 y1 y2 y3
 have hrl : 0 < r.length := List.length_pos_iff.2 hgr.ne
 rw [List.length_cons] at hnc
 have hc1 : (1 : Int) < (c : Int) := by omega
 have hc2 : ¬ c = 1 := by omega
 have hrlI : (1 : Int) ≤ (r.length : Int) := by omega
 have HP := Lib.hid (fun W' (ho : Only (· = w.heap.size) W2 W') => show Pst p r W' ∧ Only (· = p.B) w W' from by
  have ho' : Only (· = p.B) w W' := by
   refine ⟨ho.os.trans (o2.os.trans (k1.os.trans k0.os)), ho.output.trans (o2.output.trans (k1.output.trans k0.output)), Nat.le_trans k0.size (Nat.le_trans k1.size (Nat.le_trans o2.size ho.size)), fun k hk hkB => ?_⟩
   have := k0.size
   have := k1.size
   have := o2.size
   exact (ho.block k (by omega) (by omega)).trans ((o2.block k (by omega) hkB).trans ((k1.block k (by omega)).trans (k0.block k hk)))
  exact ⟨Pst.next hgr hs hlN (row_tail hrow) ho' (B2.only ho (by omega)), ho'⟩)
 have HE2 := Lib.hid e2
 have HW0 := Lib.hid hW0
 have HW1 := Lib.hid hW1
 have HW2 := Lib.hid hW2
 have HB := Lib.hid hlt
 clear hgr hr hbw hlN hbN k0 b0 k1 b1 hb hrow hg hs hn hnc hcm hbB o2 B2 b2 e2 hW0 hW1 hW2 hlt hrl
 go_enter Tryz.func41, Tryz.ntmps41
 go_wp2_with (first | rw [HW0.out] | rw [HW1.out] | rw [HW2.out])
 obtain ⟨p1, p2⟩ := HP.out _ (put4t_only W2 w.heap.size t)
 exact bodyPost_ret (tok_results (by rfl) _ _ rfl (put4t_blk HE2.out t)) rfl ⟨rfl, p1, p2⟩
theorem prefuse_c (w : World) (hp : Pst p (t :: r) w) : Calls Tryz.prog 40 #[.pointer (some ⟨p.B, 0, none⟩)] w fun e w' => e = .panicked (refV 5 t.pos) ∧ Kept w w' := by
 obtain ⟨⟨ad, c, hb, hr⟩, hg, hs, _⟩ := hp
 obtain ⟨b, o, rfl, hn, hnc, hcm, hbB, h0, h1, h2, h3⟩ := row_head hr
 have cB := hb.cell 0
 simp only [pC] at cB
 simp at cB
 clear hb hr hg hs hn hnc hcm
 go_enter Tryz.func40, Tryz.ntmps40
 go_wp2_with fail
 exact ⟨rfl, rfl, Kept.refl w⟩
theorem take_c (D : Nat → Prop) (ss : List ByteArray) (a : Option Addr) (n c : Nat) (l : List Lx.T) (w : World) (hp : Pst p l w) (hn : n = ss.length) (hs : LvR D w (.slice a n c) ss) (he : Ps.theEnd ∉ ss) :
  Calls Tryz.prog 25 #[.pointer (some ⟨p.B, 0, none⟩), .slice a n c] w (TakePost p ss l w) := by
 subst hn
 obtain ⟨t, r, rfl, htok⟩ := hp.good.cons
 obtain ⟨W0, hW0⟩ : ∃ W0, w.alloc (.cells #[.int .i64 0, .string ⟨#[]⟩, .int .i64 0, .int .i64 0] 48) = W0 := ⟨_, rfl⟩
 have k0 : Kept w W0 := by rw [← hW0]; exact (Kept.refl w).alloc _
 have b0 : Blk W0 w.heap.size 48 #[.int .i64 0, .string ⟨#[]⟩, .int .i64 0, .int .i64 0] := by rw [← hW0]; exact Blk.new _ _ _
 have hlN := hp.lt
 have HI := Lib.hid (is_c D ss a ss.length c W0 (hp.kept k0) rfl (hs.kept k0))
 have HP0 := Lib.hid (hp.kept k0)
 have HK0 := Lib.hid k0
 have HB0 := Lib.hid b0
 have HW0 := Lib.hid hW0
 cases hm : Ps.mem ss (Ps.srt t) with
 | false =>
  rw [hm] at HI
  have HE := Lib.hid (show Ps.take ss (t :: r) = .bad t.pos by rw [Ps.take, hm]; rfl)
  clear hp hs k0 b0 hW0 htok hm
  go_enter Tryz.func25, Tryz.ntmps25
  go_wp2_with (rw [HW0.out])
  refine HI.out.mono ?_
  rintro e w1 ⟨rfl, k1⟩
  have HR := Lib.hid (prefuse_c w1 (HP0.out.kept k1))
  have HK1 := Lib.hid k1
  clear k1
  go_wp2_with fail
  refine HR.out.mono ?_
  rintro e w2 ⟨rfl, k2⟩
  go_wp2_with fail
  exact ⟨rfl, .inr ⟨_, HE.out, rfl, Only.of_kept ((HK0.out.trans HK1.out).trans k2)⟩⟩
 | true =>
  rw [hm] at HI
  have hsr : Ps.srt t ≠ Ps.theEnd := fun e => he (e ▸ Ps.mem_iff.1 hm)
  have HE := Lib.hid (show Ps.take ss (t :: r) = .ok t r by rw [Ps.take, hm]; rfl)
  have HT := Lib.hid htok
  have HSR := Lib.hid hsr
  clear hp hs k0 b0 hW0 htok hm hsr
  go_enter Tryz.func25, Tryz.ntmps25
  go_wp2_with (rw [HW0.out])
  refine HI.out.mono ?_
  rintro e w1 ⟨rfl, k1⟩
  have HR := Lib.hid (pnext_c w1 (HP0.out.kept k1) HSR.out)
  have HK1 := Lib.hid k1
  clear k1
  go_wp2_with fail
  refine HR.out.mono ?_
  rintro e w2 ⟨rfl, hp2, o2⟩
  have b2 := (HB0.out.kept HK1.out).only o2 (by omega)
  have f0 := b2.frozen 0
  have f1 := b2.frozen 1
  have f2 := b2.frozen 2
  have f3 := b2.frozen 3
  have y0 := b2.cell 0
  have y1 := b2.cell 1
  have y2 := b2.cell 2
  have y3 := b2.cell 3
  simp at y0 y1 y2 y3
  have HB2 := Lib.hid b2
  have HP2 := Lib.hid hp2
  have HO2 := Lib.hid o2
  clear b2 hp2 o2
  go_wp2_with fail
  have h1 := put4t_only w2 w.heap.size t
  refine bodyPost_ret (tok_results (by rfl) _ _ rfl (put4t_blk HB2.out t)) rfl (.inl ⟨t, r, HE.out, rfl, rfl, HP2.out.only h1 (fun b hb => by omega), ?_, HT.out⟩)
  have hO : Only (· = p.B) w w2 := (Only.of_kept (HK0.out.trans HK1.out)).trans HO2.out
  exact ⟨h1.os.trans hO.os, h1.output.trans hO.output, Nat.le_trans hO.size h1.size, fun k hk hB => (h1.block k (Nat.lt_of_lt_of_le hk hO.size) (by omega)).trans (hO.block k hk hB)⟩
theorem short_len {n : Nat} (h : n ≤ 100) : n ≤ maxLen := by unfold maxLen; omega
/-- One of these texts, as a slice made at once. -/
theorem take_l (ks : List ByteArray) {l : List Lx.T} {X : World} {g n : Nat} {cs : Array Value} {ty : TypeId} (hp : Pst p l X) (hg : g = X.heap.size) (hn : n = ks.length) (hcs : cs = (ks.map Value.string).toArray) (hm : ks.length ≤ 100) (he : Ps.mem ks Ps.theEnd = false) :
  Calls Tryz.prog 25 #[.pointer (some ⟨p.B, 0, none⟩), .slice (some ⟨g, 0, none⟩) n n] (X.alloc (.cells cs ty)) (TakePost p ks l X) := by
 subst hg hn hcs
 refine (take_c (fun _ => True) ks _ _ _ l _ (hp.alloc _) rfl (LvR.lit ks (Blk.new _ _ _) (short_len hm)) (Ps.mem_f.1 he)).mono ?_
 intro e w' h
 have hk : Only (· = p.B) X (X.alloc (.cells (ks.map Value.string).toArray ty)) := Only.of_kept ((Kept.refl X).alloc _)
 rcases h with ⟨t, r, h1, h2, h3, h4, h5, h6⟩ | ⟨q, h1, h2, h3⟩
 ·exact .inl ⟨t, r, h1, h2, h3, h4, hk.trans h5, h6⟩
 ·exact .inr ⟨q, h1, h2, hk.trans h3⟩
theorem is_l (ks : List ByteArray) {l : List Lx.T} {X : World} {g n : Nat} {cs : Array Value} {ty : TypeId} (hp : Pst p l X) (hg : g = X.heap.size) (hn : n = ks.length) (hcs : cs = (ks.map Value.string).toArray) (hm : ks.length ≤ 100) :
  Calls Tryz.prog 37 #[.pointer (some ⟨p.B, 0, none⟩), .slice (some ⟨g, 0, none⟩) n n] (X.alloc (.cells cs ty)) (fun e w' => e = .returned (.bool (Ps.is ks l)) ∧ Kept X w') := by
 subst hg hn hcs
 obtain ⟨t, r, rfl, htok⟩ := hp.good.cons
 refine (is_c (fun _ => True) ks _ _ _ _ (hp.alloc _) rfl (LvR.lit ks (Blk.new _ _ _) (short_len hm))).mono ?_
 rintro e w' ⟨rfl, k⟩
 exact ⟨rfl, ((Kept.refl X).alloc _).trans k⟩
theorem pskip_c (k : ByteArray) (l : List Lx.T) (w : World) (hp : Pst p l w) (he : Ps.theEnd ≠ k) :
  Calls Tryz.prog 76 #[.pointer (some ⟨p.B, 0, none⟩), .string k] w fun e w' =>
   (Ps.is [k] l = true ∧ e = .returned (.bool true) ∧ Pst p l.tail w' ∧ Only (· = p.B) w w' ∧ l.tail.length + 1 = l.length) ∨ (Ps.is [k] l = false ∧ e = .returned (.bool false) ∧ Pst p l w' ∧ Only (· = p.B) w w') := by
 have HP := Lib.hid hp
 obtain ⟨t, r, rfl, htok⟩ := hp.good.cons
 cases hm : Ps.is [k] (t :: r) with
 | false =>
  have HE := Lib.hid hm
  clear hp htok hm
  go_enter Tryz.func76, Tryz.ntmps76
  go_wp2_with fail
  refine (is_l [k] (ty := 9) HP.out rfl rfl rfl (by simp)).mono ?_
  rintro e w1 ⟨he1, k1⟩
  rw [HE.out] at he1
  subst he1
  have HP1 := Lib.hid (HP.out.kept k1)
  have HK1 := Lib.hid k1
  clear k1
  go_wp2_with fail
  go_ret
  exact .inr ⟨trivial, rfl, HP1.out, Only.of_kept HK1.out⟩
 | true =>
  have HE := Lib.hid hm
  have hsr : Ps.srt t ≠ Ps.theEnd := fun e => by
   have := Ps.mem_iff.1 (show Ps.mem [k] (Ps.srt t) = true from hm)
   rw [List.mem_singleton] at this
   exact he (e.symm.trans this)
  have HSR := Lib.hid hsr
  clear hp htok hm hsr
  go_enter Tryz.func76, Tryz.ntmps76
  go_wp2_with fail
  refine (is_l [k] (ty := 9) HP.out rfl rfl rfl (by simp)).mono ?_
  rintro e w1 ⟨he1, k1⟩
  rw [HE.out] at he1
  subst he1
  have HN := Lib.hid (pnext_c w1 (HP.out.kept k1) HSR.out)
  have HK1 := Lib.hid k1
  clear k1
  go_wp2_with fail
  refine HN.out.mono ?_
  rintro e w2 ⟨rfl, hp2, o2⟩
  have HP2 := Lib.hid hp2
  have HO2 := Lib.hid o2
  clear hp2 o2
  go_wp2_with fail
  go_ret
  exact .inl ⟨trivial, rfl, HP2.out, (Only.of_kept HK1.out).trans HO2.out, rfl⟩
theorem ptyp_c (l : List Lx.T) (w : World) (hp : Pst p l w) : Calls Tryz.prog 96 #[.pointer (some ⟨p.B, 0, none⟩)] w (StrPost p l (Ps.typ l) w) := by
 have HP := Lib.hid hp
 clear hp
 have hf1 := field_tok1
 go_enter Tryz.func96, Tryz.ntmps96
 go_wp2_with fail
 refine (take_l Ps.typs (ty := 9) HP.out rfl rfl rfl (by decide) (by decide +kernel)).mono ?_
 rintro e w1 (⟨t, r, h1, h2, rfl, h4, h5, h6⟩ | ⟨q, h1, rfl, h3⟩)
 ·have HH := Lib.hid (show Ps.typ l = .ok t.text r ∧ Pst p r w1 ∧ Only (· = p.B) w w1 ∧ t.text.size ≤ maxLen ∧ r.length ≤ l.length from ⟨by rw [Ps.typ, h1]; rfl, h4, h5, h6.2.1, by rw [h2, List.length_cons]; omega⟩)
  clear h1 h2 h4 h5 h6
  go_wp2_with fail
  go_ret
  exact .inl ⟨_, _, HH.out.1, rfl, HH.out.2⟩
 ·have HH := Lib.hid (show Ps.typ l = .bad q ∧ Only (· = p.B) w w1 from ⟨by rw [Ps.typ, h1]; rfl, h3⟩)
  clear h1 h3
  go_wp2_with fail
  exact ⟨rfl, .inr ⟨_, HH.out.1, rfl, HH.out.2⟩⟩
theorem annot_c (l : List Lx.T) (w : World) (hp : Pst p l w) : Calls Tryz.prog 100 #[.pointer (some ⟨p.B, 0, none⟩)] w (StrPost p l (Ps.annot l) w) := by
 have HP := Lib.hid hp
 clear hp
 go_enter Tryz.func100, Tryz.ntmps100
 go_wp2_with fail
 refine (pskip_c Ps.kColon l _ HP.out (by decide +kernel)).mono ?_
 rintro e w1 (⟨h1, rfl, h2, h3, h4⟩ | ⟨h1, rfl, h2, h3⟩)
 ·have HT := Lib.hid (ptyp_c l.tail w1 h2)
  have HA := Lib.hid (show Ps.annot l = Ps.typ l.tail by rw [Ps.annot, if_pos h1])
  have HO := Lib.hid h3
  have HL := Lib.hid h4
  clear h1 h2 h3 h4
  go_wp2_with fail
  refine HT.out.mono ?_
  rintro e w2 (⟨y, r, h1, rfl, h2, h3, h4, h5⟩ | ⟨q, h1, rfl, h2⟩)
  ·have HH := Lib.hid (show Ps.annot l = .ok y r ∧ Pst p r w2 ∧ Only (· = p.B) w w2 ∧ y.size ≤ maxLen ∧ r.length ≤ l.length from ⟨HA.out.trans h1, h2, HO.out.trans h3, h4, by have := HL.out; omega⟩)
   clear h1 h2 h3 h4 h5
   go_wp2_with fail
   go_ret
   exact .inl ⟨_, _, HH.out.1, rfl, HH.out.2⟩
  ·have HH := Lib.hid (show Ps.annot l = .bad q ∧ Only (· = p.B) w w2 from ⟨HA.out.trans h1, HO.out.trans h2⟩)
   clear h1 h2
   go_wp2_with fail
   exact ⟨rfl, .inr ⟨_, HH.out.1, rfl, HH.out.2⟩⟩
 ·have HH := Lib.hid (show Ps.annot l = .ok Ps.kAny l ∧ Pst p l w1 ∧ Only (· = p.B) w w1 ∧ Ps.kAny.size ≤ maxLen ∧ l.length ≤ l.length from ⟨by rw [Ps.annot, h1]; rfl, h2, h3, by decide, Nat.le_refl _⟩)
  clear h1 h2 h3
  go_wp2_with fail
  go_ret
  exact .inl ⟨_, _, HH.out.1, rfl, HH.out.2⟩
end
end Go.Proofs.YtfkmnpgpfmkjaaaGreatDoor
namespace Go.Proofs.YtfkmnpgpfmkjaaaGreatDoor
open Go.ChangeShapes Go.WideShapes Go.ChangeAt Go.RowKit
attribute [local go_sem] Oper.semAt_some
open Ps (O W)
section
variable {p : PP} {F : Ps.Fam} {k : Nat}
set_option maxHeartbeats 1000000 in
theorem whole_c : WayC p k 56 (Ps.wWhole) := by
 intro t0 r0 w hk hp hsr
 obtain ⟨W0, hW0⟩ : ∃ W0, w.alloc (.cells pzN nT) = W0 := ⟨_, rfl⟩
 have k0 : Kept w W0 := by rw [← hW0]; exact (Kept.refl w).alloc _
 have HZ0 := Lib.hid (show w.heap.size + 1 ≤ W0.heap.size by rw [← hW0]; simp)
 have HB0 := Lib.hid (show Blk W0 w.heap.size nT pzN by rw [← hW0]; exact Blk.new _ _ _)
 have HP0 := Lib.hid (hp.kept k0)
 have HN := Lib.hid hp.lt
 have HO0 := Lib.hid (show Only (· = p.B) w W0 from Only.of_kept k0)
 have HW0 := Lib.hid hW0
 have HSR := Lib.hid hsr
 have HTK := Lib.hid (hp.good.ok t0 (by simp))
 clear hp k0 hW0 hsr hk
 have hf1 := field_tok1
 have hf2 := field_tok2
 go_enter Tryz.func56, Tryz.ntmps56
 go_wp2_with (rw [HW0.out])
 refine (pnext_c _ HP0.out HSR.out).mono ?_
 rintro e w1 ⟨rfl, h4, h5⟩
 have HP1 := Lib.hid h4
 have HO1 := Lib.hid (HO0.out.trans h5)
 have HZ1 := Lib.hid (Nat.le_trans HZ0.out (Only.size h5))
 have HB1 := Lib.hid (HB0.out.only h5 (by have := HN.out; omega))
 clear h4 h5
 obtain ⟨⟨y0, y1, y2, y3, y4, y5⟩, f0, f1, f2, f3, f4, f5⟩ := nd_six HB1.out
 go_wp2_with fail
 refine node_end (x := Ps.nd 7 Ps.e0 Ps.e0 (t0.n) []) (ks := []) (by rfl) rfl rfl HB1.out (by simp only [Ps.wWhole, Ps.O.bind_ok, Ps.O.bind_bad, eq_self, if_true, Bool.false_eq_true, if_false]) rfl (KRow.nil _ _) HP1.out HN.out.2 HO1.out (nd_ok1 _ _ _ _ _ (by decide) e0_size e0_size HTK.out.2.2) ?_
 have := HN.out; skip; rw [count_nd, Nd.countL_nil, List.length_cons]; omega
set_option maxHeartbeats 1000000 in
theorem real_c : WayC p k 57 (Ps.wReal) := by
 intro t0 r0 w hk hp hsr
 obtain ⟨W0, hW0⟩ : ∃ W0, w.alloc (.cells pzN nT) = W0 := ⟨_, rfl⟩
 have k0 : Kept w W0 := by rw [← hW0]; exact (Kept.refl w).alloc _
 have HZ0 := Lib.hid (show w.heap.size + 1 ≤ W0.heap.size by rw [← hW0]; simp)
 have HB0 := Lib.hid (show Blk W0 w.heap.size nT pzN by rw [← hW0]; exact Blk.new _ _ _)
 have HP0 := Lib.hid (hp.kept k0)
 have HN := Lib.hid hp.lt
 have HO0 := Lib.hid (show Only (· = p.B) w W0 from Only.of_kept k0)
 have HW0 := Lib.hid hW0
 have HSR := Lib.hid hsr
 have HTK := Lib.hid (hp.good.ok t0 (by simp))
 clear hp k0 hW0 hsr hk
 have hf1 := field_tok1
 have hf2 := field_tok2
 go_enter Tryz.func57, Tryz.ntmps57
 go_wp2_with (rw [HW0.out])
 refine (pnext_c _ HP0.out HSR.out).mono ?_
 rintro e w1 ⟨rfl, h4, h5⟩
 have HP1 := Lib.hid h4
 have HO1 := Lib.hid (HO0.out.trans h5)
 have HZ1 := Lib.hid (Nat.le_trans HZ0.out (Only.size h5))
 have HB1 := Lib.hid (HB0.out.only h5 (by have := HN.out; omega))
 clear h4 h5
 obtain ⟨⟨y0, y1, y2, y3, y4, y5⟩, f0, f1, f2, f3, f4, f5⟩ := nd_six HB1.out
 go_wp2_with fail
 refine node_end (x := Ps.nd 8 Ps.e0 Ps.e0 (t0.n) []) (ks := []) (by rfl) rfl rfl HB1.out (by simp only [Ps.wReal, Ps.O.bind_ok, Ps.O.bind_bad, eq_self, if_true, Bool.false_eq_true, if_false]) rfl (KRow.nil _ _) HP1.out HN.out.2 HO1.out (nd_ok1 _ _ _ _ _ (by decide) e0_size e0_size HTK.out.2.2) ?_
 have := HN.out; skip; rw [count_nd, Nd.countL_nil, List.length_cons]; omega
set_option maxHeartbeats 1000000 in
theorem noNumber_c : WayC p k 58 (Ps.wNoNumber) := by
 intro t0 r0 w hk hp hsr
 obtain ⟨W0, hW0⟩ : ∃ W0, w.alloc (.cells pzN nT) = W0 := ⟨_, rfl⟩
 have k0 : Kept w W0 := by rw [← hW0]; exact (Kept.refl w).alloc _
 have HZ0 := Lib.hid (show w.heap.size + 1 ≤ W0.heap.size by rw [← hW0]; simp)
 have HB0 := Lib.hid (show Blk W0 w.heap.size nT pzN by rw [← hW0]; exact Blk.new _ _ _)
 have HP0 := Lib.hid (hp.kept k0)
 have HN := Lib.hid hp.lt
 have HO0 := Lib.hid (show Only (· = p.B) w W0 from Only.of_kept k0)
 have HW0 := Lib.hid hW0
 have HSR := Lib.hid hsr
 have HTK := Lib.hid (hp.good.ok t0 (by simp))
 clear hp k0 hW0 hsr hk
 have hf1 := field_tok1
 have hf2 := field_tok2
 go_enter Tryz.func58, Tryz.ntmps58
 go_wp2_with (rw [HW0.out])
 refine (pnext_c _ HP0.out HSR.out).mono ?_
 rintro e w1 ⟨rfl, h4, h5⟩
 have HP1 := Lib.hid h4
 have HO1 := Lib.hid (HO0.out.trans h5)
 have HZ1 := Lib.hid (Nat.le_trans HZ0.out (Only.size h5))
 have HB1 := Lib.hid (HB0.out.only h5 (by have := HN.out; omega))
 clear h4 h5
 obtain ⟨⟨y0, y1, y2, y3, y4, y5⟩, f0, f1, f2, f3, f4, f5⟩ := nd_six HB1.out
 go_wp2_with fail
 refine node_end (x := Ps.nd 8 t0.text Ps.e0 (0) []) (ks := []) (by rfl) rfl rfl HB1.out (by simp only [Ps.wNoNumber, Ps.O.bind_ok, Ps.O.bind_bad, eq_self, if_true, Bool.false_eq_true, if_false]) rfl (KRow.nil _ _) HP1.out HN.out.2 HO1.out (nd_ok1 _ _ _ _ _ (by decide) HTK.out.2.1 e0_size (by decide)) ?_
 have := HN.out; skip; rw [count_nd, Nd.countL_nil, List.length_cons]; omega
set_option maxHeartbeats 1000000 in
theorem yes_c : WayC p k 59 (Ps.wYes) := by
 intro t0 r0 w hk hp hsr
 obtain ⟨W0, hW0⟩ : ∃ W0, w.alloc (.cells pzN nT) = W0 := ⟨_, rfl⟩
 have k0 : Kept w W0 := by rw [← hW0]; exact (Kept.refl w).alloc _
 have HZ0 := Lib.hid (show w.heap.size + 1 ≤ W0.heap.size by rw [← hW0]; simp)
 have HB0 := Lib.hid (show Blk W0 w.heap.size nT pzN by rw [← hW0]; exact Blk.new _ _ _)
 have HP0 := Lib.hid (hp.kept k0)
 have HN := Lib.hid hp.lt
 have HO0 := Lib.hid (show Only (· = p.B) w W0 from Only.of_kept k0)
 have HW0 := Lib.hid hW0
 have HSR := Lib.hid hsr
 have HTK := Lib.hid (hp.good.ok t0 (by simp))
 clear hp k0 hW0 hsr hk
 have hf1 := field_tok1
 have hf2 := field_tok2
 go_enter Tryz.func59, Tryz.ntmps59
 go_wp2_with (rw [HW0.out])
 refine (pnext_c _ HP0.out HSR.out).mono ?_
 rintro e w1 ⟨rfl, h4, h5⟩
 have HP1 := Lib.hid h4
 have HO1 := Lib.hid (HO0.out.trans h5)
 have HZ1 := Lib.hid (Nat.le_trans HZ0.out (Only.size h5))
 have HB1 := Lib.hid (HB0.out.only h5 (by have := HN.out; omega))
 clear h4 h5
 obtain ⟨⟨y0, y1, y2, y3, y4, y5⟩, f0, f1, f2, f3, f4, f5⟩ := nd_six HB1.out
 go_wp2_with fail
 refine node_end (x := Ps.nd 9 Ps.e0 Ps.e0 (1) []) (ks := []) (by rfl) rfl rfl HB1.out (by simp only [Ps.wYes, Ps.O.bind_ok, Ps.O.bind_bad, eq_self, if_true, Bool.false_eq_true, if_false]) rfl (KRow.nil _ _) HP1.out HN.out.2 HO1.out (nd_ok1 _ _ _ _ _ (by decide) e0_size e0_size (by decide)) ?_
 have := HN.out; skip; rw [count_nd, Nd.countL_nil, List.length_cons]; omega
set_option maxHeartbeats 1000000 in
theorem no_c : WayC p k 60 (Ps.wNo) := by
 intro t0 r0 w hk hp hsr
 obtain ⟨W0, hW0⟩ : ∃ W0, w.alloc (.cells pzN nT) = W0 := ⟨_, rfl⟩
 have k0 : Kept w W0 := by rw [← hW0]; exact (Kept.refl w).alloc _
 have HZ0 := Lib.hid (show w.heap.size + 1 ≤ W0.heap.size by rw [← hW0]; simp)
 have HB0 := Lib.hid (show Blk W0 w.heap.size nT pzN by rw [← hW0]; exact Blk.new _ _ _)
 have HP0 := Lib.hid (hp.kept k0)
 have HN := Lib.hid hp.lt
 have HO0 := Lib.hid (show Only (· = p.B) w W0 from Only.of_kept k0)
 have HW0 := Lib.hid hW0
 have HSR := Lib.hid hsr
 have HTK := Lib.hid (hp.good.ok t0 (by simp))
 clear hp k0 hW0 hsr hk
 have hf1 := field_tok1
 have hf2 := field_tok2
 go_enter Tryz.func60, Tryz.ntmps60
 go_wp2_with (rw [HW0.out])
 refine (pnext_c _ HP0.out HSR.out).mono ?_
 rintro e w1 ⟨rfl, h4, h5⟩
 have HP1 := Lib.hid h4
 have HO1 := Lib.hid (HO0.out.trans h5)
 have HZ1 := Lib.hid (Nat.le_trans HZ0.out (Only.size h5))
 have HB1 := Lib.hid (HB0.out.only h5 (by have := HN.out; omega))
 clear h4 h5
 obtain ⟨⟨y0, y1, y2, y3, y4, y5⟩, f0, f1, f2, f3, f4, f5⟩ := nd_six HB1.out
 go_wp2_with fail
 refine node_end (x := Ps.nd 9 Ps.e0 Ps.e0 (0) []) (ks := []) (by rfl) rfl rfl HB1.out (by simp only [Ps.wNo, Ps.O.bind_ok, Ps.O.bind_bad, eq_self, if_true, Bool.false_eq_true, if_false]) rfl (KRow.nil _ _) HP1.out HN.out.2 HO1.out (nd_ok1 _ _ _ _ _ (by decide) e0_size e0_size (by decide)) ?_
 have := HN.out; skip; rw [count_nd, Nd.countL_nil, List.length_cons]; omega
set_option maxHeartbeats 1000000 in
theorem text1_c : WayC p k 61 (Ps.wText) := by
 intro t0 r0 w hk hp hsr
 obtain ⟨W0, hW0⟩ : ∃ W0, w.alloc (.cells pzN nT) = W0 := ⟨_, rfl⟩
 have k0 : Kept w W0 := by rw [← hW0]; exact (Kept.refl w).alloc _
 have HZ0 := Lib.hid (show w.heap.size + 1 ≤ W0.heap.size by rw [← hW0]; simp)
 have HB0 := Lib.hid (show Blk W0 w.heap.size nT pzN by rw [← hW0]; exact Blk.new _ _ _)
 have HP0 := Lib.hid (hp.kept k0)
 have HN := Lib.hid hp.lt
 have HO0 := Lib.hid (show Only (· = p.B) w W0 from Only.of_kept k0)
 have HW0 := Lib.hid hW0
 have HSR := Lib.hid hsr
 have HTK := Lib.hid (hp.good.ok t0 (by simp))
 clear hp k0 hW0 hsr hk
 have hf1 := field_tok1
 have hf2 := field_tok2
 go_enter Tryz.func61, Tryz.ntmps61
 go_wp2_with (rw [HW0.out])
 refine (pnext_c _ HP0.out HSR.out).mono ?_
 rintro e w1 ⟨rfl, h4, h5⟩
 have HP1 := Lib.hid h4
 have HO1 := Lib.hid (HO0.out.trans h5)
 have HZ1 := Lib.hid (Nat.le_trans HZ0.out (Only.size h5))
 have HB1 := Lib.hid (HB0.out.only h5 (by have := HN.out; omega))
 clear h4 h5
 obtain ⟨⟨y0, y1, y2, y3, y4, y5⟩, f0, f1, f2, f3, f4, f5⟩ := nd_six HB1.out
 go_wp2_with fail
 refine node_end (x := Ps.nd 10 t0.text Ps.e0 (0) []) (ks := []) (by rfl) rfl rfl HB1.out (by simp only [Ps.wText, Ps.O.bind_ok, Ps.O.bind_bad, eq_self, if_true, Bool.false_eq_true, if_false]) rfl (KRow.nil _ _) HP1.out HN.out.2 HO1.out (nd_ok1 _ _ _ _ _ (by decide) HTK.out.2.1 e0_size (by decide)) ?_
 have := HN.out; skip; rw [count_nd, Nd.countL_nil, List.length_cons]; omega
set_option maxHeartbeats 1000000 in
theorem this_c : WayC p k 64 (Ps.wThis) := by
 intro t0 r0 w hk hp hsr
 obtain ⟨W0, hW0⟩ : ∃ W0, w.alloc (.cells pzN nT) = W0 := ⟨_, rfl⟩
 have k0 : Kept w W0 := by rw [← hW0]; exact (Kept.refl w).alloc _
 have HZ0 := Lib.hid (show w.heap.size + 1 ≤ W0.heap.size by rw [← hW0]; simp)
 have HB0 := Lib.hid (show Blk W0 w.heap.size nT pzN by rw [← hW0]; exact Blk.new _ _ _)
 have HP0 := Lib.hid (hp.kept k0)
 have HN := Lib.hid hp.lt
 have HO0 := Lib.hid (show Only (· = p.B) w W0 from Only.of_kept k0)
 have HW0 := Lib.hid hW0
 have HSR := Lib.hid hsr
 have HTK := Lib.hid (hp.good.ok t0 (by simp))
 clear hp k0 hW0 hsr hk
 have hf1 := field_tok1
 have hf2 := field_tok2
 go_enter Tryz.func64, Tryz.ntmps64
 go_wp2_with (rw [HW0.out])
 refine (pnext_c _ HP0.out HSR.out).mono ?_
 rintro e w1 ⟨rfl, h4, h5⟩
 have HP1 := Lib.hid h4
 have HO1 := Lib.hid (HO0.out.trans h5)
 have HZ1 := Lib.hid (Nat.le_trans HZ0.out (Only.size h5))
 have HB1 := Lib.hid (HB0.out.only h5 (by have := HN.out; omega))
 clear h4 h5
 obtain ⟨⟨y0, y1, y2, y3, y4, y5⟩, f0, f1, f2, f3, f4, f5⟩ := nd_six HB1.out
 go_wp2_with fail
 refine node_end (x := Ps.nd 13 Ps.e0 Ps.e0 (0) []) (ks := []) (by rfl) rfl rfl HB1.out (by simp only [Ps.wThis, Ps.O.bind_ok, Ps.O.bind_bad, eq_self, if_true, Bool.false_eq_true, if_false]) rfl (KRow.nil _ _) HP1.out HN.out.2 HO1.out (nd_ok1 _ _ _ _ _ (by decide) e0_size e0_size (by decide)) ?_
 have := HN.out; skip; rw [count_nd, Nd.countL_nil, List.length_cons]; omega
set_option maxHeartbeats 1000000 in
theorem variable_c : WayC p k 65 (Ps.wVar) := by
 intro t0 r0 w hk hp hsr
 obtain ⟨W0, hW0⟩ : ∃ W0, w.alloc (.cells pzN nT) = W0 := ⟨_, rfl⟩
 have k0 : Kept w W0 := by rw [← hW0]; exact (Kept.refl w).alloc _
 have HZ0 := Lib.hid (show w.heap.size + 1 ≤ W0.heap.size by rw [← hW0]; simp)
 have HB0 := Lib.hid (show Blk W0 w.heap.size nT pzN by rw [← hW0]; exact Blk.new _ _ _)
 have HP0 := Lib.hid (hp.kept k0)
 have HN := Lib.hid hp.lt
 have HO0 := Lib.hid (show Only (· = p.B) w W0 from Only.of_kept k0)
 have HW0 := Lib.hid hW0
 have HSR := Lib.hid hsr
 have HTK := Lib.hid (hp.good.ok t0 (by simp))
 clear hp k0 hW0 hsr hk
 have hf1 := field_tok1
 have hf2 := field_tok2
 go_enter Tryz.func65, Tryz.ntmps65
 go_wp2_with (rw [HW0.out])
 refine (pnext_c _ HP0.out HSR.out).mono ?_
 rintro e w1 ⟨rfl, h4, h5⟩
 have HP1 := Lib.hid h4
 have HO1 := Lib.hid (HO0.out.trans h5)
 have HZ1 := Lib.hid (Nat.le_trans HZ0.out (Only.size h5))
 have HB1 := Lib.hid (HB0.out.only h5 (by have := HN.out; omega))
 clear h4 h5
 obtain ⟨⟨y0, y1, y2, y3, y4, y5⟩, f0, f1, f2, f3, f4, f5⟩ := nd_six HB1.out
 go_wp2_with fail
 refine node_end (x := Ps.nd 14 t0.text Ps.e0 (0) []) (ks := []) (by rfl) rfl rfl HB1.out (by simp only [Ps.wVar, Ps.O.bind_ok, Ps.O.bind_bad, eq_self, if_true, Bool.false_eq_true, if_false]) rfl (KRow.nil _ _) HP1.out HN.out.2 HO1.out (nd_ok1 _ _ _ _ _ (by decide) HTK.out.2.1 e0_size (by decide)) ?_
 have := HN.out; skip; rw [count_nd, Nd.countL_nil, List.length_cons]; omega
set_option maxHeartbeats 1000000 in
theorem pnone_c : WayC p k 63 (Ps.wNone) := by
 intro t0 r0 w hk hp hsr
 obtain ⟨W0, hW0⟩ : ∃ W0, w.alloc (.cells pzN nT) = W0 := ⟨_, rfl⟩
 have k0 : Kept w W0 := by rw [← hW0]; exact (Kept.refl w).alloc _
 have HZ0 := Lib.hid (show w.heap.size + 1 ≤ W0.heap.size by rw [← hW0]; simp)
 have HB0 := Lib.hid (show Blk W0 w.heap.size nT pzN by rw [← hW0]; exact Blk.new _ _ _)
 have HP0 := Lib.hid (hp.kept k0)
 have HN := Lib.hid hp.lt
 have HO0 := Lib.hid (show Only (· = p.B) w W0 from Only.of_kept k0)
 have HW0 := Lib.hid hW0
 have HSR := Lib.hid hsr
 have HTK := Lib.hid (hp.good.ok t0 (by simp))
 clear hp k0 hW0 hsr hk
 have hf1 := field_tok1
 have hf2 := field_tok2
 go_enter Tryz.func63, Tryz.ntmps63
 go_wp2_with (rw [HW0.out])
 refine (pnext_c _ HP0.out HSR.out).mono ?_
 rintro e w1 ⟨rfl, h4, h5⟩
 have HP1 := Lib.hid h4
 have HO1 := Lib.hid (HO0.out.trans h5)
 have HZ1 := Lib.hid (Nat.le_trans HZ0.out (Only.size h5))
 have HB1 := Lib.hid (HB0.out.only h5 (by have := HN.out; omega))
 clear h4 h5
 go_wp2_with fail
 refine (take_l [⟨#[97, 32, 99, 108, 97, 115, 115]⟩] (ty := 9) HP1.out (by first | rfl | simp) rfl rfl (by decide) (by decide +kernel)).mono ?_
 rintro e w2 (⟨t2, r2, h1, h2, rfl, h4, h5, h6⟩ | ⟨q, hb, rfl, ho⟩)
 rotate_left
 ·have HH := Lib.hid (show (Ps.wNone) t0 r0 = .bad q ∧ Only (· = p.B) w w2 from ⟨by simp only [Ps.wNone, hb, Ps.O.bind_ok, Ps.O.bind_bad, eq_self, if_true, Bool.false_eq_true, if_false], HO1.out.trans ho⟩)
  clear hb ho
  go_wp2_with fail
  exact ⟨rfl, .inr ⟨_, HH.out.1, rfl, HH.out.2⟩⟩
 have HE2 := Lib.hid h1
 have HT2 := Lib.hid h6
 have HL2 := Lib.hid (show r2.length + 1 = (r0).length by rw [h2]; rfl)
 have HP2 := Lib.hid h4
 have HO2 := Lib.hid (HO1.out.trans h5)
 have HZ2 := Lib.hid (Nat.le_trans HZ1.out (Only.size h5))
 have HB2 := Lib.hid (HB1.out.only h5 (by have := HN.out; omega))
 clear h1 h2 h4 h5 h6
 obtain ⟨⟨y0, y1, y2, y3, y4, y5⟩, f0, f1, f2, f3, f4, f5⟩ := nd_six HB2.out
 go_wp2_with fail
 refine node_end (x := Ps.nd 12 Ps.e0 t2.text 0 []) (ks := []) (by rfl) rfl rfl HB2.out (by simp only [Ps.wNone, HE2.out, Ps.O.bind_ok, Ps.O.bind_bad, eq_self, if_true, Bool.false_eq_true, if_false]) rfl (KRow.nil _ _) HP2.out HN.out.2 HO2.out (nd_ok1 _ _ _ _ _ (by decide) e0_size HT2.out.2.1 (by decide)) ?_
 have := HN.out; have := HL2.out; rw [count_nd, Nd.countL_nil, List.length_cons]; omega
set_option maxHeartbeats 1000000 in
theorem read_c : WayC p k 70 (Ps.wRead) := by
 intro t0 r0 w hk hp hsr
 obtain ⟨W0, hW0⟩ : ∃ W0, w.alloc (.cells pzN nT) = W0 := ⟨_, rfl⟩
 have k0 : Kept w W0 := by rw [← hW0]; exact (Kept.refl w).alloc _
 have HZ0 := Lib.hid (show w.heap.size + 1 ≤ W0.heap.size by rw [← hW0]; simp)
 have HB0 := Lib.hid (show Blk W0 w.heap.size nT pzN by rw [← hW0]; exact Blk.new _ _ _)
 have HP0 := Lib.hid (hp.kept k0)
 have HN := Lib.hid hp.lt
 have HO0 := Lib.hid (show Only (· = p.B) w W0 from Only.of_kept k0)
 have HW0 := Lib.hid hW0
 have HSR := Lib.hid hsr
 have HTK := Lib.hid (hp.good.ok t0 (by simp))
 clear hp k0 hW0 hsr hk
 have hf1 := field_tok1
 have hf2 := field_tok2
 go_enter Tryz.func70, Tryz.ntmps70
 go_wp2_with (rw [HW0.out])
 refine (pnext_c _ HP0.out HSR.out).mono ?_
 rintro e w1 ⟨rfl, h4, h5⟩
 have HP1 := Lib.hid h4
 have HO1 := Lib.hid (HO0.out.trans h5)
 have HZ1 := Lib.hid (Nat.le_trans HZ0.out (Only.size h5))
 have HB1 := Lib.hid (HB0.out.only h5 (by have := HN.out; omega))
 clear h4 h5
 go_wp2_with fail
 refine (take_l [⟨#[40]⟩] (ty := 9) HP1.out (by first | rfl | simp) rfl rfl (by decide) (by decide +kernel)).mono ?_
 rintro e w2 (⟨t2, r2, h1, h2, rfl, h4, h5, h6⟩ | ⟨q, hb, rfl, ho⟩)
 rotate_left
 ·have HH := Lib.hid (show (Ps.wRead) t0 r0 = .bad q ∧ Only (· = p.B) w w2 from ⟨by simp only [Ps.wRead, hb, Ps.O.bind_ok, Ps.O.bind_bad, eq_self, if_true, Bool.false_eq_true, if_false], HO1.out.trans ho⟩)
  clear hb ho
  go_wp2_with fail
  exact ⟨rfl, .inr ⟨_, HH.out.1, rfl, HH.out.2⟩⟩
 have HE2 := Lib.hid h1
 have HT2 := Lib.hid h6
 have HL2 := Lib.hid (show r2.length + 1 = (r0).length by rw [h2]; rfl)
 have HP2 := Lib.hid h4
 have HO2 := Lib.hid (HO1.out.trans h5)
 have HZ2 := Lib.hid (Nat.le_trans HZ1.out (Only.size h5))
 have HB2 := Lib.hid (HB1.out.only h5 (by have := HN.out; omega))
 clear h1 h2 h4 h5 h6
 go_wp2_with fail
 refine (take_l [⟨#[41]⟩] (ty := 9) HP2.out (by first | rfl | simp) rfl rfl (by decide) (by decide +kernel)).mono ?_
 rintro e w3 (⟨t3, r3, h1, h2, rfl, h4, h5, h6⟩ | ⟨q, hb, rfl, ho⟩)
 rotate_left
 ·have HH := Lib.hid (show (Ps.wRead) t0 r0 = .bad q ∧ Only (· = p.B) w w3 from ⟨by simp only [Ps.wRead, HE2.out, hb, Ps.O.bind_ok, Ps.O.bind_bad, eq_self, if_true, Bool.false_eq_true, if_false], HO2.out.trans ho⟩)
  clear hb ho
  go_wp2_with fail
  exact ⟨rfl, .inr ⟨_, HH.out.1, rfl, HH.out.2⟩⟩
 have HE3 := Lib.hid h1
 have HT3 := Lib.hid h6
 have HL3 := Lib.hid (show r3.length + 1 = (r2).length by rw [h2]; rfl)
 have HP3 := Lib.hid h4
 have HO3 := Lib.hid (HO2.out.trans h5)
 have HZ3 := Lib.hid (Nat.le_trans HZ2.out (Only.size h5))
 have HB3 := Lib.hid (HB2.out.only h5 (by have := HN.out; omega))
 clear h1 h2 h4 h5 h6
 obtain ⟨⟨y0, y1, y2, y3, y4, y5⟩, f0, f1, f2, f3, f4, f5⟩ := nd_six HB3.out
 go_wp2_with fail
 refine node_end (x := Ps.nd 26 Ps.e0 Ps.e0 0 []) (ks := []) (by rfl) rfl rfl HB3.out (by simp only [Ps.wRead, HE2.out, HE3.out, Ps.O.bind_ok, Ps.O.bind_bad, eq_self, if_true, Bool.false_eq_true, if_false]) rfl (KRow.nil _ _) HP3.out HN.out.2 HO3.out (nd_ok1 _ _ _ _ _ (by decide) e0_size e0_size (by decide)) ?_
 have := HN.out; have := HL2.out; have := HL3.out; rw [count_nd, Nd.countL_nil, List.length_cons]; omega
set_option maxHeartbeats 1000000 in
theorem param_c (l : List Lx.T) (w : World) (hp : Pst p l w) : Calls Tryz.prog 102 #[.pointer (some ⟨p.B, 0, none⟩)] w (NodePost p l (Ps.param l) w) := by
 obtain ⟨W0, hW0⟩ : ∃ W0, w.alloc (.cells pzN nT) = W0 := ⟨_, rfl⟩
 have k0 : Kept w W0 := by rw [← hW0]; exact (Kept.refl w).alloc _
 have HZ0 := Lib.hid (show w.heap.size + 1 ≤ W0.heap.size by rw [← hW0]; simp)
 have HB0 := Lib.hid (show Blk W0 w.heap.size nT pzN by rw [← hW0]; exact Blk.new _ _ _)
 have HP0 := Lib.hid (hp.kept k0)
 have HN := Lib.hid hp.lt
 have HO0 := Lib.hid (show Only (· = p.B) w W0 from Only.of_kept k0)
 have HW0 := Lib.hid hW0
 clear hp k0 hW0
 have hf1 := field_tok1
 have hf2 := field_tok2
 go_enter Tryz.func102, Tryz.ntmps102
 go_wp2_with (rw [HW0.out])
 refine (take_l [⟨#[97, 32, 110, 97, 109, 101]⟩] (ty := 9) HP0.out (by first | rfl | simp) rfl rfl (by decide) (by decide +kernel)).mono ?_
 rintro e w1 (⟨t1, r1, h1, h2, rfl, h4, h5, h6⟩ | ⟨q, hb, rfl, ho⟩)
 rotate_left
 ·have HH := Lib.hid (show Ps.param l = .bad q ∧ Only (· = p.B) w w1 from ⟨by simp only [Ps.param, hb, Ps.O.bind_ok, Ps.O.bind_bad, eq_self, if_true, Bool.false_eq_true, if_false], HO0.out.trans ho⟩)
  clear hb ho
  go_wp2_with fail
  exact ⟨rfl, .inr ⟨_, HH.out.1, rfl, HH.out.2⟩⟩
 have HE1 := Lib.hid h1
 have HT1 := Lib.hid h6
 have HL1 := Lib.hid (show r1.length + 1 = (l).length by rw [h2]; rfl)
 have HP1 := Lib.hid h4
 have HO1 := Lib.hid (HO0.out.trans h5)
 have HZ1 := Lib.hid (Nat.le_trans HZ0.out (Only.size h5))
 have HB1 := Lib.hid (HB0.out.only h5 (by have := HN.out; omega))
 clear h1 h2 h4 h5 h6
 go_wp2_with fail
 refine (annot_c _ _ HP1.out).mono ?_
 rintro e w2 (⟨yy2, r2, h1, rfl, h4, h5, h6, h7⟩ | ⟨q, hb, rfl, ho⟩)
 rotate_left
 ·have HH := Lib.hid (show Ps.param l = .bad q ∧ Only (· = p.B) w w2 from ⟨by simp only [Ps.param, HE1.out, hb, Ps.O.bind_ok, Ps.O.bind_bad, eq_self, if_true, Bool.false_eq_true, if_false], HO1.out.trans ho⟩)
  clear hb ho
  go_wp2_with fail
  exact ⟨rfl, .inr ⟨_, HH.out.1, rfl, HH.out.2⟩⟩
 have HE2 := Lib.hid h1
 have HT2 := Lib.hid h6
 have HL2 := Lib.hid h7
 have HP2 := Lib.hid h4
 have HO2 := Lib.hid (HO1.out.trans h5)
 have HZ2 := Lib.hid (Nat.le_trans HZ1.out (Only.size h5))
 have HB2 := Lib.hid (HB1.out.only h5 (by have := HN.out; omega))
 clear h1 h4 h5 h6 h7
 obtain ⟨⟨y0, y1, y2, y3, y4, y5⟩, f0, f1, f2, f3, f4, f5⟩ := nd_six HB2.out
 go_wp2_with fail
 refine node_end (x := Ps.nd 5 t1.text yy2 0 []) (ks := []) (by rfl) rfl rfl HB2.out (by simp only [Ps.param, HE1.out, HE2.out, Ps.O.bind_ok, Ps.O.bind_bad, eq_self, if_true, Bool.false_eq_true, if_false]) rfl (KRow.nil _ _) HP2.out HN.out.2 HO2.out (nd_ok1 _ _ _ _ _ (by decide) HT1.out.2.1 HT2.out (by decide)) ?_
 have := HN.out; have := HL1.out; have := HL2.out; rw [count_nd, Nd.countL_nil]; omega
end
end Go.Proofs.YtfkmnpgpfmkjaaaGreatDoor
namespace Go.Proofs.YtfkmnpgpfmkjaaaGreatDoor
open Go.ChangeShapes Go.WideShapes Go.ChangeAt Go.RowKit
attribute [local go_sem] Oper.semAt_some
open Ps (O W)
abbrev ndA (x : Nd) (v : Value) : Array Value := #[.int .i64 x.kind, .string x.text, .string x.typ, .string x.frm, .int .i64 x.n, v]
theorem Only.past {S : Nat → Prop} {a w w' : World} {n : Nat} (h : Only S a w) (k : Only (fun k => n ≤ k) w w') (hn : a.heap.size ≤ n) : Only S a w' :=
 ⟨k.os.trans h.os, k.output.trans h.output, Nat.le_trans h.size k.size, fun i hi hs => (k.block i (Nat.lt_of_lt_of_le hi h.size) (by omega)).trans (h.block i hi hs)⟩
theorem info_ndP : (Tryz.prog.info? nT).map (fun i => (i.zero, i.size, i.bytes)) = some (some (.agg #[.int .i64 0, .string ⟨#[]⟩, .string ⟨#[]⟩, .string ⟨#[]⟩, .int .i64 0, .slice none 0 0]), 6, 88) := by kernel_rfl
theorem wpList_nd {ops : Array Oper} {rest : List Oper} {o : Oper} {a : Act} {Q : Exit → Act → World → Prop} {w : World} (s x : Operand) (hgd : o.guard = none)
  (ho : o.op = .call { callee := .builtin .append, args := #[s, x], argTypes := #[23, 23] }) {D : Nat → Prop} {base : Nat} {v vx : Value} {ks k2 : List (Nd × Value)} (hs : a.eval s = v) (hK : KRowD D base w v ks) (hx : a.eval x = vx)
  (hX : Src Tryz.prog 6 23 vx k2.length (k2.flatMap fun p => ndC p.1 p.2) w) (h2 : ∀ q ∈ k2, q.1.ok1 ∧ KidsD (fun k => D k ∧ v.ownBlock ≠ some k) w q.2 q.1.kids) (hb : base ≤ w.heap.size) (hm : ks.length + k2.length ≤ 60000)
  (hk : ∀ a' c' w', KRowD D base w' (.slice a' (ks.length + k2.length) c') (ks ++ k2) → Only (fun k => base ≤ k) w w' → wpList Tryz.prog ops Q rest (a.put o.dst (.slice a' (ks.length + k2.length) c')) w') : wpList Tryz.prog ops Q (o :: rest) a w := by
 obtain ⟨i0, hi, hi2⟩ := Option.map_eq_some_iff.1 info_ndP
 simp only [Prod.mk.injEq] at hi2
 obtain ⟨hz0, hzz1, hzz2⟩ := hi2
 refine wpList_apk hgd s x 23 23 ho base 6 nT i0 _ 88 Tryz.underlying23 hi hz0 hzz1 hzz2 rfl hs hK.1 hx hX (by unfold maxLen; omega) (by omega) hb ?_
 intro v' w' hown hgrow hlies
 have hnew := hK.app h2 rfl hown hgrow hlies
 obtain ⟨va, vc, rfl⟩ := slice_of_owns0 hown
 refine hk va vc w' hnew ((Only.refl _ w).grown hgrow fun k hk => .inl ?_)
 exact owns_block0 hK.1 hk
theorem step_nd {ops : Array Oper} {o : Oper} {a : Act} {K : Act → World → Prop} {Q : Exit → Act → World → Prop} {E : Prop} {w : World} (s x : Operand) (hgd : o.guard = none)
  (ho : o.op = .call { callee := .builtin .append, args := #[s, x], argTypes := #[23, 23] }) {D : Nat → Prop} {base : Nat} {v vx : Value} {ks k2 : List (Nd × Value)} (hs : a.eval s = v) (hK : KRowD D base w v ks) (hx : a.eval x = vx)
  (hX : Src Tryz.prog 6 23 vx k2.length (k2.flatMap fun p => ndC p.1 p.2) w) (h2 : ∀ q ∈ k2, q.1.ok1 ∧ KidsD (fun k => D k ∧ v.ownBlock ≠ some k) w q.2 q.1.kids) (hb : base ≤ w.heap.size) (hm : ks.length + k2.length ≤ 60000)
  (hk : ∀ a' c' w', KRowD D base w' (.slice a' (ks.length + k2.length) c') (ks ++ k2) → Only (fun k => v.ownBlock = some k ∨ w.heap.size ≤ k) w w' → ((Value.slice a' (ks.length + k2.length) c').ownBlock = v.ownBlock ∨ (Value.slice a' (ks.length + k2.length) c').ownBlock = some w.heap.size) → K (a.put o.dst (.slice a' (ks.length + k2.length) c')) w') :
  if Region.wanted o (yielded ops a.tmps) = true then Oper.wp Tryz.prog o a w K Q else E := by
 obtain ⟨i0, hi, hi2⟩ := Option.map_eq_some_iff.1 info_ndP
 simp only [Prod.mk.injEq] at hi2
 obtain ⟨hz0, hzz1, hzz2⟩ := hi2
 refine step_apk hgd s x 23 23 ho base 6 nT i0 _ 88 Tryz.underlying23 hi hz0 hzz1 hzz2 rfl hs hK.1 hx hX (by unfold maxLen; omega) (by omega) hb ?_
 intro v' w' hown hgrow _ hlies
 have hnew := hK.app h2 rfl hown hgrow hlies
 obtain ⟨va, vc, rfl⟩ := slice_of_owns0 hown
 exact hk va vc w' hnew ((Only.refl _ w).grown hgrow fun k hk => .inl (.inl hk)) hlies
/-- How many tokens lie ahead. -/
def ahead (p : PP) (w : World) : Nat := match w.cell? ⟨p.B, 0, none⟩ with | some (.slice _ n _) => n | _ => 0
theorem Pst.ahead {p : PP} {l : List Lx.T} {w : World} (h : Pst p l w) : ahead p w = l.length := by
 obtain ⟨ad, c, hb, _⟩ := h.blk
 have := hb.cell 0
 unfold Go.Proofs.YtfkmnpgpfmkjaaaGreatDoor.ahead
 rw [this]; rfl
theorem Pst.len {p : PP} {l : List Lx.T} {w : World} (h : Pst p l w) : l.length ≤ 30000 := h.good.len
section
variable {p : PP} {F : Ps.Fam} {k : Nat}
/-- Within a list: what is so ahead of its , or ). -/
structure LstI (p : PP) (part : List Lx.T → O Nd) (l : List Lx.T) (w : World) (v : Value) (wr : World) (ks : List (Nd × Value)) (r : List Lx.T) : Prop where
 eq : ∃ K, r.length + 1 ≤ K ∧ Ps.list part l = Ps.listLoop part K (ks.map (·.1)) r
 row : KRow w.heap.size wr v ks
 pst : Pst p r wr
 only : Only (· = p.B) w wr
 cnt : Nd.countL (ks.map (·.1)) + r.length < l.length
theorem countL_snoc (l : List Nd) (x : Nd) : Nd.countL (l ++ [x]) = Nd.countL l + x.count := by rw [Nd.countL_app, Nd.countL_cons, Nd.countL_nil]; omega
theorem map_fst_len (ks : List (Nd × Value)) : ks.length ≤ Nd.countL (ks.map (·.1)) := by
 have := Nd.len_le_countL (ks.map (·.1))
 rwa [List.length_map] at this
set_option maxHeartbeats 4000000 in
theorem list_c (g : Nat) (eg : ∀ args w, (callFunc g args).run Tryz.prog w = .ok (.enter g args) w) (part : List Lx.T → O Nd) (hg : ∀ l w, l.length ≤ k → Pst p l w → Calls Tryz.prog g #[.pointer (some ⟨p.B, 0, none⟩)] w (NodePost p l (part l) w)) (l : List Lx.T) (w : World) (hk : l.length ≤ k + 1) (hp : Pst p l w) :
  Calls Tryz.prog 101 #[.pointer (some ⟨p.B, 0, none⟩), .func (.func g) #[] #[]] w (ListPost p l (Ps.list part l) w) := by
 have HP := Lib.hid hp
 have HG := Lib.hid hg
 have HKL := Lib.hid hk
 have HN := Lib.hid hp.lt
 clear hp hg hk
 go_enter Tryz.func101, Tryz.ntmps101
 go_wp2_with fail
 refine (take_l [Ps.kOpen] (ty := 9) HP.out rfl rfl rfl (by decide) (by decide +kernel)).mono ?_
 rintro e w1 (⟨t1, r1, h1, h2, rfl, h4, h5, h6⟩ | ⟨q, hb, rfl, ho⟩)
 rotate_left
 ·have HH := Lib.hid (show Ps.list part l = .bad q ∧ Only (· = p.B) w w1 from ⟨by simp only [Ps.list, hb, Ps.O.bind_bad], ho⟩)
  clear hb ho
  go_wp2_with fail
  exact ⟨rfl, .inr ⟨_, HH.out.1, rfl, HH.out.2⟩⟩
 have HE1 := Lib.hid (show Ps.list part l = if Ps.is [Ps.kShut] r1 then .ok [] r1.tail else (part r1).bind fun x r => Ps.listLoop part (r.length + 1) [x] r by simp only [Ps.list, h1, Ps.O.bind_ok])
 have HL1 := Lib.hid (show r1.length + 1 = l.length by rw [h2]; rfl)
 have HP1 := Lib.hid h4
 have HO1 := Lib.hid h5
 clear h1 h2 h4 h5 h6
 go_wp2_with fail
 refine (pskip_c Ps.kShut r1 _ HP1.out (by decide +kernel)).mono ?_
 rintro e w2 (⟨h1, rfl, h2, h3, h4⟩ | ⟨h1, rfl, h2, h3⟩)
 ·have HH := Lib.hid (show ListPost p l (Ps.list part l) w (.returned (.slice none 0 0)) w2 from .inl ⟨[], _, _, by rw [HE1.out, if_pos h1]; rfl, rfl, KRow.nil _ _, h2, HO1.out.trans h3, by have := HL1.out; show Nd.countL [] + _ < _; rw [Nd.countL_nil]; omega⟩)
  clear h1 h2 h3 h4
  go_wp2_with fail
  go_ret
  exact HH.out
 have HE2 := Lib.hid (show Ps.list part l = (part r1).bind fun x r => Ps.listLoop part (r.length + 1) [x] r by rw [HE1.out, h1]; rfl)
 have HP2 := Lib.hid h2
 have HO2 := Lib.hid (HO1.out.trans h3)
 clear h1 h2 h3
 go_wp2_with fail
 refine (HG.out r1 _ (by have := HL1.out; have := HKL.out; omega) HP2.out).mono ?_
 rintro e w3 (⟨x3, k3, r3, v3, h1, rfl, hx, hk, h4, h5, hok, h7⟩ | ⟨q, hb, rfl, ho⟩)
 rotate_left
 ·have HH := Lib.hid (show Ps.list part l = .bad q ∧ Only (· = p.B) w w3 from ⟨by rw [HE2.out, hb]; rfl, HO2.out.trans ho⟩)
  clear hb ho
  go_wp2_with fail
  exact ⟨rfl, .inr ⟨_, HH.out.1, rfl, HH.out.2⟩⟩
 obtain ⟨W4, hW4⟩ : ∃ W4, w3.alloc (.cells (ndA x3 v3) nT) = W4 := ⟨_, rfl⟩
 have hz3 : w.heap.size ≤ w3.heap.size := Nat.le_trans HO2.out.size h5.size
 have HI := Lib.hid (show LstI p part l w (.slice (some ⟨w3.heap.size, 0, none⟩) 1 1) W4 [(x3, v3)] r3 from
  ⟨⟨r3.length + 1, Nat.le_refl _, by rw [HE2.out, h1]; rfl⟩, by
   rw [← hW4]
   exact KRow.lit [(x3, v3)] rfl rfl rfl hz3 (by simp) (fun q hq => by
    rw [List.mem_singleton] at hq; subst hq
    exact ⟨hok, k3, hx, hk.lower HO2.out.size⟩), by rw [← hW4]; exact h4.alloc _, by rw [← hW4]; exact (HO2.out.trans h5).trans (Only.of_kept ((Kept.refl _).alloc _)), by
   show Nd.countL [x3] + _ < _
   rw [Nd.countL_cons, Nd.countL_nil]; have := HL1.out; omega⟩)
 have HW4 := Lib.hid hW4
 clear h1 hx hk h4 h5 hok h7 hW4 hz3
 go_wp2_with (rw [HW4.out])
 go_loopw [5] (fun s wr => ∃ ks r a c, s = .slice a ks.length c ∧ Hid (LstI p part l w (.slice a ks.length c) wr ks r)) (fun s wr => ahead p wr)
 case atStart => exact ⟨[(x3, v3)], r3, _, _, rfl, HI⟩
 case round =>
  obtain ⟨ks, r, a, c, rfl, HR⟩ := hrel
  have hP := HR.out.pst
  have HAH := Lib.hid hP.ahead
  go_wp2_with fail
  refine (pskip_c Ps.kComma r _ hP (by decide +kernel)).mono ?_
  rintro e w5 (⟨h1, rfl, h2, h3, h4⟩ | ⟨h1, rfl, h2, h3⟩)
  ·have HR5 := Lib.hid (show (∃ K, r.tail.length + 2 ≤ K ∧ Ps.list part l = Ps.listLoop part K (ks.map (·.1)) r) ∧ KRow w.heap.size w5 (.slice a ks.length c) ks ∧ Only (· = p.B) w w5 from ⟨by
    obtain ⟨K, hK, e⟩ := HR.out.eq
    exact ⟨K, by omega, e⟩, HR.out.row.onB h3 (by have := HN.out; omega), HR.out.only.trans h3⟩)
   have HI1 := Lib.hid h1
   have HL4 := Lib.hid h4
   have HP5 := Lib.hid h2
   clear h1 h2 h3 h4 hP
   go_wp2_with fail
   refine (HG.out r.tail _ (by have := HL4.out; have := HR.out.cnt; have := HKL.out; omega) HP5.out).mono ?_
   rintro e w6 (⟨x6, k6, r6, v6, h1, rfl, hx, hk, h4, h5, hok, h7⟩ | ⟨q, hb, rfl, ho⟩)
   rotate_left
   ·have HH := Lib.hid (show Ps.list part l = .bad q ∧ Only (· = p.B) w w6 from ⟨by
     obtain ⟨⟨K, hK, e⟩, _⟩ := HR5.out
     rw [e]
     cases K with
     | zero => omega
     | succ K => rw [Ps.listLoop, if_pos HI1.out, hb]; rfl, HR5.out.2.2.trans ho⟩)
    clear hb ho
    go_wp2_with fail
    exact ⟨rfl, .inr ⟨_, HH.out.1, rfl, HH.out.2⟩⟩
   obtain ⟨W7, hW7⟩ : ∃ W7, w6.alloc (.cells (ndA x6 v6) nT) = W7 := ⟨_, rfl⟩
   have hB6 : p.B < w.heap.size := by have := HN.out; omega
   have hz5 : w.heap.size ≤ w5.heap.size := HR5.out.2.2.size
   have hz6 := h5.size
   have k7 : Kept w6 W7 := by rw [← hW7]; exact (Kept.refl _).alloc _
   have hr7 : KRow w.heap.size W7 (.slice a ks.length c) ks := (HR5.out.2.1.onB h5 hB6).kept k7
   have hl7 : KRow w5.heap.size W7 (.slice (some ⟨w6.heap.size, 0, none⟩) 1 1) [(x6, v6)] := by
    rw [← hW7]
    exact KRow.lit [(x6, v6)] rfl rfl rfl hz6 (by simp) (fun q hq => by
     rw [List.mem_singleton] at hq; subst hq
     exact ⟨hok, k6, hx, hk⟩)
   have HR7 := Lib.hid hr7
   obtain ⟨_, _, _, _, hs7⟩ := hl7.src
   have HS7 := Lib.hid hs7
   have H27 := Lib.hid (KRowD.behind HR5.out.2.1 hl7 (Nat.le_refl _) (fun k hk => Nat.le_trans hz5 hk))
   have HZ7 := Lib.hid (show w.heap.size ≤ W7.heap.size from Nat.le_trans hz5 (Nat.le_trans hz6 k7.size))
   have HM7 := Lib.hid (show ks.length + 1 ≤ 60000 by have := map_fst_len ks; have := HR.out.cnt; have := HP.out.len; omega)
   have HX7 := Lib.hid (show (∃ K, r6.length + 1 ≤ K ∧ Ps.list part l = Ps.listLoop part K ((ks ++ [(x6, v6)]).map (·.1)) r6) ∧ Pst p r6 W7 ∧ Only (· = p.B) w W7 ∧ Nd.countL ((ks ++ [(x6, v6)]).map (·.1)) + r6.length < l.length ∧ r6.length < r.length from ⟨by
     obtain ⟨⟨K, hK, e⟩, _⟩ := HR5.out
     have := Nd.count_pos x6
     cases K with
     | zero => omega
     | succ K => exact ⟨K, by omega, by rw [e, Ps.listLoop, if_pos HI1.out, h1, List.map_append]; rfl⟩, h4.kept k7, (HR5.out.2.2.trans h5).trans (Only.of_kept k7), by
     rw [List.map_append, show List.map (·.1) [(x6, v6)] = [x6] from rfl, countL_snoc]
     have := HR.out.cnt
     have := HL4.out
     omega, by have := Nd.count_pos x6; have := HL4.out; omega⟩)
   have HW7 := Lib.hid hW7
   clear h1 hx hk h4 h5 hok h7 hW7 hB6 hz5 hz6 k7 hr7 hl7 hs7
   go_wp2_with (first | rw [HW7.out] | (at_builtin; refine wpList_nd (k2 := [(x6, v6)]) (.tmp 17) (.tmp 21) rfl rfl rfl HR7.out rfl HS7.out H27.out HZ7.out HM7.out ?_; intro a8 c8 w8 hk8 ho8; have HK8 := Lib.hid hk8; have HO8 := Lib.hid ho8; clear hk8 ho8))
   have HI8 := Lib.hid (show LstI p part l w (.slice a8 (ks.length + 1) c8) w8 (ks ++ [(x6, v6)]) r6 from
    ⟨HX7.out.1, HK8.out, HX7.out.2.1.only HO8.out (fun b hb hc => by have := HN.out; omega), HX7.out.2.2.1.past HO8.out (Nat.le_refl _), HX7.out.2.2.2.1⟩)
   go_roundw
   case rel => exact ⟨ks ++ [(x6, v6)], r6, a8, c8, by simp, by simpa using HI8⟩
   case measure =>
    have h1 := HI8.out.pst.ahead
    have h2 := HAH.out
    have h3 := HX7.out.2.2.2.2
    rw [h1, h2]; exact h3
  ·have HR5 := Lib.hid (show (∃ K, r.length + 1 ≤ K ∧ Ps.list part l = Ps.listLoop part K (ks.map (·.1)) r) ∧ KRow w.heap.size w5 (.slice a ks.length c) ks ∧ Only (· = p.B) w w5 from ⟨HR.out.eq, HR.out.row.onB h3 (by have := HN.out; omega), HR.out.only.trans h3⟩)
   have HI1 := Lib.hid h1
   have HP5 := Lib.hid h2
   clear h1 h2 h3 hP
   go_wp2_with fail
   refine (take_l [Ps.kShut] (ty := 9) HP5.out rfl rfl rfl (by decide) (by decide +kernel)).mono ?_
   rintro e w6 (⟨t6, r6, h1, h2, rfl, h4, h5, h6⟩ | ⟨q, hb, rfl, ho⟩)
   rotate_left
   ·have HH := Lib.hid (show Ps.list part l = .bad q ∧ Only (· = p.B) w w6 from ⟨by
     obtain ⟨⟨K, hK, e⟩, _⟩ := HR5.out
     rw [e]
     cases K with
     | zero => omega
     | succ K => rw [Ps.listLoop, HI1.out, hb]; rfl, HR5.out.2.2.trans ho⟩)
    clear hb ho
    go_wp2_with fail
    exact ⟨rfl, .inr ⟨_, HH.out.1, rfl, HH.out.2⟩⟩
   have HH := Lib.hid (show ListPost p l (Ps.list part l) w (.returned (.slice a ks.length c)) w6 from .inl ⟨ks, r6, _, by
    obtain ⟨⟨K, hK, e⟩, _⟩ := HR5.out
    rw [e]
    cases K with
    | zero => omega
    | succ K => rw [Ps.listLoop, HI1.out, h1]; rfl, rfl, HR5.out.2.1.onB h5 (by have := HN.out; omega), h4, HR5.out.2.2.trans h5, by have := HR.out.cnt; rw [h2, List.length_cons] at this; omega⟩)
   clear h1 h2 h4 h5 h6
   go_wp2_with fail
   go_ret
   exact HH.out
end
end Go.Proofs.YtfkmnpgpfmkjaaaGreatDoor
namespace Go.Proofs.YtfkmnpgpfmkjaaaGreatDoor
open Go.ChangeShapes Go.WideShapes Go.ChangeAt Go.RowKit
attribute [local go_sem] Oper.semAt_some
open Ps (O W)
section
variable {p : PP} {F : Ps.Fam} {k : Nat}
set_option maxHeartbeats 1000000 in
theorem args_c (hF : FamC p F k) (l : List Lx.T) (w : World) (hk : l.length ≤ k + 1) (hp : Pst p l w) : Calls Tryz.prog 97 #[.pointer (some ⟨p.B, 0, none⟩)] w (ListPost p l (Ps.args F l) w) := by
 have HL := Lib.hid (list_c 95 (enters_of Tryz.func95 (by kernel_rfl) rfl) (F .expr) hF.expr l w hk hp)
 clear hp hk
 go_enter Tryz.func97, Tryz.ntmps97
 go_wp2_with fail
 refine HL.out.mono ?_
 rintro e w1 (⟨ks, r, v, h1, rfl, hk, h4, h5, h7⟩ | ⟨q, hb, rfl, ho⟩)
 ·obtain ⟨va, vc, rfl⟩ := hk.slice
  have HH := Lib.hid (show ListPost p l (Ps.args F l) w (.returned (.slice va ks.length vc)) w1 from .inl ⟨ks, r, _, h1, rfl, hk, h4, h5, h7⟩)
  clear h1 hk h4 h5 h7
  go_wp2_with fail
  go_ret
  exact HH.out
 ·have HH := Lib.hid (show Ps.args F l = .bad q ∧ Only (· = p.B) w w1 from ⟨hb, ho⟩)
  clear hb ho
  go_wp2_with fail
  exact ⟨rfl, .inr ⟨_, HH.out.1, rfl, HH.out.2⟩⟩
set_option maxHeartbeats 1000000 in
theorem operand_c (hF : FamC p F k) (l : List Lx.T) (w : World) (hk : l.length ≤ k + 1) (hp : Pst p l w) : Calls Tryz.prog 98 #[.pointer (some ⟨p.B, 0, none⟩)] w (ListPost p l (Ps.operand F l) w) := by
 have HP := Lib.hid hp
 have HKL := Lib.hid hk
 have HN := Lib.hid hp.lt
 clear hp hk
 go_enter Tryz.func98, Tryz.ntmps98
 go_wp2_with fail
 refine (take_l [Ps.kOpen] (ty := 9) HP.out rfl rfl rfl (by decide) (by decide +kernel)).mono ?_
 rintro e w1 (⟨t1, r1, h1, h2, rfl, h4, h5, h6⟩ | ⟨q, hb, rfl, ho⟩)
 rotate_left
 ·have HH := Lib.hid (show Ps.operand F l = .bad q ∧ Only (· = p.B) w w1 from ⟨by simp only [Ps.operand, hb, Ps.O.bind_bad], ho⟩)
  clear hb ho
  go_wp2_with fail
  exact ⟨rfl, .inr ⟨_, HH.out.1, rfl, HH.out.2⟩⟩
 have HE1 := Lib.hid (show Ps.operand F l = (F .expr r1).bind fun x r => (Ps.take [Ps.kShut] r).bind fun _ r => .ok [x] r by simp only [Ps.operand, h1, Ps.O.bind_ok])
 have HL1 := Lib.hid (show r1.length + 1 = l.length by rw [h2]; rfl)
 have HP1 := Lib.hid h4
 have HO1 := Lib.hid h5
 clear h1 h2 h4 h5 h6
 go_wp2_with fail
 refine (hF.expr r1 _ (by have := HL1.out; have := HKL.out; omega) HP1.out).mono ?_
 rintro e w3 (⟨x3, k3, r3, v3, h1, rfl, hx, hk, h4, h5, hok, h7⟩ | ⟨q, hb, rfl, ho⟩)
 rotate_left
 ·have HH := Lib.hid (show Ps.operand F l = .bad q ∧ Only (· = p.B) w w3 from ⟨by rw [HE1.out, hb]; rfl, HO1.out.trans ho⟩)
  clear hb ho
  go_wp2_with fail
  exact ⟨rfl, .inr ⟨_, HH.out.1, rfl, HH.out.2⟩⟩
 obtain ⟨W4, hW4⟩ : ∃ W4, w3.alloc (.cells (ndA x3 v3) nT) = W4 := ⟨_, rfl⟩
 have hz3 : w.heap.size ≤ w3.heap.size := Nat.le_trans HO1.out.size h5.size
 have HK4 := Lib.hid (show KRow w.heap.size W4 (.slice (some ⟨w3.heap.size, 0, none⟩) 1 1) [(x3, v3)] by
  rw [← hW4]
  exact KRow.lit [(x3, v3)] rfl rfl rfl hz3 (by simp) (fun q hq => by
   rw [List.mem_singleton] at hq; subst hq
   exact ⟨hok, k3, hx, hk.lower HO1.out.size⟩))
 have k4 : Kept w3 W4 := by rw [← hW4]; exact (Kept.refl _).alloc _
 have HP4 := Lib.hid (h4.kept k4)
 have HO4 := Lib.hid ((HO1.out.trans h5).trans (Only.of_kept k4))
 have HE4 := Lib.hid h1
 have HL4 := Lib.hid h7
 have HW4 := Lib.hid hW4
 clear h1 hx hk h4 h5 hok h7 hW4 hz3 k4
 go_wp2_with (rw [HW4.out])
 refine (take_l [Ps.kShut] (ty := 9) HP4.out rfl rfl rfl (by decide) (by decide +kernel)).mono ?_
 rintro e w5 (⟨t5, r5, h1, h2, rfl, h4, h5, h6⟩ | ⟨q, hb, rfl, ho⟩)
 rotate_left
 ·have HH := Lib.hid (show Ps.operand F l = .bad q ∧ Only (· = p.B) w w5 from ⟨by simp only [HE1.out, HE4.out, hb, Ps.O.bind_ok, Ps.O.bind_bad], HO4.out.trans ho⟩)
  clear hb ho
  go_wp2_with fail
  exact ⟨rfl, .inr ⟨_, HH.out.1, rfl, HH.out.2⟩⟩
 have HH := Lib.hid (show ListPost p l (Ps.operand F l) w (.returned (.slice (some ⟨w3.heap.size, 0, none⟩) 1 1)) w5 from .inl ⟨[(x3, v3)], r5, _, by simp only [HE1.out, HE4.out, h1, Ps.O.bind_ok]; rfl, rfl, HK4.out.onB h5 (by have := HN.out; omega), h4, HO4.out.trans h5, by
  show Nd.countL [x3] + _ < _
  rw [Nd.countL_cons, Nd.countL_nil]
  have h8 := HL4.out
  have := HL1.out
  rw [h2, List.length_cons] at h8
  omega⟩)
 clear h1 h2 h4 h5 h6
 go_wp2_with fail
 go_ret
 exact HH.out
set_option maxHeartbeats 1000000 in
theorem super_c (hF : FamC p F k) : WayC p k 66 (Ps.wSuper F) := by
 intro t0 r0 w hk hp hsr
 obtain ⟨W0, hW0⟩ : ∃ W0, w.alloc (.cells pzN nT) = W0 := ⟨_, rfl⟩
 have k0 : Kept w W0 := by rw [← hW0]; exact (Kept.refl w).alloc _
 have HZ0 := Lib.hid (show w.heap.size + 1 ≤ W0.heap.size by rw [← hW0]; simp)
 have HB0 := Lib.hid (show Blk W0 w.heap.size nT pzN by rw [← hW0]; exact Blk.new _ _ _)
 have HP0 := Lib.hid (hp.kept k0)
 have HN := Lib.hid hp.lt
 have HO0 := Lib.hid (show Only (· = p.B) w W0 from Only.of_kept k0)
 have HW0 := Lib.hid hW0
 have HSR := Lib.hid hsr
 have HTK := Lib.hid (hp.good.ok t0 (by simp))
 have HKL := Lib.hid hk
 clear hp k0 hW0 hsr hk
 have hf1 := field_tok1
 have hf2 := field_tok2
 go_enter Tryz.func66, Tryz.ntmps66
 go_wp2_with (rw [HW0.out])
 refine (pnext_c _ HP0.out HSR.out).mono ?_
 rintro e w1 ⟨rfl, h4, h5⟩
 have HP1 := Lib.hid h4
 have HO1 := Lib.hid (HO0.out.trans h5)
 have HZ1 := Lib.hid (Nat.le_trans HZ0.out (Only.size h5))
 have HB1 := Lib.hid (HB0.out.only h5 (by have := HN.out; omega))
 clear h4 h5
 go_wp2_with fail
 refine (take_l [⟨#[46]⟩] (ty := 9) HP1.out (by first | rfl | simp) rfl rfl (by decide) (by decide +kernel)).mono ?_
 rintro e w2 (⟨t2, r2, h1, h2, rfl, h4, h5, h6⟩ | ⟨q, hb, rfl, ho⟩)
 rotate_left
 ·have HH := Lib.hid (show (Ps.wSuper F) t0 r0 = .bad q ∧ Only (· = p.B) w w2 from ⟨by simp only [Ps.wSuper, hb, Ps.O.bind_ok, Ps.O.bind_bad, eq_self, if_true, Bool.false_eq_true, if_false], HO1.out.trans ho⟩)
  clear hb ho
  go_wp2_with fail
  exact ⟨rfl, .inr ⟨_, HH.out.1, rfl, HH.out.2⟩⟩
 have HE2 := Lib.hid h1
 have HT2 := Lib.hid h6
 have HL2 := Lib.hid (show r2.length + 1 = (r0).length by rw [h2]; rfl)
 have HP2 := Lib.hid h4
 have HO2 := Lib.hid (HO1.out.trans h5)
 have HZ2 := Lib.hid (Nat.le_trans HZ1.out (Only.size h5))
 have HB2 := Lib.hid (HB1.out.only h5 (by have := HN.out; omega))
 clear h1 h2 h4 h5 h6
 go_wp2_with fail
 refine (take_l [⟨#[97, 32, 110, 97, 109, 101]⟩] (ty := 9) HP2.out (by first | rfl | simp) rfl rfl (by decide) (by decide +kernel)).mono ?_
 rintro e w3 (⟨t3, r3, h1, h2, rfl, h4, h5, h6⟩ | ⟨q, hb, rfl, ho⟩)
 rotate_left
 ·have HH := Lib.hid (show (Ps.wSuper F) t0 r0 = .bad q ∧ Only (· = p.B) w w3 from ⟨by simp only [Ps.wSuper, HE2.out, hb, Ps.O.bind_ok, Ps.O.bind_bad, eq_self, if_true, Bool.false_eq_true, if_false], HO2.out.trans ho⟩)
  clear hb ho
  go_wp2_with fail
  exact ⟨rfl, .inr ⟨_, HH.out.1, rfl, HH.out.2⟩⟩
 have HE3 := Lib.hid h1
 have HT3 := Lib.hid h6
 have HL3 := Lib.hid (show r3.length + 1 = (r2).length by rw [h2]; rfl)
 have HP3 := Lib.hid h4
 have HO3 := Lib.hid (HO2.out.trans h5)
 have HZ3 := Lib.hid (Nat.le_trans HZ2.out (Only.size h5))
 have HB3 := Lib.hid (HB2.out.only h5 (by have := HN.out; omega))
 clear h1 h2 h4 h5 h6
 go_wp2_with fail
 refine (args_c hF _ _ (by have := HKL.out; have := HL2.out; have := HL3.out; omega) HP3.out).mono ?_
 rintro e w4 (⟨ks4, r4, v4, h1, rfl, hk, h4, h5, h7⟩ | ⟨q, hb, rfl, ho⟩)
 rotate_left
 ·have HH := Lib.hid (show (Ps.wSuper F) t0 r0 = .bad q ∧ Only (· = p.B) w w4 from ⟨by simp only [Ps.wSuper, HE2.out, HE3.out, hb, Ps.O.bind_ok, Ps.O.bind_bad, eq_self, if_true, Bool.false_eq_true, if_false], HO3.out.trans ho⟩)
  clear hb ho
  go_wp2_with fail
  exact ⟨rfl, .inr ⟨_, HH.out.1, rfl, HH.out.2⟩⟩
 have HE4 := Lib.hid h1
 have HL4 := Lib.hid h7
 have HKx4a4 := Lib.hid (hk.lower HZ3.out)
 obtain ⟨va4, vc4, rfl⟩ := hk.slice
 have HP4 := Lib.hid h4
 have HO4 := Lib.hid (HO3.out.trans h5)
 have HZ4 := Lib.hid (Nat.le_trans HZ3.out (Only.size h5))
 have HB4 := Lib.hid (HB3.out.only h5 (by have := HN.out; omega))
 clear h1 hk h4 h5 h7
 obtain ⟨⟨y0, y1, y2, y3, y4, y5⟩, f0, f1, f2, f3, f4, f5⟩ := nd_six HB4.out
 go_wp2_with fail
 refine node_end (x := Ps.nd 20 t3.text Ps.e0 0 (ks4.map (·.1))) (ks := ks4) (by rfl) rfl rfl HB4.out (by simp only [Ps.wSuper, HE2.out, HE3.out, HE4.out, Ps.O.bind_ok, Ps.O.bind_bad, eq_self, if_true, Bool.false_eq_true, if_false]) rfl HKx4a4.out HP4.out HN.out.2 HO4.out (nd_ok1 _ _ _ _ _ (by decide) HT3.out.2.1 e0_size (by decide)) ?_
 have := HN.out; have := HL2.out; have := HL3.out; have := HL4.out; rw [count_nd, List.length_cons]; omega
set_option maxHeartbeats 1000000 in
theorem object_c (hF : FamC p F k) : WayC p k 67 (Ps.wObject F) := by
 intro t0 r0 w hk hp hsr
 obtain ⟨W0, hW0⟩ : ∃ W0, w.alloc (.cells pzN nT) = W0 := ⟨_, rfl⟩
 have k0 : Kept w W0 := by rw [← hW0]; exact (Kept.refl w).alloc _
 have HZ0 := Lib.hid (show w.heap.size + 1 ≤ W0.heap.size by rw [← hW0]; simp)
 have HB0 := Lib.hid (show Blk W0 w.heap.size nT pzN by rw [← hW0]; exact Blk.new _ _ _)
 have HP0 := Lib.hid (hp.kept k0)
 have HN := Lib.hid hp.lt
 have HO0 := Lib.hid (show Only (· = p.B) w W0 from Only.of_kept k0)
 have HW0 := Lib.hid hW0
 have HSR := Lib.hid hsr
 have HTK := Lib.hid (hp.good.ok t0 (by simp))
 have HKL := Lib.hid hk
 clear hp k0 hW0 hsr hk
 have hf1 := field_tok1
 have hf2 := field_tok2
 go_enter Tryz.func67, Tryz.ntmps67
 go_wp2_with (rw [HW0.out])
 refine (pnext_c _ HP0.out HSR.out).mono ?_
 rintro e w1 ⟨rfl, h4, h5⟩
 have HP1 := Lib.hid h4
 have HO1 := Lib.hid (HO0.out.trans h5)
 have HZ1 := Lib.hid (Nat.le_trans HZ0.out (Only.size h5))
 have HB1 := Lib.hid (HB0.out.only h5 (by have := HN.out; omega))
 clear h4 h5
 go_wp2_with fail
 refine (take_l [⟨#[97, 32, 99, 108, 97, 115, 115]⟩] (ty := 9) HP1.out (by first | rfl | simp) rfl rfl (by decide) (by decide +kernel)).mono ?_
 rintro e w2 (⟨t2, r2, h1, h2, rfl, h4, h5, h6⟩ | ⟨q, hb, rfl, ho⟩)
 rotate_left
 ·have HH := Lib.hid (show (Ps.wObject F) t0 r0 = .bad q ∧ Only (· = p.B) w w2 from ⟨by simp only [Ps.wObject, hb, Ps.O.bind_ok, Ps.O.bind_bad, eq_self, if_true, Bool.false_eq_true, if_false], HO1.out.trans ho⟩)
  clear hb ho
  go_wp2_with fail
  exact ⟨rfl, .inr ⟨_, HH.out.1, rfl, HH.out.2⟩⟩
 have HE2 := Lib.hid h1
 have HT2 := Lib.hid h6
 have HL2 := Lib.hid (show r2.length + 1 = (r0).length by rw [h2]; rfl)
 have HP2 := Lib.hid h4
 have HO2 := Lib.hid (HO1.out.trans h5)
 have HZ2 := Lib.hid (Nat.le_trans HZ1.out (Only.size h5))
 have HB2 := Lib.hid (HB1.out.only h5 (by have := HN.out; omega))
 clear h1 h2 h4 h5 h6
 go_wp2_with fail
 refine (args_c hF _ _ (by have := HKL.out; have := HL2.out; omega) HP2.out).mono ?_
 rintro e w3 (⟨ks3, r3, v3, h1, rfl, hk, h4, h5, h7⟩ | ⟨q, hb, rfl, ho⟩)
 rotate_left
 ·have HH := Lib.hid (show (Ps.wObject F) t0 r0 = .bad q ∧ Only (· = p.B) w w3 from ⟨by simp only [Ps.wObject, HE2.out, hb, Ps.O.bind_ok, Ps.O.bind_bad, eq_self, if_true, Bool.false_eq_true, if_false], HO2.out.trans ho⟩)
  clear hb ho
  go_wp2_with fail
  exact ⟨rfl, .inr ⟨_, HH.out.1, rfl, HH.out.2⟩⟩
 have HE3 := Lib.hid h1
 have HL3 := Lib.hid h7
 have HKx3a3 := Lib.hid (hk.lower HZ2.out)
 obtain ⟨va3, vc3, rfl⟩ := hk.slice
 have HP3 := Lib.hid h4
 have HO3 := Lib.hid (HO2.out.trans h5)
 have HZ3 := Lib.hid (Nat.le_trans HZ2.out (Only.size h5))
 have HB3 := Lib.hid (HB2.out.only h5 (by have := HN.out; omega))
 clear h1 hk h4 h5 h7
 obtain ⟨⟨y0, y1, y2, y3, y4, y5⟩, f0, f1, f2, f3, f4, f5⟩ := nd_six HB3.out
 go_wp2_with fail
 refine node_end (x := Ps.nd 21 Ps.e0 t2.text 0 (ks3.map (·.1))) (ks := ks3) (by rfl) rfl rfl HB3.out (by simp only [Ps.wObject, HE2.out, HE3.out, Ps.O.bind_ok, Ps.O.bind_bad, eq_self, if_true, Bool.false_eq_true, if_false]) rfl HKx3a3.out HP3.out HN.out.2 HO3.out (nd_ok1 _ _ _ _ _ (by decide) e0_size HT2.out.2.1 (by decide)) ?_
 have := HN.out; have := HL2.out; have := HL3.out; rw [count_nd, List.length_cons]; omega
set_option maxHeartbeats 1000000 in
theorem print_c (hF : FamC p F k) : WayC p k 71 (Ps.wPrint F) := by
 intro t0 r0 w hk hp hsr
 obtain ⟨W0, hW0⟩ : ∃ W0, w.alloc (.cells pzN nT) = W0 := ⟨_, rfl⟩
 have k0 : Kept w W0 := by rw [← hW0]; exact (Kept.refl w).alloc _
 have HZ0 := Lib.hid (show w.heap.size + 1 ≤ W0.heap.size by rw [← hW0]; simp)
 have HB0 := Lib.hid (show Blk W0 w.heap.size nT pzN by rw [← hW0]; exact Blk.new _ _ _)
 have HP0 := Lib.hid (hp.kept k0)
 have HN := Lib.hid hp.lt
 have HO0 := Lib.hid (show Only (· = p.B) w W0 from Only.of_kept k0)
 have HW0 := Lib.hid hW0
 have HSR := Lib.hid hsr
 have HTK := Lib.hid (hp.good.ok t0 (by simp))
 have HKL := Lib.hid hk
 clear hp k0 hW0 hsr hk
 have hf1 := field_tok1
 have hf2 := field_tok2
 go_enter Tryz.func71, Tryz.ntmps71
 go_wp2_with (rw [HW0.out])
 refine (pnext_c _ HP0.out HSR.out).mono ?_
 rintro e w1 ⟨rfl, h4, h5⟩
 have HP1 := Lib.hid h4
 have HO1 := Lib.hid (HO0.out.trans h5)
 have HZ1 := Lib.hid (Nat.le_trans HZ0.out (Only.size h5))
 have HB1 := Lib.hid (HB0.out.only h5 (by have := HN.out; omega))
 clear h4 h5
 go_wp2_with fail
 refine (operand_c hF _ _ (by have := HKL.out; skip; omega) HP1.out).mono ?_
 rintro e w2 (⟨ks2, r2, v2, h1, rfl, hk, h4, h5, h7⟩ | ⟨q, hb, rfl, ho⟩)
 rotate_left
 ·have HH := Lib.hid (show (Ps.wPrint F) t0 r0 = .bad q ∧ Only (· = p.B) w w2 from ⟨by simp only [Ps.wPrint, hb, Ps.O.bind_ok, Ps.O.bind_bad, eq_self, if_true, Bool.false_eq_true, if_false], HO1.out.trans ho⟩)
  clear hb ho
  go_wp2_with fail
  exact ⟨rfl, .inr ⟨_, HH.out.1, rfl, HH.out.2⟩⟩
 have HE2 := Lib.hid h1
 have HL2 := Lib.hid h7
 have HKx2a2 := Lib.hid (hk.lower HZ1.out)
 obtain ⟨va2, vc2, rfl⟩ := hk.slice
 have HP2 := Lib.hid h4
 have HO2 := Lib.hid (HO1.out.trans h5)
 have HZ2 := Lib.hid (Nat.le_trans HZ1.out (Only.size h5))
 have HB2 := Lib.hid (HB1.out.only h5 (by have := HN.out; omega))
 clear h1 hk h4 h5 h7
 obtain ⟨⟨y0, y1, y2, y3, y4, y5⟩, f0, f1, f2, f3, f4, f5⟩ := nd_six HB2.out
 go_wp2_with fail
 refine node_end (x := Ps.nd 27 Ps.e0 Ps.e0 0 (ks2.map (·.1))) (ks := ks2) (by rfl) rfl rfl HB2.out (by simp only [Ps.wPrint, HE2.out, Ps.O.bind_ok, Ps.O.bind_bad, eq_self, if_true, Bool.false_eq_true, if_false]) rfl HKx2a2.out HP2.out HN.out.2 HO2.out (nd_ok1 _ _ _ _ _ (by decide) e0_size e0_size (by decide)) ?_
 have := HN.out; have := HL2.out; rw [count_nd, List.length_cons]; omega
set_option maxHeartbeats 1000000 in
theorem conv_c (hF : FamC p F k) : WayC p k 72 (Ps.wConv F) := by
 intro t0 r0 w hk hp hsr
 obtain ⟨W0, hW0⟩ : ∃ W0, w.alloc (.cells pzN nT) = W0 := ⟨_, rfl⟩
 have k0 : Kept w W0 := by rw [← hW0]; exact (Kept.refl w).alloc _
 have HZ0 := Lib.hid (show w.heap.size + 1 ≤ W0.heap.size by rw [← hW0]; simp)
 have HB0 := Lib.hid (show Blk W0 w.heap.size nT pzN by rw [← hW0]; exact Blk.new _ _ _)
 have HP0 := Lib.hid (hp.kept k0)
 have HN := Lib.hid hp.lt
 have HO0 := Lib.hid (show Only (· = p.B) w W0 from Only.of_kept k0)
 have HW0 := Lib.hid hW0
 have HSR := Lib.hid hsr
 have HTK := Lib.hid (hp.good.ok t0 (by simp))
 have HKL := Lib.hid hk
 clear hp k0 hW0 hsr hk
 have hf1 := field_tok1
 have hf2 := field_tok2
 go_enter Tryz.func72, Tryz.ntmps72
 go_wp2_with (rw [HW0.out])
 refine (pnext_c _ HP0.out HSR.out).mono ?_
 rintro e w1 ⟨rfl, h4, h5⟩
 have HP1 := Lib.hid h4
 have HO1 := Lib.hid (HO0.out.trans h5)
 have HZ1 := Lib.hid (Nat.le_trans HZ0.out (Only.size h5))
 have HB1 := Lib.hid (HB0.out.only h5 (by have := HN.out; omega))
 clear h4 h5
 go_wp2_with fail
 refine (operand_c hF _ _ (by have := HKL.out; skip; omega) HP1.out).mono ?_
 rintro e w2 (⟨ks2, r2, v2, h1, rfl, hk, h4, h5, h7⟩ | ⟨q, hb, rfl, ho⟩)
 rotate_left
 ·have HH := Lib.hid (show (Ps.wConv F) t0 r0 = .bad q ∧ Only (· = p.B) w w2 from ⟨by simp only [Ps.wConv, hb, Ps.O.bind_ok, Ps.O.bind_bad, eq_self, if_true, Bool.false_eq_true, if_false], HO1.out.trans ho⟩)
  clear hb ho
  go_wp2_with fail
  exact ⟨rfl, .inr ⟨_, HH.out.1, rfl, HH.out.2⟩⟩
 have HE2 := Lib.hid h1
 have HL2 := Lib.hid h7
 have HKx2a2 := Lib.hid (hk.lower HZ1.out)
 obtain ⟨va2, vc2, rfl⟩ := hk.slice
 have HP2 := Lib.hid h4
 have HO2 := Lib.hid (HO1.out.trans h5)
 have HZ2 := Lib.hid (Nat.le_trans HZ1.out (Only.size h5))
 have HB2 := Lib.hid (HB1.out.only h5 (by have := HN.out; omega))
 clear h1 hk h4 h5 h7
 obtain ⟨⟨y0, y1, y2, y3, y4, y5⟩, f0, f1, f2, f3, f4, f5⟩ := nd_six HB2.out
 go_wp2_with fail
 refine node_end (x := Ps.nd 29 t0.text Ps.e0 0 (ks2.map (·.1))) (ks := ks2) (by rfl) rfl rfl HB2.out (by simp only [Ps.wConv, HE2.out, Ps.O.bind_ok, Ps.O.bind_bad, eq_self, if_true, Bool.false_eq_true, if_false]) rfl HKx2a2.out HP2.out HN.out.2 HO2.out (nd_ok1 _ _ _ _ _ (by decide) HTK.out.2.1 e0_size (by decide)) ?_
 have := HN.out; have := HL2.out; rw [count_nd, List.length_cons]; omega
end
end Go.Proofs.YtfkmnpgpfmkjaaaGreatDoor
namespace Go.Proofs.YtfkmnpgpfmkjaaaGreatDoor
open Go.ChangeShapes Go.WideShapes Go.ChangeAt Go.RowKit
attribute [local go_sem] Oper.semAt_some
open Ps (O W)
/-- The node's box at gx (x tells its fields), its kids' row v, the result's box, the parser ahead of r. -/
structure AppI (p : PP) (w : World) (gx : Nat) (x : Nd) (v : Value) (ks : List (Nd × Value)) (r : List Lx.T) (W : World) : Prop where
 box : Blk W gx nT (ndA x v)
 row : KRowD (fun k => w.heap.size + 1 ≤ k ∧ k ≠ gx) (w.heap.size + 1) W v ks
 ne : v.ownBlock ≠ some gx
 res : Blk W w.heap.size nT pzN
 gx : w.heap.size + 1 ≤ gx ∧ p.B < w.heap.size ∧ p.N ≤ w.heap.size
 pst : Pst p r W
 only : Only (· = p.B) w W
section
variable {p : PP} {w W W' : World} {gx : Nat} {x : Nd} {v : Value} {ks : List (Nd × Value)} {r r' : List Lx.T}
theorem AppI.call (h : AppI p w gx x v ks r W) (ho : Only (· = p.B) W W') (hp : Pst p r' W') : AppI p w gx x v ks r' W' :=
 ⟨h.box.only ho (by have := h.gx; omega), h.row.only ho (fun k hk e => by have := owns_block0 h.row.1 hk; have := h.gx; omega) (fun k hk e => by have := h.gx; omega), h.ne, h.res.only ho (by have := h.gx; omega), h.gx, hp, h.only.trans ho⟩
theorem AppI.kept (h : AppI p w gx x v ks r W) (k : Kept W W') : AppI p w gx x v ks r W' := h.call (Only.of_kept k) (h.pst.kept k)
theorem AppI.drew (h : AppI p w gx x v ks r W) : AppI p w gx x v ks r W.drew := h.kept (Kept.refl W).drew
theorem AppI.cell5 (h : AppI p w gx x v ks r W) : W.cell? ⟨gx, 5, none⟩ = some v := h.box.cell 5
theorem AppI.size (h : AppI p w gx x v ks r W) : w.heap.size + 1 ≤ W.heap.size := by have := h.res.lt; omega
/-- What append asks, behind a part's result. -/
theorem AppI.asks {x1 : Nd} {v1 : Value} {k1 : List (Nd × Value)} {W1 : World} (h : AppI p w gx x v ks r W) (ho : Only (· = p.B) W W1) (hp : Pst p r' W1) (hx : x1.kids = k1.map (·.1)) (hk : KRow W.heap.size W1 v1 k1) (hok : x1.ok1) :
  AppI p w gx x v ks r' (W1.alloc (.cells (ndA x1 v1) nT)) ∧ Src Tryz.prog 6 23 (.slice (some ⟨W1.heap.size, 0, none⟩) 1 1) 1 ([(x1, v1)].flatMap fun p => ndC p.1 p.2) (W1.alloc (.cells (ndA x1 v1) nT)) ∧
   (∀ q ∈ [(x1, v1)], q.1.ok1 ∧ KidsD (fun k => (w.heap.size + 1 ≤ k ∧ k ≠ gx) ∧ v.ownBlock ≠ some k) (W1.alloc (.cells (ndA x1 v1) nT)) q.2 q.1.kids) := by
 have h1 := (h.call ho hp).kept ((Kept.refl W1).alloc (.cells (ndA x1 v1) nT))
 have hl : KRow W.heap.size (W1.alloc (.cells (ndA x1 v1) nT)) (.slice (some ⟨W1.heap.size, 0, none⟩) 1 1) [(x1, v1)] :=
  KRow.lit [(x1, v1)] rfl rfl rfl ho.size (by simp) (fun q hq => by
   rw [List.mem_singleton] at hq; subst hq
   exact ⟨hok, k1, hx, hk⟩)
 obtain ⟨_, _, _, _, hs⟩ := hl.src
 exact ⟨h1, hs, h.row.behind hl (Nat.le_refl _) (fun k hk => ⟨Nat.le_trans h.size hk, by have := h.box.lt; omega⟩)⟩
/-- Behind append: the box still holds the row that was; then the new one. -/
theorem AppI.more {v' : Value} {k2 : List (Nd × Value)} {W2 : World} (h : AppI p w gx x v ks r W) (hr : KRowD (fun k => w.heap.size + 1 ≤ k ∧ k ≠ gx) (w.heap.size + 1) W2 v' (ks ++ k2)) (ho : Only (fun k => v.ownBlock = some k ∨ W.heap.size ≤ k) W W2) (hl : v'.ownBlock = v.ownBlock ∨ v'.ownBlock = some W.heap.size) :
  W2.cell? ⟨gx, 5, none⟩ = some v ∧ W2.frozen? ⟨gx, 5, none⟩ = false ∧ AppI p w gx x v' (ks ++ k2) r (W2.setCell ⟨gx, 5, none⟩ v') := by
 have hgx := h.box.lt
 have hge := h.gx
 have b2 : Blk W2 gx nT (ndA x v) := h.box.only ho (fun e => by rcases e with e | e; exact h.ne e; omega)
 have hres : w.heap.size < W.heap.size := h.res.lt
 have hv : ∀ k, v.ownBlock = some k → w.heap.size + 1 ≤ k := fun k hk => owns_block0 h.row.1 hk
 have r2 : Blk W2 w.heap.size nT pzN := h.res.only ho (fun e => by rcases e with e | e; have := hv _ e; omega; omega)
 have o2 : Only (fun k => w.heap.size + 1 ≤ k) W W2 := ho.mono fun k hk hs => by rcases hs with e | e; exact hv _ e; omega
 have hne : v'.ownBlock ≠ some gx := by
  rcases hl with e | e
  ·rw [e]; exact h.ne
  ·rw [e]; intro c; injection c with c; omega
 have o3 : Only (· = gx) W2 (W2.setCell ⟨gx, 5, none⟩ v') := (Only.refl _ _).put 5 _
 refine ⟨b2.cell 5, b2.frozen 5, ⟨by simpa [ndA] using b2.put 5 v', ?_, hne, r2.only o3 (by omega), h.gx, ?_, ?_⟩⟩
 ·exact hr.only o3 (fun g hg e => hne (by rw [hg, e])) (fun k hk e => hk.2 e)
 ·exact (h.pst.only o2 (fun b hb e => by omega)).only o3 (fun b hb e => by omega)
 ·exact (h.only.past o2 (by omega)).past (o3.mono (T := fun k => w.heap.size + 1 ≤ k) fun k _ e => by omega) (by omega)
/-- A kid alone, as a row made at once. -/
theorem AppI.lit {x1 : Nd} {v1 : Value} {k1 : List (Nd × Value)} {W1 W2 : World} (h : AppI p w gx x v [] r W) (ho : Only (· = p.B) W W1) (hp : Pst p r' W1) (hx : x1.kids = k1.map (·.1)) (hk : KRow W.heap.size W1 v1 k1) (hok : x1.ok1) (hW : W1.alloc (.cells (ndA x1 v1) nT) = W2) :
  W2.cell? ⟨gx, 5, none⟩ = some v ∧ W2.frozen? ⟨gx, 5, none⟩ = false ∧ AppI p w gx x (.slice (some ⟨W1.heap.size, 0, none⟩) 1 1) [(x1, v1)] r' (W2.setCell ⟨gx, 5, none⟩ (.slice (some ⟨W1.heap.size, 0, none⟩) 1 1)) := by
 subst hW
 have hl : KRow W.heap.size (W1.alloc (.cells (ndA x1 v1) nT)) (.slice (some ⟨W1.heap.size, 0, none⟩) 1 1) [(x1, v1)] :=
  KRow.lit [(x1, v1)] rfl rfl rfl ho.size (by simp) (fun q hq => by
   rw [List.mem_singleton] at hq; subst hq
   exact ⟨hok, k1, hx, hk⟩)
 have hgx := h.box.lt
 have hsz := h.size
 have h2 : KRowD (fun k => w.heap.size + 1 ≤ k ∧ k ≠ gx) (w.heap.size + 1) (W1.alloc (.cells (ndA x1 v1) nT)) (.slice (some ⟨W1.heap.size, 0, none⟩) 1 1) ([] ++ [(x1, v1)]) :=
  ⟨owns_base0 hl.1 hsz, fun q hq => ⟨(hl.2 q hq).1, (hl.2 q hq).2.mono fun k _ hd => ⟨⟨by have := hd.1; omega, by have := hd.1; omega⟩, hd.2⟩⟩⟩
 exact (h.call ho hp).more h2 (Only.of_kept ((Kept.refl _).alloc _)) (.inr rfl)
/-- How it begins: the box is the last block. -/
theorem AppI.new {W0 : World} (hk : KRow (w.heap.size + 1) W0 v ks) (hres : Blk W0 w.heap.size nT pzN) (hg : p.B < p.N ∧ p.N ≤ w.heap.size) (hp : Pst p r W0) (ho : Only (· = p.B) w W0) (hgx : gx = W0.heap.size) (hW : W0.alloc (.cells (ndA x v) nT) = W) : AppI p w gx x v ks r W := by
 subst hgx hW
 have hlt := hres.lt
 have ka := (Kept.refl W0).alloc (.cells (ndA x v) nT)
 refine ⟨Blk.new _ _ _, ?_, fun e => ?_, hres.alloc _, ⟨by omega, by omega, hg.2⟩, hp.alloc _, ho.trans (Only.of_kept ka)⟩
 ·exact KRowD.only (S := fun _ => False) (KRowD.mono hk (fun k hk hd => ⟨hd, by omega⟩)) (Only.of_kept ka) (fun _ _ h => h) (fun _ _ h => h)
 ·rcases hk.1.2 with ⟨rfl, _⟩ | ⟨g', cap, cur, rfl, hg1, hg2, _⟩
  ·cases e
  ·have : g' = W0.heap.size := by simpa [Value.ownBlock] using e
   have := (Array.getElem?_eq_some_iff.1 hg2).1
   omega
/-- The end: the box's cells as the result. -/
theorem AppI.end {l : List Lx.T} {o : O Nd} {fn : Func} {q : Tmp} {a : Act} (h : AppI p w gx x v ks r W) (hf : fn.results = #[.cell q nT]) (hd : a.defers = []) (hp : a.tmps.getD q undef = .pointer (some ⟨w.heap.size, 0, none⟩)) {y : Nd} (hy : y.kind = x.kind ∧ y.text = x.text ∧ y.typ = x.typ ∧ y.frm = x.frm ∧ y.n = x.n)
  (ho : o = .ok y r) (hx : y.kids = ks.map (·.1)) (hok : y.ok1) (hc : y.count + r.length ≤ l.length) : bodyPost Tryz.prog fn (NodePost p l o w) .ret a (put6n W w.heap.size x v) := by
 have e : put6n W w.heap.size x v = put6n W w.heap.size y v := by unfold put6n; rw [hy.1, hy.2.1, hy.2.2.1, hy.2.2.2.1, hy.2.2.2.2]
 rw [e]
 exact node_end hf hd hp h.res ho hx (KRowD.mono h.row (fun k _ hk => hk.1)) h.pst h.gx.2.2 h.only hok hc
/-- The node's type, told later; its kind. -/
theorem AppI.setTyp (h : AppI p w gx x v ks r W) {x' : Nd} (hx : x'.kind = x.kind ∧ x'.text = x.text ∧ x'.frm = x.frm ∧ x'.n = x.n) : AppI p w gx x' v ks r (W.setCell ⟨gx, 2, none⟩ (.string x'.typ)) := by
 have hge := h.gx
 have o3 : Only (· = gx) W (W.setCell ⟨gx, 2, none⟩ (.string x'.typ)) := (Only.refl _ _).put 2 _
 refine ⟨?_, h.row.only o3 (fun k hk e => h.ne (by rw [hk, e])) (fun k hk e => hk.2 e), h.ne, h.res.only o3 (by omega), h.gx, h.pst.only o3 (fun b hb e => by omega), h.only.past (o3.mono (T := fun k => w.heap.size + 1 ≤ k) fun k _ e => by omega) (by omega)⟩
 have := h.box.put 2 (.string x'.typ)
 unfold ndA
 rw [hx.1, hx.2.1, hx.2.2.1, hx.2.2.2]
 simpa [ndA] using this
theorem AppI.setKind (h : AppI p w gx x v ks r W) {x' : Nd} (hx : x'.text = x.text ∧ x'.typ = x.typ ∧ x'.frm = x.frm ∧ x'.n = x.n) : AppI p w gx x' v ks r (W.setCell ⟨gx, 0, none⟩ (.int .i64 x'.kind)) := by
 have hge := h.gx
 have o3 : Only (· = gx) W (W.setCell ⟨gx, 0, none⟩ (.int .i64 x'.kind)) := (Only.refl _ _).put 0 _
 refine ⟨?_, h.row.only o3 (fun k hk e => h.ne (by rw [hk, e])) (fun k hk e => hk.2 e), h.ne, h.res.only o3 (by omega), h.gx, h.pst.only o3 (fun b hb e => by omega), h.only.past (o3.mono (T := fun k => w.heap.size + 1 ≤ k) fun k _ e => by omega) (by omega)⟩
 have := h.box.put 0 (.int .i64 x'.kind)
 unfold ndA
 rw [hx.1, hx.2.1, hx.2.2.1, hx.2.2.2]
 simpa [ndA] using this
theorem AppI.len (h : AppI p w gx x v ks r W) : r ≠ [] ∧ r.length ≤ 30000 := ⟨h.pst.good.ne, h.pst.len⟩
/-- Within a loop that appends parts as long as they begin with s. -/
structure ManyI (p : PP) (w : World) (gx : Nat) (x : Nd) (s : ByteArray) (part : List Lx.T → O Nd) (o : O Nd) (rest : List Nd → List Lx.T → O Nd) (n : Nat) (va : Option Addr) (vc : Nat) (ks : List (Nd × Value)) (r : List Lx.T) (W : World) : Prop where
 app : AppI p w gx x (.slice va ks.length vc) ks r W
 eq : ∃ K, r.length ≤ K ∧ o = (Ps.many s part K (ks.map (·.1)) r).bind rest
 cnt : Nd.countL (ks.map (·.1)) + r.length ≤ n
variable {s : ByteArray} {part : List Lx.T → O Nd} {o : O Nd} {rest : List Nd → List Lx.T → O Nd} {n : Nat} {va : Option Addr} {vc : Nat}
theorem ManyI.out (h : ManyI p w gx x s part o rest n va vc ks r W) (hi : Ps.is [s] r = false) : o = rest (ks.map (·.1)) r := by
 obtain ⟨K, hK, e⟩ := h.eq
 cases K with
 | zero => exact absurd (List.eq_nil_of_length_eq_zero (by omega)) h.app.len.1
 | succ K => rw [e, Ps.many, hi]; rfl
theorem ManyI.bad (h : ManyI p w gx x s part o rest n va vc ks r W) (hi : Ps.is [s] r = true) {q : Int} (hb : part r = .bad q) : o = .bad q := by
 obtain ⟨K, hK, e⟩ := h.eq
 cases K with
 | zero => exact absurd (List.eq_nil_of_length_eq_zero (by omega)) h.app.len.1
 | succ K => rw [e, Ps.many, if_pos hi, hb]; rfl
theorem ManyI.ok (h : ManyI p w gx x s part o rest n va vc ks r W) (hi : Ps.is [s] r = true) {y : Nd} {r' : List Lx.T} {u : Value} (hb : part r = .ok y r') (hc : y.count + r'.length ≤ r.length) {W' : World} {va' : Option Addr} {m vc' : Nat} (hm : m = ks.length + 1) (ha : AppI p w gx x (.slice va' m vc') (ks ++ [(y, u)]) r' W') :
  ManyI p w gx x s part o rest n va' vc' (ks ++ [(y, u)]) r' W' := by
 subst hm
 refine ⟨by rw [List.length_append]; exact ha, ?_, ?_⟩
 ·obtain ⟨K, hK, e⟩ := h.eq
  have := Nd.count_pos y
  cases K with
  | zero => exact absurd (List.eq_nil_of_length_eq_zero (by omega)) h.app.len.1
  | succ K => exact ⟨K, by omega, by rw [e, Ps.many, if_pos hi, hb, List.map_append]; rfl⟩
 ·rw [List.map_append, show List.map (·.1) [(y, u)] = [y] from rfl, countL_snoc]
  have := h.cnt
  omega
/-- Within a block. -/
structure BlkI (p : PP) (F : Ps.Fam) (w : World) (gx : Nat) (x : Nd) (o : O Nd) (n : Nat) (va : Option Addr) (vc : Nat) (ks : List (Nd × Value)) (r : List Lx.T) (W : World) : Prop where
 app : AppI p w gx x (.slice va ks.length vc) ks r W
 eq : ∃ K, r.length + 1 ≤ K ∧ o = Ps.blockLoop F K (ks.map (·.1)) r
 cnt : Nd.countL (ks.map (·.1)) + r.length + 1 ≤ n
variable {F : Ps.Fam}
theorem BlkI.out (h : BlkI p F w gx x o n va vc ks r W) (hi : Ps.is [Ps.kRight] r = true) : o = .ok (Ps.nd 6 Ps.e0 Ps.e0 0 (ks.map (·.1))) r.tail := by
 obtain ⟨K, hK, e⟩ := h.eq
 cases K with
 | zero => omega
 | succ K => rw [e, Ps.blockLoop, if_pos hi]
theorem BlkI.bad (h : BlkI p F w gx x o n va vc ks r W) (hi : Ps.is [Ps.kRight] r = false) {q : Int} (hb : Ps.entry F r = .bad q) : o = .bad q := by
 obtain ⟨K, hK, e⟩ := h.eq
 cases K with
 | zero => omega
 | succ K => rw [e, Ps.blockLoop, hi, hb]; rfl
theorem BlkI.ok (h : BlkI p F w gx x o n va vc ks r W) (hi : Ps.is [Ps.kRight] r = false) {y : Nd} {r' : List Lx.T} {u : Value} (hb : Ps.entry F r = .ok y r') (hc : y.count + r'.length ≤ r.length) :
  (Ps.is [Ps.kSemi] r' = true → r'.tail.length + 1 = r'.length → ∀ {W' : World} {va' : Option Addr} {vc' : Nat}, AppI p w gx x (.slice va' (ks.length + 1) vc') (ks ++ [(y, u)]) r'.tail W' → BlkI p F w gx x o n va' vc' (ks ++ [(y, u)]) r'.tail W') ∧
  (Ps.is [Ps.kSemi] r' = false → o = (Ps.take [Ps.kRight] r').bind fun _ r => .ok (Ps.nd 6 Ps.e0 Ps.e0 0 ((ks ++ [(y, u)]).map (·.1))) r) ∧ Nd.countL ((ks ++ [(y, u)]).map (·.1)) + r'.length + 1 ≤ n := by
 have hcnt : Nd.countL ((ks ++ [(y, u)]).map (·.1)) + r'.length + 1 ≤ n := by
  rw [List.map_append, show List.map (·.1) [(y, u)] = [y] from rfl, countL_snoc]
  have := h.cnt
  omega
 have hy := Nd.count_pos y
 obtain ⟨K, hK, e⟩ := h.eq
 cases K with
 | zero => omega
 | succ K =>
  refine ⟨fun hs hl W' va' vc' ha => ⟨by rw [List.length_append]; exact ha, ⟨K, by omega, by rw [e, Ps.blockLoop, hi, hb, List.map_append]; simp only [Ps.O.bind_ok, hs, if_true, Bool.false_eq_true, if_false]; rfl⟩, by omega⟩, fun hs => ?_, hcnt⟩
  rw [e, Ps.blockLoop, hi, hb, List.map_append]
  simp only [Ps.O.bind_ok, hs, Bool.false_eq_true, if_false]
  rfl
theorem take_is {ss : List ByteArray} {l : List Lx.T} (h : Ps.is ss l = true) (hl : l ≠ []) {q : Int} (hb : Ps.take ss l = .bad q) : False := by
 cases l with
 | nil => exact hl rfl
 | cons t r => rw [Ps.take, show Ps.mem ss (Ps.srt t) = true from h] at hb; cases hb
theorem take_ok {ss : List ByteArray} {l : List Lx.T} {t : Lx.T} {r : List Lx.T} (h : Ps.take ss l = .ok t r) : l = t :: r ∧ l.tail = r := by
 cases l with
 | nil => cases h
 | cons t' r' =>
  rw [Ps.take] at h
  split at h
  ·injection h with h1 h2; subst h1 h2; exact ⟨rfl, rfl⟩
  ·cases h
end
end Go.Proofs.YtfkmnpgpfmkjaaaGreatDoor
namespace Go.Proofs.YtfkmnpgpfmkjaaaGreatDoor
open Go.ChangeShapes Go.WideShapes Go.ChangeAt Go.RowKit
attribute [local go_sem] Oper.semAt_some
open Ps (O W)
section
variable {p : PP} {F : Ps.Fam} {k : Nat}
set_option maxHeartbeats 1000000 in
theorem loop_c (hF : FamC p F k) : WayC p k 69 (Ps.wLoop F) := by
 intro t0 r0 w hk hp hsr
 obtain ⟨W0, hW0⟩ : ∃ W0, w.alloc (.cells pzN nT) = W0 := ⟨_, rfl⟩
 have k0 : Kept w W0 := by rw [← hW0]; exact (Kept.refl w).alloc _
 have HZ0 := Lib.hid (show w.heap.size + 1 ≤ W0.heap.size by rw [← hW0]; simp)
 have HB0 := Lib.hid (show Blk W0 w.heap.size nT pzN by rw [← hW0]; exact Blk.new _ _ _)
 have HP0 := Lib.hid (hp.kept k0)
 have HN := Lib.hid hp.lt
 have HO0 := Lib.hid (show Only (· = p.B) w W0 from Only.of_kept k0)
 have HW0 := Lib.hid hW0
 have HSR := Lib.hid hsr
 have HTK := Lib.hid (hp.good.ok t0 (by simp))
 have HKL := Lib.hid hk
 clear hp k0 hW0 hsr hk
 have hf1 := field_tok1
 have hf2 := field_tok2
 go_enter Tryz.func69, Tryz.ntmps69
 go_wp2_with (rw [HW0.out])
 refine (pnext_c _ HP0.out HSR.out).mono ?_
 rintro e w1 ⟨rfl, h4, h5⟩
 have HP1 := Lib.hid h4
 have HO1 := Lib.hid (HO0.out.trans h5)
 have HZ1 := Lib.hid (Nat.le_trans HZ0.out (Only.size h5))
 have HB1 := Lib.hid (HB0.out.only h5 (by have := HN.out; omega))
 clear h4 h5
 go_wp2_with fail
 refine (hF.expr _ _ (by have := HKL.out; skip; omega) HP1.out).mono ?_
 rintro e w2 (⟨x2, ks2, r2, v2, h1, rfl, hx, hk, h4, h5, hok, h7⟩ | ⟨q, hb, rfl, ho⟩)
 rotate_left
 ·have HH := Lib.hid (show (Ps.wLoop F) t0 r0 = .bad q ∧ Only (· = p.B) w w2 from ⟨by simp only [Ps.wLoop, hb, Ps.O.bind_ok, Ps.O.bind_bad, eq_self, if_true, Bool.false_eq_true, if_false], HO1.out.trans ho⟩)
  clear hb ho
  go_wp2_with fail
  exact ⟨rfl, .inr ⟨_, HH.out.1, rfl, HH.out.2⟩⟩
 have HE2 := Lib.hid h1
 have HX2 := Lib.hid (And.intro hx hok)
 have HL2 := Lib.hid h7
 have HKx2a2 := Lib.hid (hk.lower HZ1.out)
 have HP2 := Lib.hid h4
 have HO2 := Lib.hid (HO1.out.trans h5)
 have HZ2 := Lib.hid (Nat.le_trans HZ1.out (Only.size h5))
 have HB2 := Lib.hid (HB1.out.only h5 (by have := HN.out; omega))
 clear h1 hx hk h4 h5 hok h7
 go_wp2_with fail
 refine (hF.block _ _ (by have := HKL.out; have := HL2.out; omega) HP2.out).mono ?_
 rintro e w3 (⟨x3, ks3, r3, v3, h1, rfl, hx, hk, h4, h5, hok, h7⟩ | ⟨q, hb, rfl, ho⟩)
 rotate_left
 ·have HH := Lib.hid (show (Ps.wLoop F) t0 r0 = .bad q ∧ Only (· = p.B) w w3 from ⟨by simp only [Ps.wLoop, HE2.out, hb, Ps.O.bind_ok, Ps.O.bind_bad, eq_self, if_true, Bool.false_eq_true, if_false], HO2.out.trans ho⟩)
  clear hb ho
  go_wp2_with fail
  exact ⟨rfl, .inr ⟨_, HH.out.1, rfl, HH.out.2⟩⟩
 have HE3 := Lib.hid h1
 have HX3 := Lib.hid (And.intro hx hok)
 have HL3 := Lib.hid h7
 have HKx3a3 := Lib.hid (hk.lower HZ2.out)
 have HP3 := Lib.hid h4
 have HO3 := Lib.hid (HO2.out.trans h5)
 have HZ3 := Lib.hid (Nat.le_trans HZ2.out (Only.size h5))
 have HB3 := Lib.hid (HB2.out.only h5 (by have := HN.out; omega))
 have HKx2a3 := Lib.hid (HKx2a2.out.onB h5 (by have := HN.out; omega))
 clear h1 hx hk h4 h5 hok h7
 obtain ⟨W4, hW4⟩ : ∃ W4, w3.alloc (.cells #[.int .i64 x2.kind, .string x2.text, .string x2.typ, .string x2.frm, .int .i64 x2.n, v2, .int .i64 x3.kind, .string x3.text, .string x3.typ, .string x3.frm, .int .i64 x3.n, v3] nT) = W4 := ⟨_, rfl⟩
 have k4 : Kept w3 W4 := by rw [← hW4]; exact (Kept.refl _).alloc _
 have HK4 := Lib.hid (show KRow (w.heap.size + 1) W4 (.slice (some ⟨w3.heap.size, 0, none⟩) 2 2) [(x2, v2), (x3, v3)] by
  rw [← hW4]
  exact KRow.lit [(x2, v2), (x3, v3)] rfl rfl rfl HZ3.out (by simp) (fun q hq => by
   rcases List.mem_cons.1 hq with rfl | hq
   ·exact ⟨HX2.out.2, ks2, HX2.out.1, HKx2a3.out⟩
   ·rw [List.mem_singleton] at hq; subst hq
    exact ⟨HX3.out.2, ks3, HX3.out.1, HKx3a3.out⟩))
 have HP4 := Lib.hid (HP3.out.kept k4)
 have HO4 := Lib.hid (HO3.out.trans (Only.of_kept k4))
 have HB4 := Lib.hid (HB3.out.kept k4)
 have HW4 := Lib.hid hW4
 clear hW4 k4
 obtain ⟨⟨y0, y1, y2, y3, y4, y5⟩, f0, f1, f2, f3, f4, f5⟩ := nd_six HB4.out
 go_wp2_with (rw [HW4.out])
 refine node_end (x := Ps.nd 23 Ps.e0 Ps.e0 0 [x2, x3]) (ks := [(x2, v2), (x3, v3)]) (by rfl) rfl rfl HB4.out (by simp only [Ps.wLoop, HE2.out, HE3.out, Ps.O.bind_ok, Ps.O.bind_bad, eq_self, if_true, Bool.false_eq_true, if_false]) rfl HK4.out HP4.out HN.out.2 HO4.out (nd_ok1 _ _ _ _ _ (by decide) e0_size e0_size (by decide)) ?_
 have := HN.out; have := HL2.out; have := HL3.out; rw [count_nd, Nd.countL_cons, Nd.countL_cons, Nd.countL_nil, List.length_cons]; omega
set_option maxHeartbeats 1000000 in
theorem choice_c (hF : FamC p F k) : WayC p k 68 (Ps.wChoice F) := by
 intro t0 r0 w hk hp hsr
 obtain ⟨W0, hW0⟩ : ∃ W0, w.alloc (.cells pzN nT) = W0 := ⟨_, rfl⟩
 have k0 : Kept w W0 := by rw [← hW0]; exact (Kept.refl w).alloc _
 have HZ0 := Lib.hid (show w.heap.size + 1 ≤ W0.heap.size by rw [← hW0]; simp)
 have HB0 := Lib.hid (show Blk W0 w.heap.size nT pzN by rw [← hW0]; exact Blk.new _ _ _)
 have HP0 := Lib.hid (hp.kept k0)
 have HN := Lib.hid hp.lt
 have HO0 := Lib.hid (show Only (· = p.B) w W0 from Only.of_kept k0)
 have HW0 := Lib.hid hW0
 have HSR := Lib.hid hsr
 have HTK := Lib.hid (hp.good.ok t0 (by simp))
 have HKL := Lib.hid hk
 clear hp k0 hW0 hsr hk
 have hf1 := field_tok1
 have hf2 := field_tok2
 go_enter Tryz.func68, Tryz.ntmps68
 go_wp2_with (rw [HW0.out])
 refine (pnext_c _ HP0.out HSR.out).mono ?_
 rintro e w1 ⟨rfl, h4, h5⟩
 have HP1 := Lib.hid h4
 have HO1 := Lib.hid (HO0.out.trans h5)
 have HZ1 := Lib.hid (Nat.le_trans HZ0.out (Only.size h5))
 have HB1 := Lib.hid (HB0.out.only h5 (by have := HN.out; omega))
 clear h4 h5
 go_wp2_with fail
 refine (hF.expr _ _ (by have := HKL.out; skip; omega) HP1.out).mono ?_
 rintro e w2 (⟨x2, ks2, r2, v2, h1, rfl, hx, hk, h4, h5, hok, h7⟩ | ⟨q, hb, rfl, ho⟩)
 rotate_left
 ·have HH := Lib.hid (show (Ps.wChoice F) t0 r0 = .bad q ∧ Only (· = p.B) w w2 from ⟨by simp only [Ps.wChoice, hb, Ps.O.bind_ok, Ps.O.bind_bad, eq_self, if_true, Bool.false_eq_true, if_false], HO1.out.trans ho⟩)
  clear hb ho
  go_wp2_with fail
  exact ⟨rfl, .inr ⟨_, HH.out.1, rfl, HH.out.2⟩⟩
 have HE2 := Lib.hid h1
 have HX2 := Lib.hid (And.intro hx hok)
 have HL2 := Lib.hid h7
 have HKx2a2 := Lib.hid (hk.lower HZ1.out)
 have HP2 := Lib.hid h4
 have HO2 := Lib.hid (HO1.out.trans h5)
 have HZ2 := Lib.hid (Nat.le_trans HZ1.out (Only.size h5))
 have HB2 := Lib.hid (HB1.out.only h5 (by have := HN.out; omega))
 clear h1 hx hk h4 h5 hok h7
 go_wp2_with fail
 refine (hF.block _ _ (by have := HKL.out; have := HL2.out; omega) HP2.out).mono ?_
 rintro e w3 (⟨x3, ks3, r3, v3, h1, rfl, hx, hk, h4, h5, hok, h7⟩ | ⟨q, hb, rfl, ho⟩)
 rotate_left
 ·have HH := Lib.hid (show (Ps.wChoice F) t0 r0 = .bad q ∧ Only (· = p.B) w w3 from ⟨by simp only [Ps.wChoice, HE2.out, hb, Ps.O.bind_ok, Ps.O.bind_bad, eq_self, if_true, Bool.false_eq_true, if_false], HO2.out.trans ho⟩)
  clear hb ho
  go_wp2_with fail
  exact ⟨rfl, .inr ⟨_, HH.out.1, rfl, HH.out.2⟩⟩
 have HE3 := Lib.hid h1
 have HX3 := Lib.hid (And.intro hx hok)
 have HL3 := Lib.hid h7
 have HKx3a3 := Lib.hid (hk.lower HZ2.out)
 have HP3 := Lib.hid h4
 have HO3 := Lib.hid (HO2.out.trans h5)
 have HZ3 := Lib.hid (Nat.le_trans HZ2.out (Only.size h5))
 have HB3 := Lib.hid (HB2.out.only h5 (by have := HN.out; omega))
 have HKx2a3 := Lib.hid (HKx2a2.out.onB h5 (by have := HN.out; omega))
 clear h1 hx hk h4 h5 hok h7
 obtain ⟨W4, hW4⟩ : ∃ W4, w3.alloc (.cells #[.int .i64 x2.kind, .string x2.text, .string x2.typ, .string x2.frm, .int .i64 x2.n, v2, .int .i64 x3.kind, .string x3.text, .string x3.typ, .string x3.frm, .int .i64 x3.n, v3] nT) = W4 := ⟨_, rfl⟩
 have k4 : Kept w3 W4 := by rw [← hW4]; exact (Kept.refl _).alloc _
 obtain ⟨W5, hW5⟩ : ∃ W5, W4.alloc (.cells #[.int .i64 22, .string Ps.e0, .string Ps.e0, .string Ps.e0, .int .i64 0, .slice (some ⟨w3.heap.size, 0, none⟩) 2 2] nT) = W5 := ⟨_, rfl⟩
 have k5 : Kept W4 W5 := by rw [← hW5]; exact (Kept.refl _).alloc _
 have HK4 := Lib.hid (show KRow (w.heap.size + 1) W4 (.slice (some ⟨w3.heap.size, 0, none⟩) 2 2) [(x2, v2), (x3, v3)] by
  rw [← hW4]
  exact KRow.lit [(x2, v2), (x3, v3)] rfl rfl rfl HZ3.out (by simp) (fun q hq => by
   rcases List.mem_cons.1 hq with rfl | hq
   ·exact ⟨HX2.out.2, ks2, HX2.out.1, HKx2a3.out⟩
   ·rw [List.mem_singleton] at hq; subst hq
    exact ⟨HX3.out.2, ks3, HX3.out.1, HKx3a3.out⟩))
 have AI4 := Lib.hid (AppI.new (x := Ps.nd 22 Ps.e0 Ps.e0 0 []) HK4.out (HB3.out.kept k4) HN.out (HP3.out.kept k4) (HO3.out.trans (Only.of_kept k4)) rfl hW5)
 have HW4 := Lib.hid hW4
 have HW5 := Lib.hid hW5
 clear hW4 k4 hW5 k5
 go_wp2_with (first | rw [HW5.out] | rw [HW4.out])
 refine (take_l [⟨#[101, 108, 115, 101]⟩] (ty := 9) AI4.out.pst (by first | rfl | simp) rfl rfl (by decide) (by decide +kernel)).mono ?_
 rintro e w5 (⟨t5, r5, h1, h2, rfl, h4, h5, h6⟩ | ⟨q, hb, rfl, ho⟩)
 rotate_left
 ·have HH := Lib.hid (show (Ps.wChoice F) t0 r0 = .bad q ∧ Only (· = p.B) w w5 from ⟨by simp only [Ps.wChoice, HE2.out, HE3.out, hb, Ps.O.bind_ok, Ps.O.bind_bad, eq_self, if_true, Bool.false_eq_true, if_false], AI4.out.only.trans ho⟩)
  clear hb ho
  go_wp2_with fail
  exact ⟨rfl, .inr ⟨_, HH.out.1, rfl, HH.out.2⟩⟩
 have HE5 := Lib.hid h1
 have HT5 := Lib.hid h6
 have HL5 := Lib.hid (show r5.length + 1 = (r3).length by rw [h2]; rfl)
 have AI5 := Lib.hid (AI4.out.call h5 h4)
 clear h1 h2 h4 h5 h6
 go_wp2_with fail
 refine wp_region_till (S := (fun W => W.cell? ⟨W4.heap.size, 5, none⟩ = some (.slice (some ⟨w3.heap.size, 0, none⟩) 2 2))) 7 (by kernel_rfl) (AI5.out.drew.cell5) (fun hHeld0 => ?_)
 refine wpAnyT_take (i := 0) (v := ?_) rfl (by kernel_rfl) (by kernel_rfl) (by kernel_rfl) (fun _ _ _ h => h) (Or.inl ⟨by kernel_rfl, ?_⟩) (by assumption) ?_
 rotate_left
 ·intro w hSw; (try dsimp only at hSw); go_simp; (try with_reducible rfl)
 (try simp only [Act.put, List.getElem_toArray, List.getElem_cons_zero, List.getElem_cons_succ, List.setIfInBounds_toArray, List.set_cons_zero, List.set_cons_succ])
 refine wpAnyT_take (i := 1) (v := ?_) rfl (by kernel_rfl) (by kernel_rfl) (by kernel_rfl) (fun _ _ _ h => h) (Or.inl ⟨by kernel_rfl, ?_⟩) (by assumption) ?_
 rotate_left
 ·intro w hSw; (try dsimp only at hSw); go_simp; (try with_reducible rfl)
 (try simp only [Act.put, List.getElem_toArray, List.getElem_cons_zero, List.getElem_cons_succ, List.setIfInBounds_toArray, List.set_cons_zero, List.set_cons_succ])
 refine wpAnyT_take (i := 2) (v := ?_) rfl (by kernel_rfl) (by kernel_rfl) (by kernel_rfl) (fun _ _ _ h => h) (Or.inl ⟨by kernel_rfl, ?_⟩) (by assumption) ?_
 rotate_left
 ·intro w hSw; (try dsimp only at hSw); go_simp; (try with_reducible rfl)
 (try simp only [Act.put, List.getElem_toArray, List.getElem_cons_zero, List.getElem_cons_succ, List.setIfInBounds_toArray, List.set_cons_zero, List.set_cons_succ])
 refine wpAnyT_ready (rs := [3]) (by kernel_rfl) (by simp) ?_
 refine AllReadyT.cons rfl (fun K hK => ?_) AllReadyT.nil
 go_simp
 refine ((hF.block r5 _ (by have := HKL.out; have := HL2.out; have := HL3.out; have := HL5.out; omega) AI5.out.pst.drew)).mono ?_
 rintro e w6 (⟨x6, ks6, r6, v6, h1, rfl, hx, hk, h4, h5, hok, h7⟩ | ⟨q, hb, rfl, ho⟩)
 rotate_left
 ·have HH := Lib.hid (show (Ps.wChoice F) t0 r0 = .bad q ∧ Only (· = p.B) w w6 from ⟨by simp only [Ps.wChoice, HE2.out, HE3.out, HE5.out, hb, Ps.O.bind_ok, Ps.O.bind_bad, eq_self, if_true, Bool.false_eq_true, if_false], AI5.out.drew.only.trans ho⟩)
  clear hb ho
  exact ⟨rfl, .inr ⟨_, HH.out.1, rfl, HH.out.2⟩⟩
 have HE6 := Lib.hid h1
 have HX6 := Lib.hid (And.intro hx hok)
 have HL6 := Lib.hid h7
 obtain ⟨ai6, hs6, h26⟩ := AI5.out.drew.asks h5 h4 hx hk hok
 refine hK.out _ _ ((AI5.out.drew.call h5 h4).cell5) (fun hHeld1 => ?_)
 clear hK K
 (try simp only [Act.put, List.getElem_toArray, List.getElem_cons_zero, List.getElem_cons_succ, List.setIfInBounds_toArray, List.set_cons_zero, List.set_cons_succ])
 refine wpAnyT_ready (rs := [4]) (by kernel_rfl) (by simp) ?_
 refine AllReadyT.cons rfl (fun K hK => ?_) AllReadyT.nil
 go_simp
 refine hK.out _ _ ai6.cell5 (fun hHeld2 => ?_)
 clear hK K
 (try simp only [Act.put, List.getElem_toArray, List.getElem_cons_zero, List.getElem_cons_succ, List.setIfInBounds_toArray, List.set_cons_zero, List.set_cons_succ])
 have AJ6 := Lib.hid ai6
 have HS6 := Lib.hid hs6
 have H26 := Lib.hid h26
 clear ai6 hs6 h26 h1 hx hk h4 h5 hok h7 hHeld0 hHeld1
 refine wpAnyT_ready (rs := [5]) (by kernel_rfl) (by simp) ?_
 refine AllReadyT.cons rfl (fun K hK => ?_) AllReadyT.nil
 refine step_nd (k2 := [(x6, v6)]) (.tmp 16) (.tmp 19) rfl rfl rfl AJ6.out.row rfl HS6.out H26.out AJ6.out.size (by first | (simp; done) | (have := HM.out; simp; omega)) ?_
 intro ka6 kc6 wa6 hr ho hl
 obtain ⟨q0, q1, q2⟩ := AJ6.out.more hr ho hl
 refine hK.out _ _ q0 (fun hHeld3 => ?_)
 clear hK K
 (try simp only [Act.put, List.getElem_toArray, List.getElem_cons_zero, List.getElem_cons_succ, List.setIfInBounds_toArray, List.set_cons_zero, List.set_cons_succ])
 refine wpAnyT_take (i := 6) (v := ?_) rfl (by kernel_rfl) (by kernel_rfl) (by kernel_rfl) (fun _ _ _ h => h) (Or.inl ⟨by kernel_rfl, ?_⟩) (by assumption) ?_
 rotate_left
 ·intro w hSw; (try dsimp only at hSw); go_simp; (try with_reducible rfl)
 (try simp only [Act.put, List.getElem_toArray, List.getElem_cons_zero, List.getElem_cons_succ, List.setIfInBounds_toArray, List.set_cons_zero, List.set_cons_succ])
 clear hr ho hl hHeld2 hHeld3
 refine wpAnyT_ready (rs := [7]) (by kernel_rfl) (by simp) ?_
 refine AllReadyT.fin rfl (fun K hK => ?_)
 go_simp
 refine hK.out _ _ ?_
 clear hK K
 (try simp only [Act.put, List.getElem_toArray, List.getElem_cons_zero, List.getElem_cons_succ, List.setIfInBounds_toArray, List.set_cons_zero, List.set_cons_succ])
 refine wpAnyT_done (by kernel_rfl) ?_ _
 have AI7 := Lib.hid q2
 obtain ⟨W7, hW7⟩ : ∃ W7, wa6.setCell ⟨W4.heap.size, 5, none⟩ (.slice ka6 3 kc6) = W7 := ⟨_, rfl⟩
 rw [show wa6.setCell ⟨W4.heap.size, 5, none⟩ (.slice ka6 ([(x2, v2), (x3, v3)].length + [(x6, v6)].length) kc6) = W7 from hW7] at AI7
 obtain ⟨⟨z0, z1, z2, z3, z4, z5⟩, _⟩ := nd_six AI7.out.box
 obtain ⟨⟨y0, y1, y2, y3, y4, y5⟩, f0, f1, f2, f3, f4, f5⟩ := nd_six AI7.out.res
 have HW7 := Lib.hid hW7
 clear hW7 q0 q1 q2
 rw [HW7.out]
 go_wp2_with fail
 refine AI7.out.end (y := Ps.nd 22 Ps.e0 Ps.e0 0 [x2, x3, x6]) (by rfl) rfl rfl ⟨rfl, rfl, rfl, rfl, rfl⟩ (by simp only [Ps.wChoice, HE2.out, HE3.out, HE5.out, HE6.out, Ps.O.bind_ok, Ps.O.bind_bad, eq_self, if_true, Bool.false_eq_true, if_false]) rfl (nd_ok1 _ _ _ _ _ (by decide) e0_size e0_size (by decide)) ?_
 have := HL2.out; have := HL3.out; have := HL5.out; have := HL6.out
 rw [count_nd, Nd.countL_cons, Nd.countL_cons, Nd.countL_cons, Nd.countL_nil, List.length_cons]; omega
set_option maxHeartbeats 1000000 in
theorem pfield_c (l : List Lx.T) (w : World) (hp : Pst p l w) : Calls Tryz.prog 77 #[.pointer (some ⟨p.B, 0, none⟩)] w (NodePost p l (Ps.field l) w) := by
 obtain ⟨W0, hW0⟩ : ∃ W0, w.alloc (.cells pzN nT) = W0 := ⟨_, rfl⟩
 have k0 : Kept w W0 := by rw [← hW0]; exact (Kept.refl w).alloc _
 have HZ0 := Lib.hid (show w.heap.size + 1 ≤ W0.heap.size by rw [← hW0]; simp)
 have HB0 := Lib.hid (show Blk W0 w.heap.size nT pzN by rw [← hW0]; exact Blk.new _ _ _)
 have HP0 := Lib.hid (hp.kept k0)
 have HN := Lib.hid hp.lt
 have HO0 := Lib.hid (show Only (· = p.B) w W0 from Only.of_kept k0)
 have HW0 := Lib.hid hW0
 clear hp k0 hW0
 have hf1 := field_tok1
 have hf2 := field_tok2
 go_enter Tryz.func77, Tryz.ntmps77
 go_wp2_with (rw [HW0.out])
 refine (take_l [⟨#[118, 97, 114]⟩] (ty := 9) HP0.out (by first | rfl | simp) rfl rfl (by decide) (by decide +kernel)).mono ?_
 rintro e w1 (⟨t1, r1, h1, h2, rfl, h4, h5, h6⟩ | ⟨q, hb, rfl, ho⟩)
 rotate_left
 ·have HH := Lib.hid (show Ps.field l = .bad q ∧ Only (· = p.B) w w1 from ⟨by simp only [Ps.field, hb, Ps.O.bind_ok, Ps.O.bind_bad, eq_self, if_true, Bool.false_eq_true, if_false], HO0.out.trans ho⟩)
  clear hb ho
  go_wp2_with fail
  exact ⟨rfl, .inr ⟨_, HH.out.1, rfl, HH.out.2⟩⟩
 have HE1 := Lib.hid h1
 have HT1 := Lib.hid h6
 have HL1 := Lib.hid (show r1.length + 1 = (l).length by rw [h2]; rfl)
 have HP1 := Lib.hid h4
 have HO1 := Lib.hid (HO0.out.trans h5)
 have HZ1 := Lib.hid (Nat.le_trans HZ0.out (Only.size h5))
 have HB1 := Lib.hid (HB0.out.only h5 (by have := HN.out; omega))
 clear h1 h2 h4 h5 h6
 go_wp2_with fail
 refine (take_l [⟨#[97, 32, 110, 97, 109, 101]⟩] (ty := 9) HP1.out (by first | rfl | simp) rfl rfl (by decide) (by decide +kernel)).mono ?_
 rintro e w2 (⟨t2, r2, h1, h2, rfl, h4, h5, h6⟩ | ⟨q, hb, rfl, ho⟩)
 rotate_left
 ·have HH := Lib.hid (show Ps.field l = .bad q ∧ Only (· = p.B) w w2 from ⟨by simp only [Ps.field, HE1.out, hb, Ps.O.bind_ok, Ps.O.bind_bad, eq_self, if_true, Bool.false_eq_true, if_false], HO1.out.trans ho⟩)
  clear hb ho
  go_wp2_with fail
  exact ⟨rfl, .inr ⟨_, HH.out.1, rfl, HH.out.2⟩⟩
 have HE2 := Lib.hid h1
 have HT2 := Lib.hid h6
 have HL2 := Lib.hid (show r2.length + 1 = (r1).length by rw [h2]; rfl)
 have HP2 := Lib.hid h4
 have HO2 := Lib.hid (HO1.out.trans h5)
 have HZ2 := Lib.hid (Nat.le_trans HZ1.out (Only.size h5))
 have HB2 := Lib.hid (HB1.out.only h5 (by have := HN.out; omega))
 clear h1 h2 h4 h5 h6
 go_wp2_with fail
 refine (annot_c _ _ HP2.out).mono ?_
 rintro e w3 (⟨yy3, r3, h1, rfl, h4, h5, h6, h7⟩ | ⟨q, hb, rfl, ho⟩)
 rotate_left
 ·have HH := Lib.hid (show Ps.field l = .bad q ∧ Only (· = p.B) w w3 from ⟨by simp only [Ps.field, HE1.out, HE2.out, hb, Ps.O.bind_ok, Ps.O.bind_bad, eq_self, if_true, Bool.false_eq_true, if_false], HO2.out.trans ho⟩)
  clear hb ho
  go_wp2_with fail
  exact ⟨rfl, .inr ⟨_, HH.out.1, rfl, HH.out.2⟩⟩
 have HE3 := Lib.hid h1
 have HT3 := Lib.hid h6
 have HL3 := Lib.hid h7
 have HP3 := Lib.hid h4
 have HO3 := Lib.hid (HO2.out.trans h5)
 have HZ3 := Lib.hid (Nat.le_trans HZ2.out (Only.size h5))
 have HB3 := Lib.hid (HB2.out.only h5 (by have := HN.out; omega))
 clear h1 h4 h5 h6 h7
 obtain ⟨V3, hV3⟩ : ∃ V, w3.alloc (.cells (ndA (Ps.nd 3 t2.text yy3 0 []) (.slice none 0 0)) nT) = V := ⟨_, rfl⟩
 have AI3 := Lib.hid (AppI.new (x := Ps.nd 3 t2.text yy3 0 []) (KRow.nil _ _) HB3.out HN.out HP3.out HO3.out rfl hV3)
 have HV3 := Lib.hid (show w3.alloc (.cells #[.int .i64 3, .string t2.text, .string yy3, .string Ps.e0, .int .i64 0, (.slice none 0 0)] nT) = V3 from hV3)
 clear hV3
 go_wp2_with (rw [HV3.out])
 refine (take_l [⟨#[59]⟩] (ty := 9) AI3.out.pst (by first | rfl | simp) rfl rfl (by decide) (by decide +kernel)).mono ?_
 rintro e w4 (⟨t4, r4, h1, h2, rfl, h4, h5, h6⟩ | ⟨q, hb, rfl, ho⟩)
 rotate_left
 ·have HH := Lib.hid (show Ps.field l = .bad q ∧ Only (· = p.B) w w4 from ⟨by simp only [Ps.field, HE1.out, HE2.out, HE3.out, hb, Ps.O.bind_ok, Ps.O.bind_bad, eq_self, if_true, Bool.false_eq_true, if_false], AI3.out.only.trans ho⟩)
  clear hb ho
  go_wp2_with fail
  exact ⟨rfl, .inr ⟨_, HH.out.1, rfl, HH.out.2⟩⟩
 have HE4 := Lib.hid h1
 have HT4 := Lib.hid h6
 have HL4 := Lib.hid (show r4.length + 1 = (r3).length by rw [h2]; rfl)
 have AI4 := Lib.hid (AI3.out.call h5 h4)
 clear h1 h2 h4 h5 h6
 obtain ⟨⟨z0, z1, z2, z3, z4, z5⟩, g0, g1, g2, g3, g4, g5⟩ := nd_six AI4.out.box
 obtain ⟨⟨y0, y1, y2, y3, y4, y5⟩, f0, f1, f2, f3, f4, f5⟩ := nd_six AI4.out.res
 go_wp2_with fail
 refine AI4.out.end (y := Ps.nd 3 t2.text yy3 0 []) (by rfl) rfl rfl ⟨rfl, rfl, rfl, rfl, rfl⟩ (by simp only [Ps.field, HE1.out, HE2.out, HE3.out, HE4.out, Ps.O.bind_ok, Ps.O.bind_bad, eq_self, if_true, Bool.false_eq_true, if_false]) rfl (nd_ok1 _ _ _ _ _ (by decide) HT2.out.2.1 HT3.out (by decide)) ?_
 have := HL1.out; have := HL2.out; have := HL3.out; have := HL4.out; rw [count_nd, Nd.countL_nil]; omega
set_option maxHeartbeats 1000000 in
theorem entry_c (hF : FamC p F k) (l : List Lx.T) (w : World) (hk : l.length ≤ k) (hp : Pst p l w) : Calls Tryz.prog 79 #[.pointer (some ⟨p.B, 0, none⟩)] w (NodePost p l (Ps.entry F l) w) := by
 obtain ⟨W0, hW0⟩ : ∃ W0, w.alloc (.cells pzN nT) = W0 := ⟨_, rfl⟩
 have k0 : Kept w W0 := by rw [← hW0]; exact (Kept.refl w).alloc _
 have HZ0 := Lib.hid (show w.heap.size + 1 ≤ W0.heap.size by rw [← hW0]; simp)
 have HB0 := Lib.hid (show Blk W0 w.heap.size nT pzN by rw [← hW0]; exact Blk.new _ _ _)
 have HP0 := Lib.hid (hp.kept k0)
 have HN := Lib.hid hp.lt
 have HO0 := Lib.hid (show Only (· = p.B) w W0 from Only.of_kept k0)
 have HW0 := Lib.hid hW0
 have HKL := Lib.hid hk
 clear hp k0 hW0 hk
 have hf1 := field_tok1
 have hf2 := field_tok2
 go_enter Tryz.func79, Tryz.ntmps79
 go_wp2_with (rw [HW0.out])
 refine (pskip_c ⟨#[108, 101, 116]⟩ l _ HP0.out (by decide +kernel)).mono ?_
 rintro e w1 (⟨h1, rfl, h2, h3, h4⟩ | ⟨h1, rfl, h2, h3⟩)
 rotate_left
 ·have HE := Lib.hid (show Ps.entry F l = F .expr l by rw [Ps.entry, h1]; rfl)
  have HO1 := Lib.hid (HO0.out.trans h3)
  have HZ1 := Lib.hid (Nat.le_trans HZ0.out h3.size)
  have HB1 := Lib.hid (HB0.out.only h3 (by have := HN.out; omega))
  have HX := Lib.hid (hF.expr l w1 HKL.out h2)
  clear h1 h2 h3
  go_wp2_with fail
  refine HX.out.mono ?_
  rintro e w2 (⟨x2, ks2, r2, v2, h1, rfl, hx, hk, h4, h5, hok, h7⟩ | ⟨q, hb, rfl, ho⟩)
  rotate_left
  ·have HH := Lib.hid (show Ps.entry F l = .bad q ∧ Only (· = p.B) w w2 from ⟨HE.out.trans hb, HO1.out.trans ho⟩)
   clear hb ho
   go_wp2_with fail
   exact ⟨rfl, .inr ⟨_, HH.out.1, rfl, HH.out.2⟩⟩
  obtain ⟨va2, vc2, rfl⟩ := hk.slice
  have HB2 := Lib.hid (HB1.out.only h5 (by have := HN.out; omega))
  have HH := Lib.hid (show Ps.entry F l = .ok x2 r2 ∧ x2.kids = ks2.map (·.1) ∧ KRow (w.heap.size + 1) w2 (.slice va2 ks2.length vc2) ks2 ∧ Pst p r2 w2 ∧ Only (· = p.B) w w2 ∧ x2.ok1 ∧ x2.count + r2.length ≤ l.length from ⟨HE.out.trans h1, hx, hk.lower HZ1.out, h4, HO1.out.trans h5, hok, h7⟩)
  clear h1 hx hk h4 h5 hok h7
  obtain ⟨⟨y0, y1, y2, y3, y4, y5⟩, f0, f1, f2, f3, f4, f5⟩ := nd_six HB2.out
  go_wp2_with fail
  exact node_end (x := x2) (ks := ks2) (v := .slice va2 ks2.length vc2) (by rfl) rfl rfl HB2.out HH.out.1 HH.out.2.1 HH.out.2.2.1 HH.out.2.2.2.1 HN.out.2 HH.out.2.2.2.2.1 HH.out.2.2.2.2.2.1 HH.out.2.2.2.2.2.2
 have HE1 := Lib.hid h1
 have HL1 := Lib.hid h4
 have HP1 := Lib.hid h2
 have HO1 := Lib.hid (HO0.out.trans h3)
 have HZ1 := Lib.hid (Nat.le_trans HZ0.out (Only.size h3))
 have HB1 := Lib.hid (HB0.out.only h3 (by have := HN.out; omega))
 clear h1 h2 h3 h4
 go_wp2_with fail
 refine (take_l [⟨#[97, 32, 110, 97, 109, 101]⟩] (ty := 9) HP1.out (by first | rfl | simp) rfl rfl (by decide) (by decide +kernel)).mono ?_
 rintro e w2 (⟨t2, r2, h1, h2, rfl, h4, h5, h6⟩ | ⟨q, hb, rfl, ho⟩)
 rotate_left
 ·have HH := Lib.hid (show Ps.entry F l = .bad q ∧ Only (· = p.B) w w2 from ⟨by simp only [Ps.entry, HE1.out, hb, Ps.O.bind_ok, Ps.O.bind_bad, eq_self, if_true, Bool.false_eq_true, if_false], HO1.out.trans ho⟩)
  clear hb ho
  go_wp2_with fail
  exact ⟨rfl, .inr ⟨_, HH.out.1, rfl, HH.out.2⟩⟩
 have HE2 := Lib.hid h1
 have HT2 := Lib.hid h6
 have HL2 := Lib.hid (show r2.length + 1 = (l.tail).length by rw [h2]; rfl)
 have HP2 := Lib.hid h4
 have HO2 := Lib.hid (HO1.out.trans h5)
 have HZ2 := Lib.hid (Nat.le_trans HZ1.out (Only.size h5))
 have HB2 := Lib.hid (HB1.out.only h5 (by have := HN.out; omega))
 clear h1 h2 h4 h5 h6
 go_wp2_with fail
 refine (annot_c _ _ HP2.out).mono ?_
 rintro e w3 (⟨yy3, r3, h1, rfl, h4, h5, h6, h7⟩ | ⟨q, hb, rfl, ho⟩)
 rotate_left
 ·have HH := Lib.hid (show Ps.entry F l = .bad q ∧ Only (· = p.B) w w3 from ⟨by simp only [Ps.entry, HE1.out, HE2.out, hb, Ps.O.bind_ok, Ps.O.bind_bad, eq_self, if_true, Bool.false_eq_true, if_false], HO2.out.trans ho⟩)
  clear hb ho
  go_wp2_with fail
  exact ⟨rfl, .inr ⟨_, HH.out.1, rfl, HH.out.2⟩⟩
 have HE3 := Lib.hid h1
 have HT3 := Lib.hid h6
 have HL3 := Lib.hid h7
 have HP3 := Lib.hid h4
 have HO3 := Lib.hid (HO2.out.trans h5)
 have HZ3 := Lib.hid (Nat.le_trans HZ2.out (Only.size h5))
 have HB3 := Lib.hid (HB2.out.only h5 (by have := HN.out; omega))
 clear h1 h4 h5 h6 h7
 obtain ⟨V3, hV3⟩ : ∃ V, w3.alloc (.cells (ndA (Ps.nd 15 t2.text yy3 0 []) (.slice none 0 0)) nT) = V := ⟨_, rfl⟩
 have AI3 := Lib.hid (AppI.new (x := Ps.nd 15 t2.text yy3 0 []) (KRow.nil _ _) HB3.out HN.out HP3.out HO3.out rfl hV3)
 have HV3 := Lib.hid (show w3.alloc (.cells #[.int .i64 15, .string t2.text, .string yy3, .string Ps.e0, .int .i64 0, (.slice none 0 0)] nT) = V3 from hV3)
 clear hV3
 go_wp2_with (rw [HV3.out])
 refine (take_l [⟨#[61]⟩] (ty := 9) AI3.out.pst (by first | rfl | simp) rfl rfl (by decide) (by decide +kernel)).mono ?_
 rintro e w4 (⟨t4, r4, h1, h2, rfl, h4, h5, h6⟩ | ⟨q, hb, rfl, ho⟩)
 rotate_left
 ·have HH := Lib.hid (show Ps.entry F l = .bad q ∧ Only (· = p.B) w w4 from ⟨by simp only [Ps.entry, HE1.out, HE2.out, HE3.out, hb, Ps.O.bind_ok, Ps.O.bind_bad, eq_self, if_true, Bool.false_eq_true, if_false], AI3.out.only.trans ho⟩)
  clear hb ho
  go_wp2_with fail
  exact ⟨rfl, .inr ⟨_, HH.out.1, rfl, HH.out.2⟩⟩
 have HE4 := Lib.hid h1
 have HT4 := Lib.hid h6
 have HL4 := Lib.hid (show r4.length + 1 = (r3).length by rw [h2]; rfl)
 have AI4 := Lib.hid (AI3.out.call h5 h4)
 clear h1 h2 h4 h5 h6
 go_wp2_with fail
 refine (hF.expr _ _ (by have := HKL.out; have := HL1.out; have := HL2.out; have := HL3.out; have := HL4.out; omega) AI4.out.pst).mono ?_
 rintro e w5 (⟨x5, ks5, r5, v5, h1, rfl, hx, hk, h4, h5, hok, h7⟩ | ⟨q, hb, rfl, ho⟩)
 rotate_left
 ·have HH := Lib.hid (show Ps.entry F l = .bad q ∧ Only (· = p.B) w w5 from ⟨by simp only [Ps.entry, HE1.out, HE2.out, HE3.out, HE4.out, hb, Ps.O.bind_ok, Ps.O.bind_bad, eq_self, if_true, Bool.false_eq_true, if_false], AI4.out.only.trans ho⟩)
  clear hb ho
  go_wp2_with fail
  exact ⟨rfl, .inr ⟨_, HH.out.1, rfl, HH.out.2⟩⟩
 have HE5 := Lib.hid h1
 have HX5 := Lib.hid (And.intro hx hok)
 have HL5 := Lib.hid h7
 obtain ⟨U5, hU5⟩ : ∃ U, w5.alloc (.cells (ndA x5 v5) nT) = U := ⟨_, rfl⟩
 obtain ⟨q0, q1, q2⟩ := AI4.out.lit h5 h4 hx hk hok hU5
 have AI5b := Lib.hid q2
 have HU5 := Lib.hid hU5
 clear q2 h1 h4 h5 hx hk hok h7 hU5
 obtain ⟨T5, hT5⟩ : ∃ T, U5.setCell ⟨w3.heap.size, 5, none⟩ (.slice (some ⟨w5.heap.size, 0, none⟩) 1 1) = T := ⟨_, rfl⟩
 rw [hT5] at AI5b
 have HT5 := Lib.hid hT5
 clear hT5
 obtain ⟨⟨z0, z1, z2, z3, z4, z5⟩, g0, g1, g2, g3, g4, g5⟩ := nd_six AI5b.out.box
 obtain ⟨⟨y0, y1, y2, y3, y4, y5⟩, f0, f1, f2, f3, f4, f5⟩ := nd_six AI5b.out.res
 go_wp2_with (first | rw [HU5.out] | rw [HT5.out])
 refine AI5b.out.end (y := Ps.nd 15 t2.text yy3 0 [x5]) (by rfl) rfl rfl ⟨rfl, rfl, rfl, rfl, rfl⟩ (by simp only [Ps.entry, HE1.out, HE2.out, HE3.out, HE4.out, HE5.out, Ps.O.bind_ok, Ps.O.bind_bad, eq_self, if_true, Bool.false_eq_true, if_false]) rfl (nd_ok1 _ _ _ _ _ (by decide) HT2.out.2.1 HT3.out (by decide)) ?_
 have := HL1.out; have := HL2.out; have := HL3.out; have := HL4.out; have := HL5.out; rw [count_nd, Nd.countL_cons, Nd.countL_nil]; omega
end
end Go.Proofs.YtfkmnpgpfmkjaaaGreatDoor
namespace Go.Proofs.YtfkmnpgpfmkjaaaGreatDoor
open Go.ChangeShapes Go.WideShapes Go.ChangeAt Go.RowKit
attribute [local go_sem] Oper.semAt_some
open Ps (O W)
section
variable {p : PP} {F : Ps.Fam} {k : Nat}
set_option maxHeartbeats 1000000 in
theorem pmethod_c (hF : FamC p F k) (l : List Lx.T) (w : World) (hk : l.length ≤ k + 1) (hp : Pst p l w) : Calls Tryz.prog 78 #[.pointer (some ⟨p.B, 0, none⟩)] w (NodePost p l (Ps.method F l) w) := by
 obtain ⟨W0, hW0⟩ : ∃ W0, w.alloc (.cells pzN nT) = W0 := ⟨_, rfl⟩
 have k0 : Kept w W0 := by rw [← hW0]; exact (Kept.refl w).alloc _
 have HZ0 := Lib.hid (show w.heap.size + 1 ≤ W0.heap.size by rw [← hW0]; simp)
 have HB0 := Lib.hid (show Blk W0 w.heap.size nT pzN by rw [← hW0]; exact Blk.new _ _ _)
 have HP0 := Lib.hid (hp.kept k0)
 have HN := Lib.hid hp.lt
 have HO0 := Lib.hid (show Only (· = p.B) w W0 from Only.of_kept k0)
 have HW0 := Lib.hid hW0
 have HKL := Lib.hid hk
 clear hp k0 hW0 hk
 have hf1 := field_tok1
 have hf2 := field_tok2
 go_enter Tryz.func78, Tryz.ntmps78
 go_wp2_with (rw [HW0.out])
 refine (take_l [⟨#[100, 101, 102]⟩] (ty := 9) HP0.out (by first | rfl | simp) rfl rfl (by decide) (by decide +kernel)).mono ?_
 rintro e w1 (⟨t1, r1, h1, h2, rfl, h4, h5, h6⟩ | ⟨q, hb, rfl, ho⟩)
 rotate_left
 ·have HH := Lib.hid (show Ps.method F l = .bad q ∧ Only (· = p.B) w w1 from ⟨by simp only [Ps.method, hb, Ps.O.bind_ok, Ps.O.bind_bad, eq_self, if_true, Bool.false_eq_true, if_false], HO0.out.trans ho⟩)
  clear hb ho
  go_wp2_with fail
  exact ⟨rfl, .inr ⟨_, HH.out.1, rfl, HH.out.2⟩⟩
 have HE1 := Lib.hid h1
 have HT1 := Lib.hid h6
 have HL1 := Lib.hid (show r1.length + 1 = (l).length by rw [h2]; rfl)
 have HP1 := Lib.hid h4
 have HO1 := Lib.hid (HO0.out.trans h5)
 have HZ1 := Lib.hid (Nat.le_trans HZ0.out (Only.size h5))
 have HB1 := Lib.hid (HB0.out.only h5 (by have := HN.out; omega))
 clear h1 h2 h4 h5 h6
 go_wp2_with fail
 refine (take_l [⟨#[97, 32, 110, 97, 109, 101]⟩] (ty := 9) HP1.out (by first | rfl | simp) rfl rfl (by decide) (by decide +kernel)).mono ?_
 rintro e w2 (⟨t2, r2, h1, h2, rfl, h4, h5, h6⟩ | ⟨q, hb, rfl, ho⟩)
 rotate_left
 ·have HH := Lib.hid (show Ps.method F l = .bad q ∧ Only (· = p.B) w w2 from ⟨by simp only [Ps.method, HE1.out, hb, Ps.O.bind_ok, Ps.O.bind_bad, eq_self, if_true, Bool.false_eq_true, if_false], HO1.out.trans ho⟩)
  clear hb ho
  go_wp2_with fail
  exact ⟨rfl, .inr ⟨_, HH.out.1, rfl, HH.out.2⟩⟩
 have HE2 := Lib.hid h1
 have HT2 := Lib.hid h6
 have HL2 := Lib.hid (show r2.length + 1 = (r1).length by rw [h2]; rfl)
 have HP2 := Lib.hid h4
 have HO2 := Lib.hid (HO1.out.trans h5)
 have HZ2 := Lib.hid (Nat.le_trans HZ1.out (Only.size h5))
 have HB2 := Lib.hid (HB1.out.only h5 (by have := HN.out; omega))
 clear h1 h2 h4 h5 h6
 go_wp2_with fail
 refine (list_c (k := k) 102 (enters_of Tryz.func102 (by kernel_rfl) rfl) Ps.param (fun l w _ hp => param_c l w hp) _ _ (by have := HKL.out; have := HL1.out; have := HL2.out; omega) HP2.out).mono ?_
 rintro e w3 (⟨ks3, r3, v3, h1, rfl, hk, h4, h5, h7⟩ | ⟨q, hb, rfl, ho⟩)
 rotate_left
 ·have HH := Lib.hid (show Ps.method F l = .bad q ∧ Only (· = p.B) w w3 from ⟨by simp only [Ps.method, HE1.out, HE2.out, hb, Ps.O.bind_ok, Ps.O.bind_bad, eq_self, if_true, Bool.false_eq_true, if_false], HO2.out.trans ho⟩)
  clear hb ho
  go_wp2_with fail
  exact ⟨rfl, .inr ⟨_, HH.out.1, rfl, HH.out.2⟩⟩
 have HE3 := Lib.hid h1
 have HL3 := Lib.hid h7
 have HKx3a3 := Lib.hid (hk.lower HZ2.out)
 obtain ⟨va3, vc3, rfl⟩ := hk.slice
 have HP3 := Lib.hid h4
 have HO3 := Lib.hid (HO2.out.trans h5)
 have HZ3 := Lib.hid (Nat.le_trans HZ2.out (Only.size h5))
 have HB3 := Lib.hid (HB2.out.only h5 (by have := HN.out; omega))
 clear h1 hk h4 h5 h7
 obtain ⟨V3, hV3⟩ : ∃ V, w3.alloc (.cells (ndA (Ps.nd 4 t2.text Ps.e0 0 []) (.slice va3 ks3.length vc3)) nT) = V := ⟨_, rfl⟩
 have AI3 := Lib.hid (AppI.new (x := Ps.nd 4 t2.text Ps.e0 0 []) HKx3a3.out HB3.out HN.out HP3.out HO3.out rfl hV3)
 have HV3 := Lib.hid (show w3.alloc (.cells #[.int .i64 4, .string t2.text, .string Ps.e0, .string Ps.e0, .int .i64 0, (.slice va3 ks3.length vc3)] nT) = V3 from hV3)
 clear hV3
 go_wp2_with (rw [HV3.out])
 refine (annot_c _ _ AI3.out.pst).mono ?_
 rintro e w4 (⟨yy4, r4, h1, rfl, h4, h5, h6, h7⟩ | ⟨q, hb, rfl, ho⟩)
 rotate_left
 ·have HH := Lib.hid (show Ps.method F l = .bad q ∧ Only (· = p.B) w w4 from ⟨by simp only [Ps.method, HE1.out, HE2.out, HE3.out, hb, Ps.O.bind_ok, Ps.O.bind_bad, eq_self, if_true, Bool.false_eq_true, if_false], AI3.out.only.trans ho⟩)
  clear hb ho
  go_wp2_with fail
  exact ⟨rfl, .inr ⟨_, HH.out.1, rfl, HH.out.2⟩⟩
 have HE4 := Lib.hid h1
 have HT4 := Lib.hid h6
 have HL4 := Lib.hid h7
 have AI4 := Lib.hid (AI3.out.call h5 h4)
 clear h1 h4 h5 h6 h7
 obtain ⟨V4, hV4⟩ : ∃ V, w4.setCell ⟨w3.heap.size, 2, none⟩ (.string yy4) = V := ⟨_, rfl⟩
 have AI5 := Lib.hid (AI4.out.setTyp (x' := Ps.nd 4 t2.text yy4 0 []) ⟨rfl, rfl, rfl, rfl⟩)
 rw [show w4.setCell ⟨w3.heap.size, 2, none⟩ (.string (Ps.nd 4 t2.text yy4 0 []).typ) = V4 from hV4] at AI5
 have HV4 := Lib.hid hV4
 clear hV4
 have HM := Lib.hid (show ks3.length + 1 ≤ 60000 by have := map_fst_len ks3; have := HL3.out; have := HP2.out.len; omega)
 obtain ⟨⟨z0, z1, z2, z3, z4, z5⟩, g0, g1, g2, g3, g4, g5⟩ := nd_six AI4.out.box
 go_wp2_with (rw [HV4.out])
 clear z0 z1 z2 z3 z4 z5 g0 g1 g2 g3 g4 g5
 refine wp_region_till (S := (fun W => W.cell? ⟨w3.heap.size, 5, none⟩ = some (.slice va3 ks3.length vc3))) 7 (by kernel_rfl) (AI5.out.drew.cell5) (fun hHeld0 => ?_)
 refine wpAnyT_take (i := 0) (v := ?_) rfl (by kernel_rfl) (by kernel_rfl) (by kernel_rfl) (fun _ _ _ h => h) (Or.inl ⟨by kernel_rfl, ?_⟩) (by assumption) ?_
 rotate_left
 ·intro w hSw; (try dsimp only at hSw); go_simp; (try with_reducible rfl)
 (try simp only [Act.put, List.getElem_toArray, List.getElem_cons_zero, List.getElem_cons_succ, List.setIfInBounds_toArray, List.set_cons_zero, List.set_cons_succ])
 refine wpAnyT_take (i := 1) (v := ?_) rfl (by kernel_rfl) (by kernel_rfl) (by kernel_rfl) (fun _ _ _ h => h) (Or.inl ⟨by kernel_rfl, ?_⟩) (by assumption) ?_
 rotate_left
 ·intro w hSw; (try dsimp only at hSw); go_simp; (try with_reducible rfl)
 (try simp only [Act.put, List.getElem_toArray, List.getElem_cons_zero, List.getElem_cons_succ, List.setIfInBounds_toArray, List.set_cons_zero, List.set_cons_succ])
 refine wpAnyT_take (i := 2) (v := ?_) rfl (by kernel_rfl) (by kernel_rfl) (by kernel_rfl) (fun _ _ _ h => h) (Or.inl ⟨by kernel_rfl, ?_⟩) (by assumption) ?_
 rotate_left
 ·intro w hSw; (try dsimp only at hSw); go_simp; (try with_reducible rfl)
 (try simp only [Act.put, List.getElem_toArray, List.getElem_cons_zero, List.getElem_cons_succ, List.setIfInBounds_toArray, List.set_cons_zero, List.set_cons_succ])
 refine wpAnyT_ready (rs := [3]) (by kernel_rfl) (by simp) ?_
 refine AllReadyT.cons rfl (fun K hK => ?_) AllReadyT.nil
 go_simp
 refine ((hF.block r4 _ (by have := HL1.out; have := HL2.out; have := HL3.out; have := HL4.out; have := HKL.out; omega) AI5.out.pst.drew)).mono ?_
 rintro e w6 (⟨x6, ks6, r6, v6, h1, rfl, hx, hk, h4, h5, hok, h7⟩ | ⟨q, hb, rfl, ho⟩)
 rotate_left
 ·have HH := Lib.hid (show Ps.method F l = .bad q ∧ Only (· = p.B) w w6 from ⟨by simp only [Ps.method, HE1.out, HE2.out, HE3.out, HE4.out, hb, Ps.O.bind_ok, Ps.O.bind_bad, eq_self, if_true, Bool.false_eq_true, if_false], AI5.out.drew.only.trans ho⟩)
  clear hb ho
  exact ⟨rfl, .inr ⟨_, HH.out.1, rfl, HH.out.2⟩⟩
 have HE6 := Lib.hid h1
 have HX6 := Lib.hid (And.intro hx hok)
 have HL6 := Lib.hid h7
 obtain ⟨ai6, hs6, h26⟩ := AI5.out.drew.asks h5 h4 hx hk hok
 refine hK.out _ _ ((AI5.out.drew.call h5 h4).cell5) (fun hHeld1 => ?_)
 clear hK K
 (try simp only [Act.put, List.getElem_toArray, List.getElem_cons_zero, List.getElem_cons_succ, List.setIfInBounds_toArray, List.set_cons_zero, List.set_cons_succ])
 refine wpAnyT_ready (rs := [4]) (by kernel_rfl) (by simp) ?_
 refine AllReadyT.cons rfl (fun K hK => ?_) AllReadyT.nil
 go_simp
 refine hK.out _ _ ai6.cell5 (fun hHeld2 => ?_)
 clear hK K
 (try simp only [Act.put, List.getElem_toArray, List.getElem_cons_zero, List.getElem_cons_succ, List.setIfInBounds_toArray, List.set_cons_zero, List.set_cons_succ])
 have AJ6 := Lib.hid ai6
 have HS6 := Lib.hid hs6
 have H26 := Lib.hid h26
 clear ai6 hs6 h26 h1 hx hk h4 h5 hok h7 hHeld0 hHeld1
 refine wpAnyT_ready (rs := [5]) (by kernel_rfl) (by simp) ?_
 refine AllReadyT.cons rfl (fun K hK => ?_) AllReadyT.nil
 refine step_nd (k2 := [(x6, v6)]) (.tmp 18) (.tmp 21) rfl rfl rfl AJ6.out.row rfl HS6.out H26.out AJ6.out.size (by first | (simp; done) | (have := HM.out; simp; omega)) ?_
 intro ka6 kc6 wa6 hr ho hl
 obtain ⟨q0, q1, q2⟩ := AJ6.out.more hr ho hl
 refine hK.out _ _ q0 (fun hHeld3 => ?_)
 clear hK K
 (try simp only [Act.put, List.getElem_toArray, List.getElem_cons_zero, List.getElem_cons_succ, List.setIfInBounds_toArray, List.set_cons_zero, List.set_cons_succ])
 refine wpAnyT_take (i := 6) (v := ?_) rfl (by kernel_rfl) (by kernel_rfl) (by kernel_rfl) (fun _ _ _ h => h) (Or.inl ⟨by kernel_rfl, ?_⟩) (by assumption) ?_
 rotate_left
 ·intro w hSw; (try dsimp only at hSw); go_simp; (try with_reducible rfl)
 (try simp only [Act.put, List.getElem_toArray, List.getElem_cons_zero, List.getElem_cons_succ, List.setIfInBounds_toArray, List.set_cons_zero, List.set_cons_succ])
 clear hr ho hl hHeld2 hHeld3
 refine wpAnyT_ready (rs := [7]) (by kernel_rfl) (by simp) ?_
 refine AllReadyT.fin rfl (fun K hK => ?_)
 go_simp
 refine hK.out _ _ ?_
 clear hK K
 (try simp only [Act.put, List.getElem_toArray, List.getElem_cons_zero, List.getElem_cons_succ, List.setIfInBounds_toArray, List.set_cons_zero, List.set_cons_succ])
 refine wpAnyT_done (by kernel_rfl) ?_ _
 have AI7 := Lib.hid q2
 obtain ⟨W7, hW7⟩ : ∃ W7, wa6.setCell ⟨w3.heap.size, 5, none⟩ (.slice ka6 (ks3.length + 1) kc6) = W7 := ⟨_, rfl⟩
 rw [show wa6.setCell ⟨w3.heap.size, 5, none⟩ (.slice ka6 (ks3.length + [(x6, v6)].length) kc6) = W7 from hW7] at AI7
 obtain ⟨⟨z0, z1, z2, z3, z4, z5⟩, _⟩ := nd_six AI7.out.box
 obtain ⟨⟨y0, y1, y2, y3, y4, y5⟩, f0, f1, f2, f3, f4, f5⟩ := nd_six AI7.out.res
 have HW7 := Lib.hid hW7
 clear hW7 q0 q1 q2
 rw [HW7.out]
 go_wp2_with fail
 refine AI7.out.end (y := Ps.nd 4 t2.text yy4 0 (ks3.map (·.1) ++ [x6])) (by rfl) rfl rfl ⟨rfl, rfl, rfl, rfl, rfl⟩ (by simp only [Ps.method, HE1.out, HE2.out, HE3.out, HE4.out, HE6.out, Ps.O.bind_ok, Ps.O.bind_bad, eq_self, if_true, Bool.false_eq_true, if_false]) (by rw [List.map_append]; rfl) (nd_ok1 _ _ _ _ _ (by decide) HT2.out.2.1 HT4.out (by decide)) ?_
 have := HL1.out; have := HL2.out; have := HL3.out; have := HL4.out; have := HL6.out
 rw [count_nd, countL_snoc]; omega
set_option maxHeartbeats 1000000 in
theorem pclass_c (hF : FamC p F k) (l : List Lx.T) (w : World) (hk : l.length ≤ k + 1) (hp : Pst p l w) : Calls Tryz.prog 38 #[.pointer (some ⟨p.B, 0, none⟩)] w (NodePost p l (Ps.class1 F l) w) := by
 obtain ⟨W0, hW0⟩ : ∃ W0, w.alloc (.cells pzN nT) = W0 := ⟨_, rfl⟩
 have k0 : Kept w W0 := by rw [← hW0]; exact (Kept.refl w).alloc _
 have HZ0 := Lib.hid (show w.heap.size + 1 ≤ W0.heap.size by rw [← hW0]; simp)
 have HB0 := Lib.hid (show Blk W0 w.heap.size nT pzN by rw [← hW0]; exact Blk.new _ _ _)
 have HP0 := Lib.hid (hp.kept k0)
 have HN := Lib.hid hp.lt
 have HO0 := Lib.hid (show Only (· = p.B) w W0 from Only.of_kept k0)
 have HKM := Lib.hid (show l.length ≤ 30000 from hp.len)
 have HW0 := Lib.hid hW0
 have HKL := Lib.hid hk
 clear hp k0 hW0 hk
 have hf1 := field_tok1
 have hf2 := field_tok2
 go_enter Tryz.func38, Tryz.ntmps38
 go_wp2_with (rw [HW0.out])
 refine (take_l [⟨#[99, 108, 97, 115, 115]⟩] (ty := 9) HP0.out (by first | rfl | simp) rfl rfl (by decide) (by decide +kernel)).mono ?_
 rintro e w1 (⟨t1, r1, h1, h2, rfl, h4, h5, h6⟩ | ⟨q, hb, rfl, ho⟩)
 rotate_left
 ·have HH := Lib.hid (show Ps.class1 F l = .bad q ∧ Only (· = p.B) w w1 from ⟨by simp only [Ps.class1, hb, Ps.O.bind_ok, Ps.O.bind_bad, eq_self, if_true, Bool.false_eq_true, if_false], HO0.out.trans ho⟩)
  clear hb ho
  go_wp2_with fail
  exact ⟨rfl, .inr ⟨_, HH.out.1, rfl, HH.out.2⟩⟩
 have HE1 := Lib.hid h1
 have HT1 := Lib.hid h6
 have HL1 := Lib.hid (show r1.length + 1 = (l).length by rw [h2]; rfl)
 have HP1 := Lib.hid h4
 have HO1 := Lib.hid (HO0.out.trans h5)
 have HZ1 := Lib.hid (Nat.le_trans HZ0.out (Only.size h5))
 have HB1 := Lib.hid (HB0.out.only h5 (by have := HN.out; omega))
 clear h1 h2 h4 h5 h6
 go_wp2_with fail
 refine (take_l [⟨#[97, 32, 99, 108, 97, 115, 115]⟩] (ty := 9) HP1.out (by first | rfl | simp) rfl rfl (by decide) (by decide +kernel)).mono ?_
 rintro e w2 (⟨t2, r2, h1, h2, rfl, h4, h5, h6⟩ | ⟨q, hb, rfl, ho⟩)
 rotate_left
 ·have HH := Lib.hid (show Ps.class1 F l = .bad q ∧ Only (· = p.B) w w2 from ⟨by simp only [Ps.class1, HE1.out, hb, Ps.O.bind_ok, Ps.O.bind_bad, eq_self, if_true, Bool.false_eq_true, if_false], HO1.out.trans ho⟩)
  clear hb ho
  go_wp2_with fail
  exact ⟨rfl, .inr ⟨_, HH.out.1, rfl, HH.out.2⟩⟩
 have HE2 := Lib.hid h1
 have HT2 := Lib.hid h6
 have HL2 := Lib.hid (show r2.length + 1 = (r1).length by rw [h2]; rfl)
 have HP2 := Lib.hid h4
 have HO2 := Lib.hid (HO1.out.trans h5)
 have HZ2 := Lib.hid (Nat.le_trans HZ1.out (Only.size h5))
 have HB2 := Lib.hid (HB1.out.only h5 (by have := HN.out; omega))
 clear h1 h2 h4 h5 h6
 obtain ⟨V2, hV2⟩ : ∃ V, w2.alloc (.cells (ndA (Ps.nd 2 t2.text Ps.e0 0 []) (.slice none 0 0)) nT) = V := ⟨_, rfl⟩
 have AI2 := Lib.hid (AppI.new (x := Ps.nd 2 t2.text Ps.e0 0 []) (KRow.nil _ _) HB2.out HN.out HP2.out HO2.out rfl hV2)
 have HV2 := Lib.hid (show w2.alloc (.cells #[.int .i64 2, .string t2.text, .string Ps.e0, .string Ps.e0, .int .i64 0, (.slice none 0 0)] nT) = V2 from hV2)
 clear hV2
 go_wp2_with (rw [HV2.out])
 refine (pskip_c Ps.kColon r2 _ AI2.out.pst (by decide +kernel)).mono ?_
 rintro e w3 (⟨h1, rfl, h2, h3, h4⟩ | ⟨h1, rfl, h2, h3⟩)
 ·have HE3 := Lib.hid h1
  have HL3 := Lib.hid h4
  have AI3 := Lib.hid (AI2.out.call h3 h2)
  clear h1 h2 h3 h4
  go_wp2_with fail
  refine (take_l [⟨#[97, 32, 99, 108, 97, 115, 115]⟩] (ty := 9) AI3.out.pst (by first | rfl | simp) rfl rfl (by decide) (by decide +kernel)).mono ?_
  rintro e w4 (⟨t4, r4, h1, h2, rfl, h4, h5, h6⟩ | ⟨q, hb, rfl, ho⟩)
  rotate_left
  ·have HH := Lib.hid (show Ps.class1 F l = .bad q ∧ Only (· = p.B) w w4 from ⟨by simp only [Ps.class1, HE1.out, HE2.out, HE3.out, hb, Ps.O.bind_ok, Ps.O.bind_bad, eq_self, if_true, Bool.false_eq_true, if_false], AI3.out.only.trans ho⟩)
   clear hb ho
   go_wp2_with fail
   exact ⟨rfl, .inr ⟨_, HH.out.1, rfl, HH.out.2⟩⟩
  have HE4 := Lib.hid h1
  have HT4 := Lib.hid h6
  have HL4 := Lib.hid (show r4.length + 1 = (r2.tail).length by rw [h2]; rfl)
  have AI4 := Lib.hid (AI3.out.call h5 h4)
  clear h1 h2 h4 h5 h6
  obtain ⟨V4, hV4⟩ : ∃ V, w4.setCell ⟨w2.heap.size, 2, none⟩ (.string t4.text) = V := ⟨_, rfl⟩
  have AI5 := Lib.hid (AI4.out.setTyp (x' := Ps.nd 2 t2.text t4.text 0 []) ⟨rfl, rfl, rfl, rfl⟩)
  rw [show w4.setCell ⟨w2.heap.size, 2, none⟩ (.string (Ps.nd 2 t2.text t4.text 0 []).typ) = V4 from hV4] at AI5
  have HV4 := Lib.hid hV4
  clear hV4
  obtain ⟨⟨z0, z1, z2, z3, z4, z5⟩, g0, g1, g2, g3, g4, g5⟩ := nd_six AI4.out.box
  go_wp2_with (rw [HV4.out])
  clear z0 z1 z2 z3 z4 z5 g0 g1 g2 g3 g4 g5
  refine (take_l [⟨#[123]⟩] (ty := 9) AI5.out.pst (by first | rfl | simp) rfl rfl (by decide) (by decide +kernel)).mono ?_
  rintro e w6 (⟨t6, r6, h1, h2, rfl, h4, h5, h6⟩ | ⟨q, hb, rfl, ho⟩)
  rotate_left
  ·have HH := Lib.hid (show Ps.class1 F l = .bad q ∧ Only (· = p.B) w w6 from ⟨by simp only [Ps.class1, HE1.out, HE2.out, HE3.out, HE4.out, hb, Ps.O.bind_ok, Ps.O.bind_bad, eq_self, if_true, Bool.false_eq_true, if_false], AI5.out.only.trans ho⟩)
   clear hb ho
   go_wp2_with fail
   exact ⟨rfl, .inr ⟨_, HH.out.1, rfl, HH.out.2⟩⟩
  have HE6 := Lib.hid h1
  have HT6 := Lib.hid h6
  have HL6 := Lib.hid (show r6.length + 1 = (r4).length by rw [h2]; rfl)
  have AI6 := Lib.hid (AI5.out.call h5 h4)
  clear h1 h2 h4 h5 h6
  go_wp2_with fail
  have HM7 := Lib.hid (show ManyI p w w2.heap.size (Ps.nd 2 t2.text t4.text 0 []) ⟨#[118, 97, 114]⟩ Ps.field (Ps.class1 F l) (fun ks r => (Ps.many ⟨#[100, 101, 102]⟩ (Ps.method F) r.length ks r).bind (fun ks r => (Ps.take [Ps.kRight] r).bind fun _ r => .ok (Ps.nd 2 t2.text t4.text 0 ks) r)) (l.length) (none) (0) ([]) r6 w6 from ⟨AI6.out, ⟨_, Nat.le_refl _, by simp only [Ps.class1, HE1.out, HE2.out, HE3.out, HE4.out, HE6.out, Ps.O.bind_ok, Ps.O.bind_bad, eq_self, if_true, Bool.false_eq_true, if_false]; rfl⟩, by show Nd.countL [] + _ ≤ _; rw [Nd.countL_nil]; have := HL1.out; have := HL2.out; have := HL3.out; have := HL4.out; have := HL6.out; omega⟩)
  go_loopw [] (fun wr => ∃ ks r va vc, Hid (ManyI p w w2.heap.size (Ps.nd 2 t2.text t4.text 0 []) ⟨#[118, 97, 114]⟩ Ps.field (Ps.class1 F l) (fun ks r => (Ps.many ⟨#[100, 101, 102]⟩ (Ps.method F) r.length ks r).bind (fun ks r => (Ps.take [Ps.kRight] r).bind fun _ r => .ok (Ps.nd 2 t2.text t4.text 0 ks) r)) (l.length) va vc ks r wr)) (fun wr => ahead p wr)
  case atStart => exact ⟨_, _, _, _, HM7⟩
  case round =>
   obtain ⟨ks7, r7, va7, vc7, HR7⟩ := hrel
   have AR7 := Lib.hid HR7.out.app
   go_wp2_with fail
   refine (is_l [⟨#[118, 97, 114]⟩] (ty := 9) AR7.out.pst rfl rfl rfl (by decide)).mono ?_
   rintro e w7 ⟨he, k1⟩
   cases hi : Ps.is [⟨#[118, 97, 114]⟩] r7 with
   | true =>
    rw [hi] at he
    subst he
    have HI7 := Lib.hid hi
    have AS7 := Lib.hid (AR7.out.kept k1)
    have HC7 := Lib.hid HR7.out.cnt
    have HM := Lib.hid (show ks7.length + 1 ≤ 60000 by have := map_fst_len ks7; have := HC7.out; have := HKM.out; omega)
    have HAH7 := Lib.hid AR7.out.pst.ahead
    clear hi k1
    go_wp2_with fail
    refine wp_region_till (S := (fun W => W.cell? ⟨w2.heap.size, 5, none⟩ = some (.slice va7 ks7.length vc7))) 7 (by kernel_rfl) (AS7.out.drew.cell5) (fun hHeld0 => ?_)
    refine wpAnyT_take (i := 0) (v := ?_) rfl (by kernel_rfl) (by kernel_rfl) (by kernel_rfl) (fun _ _ _ h => h) (Or.inl ⟨by kernel_rfl, ?_⟩) (by assumption) ?_
    rotate_left
    ·intro w hSw; (try dsimp only at hSw); go_simp; (try with_reducible rfl)
    (try simp only [Act.put, List.getElem_toArray, List.getElem_cons_zero, List.getElem_cons_succ, List.setIfInBounds_toArray, List.set_cons_zero, List.set_cons_succ])
    refine wpAnyT_take (i := 1) (v := ?_) rfl (by kernel_rfl) (by kernel_rfl) (by kernel_rfl) (fun _ _ _ h => h) (Or.inl ⟨by kernel_rfl, ?_⟩) (by assumption) ?_
    rotate_left
    ·intro w hSw; (try dsimp only at hSw); go_simp; (try with_reducible rfl)
    (try simp only [Act.put, List.getElem_toArray, List.getElem_cons_zero, List.getElem_cons_succ, List.setIfInBounds_toArray, List.set_cons_zero, List.set_cons_succ])
    refine wpAnyT_take (i := 2) (v := ?_) rfl (by kernel_rfl) (by kernel_rfl) (by kernel_rfl) (fun _ _ _ h => h) (Or.inl ⟨by kernel_rfl, ?_⟩) (by assumption) ?_
    rotate_left
    ·intro w hSw; (try dsimp only at hSw); go_simp; (try with_reducible rfl)
    (try simp only [Act.put, List.getElem_toArray, List.getElem_cons_zero, List.getElem_cons_succ, List.setIfInBounds_toArray, List.set_cons_zero, List.set_cons_succ])
    refine wpAnyT_ready (rs := [3]) (by kernel_rfl) (by simp) ?_
    refine AllReadyT.cons rfl (fun K hK => ?_) AllReadyT.nil
    go_simp
    refine ((pfield_c r7 _ AS7.out.pst.drew)).mono ?_
    rintro e w8 (⟨x8, ks8, r8, v8, h1, rfl, hx, hk, h4, h5, hok, h7⟩ | ⟨q, hb, rfl, ho⟩)
    rotate_left
    ·have HH := Lib.hid (show Ps.class1 F l = .bad q ∧ Only (· = p.B) w w8 from ⟨by simp only [HR7.out.bad HI7.out hb, hb, Ps.O.bind_ok, Ps.O.bind_bad, eq_self, if_true, Bool.false_eq_true, if_false], AS7.out.drew.only.trans ho⟩)
     clear hb ho
     exact ⟨rfl, .inr ⟨_, HH.out.1, rfl, HH.out.2⟩⟩
    have HE8 := Lib.hid h1
    have HX8 := Lib.hid (And.intro hx hok)
    have HL8 := Lib.hid h7
    obtain ⟨ai8, hs8, h28⟩ := AS7.out.drew.asks h5 h4 hx hk hok
    refine hK.out _ _ ((AS7.out.drew.call h5 h4).cell5) (fun hHeld1 => ?_)
    clear hK K
    (try simp only [Act.put, List.getElem_toArray, List.getElem_cons_zero, List.getElem_cons_succ, List.setIfInBounds_toArray, List.set_cons_zero, List.set_cons_succ])
    refine wpAnyT_ready (rs := [4]) (by kernel_rfl) (by simp) ?_
    refine AllReadyT.cons rfl (fun K hK => ?_) AllReadyT.nil
    go_simp
    refine hK.out _ _ ai8.cell5 (fun hHeld2 => ?_)
    clear hK K
    (try simp only [Act.put, List.getElem_toArray, List.getElem_cons_zero, List.getElem_cons_succ, List.setIfInBounds_toArray, List.set_cons_zero, List.set_cons_succ])
    have AJ8 := Lib.hid ai8
    have HS8 := Lib.hid hs8
    have H28 := Lib.hid h28
    clear ai8 hs8 h28 h1 hx hk h4 h5 hok h7 hHeld0 hHeld1
    refine wpAnyT_ready (rs := [5]) (by kernel_rfl) (by simp) ?_
    refine AllReadyT.cons rfl (fun K hK => ?_) AllReadyT.nil
    refine step_nd (k2 := [(x8, v8)]) (.tmp 26) (.tmp 29) rfl rfl rfl AJ8.out.row rfl HS8.out H28.out AJ8.out.size (by first | (simp; done) | (have := HM.out; simp; omega)) ?_
    intro ka8 kc8 wa8 hr ho hl
    obtain ⟨q0, q1, q2⟩ := AJ8.out.more hr ho hl
    refine hK.out _ _ q0 (fun hHeld3 => ?_)
    clear hK K
    (try simp only [Act.put, List.getElem_toArray, List.getElem_cons_zero, List.getElem_cons_succ, List.setIfInBounds_toArray, List.set_cons_zero, List.set_cons_succ])
    refine wpAnyT_take (i := 6) (v := ?_) rfl (by kernel_rfl) (by kernel_rfl) (by kernel_rfl) (fun _ _ _ h => h) (Or.inl ⟨by kernel_rfl, ?_⟩) (by assumption) ?_
    rotate_left
    ·intro w hSw; (try dsimp only at hSw); go_simp; (try with_reducible rfl)
    (try simp only [Act.put, List.getElem_toArray, List.getElem_cons_zero, List.getElem_cons_succ, List.setIfInBounds_toArray, List.set_cons_zero, List.set_cons_succ])
    clear hr ho hl hHeld2 hHeld3
    refine wpAnyT_ready (rs := [7]) (by kernel_rfl) (by simp) ?_
    refine AllReadyT.fin rfl (fun K hK => ?_)
    go_simp
    refine hK.out _ _ ?_
    clear hK K
    (try simp only [Act.put, List.getElem_toArray, List.getElem_cons_zero, List.getElem_cons_succ, List.setIfInBounds_toArray, List.set_cons_zero, List.set_cons_succ])
    refine wpAnyT_done (by kernel_rfl) ?_ _
    have hm := HR7.out.ok HI7.out HE8.out HL8.out (show ks7.length + [(x8, v8)].length = ks7.length + 1 from rfl) q2
    obtain ⟨Y8, hY8⟩ : ∃ Y, wa8.setCell ⟨w2.heap.size, 5, none⟩ (.slice ka8 (ks7.length + 1) kc8) = Y := ⟨_, rfl⟩
    rw [show wa8.setCell ⟨w2.heap.size, 5, none⟩ (.slice ka8 (ks7.length + [(x8, v8)].length) kc8) = Y8 from hY8] at hm
    have HM2 := Lib.hid hm
    have HY8 := Lib.hid hY8
    clear hm hY8 q0 q1 q2
    rw [HY8.out]
    go_wp2_with fail
    go_roundw
    case rel => exact ⟨_, _, _, _, HM2⟩
    case measure =>
     have h1 := HM2.out.app.pst.ahead
     have h2 := HAH7.out
     have h3 := HL8.out
     have h4 := Nd.count_pos x8
     rw [h1, h2]; omega
   | false =>
    rw [hi] at he
    subst he
    have HE7 := Lib.hid (HR7.out.out hi)
    have AI7 := Lib.hid (AR7.out.kept k1)
    have HC7 := Lib.hid HR7.out.cnt
    have HM := Lib.hid (show ks7.length + 1 ≤ 60000 by have := map_fst_len ks7; have := HC7.out; have := HKM.out; omega)
    clear hi k1
    go_wp2_with fail
    have HM9 := Lib.hid (show ManyI p w w2.heap.size (Ps.nd 2 t2.text t4.text 0 []) ⟨#[100, 101, 102]⟩ (Ps.method F) (Ps.class1 F l) (fun ks r => (Ps.take [Ps.kRight] r).bind fun _ r => .ok (Ps.nd 2 t2.text t4.text 0 ks) r) (l.length) (va7) (vc7) (ks7) r7 w7 from ⟨AI7.out, ⟨_, Nat.le_refl _, by exact HE7.out⟩, by exact HC7.out⟩)
    go_loopw [] (fun wr => ∃ ks r va vc, Hid (ManyI p w w2.heap.size (Ps.nd 2 t2.text t4.text 0 []) ⟨#[100, 101, 102]⟩ (Ps.method F) (Ps.class1 F l) (fun ks r => (Ps.take [Ps.kRight] r).bind fun _ r => .ok (Ps.nd 2 t2.text t4.text 0 ks) r) (l.length) va vc ks r wr)) (fun wr => ahead p wr)
    case atStart => exact ⟨_, _, _, _, HM9⟩
    case round =>
     obtain ⟨ks9, r9, va9, vc9, HR9⟩ := hrel
     have AR9 := Lib.hid HR9.out.app
     go_wp2_with fail
     refine (is_l [⟨#[100, 101, 102]⟩] (ty := 9) AR9.out.pst rfl rfl rfl (by decide)).mono ?_
     rintro e w9 ⟨he, k1⟩
     cases hi : Ps.is [⟨#[100, 101, 102]⟩] r9 with
     | true =>
      rw [hi] at he
      subst he
      have HI9 := Lib.hid hi
      have AS9 := Lib.hid (AR9.out.kept k1)
      have HC9 := Lib.hid HR9.out.cnt
      have HM := Lib.hid (show ks9.length + 1 ≤ 60000 by have := map_fst_len ks9; have := HC9.out; have := HKM.out; omega)
      have HAH9 := Lib.hid AR9.out.pst.ahead
      clear hi k1
      go_wp2_with fail
      refine wp_region_till (S := (fun W => W.cell? ⟨w2.heap.size, 5, none⟩ = some (.slice va9 ks9.length vc9))) 7 (by kernel_rfl) (AS9.out.drew.cell5) (fun hHeld0 => ?_)
      refine wpAnyT_take (i := 0) (v := ?_) rfl (by kernel_rfl) (by kernel_rfl) (by kernel_rfl) (fun _ _ _ h => h) (Or.inl ⟨by kernel_rfl, ?_⟩) (by assumption) ?_
      rotate_left
      ·intro w hSw; (try dsimp only at hSw); go_simp; (try with_reducible rfl)
      (try simp only [Act.put, List.getElem_toArray, List.getElem_cons_zero, List.getElem_cons_succ, List.setIfInBounds_toArray, List.set_cons_zero, List.set_cons_succ])
      refine wpAnyT_take (i := 1) (v := ?_) rfl (by kernel_rfl) (by kernel_rfl) (by kernel_rfl) (fun _ _ _ h => h) (Or.inl ⟨by kernel_rfl, ?_⟩) (by assumption) ?_
      rotate_left
      ·intro w hSw; (try dsimp only at hSw); go_simp; (try with_reducible rfl)
      (try simp only [Act.put, List.getElem_toArray, List.getElem_cons_zero, List.getElem_cons_succ, List.setIfInBounds_toArray, List.set_cons_zero, List.set_cons_succ])
      refine wpAnyT_take (i := 2) (v := ?_) rfl (by kernel_rfl) (by kernel_rfl) (by kernel_rfl) (fun _ _ _ h => h) (Or.inl ⟨by kernel_rfl, ?_⟩) (by assumption) ?_
      rotate_left
      ·intro w hSw; (try dsimp only at hSw); go_simp; (try with_reducible rfl)
      (try simp only [Act.put, List.getElem_toArray, List.getElem_cons_zero, List.getElem_cons_succ, List.setIfInBounds_toArray, List.set_cons_zero, List.set_cons_succ])
      refine wpAnyT_ready (rs := [3]) (by kernel_rfl) (by simp) ?_
      refine AllReadyT.cons rfl (fun K hK => ?_) AllReadyT.nil
      go_simp
      refine ((pmethod_c hF r9 _ (by have := HC9.out; have := HKL.out; omega) AS9.out.pst.drew)).mono ?_
      rintro e w10 (⟨x10, ks10, r10, v10, h1, rfl, hx, hk, h4, h5, hok, h7⟩ | ⟨q, hb, rfl, ho⟩)
      rotate_left
      ·have HH := Lib.hid (show Ps.class1 F l = .bad q ∧ Only (· = p.B) w w10 from ⟨by simp only [HR9.out.bad HI9.out hb, hb, Ps.O.bind_ok, Ps.O.bind_bad, eq_self, if_true, Bool.false_eq_true, if_false], AS9.out.drew.only.trans ho⟩)
       clear hb ho
       exact ⟨rfl, .inr ⟨_, HH.out.1, rfl, HH.out.2⟩⟩
      have HE10 := Lib.hid h1
      have HX10 := Lib.hid (And.intro hx hok)
      have HL10 := Lib.hid h7
      obtain ⟨ai10, hs10, h210⟩ := AS9.out.drew.asks h5 h4 hx hk hok
      refine hK.out _ _ ((AS9.out.drew.call h5 h4).cell5) (fun hHeld1 => ?_)
      clear hK K
      (try simp only [Act.put, List.getElem_toArray, List.getElem_cons_zero, List.getElem_cons_succ, List.setIfInBounds_toArray, List.set_cons_zero, List.set_cons_succ])
      refine wpAnyT_ready (rs := [4]) (by kernel_rfl) (by simp) ?_
      refine AllReadyT.cons rfl (fun K hK => ?_) AllReadyT.nil
      go_simp
      refine hK.out _ _ ai10.cell5 (fun hHeld2 => ?_)
      clear hK K
      (try simp only [Act.put, List.getElem_toArray, List.getElem_cons_zero, List.getElem_cons_succ, List.setIfInBounds_toArray, List.set_cons_zero, List.set_cons_succ])
      have AJ10 := Lib.hid ai10
      have HS10 := Lib.hid hs10
      have H210 := Lib.hid h210
      clear ai10 hs10 h210 h1 hx hk h4 h5 hok h7 hHeld0 hHeld1
      refine wpAnyT_ready (rs := [5]) (by kernel_rfl) (by simp) ?_
      refine AllReadyT.cons rfl (fun K hK => ?_) AllReadyT.nil
      refine step_nd (k2 := [(x10, v10)]) (.tmp 36) (.tmp 39) rfl rfl rfl AJ10.out.row rfl HS10.out H210.out AJ10.out.size (by first | (simp; done) | (have := HM.out; simp; omega)) ?_
      intro ka10 kc10 wa10 hr ho hl
      obtain ⟨q0, q1, q2⟩ := AJ10.out.more hr ho hl
      refine hK.out _ _ q0 (fun hHeld3 => ?_)
      clear hK K
      (try simp only [Act.put, List.getElem_toArray, List.getElem_cons_zero, List.getElem_cons_succ, List.setIfInBounds_toArray, List.set_cons_zero, List.set_cons_succ])
      refine wpAnyT_take (i := 6) (v := ?_) rfl (by kernel_rfl) (by kernel_rfl) (by kernel_rfl) (fun _ _ _ h => h) (Or.inl ⟨by kernel_rfl, ?_⟩) (by assumption) ?_
      rotate_left
      ·intro w hSw; (try dsimp only at hSw); go_simp; (try with_reducible rfl)
      (try simp only [Act.put, List.getElem_toArray, List.getElem_cons_zero, List.getElem_cons_succ, List.setIfInBounds_toArray, List.set_cons_zero, List.set_cons_succ])
      clear hr ho hl hHeld2 hHeld3
      refine wpAnyT_ready (rs := [7]) (by kernel_rfl) (by simp) ?_
      refine AllReadyT.fin rfl (fun K hK => ?_)
      go_simp
      refine hK.out _ _ ?_
      clear hK K
      (try simp only [Act.put, List.getElem_toArray, List.getElem_cons_zero, List.getElem_cons_succ, List.setIfInBounds_toArray, List.set_cons_zero, List.set_cons_succ])
      refine wpAnyT_done (by kernel_rfl) ?_ _
      have hm := HR9.out.ok HI9.out HE10.out HL10.out (show ks9.length + [(x10, v10)].length = ks9.length + 1 from rfl) q2
      obtain ⟨Y10, hY10⟩ : ∃ Y, wa10.setCell ⟨w2.heap.size, 5, none⟩ (.slice ka10 (ks9.length + 1) kc10) = Y := ⟨_, rfl⟩
      rw [show wa10.setCell ⟨w2.heap.size, 5, none⟩ (.slice ka10 (ks9.length + [(x10, v10)].length) kc10) = Y10 from hY10] at hm
      have HM2 := Lib.hid hm
      have HY10 := Lib.hid hY10
      clear hm hY10 q0 q1 q2
      rw [HY10.out]
      go_wp2_with fail
      go_roundw
      case rel => exact ⟨_, _, _, _, HM2⟩
      case measure =>
       have h1 := HM2.out.app.pst.ahead
       have h2 := HAH9.out
       have h3 := HL10.out
       have h4 := Nd.count_pos x10
       rw [h1, h2]; omega
     | false =>
      rw [hi] at he
      subst he
      have HE9 := Lib.hid (HR9.out.out hi)
      have AI9 := Lib.hid (AR9.out.kept k1)
      have HC9 := Lib.hid HR9.out.cnt
      have HM := Lib.hid (show ks9.length + 1 ≤ 60000 by have := map_fst_len ks9; have := HC9.out; have := HKM.out; omega)
      clear hi k1
      go_wp2_with fail
      refine (take_l [⟨#[125]⟩] (ty := 9) AI9.out.pst (by first | rfl | simp) rfl rfl (by decide) (by decide +kernel)).mono ?_
      rintro e w11 (⟨t11, r11, h1, h2, rfl, h4, h5, h6⟩ | ⟨q, hb, rfl, ho⟩)
      rotate_left
      ·have HH := Lib.hid (show Ps.class1 F l = .bad q ∧ Only (· = p.B) w w11 from ⟨by simp only [HE9.out, hb, Ps.O.bind_ok, Ps.O.bind_bad, eq_self, if_true, Bool.false_eq_true, if_false], AI9.out.only.trans ho⟩)
       clear hb ho
       go_wp2_with fail
       exact ⟨rfl, .inr ⟨_, HH.out.1, rfl, HH.out.2⟩⟩
      have HE11 := Lib.hid h1
      have HT11 := Lib.hid h6
      have HL11 := Lib.hid (show r11.length + 1 = (r9).length by rw [h2]; rfl)
      have AI11 := Lib.hid (AI9.out.call h5 h4)
      clear h1 h2 h4 h5 h6
      obtain ⟨⟨z0, z1, z2, z3, z4, z5⟩, g0, g1, g2, g3, g4, g5⟩ := nd_six AI11.out.box
      obtain ⟨⟨y0, y1, y2, y3, y4, y5⟩, f0, f1, f2, f3, f4, f5⟩ := nd_six AI11.out.res
      go_wp2_with fail
      refine AI11.out.end (y := Ps.nd 2 t2.text t4.text 0 (ks9.map (·.1))) (by rfl) rfl rfl ⟨rfl, rfl, rfl, rfl, rfl⟩ (by simp only [HE9.out, HE11.out, Ps.O.bind_ok, Ps.O.bind_bad, eq_self, if_true, Bool.false_eq_true, if_false]) rfl (nd_ok1 _ _ _ _ _ (by decide) HT2.out.2.1 HT4.out.2.1 (by decide)) ?_
      have := HL1.out; have := HL2.out; have := HL11.out; have := HC9.out
      rw [count_nd]; omega
 ·have HE3 := Lib.hid h1
  have AI3 := Lib.hid (AI2.out.call h3 h2)
  clear h1 h2 h3
  go_wp2_with fail
  refine (take_l [⟨#[123]⟩] (ty := 9) AI3.out.pst (by first | rfl | simp) rfl rfl (by decide) (by decide +kernel)).mono ?_
  rintro e w4 (⟨t4, r4, h1, h2, rfl, h4, h5, h6⟩ | ⟨q, hb, rfl, ho⟩)
  rotate_left
  ·have HH := Lib.hid (show Ps.class1 F l = .bad q ∧ Only (· = p.B) w w4 from ⟨by simp only [Ps.class1, HE1.out, HE2.out, HE3.out, hb, Ps.O.bind_ok, Ps.O.bind_bad, eq_self, if_true, Bool.false_eq_true, if_false], AI3.out.only.trans ho⟩)
   clear hb ho
   go_wp2_with fail
   exact ⟨rfl, .inr ⟨_, HH.out.1, rfl, HH.out.2⟩⟩
  have HE4 := Lib.hid h1
  have HT4 := Lib.hid h6
  have HL4 := Lib.hid (show r4.length + 1 = (r2).length by rw [h2]; rfl)
  have AI4 := Lib.hid (AI3.out.call h5 h4)
  clear h1 h2 h4 h5 h6
  go_wp2_with fail
  have HM5 := Lib.hid (show ManyI p w w2.heap.size (Ps.nd 2 t2.text Ps.e0 0 []) ⟨#[118, 97, 114]⟩ Ps.field (Ps.class1 F l) (fun ks r => (Ps.many ⟨#[100, 101, 102]⟩ (Ps.method F) r.length ks r).bind (fun ks r => (Ps.take [Ps.kRight] r).bind fun _ r => .ok (Ps.nd 2 t2.text Ps.e0 0 ks) r)) (l.length) (none) (0) ([]) r4 w4 from ⟨AI4.out, ⟨_, Nat.le_refl _, by simp only [Ps.class1, HE1.out, HE2.out, HE3.out, HE4.out, Ps.O.bind_ok, Ps.O.bind_bad, eq_self, if_true, Bool.false_eq_true, if_false]; rfl⟩, by show Nd.countL [] + _ ≤ _; rw [Nd.countL_nil]; have := HL1.out; have := HL2.out;  have := HL4.out; omega⟩)
  go_loopw [] (fun wr => ∃ ks r va vc, Hid (ManyI p w w2.heap.size (Ps.nd 2 t2.text Ps.e0 0 []) ⟨#[118, 97, 114]⟩ Ps.field (Ps.class1 F l) (fun ks r => (Ps.many ⟨#[100, 101, 102]⟩ (Ps.method F) r.length ks r).bind (fun ks r => (Ps.take [Ps.kRight] r).bind fun _ r => .ok (Ps.nd 2 t2.text Ps.e0 0 ks) r)) (l.length) va vc ks r wr)) (fun wr => ahead p wr)
  case atStart => exact ⟨_, _, _, _, HM5⟩
  case round =>
   obtain ⟨ks5, r5, va5, vc5, HR5⟩ := hrel
   have AR5 := Lib.hid HR5.out.app
   go_wp2_with fail
   refine (is_l [⟨#[118, 97, 114]⟩] (ty := 9) AR5.out.pst rfl rfl rfl (by decide)).mono ?_
   rintro e w5 ⟨he, k1⟩
   cases hi : Ps.is [⟨#[118, 97, 114]⟩] r5 with
   | true =>
    rw [hi] at he
    subst he
    have HI5 := Lib.hid hi
    have AS5 := Lib.hid (AR5.out.kept k1)
    have HC5 := Lib.hid HR5.out.cnt
    have HM := Lib.hid (show ks5.length + 1 ≤ 60000 by have := map_fst_len ks5; have := HC5.out; have := HKM.out; omega)
    have HAH5 := Lib.hid AR5.out.pst.ahead
    clear hi k1
    go_wp2_with fail
    refine wp_region_till (S := (fun W => W.cell? ⟨w2.heap.size, 5, none⟩ = some (.slice va5 ks5.length vc5))) 7 (by kernel_rfl) (AS5.out.drew.cell5) (fun hHeld0 => ?_)
    refine wpAnyT_take (i := 0) (v := ?_) rfl (by kernel_rfl) (by kernel_rfl) (by kernel_rfl) (fun _ _ _ h => h) (Or.inl ⟨by kernel_rfl, ?_⟩) (by assumption) ?_
    rotate_left
    ·intro w hSw; (try dsimp only at hSw); go_simp; (try with_reducible rfl)
    (try simp only [Act.put, List.getElem_toArray, List.getElem_cons_zero, List.getElem_cons_succ, List.setIfInBounds_toArray, List.set_cons_zero, List.set_cons_succ])
    refine wpAnyT_take (i := 1) (v := ?_) rfl (by kernel_rfl) (by kernel_rfl) (by kernel_rfl) (fun _ _ _ h => h) (Or.inl ⟨by kernel_rfl, ?_⟩) (by assumption) ?_
    rotate_left
    ·intro w hSw; (try dsimp only at hSw); go_simp; (try with_reducible rfl)
    (try simp only [Act.put, List.getElem_toArray, List.getElem_cons_zero, List.getElem_cons_succ, List.setIfInBounds_toArray, List.set_cons_zero, List.set_cons_succ])
    refine wpAnyT_take (i := 2) (v := ?_) rfl (by kernel_rfl) (by kernel_rfl) (by kernel_rfl) (fun _ _ _ h => h) (Or.inl ⟨by kernel_rfl, ?_⟩) (by assumption) ?_
    rotate_left
    ·intro w hSw; (try dsimp only at hSw); go_simp; (try with_reducible rfl)
    (try simp only [Act.put, List.getElem_toArray, List.getElem_cons_zero, List.getElem_cons_succ, List.setIfInBounds_toArray, List.set_cons_zero, List.set_cons_succ])
    refine wpAnyT_ready (rs := [3]) (by kernel_rfl) (by simp) ?_
    refine AllReadyT.cons rfl (fun K hK => ?_) AllReadyT.nil
    go_simp
    refine ((pfield_c r5 _ AS5.out.pst.drew)).mono ?_
    rintro e w6 (⟨x6, ks6, r6, v6, h1, rfl, hx, hk, h4, h5, hok, h7⟩ | ⟨q, hb, rfl, ho⟩)
    rotate_left
    ·have HH := Lib.hid (show Ps.class1 F l = .bad q ∧ Only (· = p.B) w w6 from ⟨by simp only [HR5.out.bad HI5.out hb, hb, Ps.O.bind_ok, Ps.O.bind_bad, eq_self, if_true, Bool.false_eq_true, if_false], AS5.out.drew.only.trans ho⟩)
     clear hb ho
     exact ⟨rfl, .inr ⟨_, HH.out.1, rfl, HH.out.2⟩⟩
    have HE6 := Lib.hid h1
    have HX6 := Lib.hid (And.intro hx hok)
    have HL6 := Lib.hid h7
    obtain ⟨ai6, hs6, h26⟩ := AS5.out.drew.asks h5 h4 hx hk hok
    refine hK.out _ _ ((AS5.out.drew.call h5 h4).cell5) (fun hHeld1 => ?_)
    clear hK K
    (try simp only [Act.put, List.getElem_toArray, List.getElem_cons_zero, List.getElem_cons_succ, List.setIfInBounds_toArray, List.set_cons_zero, List.set_cons_succ])
    refine wpAnyT_ready (rs := [4]) (by kernel_rfl) (by simp) ?_
    refine AllReadyT.cons rfl (fun K hK => ?_) AllReadyT.nil
    go_simp
    refine hK.out _ _ ai6.cell5 (fun hHeld2 => ?_)
    clear hK K
    (try simp only [Act.put, List.getElem_toArray, List.getElem_cons_zero, List.getElem_cons_succ, List.setIfInBounds_toArray, List.set_cons_zero, List.set_cons_succ])
    have AJ6 := Lib.hid ai6
    have HS6 := Lib.hid hs6
    have H26 := Lib.hid h26
    clear ai6 hs6 h26 h1 hx hk h4 h5 hok h7 hHeld0 hHeld1
    refine wpAnyT_ready (rs := [5]) (by kernel_rfl) (by simp) ?_
    refine AllReadyT.cons rfl (fun K hK => ?_) AllReadyT.nil
    refine step_nd (k2 := [(x6, v6)]) (.tmp 26) (.tmp 29) rfl rfl rfl AJ6.out.row rfl HS6.out H26.out AJ6.out.size (by first | (simp; done) | (have := HM.out; simp; omega)) ?_
    intro ka6 kc6 wa6 hr ho hl
    obtain ⟨q0, q1, q2⟩ := AJ6.out.more hr ho hl
    refine hK.out _ _ q0 (fun hHeld3 => ?_)
    clear hK K
    (try simp only [Act.put, List.getElem_toArray, List.getElem_cons_zero, List.getElem_cons_succ, List.setIfInBounds_toArray, List.set_cons_zero, List.set_cons_succ])
    refine wpAnyT_take (i := 6) (v := ?_) rfl (by kernel_rfl) (by kernel_rfl) (by kernel_rfl) (fun _ _ _ h => h) (Or.inl ⟨by kernel_rfl, ?_⟩) (by assumption) ?_
    rotate_left
    ·intro w hSw; (try dsimp only at hSw); go_simp; (try with_reducible rfl)
    (try simp only [Act.put, List.getElem_toArray, List.getElem_cons_zero, List.getElem_cons_succ, List.setIfInBounds_toArray, List.set_cons_zero, List.set_cons_succ])
    clear hr ho hl hHeld2 hHeld3
    refine wpAnyT_ready (rs := [7]) (by kernel_rfl) (by simp) ?_
    refine AllReadyT.fin rfl (fun K hK => ?_)
    go_simp
    refine hK.out _ _ ?_
    clear hK K
    (try simp only [Act.put, List.getElem_toArray, List.getElem_cons_zero, List.getElem_cons_succ, List.setIfInBounds_toArray, List.set_cons_zero, List.set_cons_succ])
    refine wpAnyT_done (by kernel_rfl) ?_ _
    have hm := HR5.out.ok HI5.out HE6.out HL6.out (show ks5.length + [(x6, v6)].length = ks5.length + 1 from rfl) q2
    obtain ⟨Y6, hY6⟩ : ∃ Y, wa6.setCell ⟨w2.heap.size, 5, none⟩ (.slice ka6 (ks5.length + 1) kc6) = Y := ⟨_, rfl⟩
    rw [show wa6.setCell ⟨w2.heap.size, 5, none⟩ (.slice ka6 (ks5.length + [(x6, v6)].length) kc6) = Y6 from hY6] at hm
    have HM2 := Lib.hid hm
    have HY6 := Lib.hid hY6
    clear hm hY6 q0 q1 q2
    rw [HY6.out]
    go_wp2_with fail
    go_roundw
    case rel => exact ⟨_, _, _, _, HM2⟩
    case measure =>
     have h1 := HM2.out.app.pst.ahead
     have h2 := HAH5.out
     have h3 := HL6.out
     have h4 := Nd.count_pos x6
     rw [h1, h2]; omega
   | false =>
    rw [hi] at he
    subst he
    have HE5 := Lib.hid (HR5.out.out hi)
    have AI5 := Lib.hid (AR5.out.kept k1)
    have HC5 := Lib.hid HR5.out.cnt
    have HM := Lib.hid (show ks5.length + 1 ≤ 60000 by have := map_fst_len ks5; have := HC5.out; have := HKM.out; omega)
    clear hi k1
    go_wp2_with fail
    have HM7 := Lib.hid (show ManyI p w w2.heap.size (Ps.nd 2 t2.text Ps.e0 0 []) ⟨#[100, 101, 102]⟩ (Ps.method F) (Ps.class1 F l) (fun ks r => (Ps.take [Ps.kRight] r).bind fun _ r => .ok (Ps.nd 2 t2.text Ps.e0 0 ks) r) (l.length) (va5) (vc5) (ks5) r5 w5 from ⟨AI5.out, ⟨_, Nat.le_refl _, by exact HE5.out⟩, by exact HC5.out⟩)
    go_loopw [] (fun wr => ∃ ks r va vc, Hid (ManyI p w w2.heap.size (Ps.nd 2 t2.text Ps.e0 0 []) ⟨#[100, 101, 102]⟩ (Ps.method F) (Ps.class1 F l) (fun ks r => (Ps.take [Ps.kRight] r).bind fun _ r => .ok (Ps.nd 2 t2.text Ps.e0 0 ks) r) (l.length) va vc ks r wr)) (fun wr => ahead p wr)
    case atStart => exact ⟨_, _, _, _, HM7⟩
    case round =>
     obtain ⟨ks7, r7, va7, vc7, HR7⟩ := hrel
     have AR7 := Lib.hid HR7.out.app
     go_wp2_with fail
     refine (is_l [⟨#[100, 101, 102]⟩] (ty := 9) AR7.out.pst rfl rfl rfl (by decide)).mono ?_
     rintro e w7 ⟨he, k1⟩
     cases hi : Ps.is [⟨#[100, 101, 102]⟩] r7 with
     | true =>
      rw [hi] at he
      subst he
      have HI7 := Lib.hid hi
      have AS7 := Lib.hid (AR7.out.kept k1)
      have HC7 := Lib.hid HR7.out.cnt
      have HM := Lib.hid (show ks7.length + 1 ≤ 60000 by have := map_fst_len ks7; have := HC7.out; have := HKM.out; omega)
      have HAH7 := Lib.hid AR7.out.pst.ahead
      clear hi k1
      go_wp2_with fail
      refine wp_region_till (S := (fun W => W.cell? ⟨w2.heap.size, 5, none⟩ = some (.slice va7 ks7.length vc7))) 7 (by kernel_rfl) (AS7.out.drew.cell5) (fun hHeld0 => ?_)
      refine wpAnyT_take (i := 0) (v := ?_) rfl (by kernel_rfl) (by kernel_rfl) (by kernel_rfl) (fun _ _ _ h => h) (Or.inl ⟨by kernel_rfl, ?_⟩) (by assumption) ?_
      rotate_left
      ·intro w hSw; (try dsimp only at hSw); go_simp; (try with_reducible rfl)
      (try simp only [Act.put, List.getElem_toArray, List.getElem_cons_zero, List.getElem_cons_succ, List.setIfInBounds_toArray, List.set_cons_zero, List.set_cons_succ])
      refine wpAnyT_take (i := 1) (v := ?_) rfl (by kernel_rfl) (by kernel_rfl) (by kernel_rfl) (fun _ _ _ h => h) (Or.inl ⟨by kernel_rfl, ?_⟩) (by assumption) ?_
      rotate_left
      ·intro w hSw; (try dsimp only at hSw); go_simp; (try with_reducible rfl)
      (try simp only [Act.put, List.getElem_toArray, List.getElem_cons_zero, List.getElem_cons_succ, List.setIfInBounds_toArray, List.set_cons_zero, List.set_cons_succ])
      refine wpAnyT_take (i := 2) (v := ?_) rfl (by kernel_rfl) (by kernel_rfl) (by kernel_rfl) (fun _ _ _ h => h) (Or.inl ⟨by kernel_rfl, ?_⟩) (by assumption) ?_
      rotate_left
      ·intro w hSw; (try dsimp only at hSw); go_simp; (try with_reducible rfl)
      (try simp only [Act.put, List.getElem_toArray, List.getElem_cons_zero, List.getElem_cons_succ, List.setIfInBounds_toArray, List.set_cons_zero, List.set_cons_succ])
      refine wpAnyT_ready (rs := [3]) (by kernel_rfl) (by simp) ?_
      refine AllReadyT.cons rfl (fun K hK => ?_) AllReadyT.nil
      go_simp
      refine ((pmethod_c hF r7 _ (by have := HC7.out; have := HKL.out; omega) AS7.out.pst.drew)).mono ?_
      rintro e w8 (⟨x8, ks8, r8, v8, h1, rfl, hx, hk, h4, h5, hok, h7⟩ | ⟨q, hb, rfl, ho⟩)
      rotate_left
      ·have HH := Lib.hid (show Ps.class1 F l = .bad q ∧ Only (· = p.B) w w8 from ⟨by simp only [HR7.out.bad HI7.out hb, hb, Ps.O.bind_ok, Ps.O.bind_bad, eq_self, if_true, Bool.false_eq_true, if_false], AS7.out.drew.only.trans ho⟩)
       clear hb ho
       exact ⟨rfl, .inr ⟨_, HH.out.1, rfl, HH.out.2⟩⟩
      have HE8 := Lib.hid h1
      have HX8 := Lib.hid (And.intro hx hok)
      have HL8 := Lib.hid h7
      obtain ⟨ai8, hs8, h28⟩ := AS7.out.drew.asks h5 h4 hx hk hok
      refine hK.out _ _ ((AS7.out.drew.call h5 h4).cell5) (fun hHeld1 => ?_)
      clear hK K
      (try simp only [Act.put, List.getElem_toArray, List.getElem_cons_zero, List.getElem_cons_succ, List.setIfInBounds_toArray, List.set_cons_zero, List.set_cons_succ])
      refine wpAnyT_ready (rs := [4]) (by kernel_rfl) (by simp) ?_
      refine AllReadyT.cons rfl (fun K hK => ?_) AllReadyT.nil
      go_simp
      refine hK.out _ _ ai8.cell5 (fun hHeld2 => ?_)
      clear hK K
      (try simp only [Act.put, List.getElem_toArray, List.getElem_cons_zero, List.getElem_cons_succ, List.setIfInBounds_toArray, List.set_cons_zero, List.set_cons_succ])
      have AJ8 := Lib.hid ai8
      have HS8 := Lib.hid hs8
      have H28 := Lib.hid h28
      clear ai8 hs8 h28 h1 hx hk h4 h5 hok h7 hHeld0 hHeld1
      refine wpAnyT_ready (rs := [5]) (by kernel_rfl) (by simp) ?_
      refine AllReadyT.cons rfl (fun K hK => ?_) AllReadyT.nil
      refine step_nd (k2 := [(x8, v8)]) (.tmp 36) (.tmp 39) rfl rfl rfl AJ8.out.row rfl HS8.out H28.out AJ8.out.size (by first | (simp; done) | (have := HM.out; simp; omega)) ?_
      intro ka8 kc8 wa8 hr ho hl
      obtain ⟨q0, q1, q2⟩ := AJ8.out.more hr ho hl
      refine hK.out _ _ q0 (fun hHeld3 => ?_)
      clear hK K
      (try simp only [Act.put, List.getElem_toArray, List.getElem_cons_zero, List.getElem_cons_succ, List.setIfInBounds_toArray, List.set_cons_zero, List.set_cons_succ])
      refine wpAnyT_take (i := 6) (v := ?_) rfl (by kernel_rfl) (by kernel_rfl) (by kernel_rfl) (fun _ _ _ h => h) (Or.inl ⟨by kernel_rfl, ?_⟩) (by assumption) ?_
      rotate_left
      ·intro w hSw; (try dsimp only at hSw); go_simp; (try with_reducible rfl)
      (try simp only [Act.put, List.getElem_toArray, List.getElem_cons_zero, List.getElem_cons_succ, List.setIfInBounds_toArray, List.set_cons_zero, List.set_cons_succ])
      clear hr ho hl hHeld2 hHeld3
      refine wpAnyT_ready (rs := [7]) (by kernel_rfl) (by simp) ?_
      refine AllReadyT.fin rfl (fun K hK => ?_)
      go_simp
      refine hK.out _ _ ?_
      clear hK K
      (try simp only [Act.put, List.getElem_toArray, List.getElem_cons_zero, List.getElem_cons_succ, List.setIfInBounds_toArray, List.set_cons_zero, List.set_cons_succ])
      refine wpAnyT_done (by kernel_rfl) ?_ _
      have hm := HR7.out.ok HI7.out HE8.out HL8.out (show ks7.length + [(x8, v8)].length = ks7.length + 1 from rfl) q2
      obtain ⟨Y8, hY8⟩ : ∃ Y, wa8.setCell ⟨w2.heap.size, 5, none⟩ (.slice ka8 (ks7.length + 1) kc8) = Y := ⟨_, rfl⟩
      rw [show wa8.setCell ⟨w2.heap.size, 5, none⟩ (.slice ka8 (ks7.length + [(x8, v8)].length) kc8) = Y8 from hY8] at hm
      have HM2 := Lib.hid hm
      have HY8 := Lib.hid hY8
      clear hm hY8 q0 q1 q2
      rw [HY8.out]
      go_wp2_with fail
      go_roundw
      case rel => exact ⟨_, _, _, _, HM2⟩
      case measure =>
       have h1 := HM2.out.app.pst.ahead
       have h2 := HAH7.out
       have h3 := HL8.out
       have h4 := Nd.count_pos x8
       rw [h1, h2]; omega
     | false =>
      rw [hi] at he
      subst he
      have HE7 := Lib.hid (HR7.out.out hi)
      have AI7 := Lib.hid (AR7.out.kept k1)
      have HC7 := Lib.hid HR7.out.cnt
      have HM := Lib.hid (show ks7.length + 1 ≤ 60000 by have := map_fst_len ks7; have := HC7.out; have := HKM.out; omega)
      clear hi k1
      go_wp2_with fail
      refine (take_l [⟨#[125]⟩] (ty := 9) AI7.out.pst (by first | rfl | simp) rfl rfl (by decide) (by decide +kernel)).mono ?_
      rintro e w9 (⟨t9, r9, h1, h2, rfl, h4, h5, h6⟩ | ⟨q, hb, rfl, ho⟩)
      rotate_left
      ·have HH := Lib.hid (show Ps.class1 F l = .bad q ∧ Only (· = p.B) w w9 from ⟨by simp only [HE7.out, hb, Ps.O.bind_ok, Ps.O.bind_bad, eq_self, if_true, Bool.false_eq_true, if_false], AI7.out.only.trans ho⟩)
       clear hb ho
       go_wp2_with fail
       exact ⟨rfl, .inr ⟨_, HH.out.1, rfl, HH.out.2⟩⟩
      have HE9 := Lib.hid h1
      have HT9 := Lib.hid h6
      have HL9 := Lib.hid (show r9.length + 1 = (r7).length by rw [h2]; rfl)
      have AI9 := Lib.hid (AI7.out.call h5 h4)
      clear h1 h2 h4 h5 h6
      obtain ⟨⟨z0, z1, z2, z3, z4, z5⟩, g0, g1, g2, g3, g4, g5⟩ := nd_six AI9.out.box
      obtain ⟨⟨y0, y1, y2, y3, y4, y5⟩, f0, f1, f2, f3, f4, f5⟩ := nd_six AI9.out.res
      go_wp2_with fail
      refine AI9.out.end (y := Ps.nd 2 t2.text Ps.e0 0 (ks7.map (·.1))) (by rfl) rfl rfl ⟨rfl, rfl, rfl, rfl, rfl⟩ (by simp only [HE7.out, HE9.out, Ps.O.bind_ok, Ps.O.bind_bad, eq_self, if_true, Bool.false_eq_true, if_false]) rfl (nd_ok1 _ _ _ _ _ (by decide) HT2.out.2.1 e0_size (by decide)) ?_
      have := HL1.out; have := HL2.out; have := HL9.out; have := HC7.out
      rw [count_nd]; omega
set_option maxHeartbeats 1000000 in
theorem program_c (hF : FamC p F k) (l : List Lx.T) (w : World) (hk : l.length ≤ k + 1) (hp : Pst p l w) : Calls Tryz.prog 24 #[.pointer (some ⟨p.B, 0, none⟩)] w (NodePost p l (Ps.program F l) w) := by
 obtain ⟨W0, hW0⟩ : ∃ W0, w.alloc (.cells pzN nT) = W0 := ⟨_, rfl⟩
 have k0 : Kept w W0 := by rw [← hW0]; exact (Kept.refl w).alloc _
 have HZ0 := Lib.hid (show w.heap.size + 1 ≤ W0.heap.size by rw [← hW0]; simp)
 have HB0 := Lib.hid (show Blk W0 w.heap.size nT pzN by rw [← hW0]; exact Blk.new _ _ _)
 have HP0 := Lib.hid (hp.kept k0)
 have HN := Lib.hid hp.lt
 have HO0 := Lib.hid (show Only (· = p.B) w W0 from Only.of_kept k0)
 have HKM := Lib.hid (show l.length ≤ 30000 from HP0.out.len)
 obtain ⟨V0, hV0⟩ : ∃ V, W0.alloc (.cells (ndA (Ps.nd 1 Ps.e0 Ps.e0 0 []) (.slice none 0 0)) nT) = V := ⟨_, rfl⟩
 have AI0 := Lib.hid (AppI.new (x := Ps.nd 1 Ps.e0 Ps.e0 0 []) (KRow.nil _ _) HB0.out HN.out HP0.out HO0.out rfl hV0)
 have HV0 := Lib.hid (show W0.alloc (.cells #[.int .i64 1, .string Ps.e0, .string Ps.e0, .string Ps.e0, .int .i64 0, .slice none 0 0] nT) = V0 from hV0)
 clear hV0
 have HW0 := Lib.hid hW0
 have HKL := Lib.hid hk
 clear hp k0 hW0 hk
 have hf1 := field_tok1
 have hf2 := field_tok2
 go_enter Tryz.func24, Tryz.ntmps24
 go_wp2_with (first | rw [HW0.out] | rw [HV0.out])
 have HM1 := Lib.hid (show ManyI p w W0.heap.size (Ps.nd 1 Ps.e0 Ps.e0 0 []) ⟨#[99, 108, 97, 115, 115]⟩ (Ps.class1 F) (Ps.program F l) (fun ks r => (Ps.take [⟨#[109, 97, 105, 110]⟩] r).bind fun _ r => (F .block r).bind fun b r => .ok (Ps.nd 1 Ps.e0 Ps.e0 0 (ks ++ [b])) r) (l.length) (none) (0) ([]) l V0 from ⟨AI0.out, ⟨_, Nat.le_refl _, by rw [Ps.program]; rfl⟩, by show Nd.countL [] + _ ≤ _; rw [Nd.countL_nil]; omega⟩)
 go_loopw [] (fun wr => ∃ ks r va vc, Hid (ManyI p w W0.heap.size (Ps.nd 1 Ps.e0 Ps.e0 0 []) ⟨#[99, 108, 97, 115, 115]⟩ (Ps.class1 F) (Ps.program F l) (fun ks r => (Ps.take [⟨#[109, 97, 105, 110]⟩] r).bind fun _ r => (F .block r).bind fun b r => .ok (Ps.nd 1 Ps.e0 Ps.e0 0 (ks ++ [b])) r) (l.length) va vc ks r wr)) (fun wr => ahead p wr)
 case atStart => exact ⟨_, _, _, _, HM1⟩
 case round =>
  obtain ⟨ks1, r1, va1, vc1, HR1⟩ := hrel
  have AR1 := Lib.hid HR1.out.app
  go_wp2_with fail
  refine (is_l [⟨#[99, 108, 97, 115, 115]⟩] (ty := 9) AR1.out.pst rfl rfl rfl (by decide)).mono ?_
  rintro e w1 ⟨he, k1⟩
  cases hi : Ps.is [⟨#[99, 108, 97, 115, 115]⟩] r1 with
  | true =>
   rw [hi] at he
   subst he
   have HI1 := Lib.hid hi
   have AS1 := Lib.hid (AR1.out.kept k1)
   have HC1 := Lib.hid HR1.out.cnt
   have HM := Lib.hid (show ks1.length + 1 ≤ 60000 by have := map_fst_len ks1; have := HC1.out; have := HKM.out; omega)
   have HAH1 := Lib.hid AR1.out.pst.ahead
   clear hi k1
   go_wp2_with fail
   refine wp_region_till (S := (fun W => W.cell? ⟨W0.heap.size, 5, none⟩ = some (.slice va1 ks1.length vc1))) 7 (by kernel_rfl) (AS1.out.drew.cell5) (fun hHeld0 => ?_)
   refine wpAnyT_take (i := 0) (v := ?_) rfl (by kernel_rfl) (by kernel_rfl) (by kernel_rfl) (fun _ _ _ h => h) (Or.inl ⟨by kernel_rfl, ?_⟩) (by assumption) ?_
   rotate_left
   ·intro w hSw; (try dsimp only at hSw); go_simp; (try with_reducible rfl)
   (try simp only [Act.put, List.getElem_toArray, List.getElem_cons_zero, List.getElem_cons_succ, List.setIfInBounds_toArray, List.set_cons_zero, List.set_cons_succ])
   refine wpAnyT_take (i := 1) (v := ?_) rfl (by kernel_rfl) (by kernel_rfl) (by kernel_rfl) (fun _ _ _ h => h) (Or.inl ⟨by kernel_rfl, ?_⟩) (by assumption) ?_
   rotate_left
   ·intro w hSw; (try dsimp only at hSw); go_simp; (try with_reducible rfl)
   (try simp only [Act.put, List.getElem_toArray, List.getElem_cons_zero, List.getElem_cons_succ, List.setIfInBounds_toArray, List.set_cons_zero, List.set_cons_succ])
   refine wpAnyT_take (i := 2) (v := ?_) rfl (by kernel_rfl) (by kernel_rfl) (by kernel_rfl) (fun _ _ _ h => h) (Or.inl ⟨by kernel_rfl, ?_⟩) (by assumption) ?_
   rotate_left
   ·intro w hSw; (try dsimp only at hSw); go_simp; (try with_reducible rfl)
   (try simp only [Act.put, List.getElem_toArray, List.getElem_cons_zero, List.getElem_cons_succ, List.setIfInBounds_toArray, List.set_cons_zero, List.set_cons_succ])
   refine wpAnyT_ready (rs := [3]) (by kernel_rfl) (by simp) ?_
   refine AllReadyT.cons rfl (fun K hK => ?_) AllReadyT.nil
   go_simp
   refine ((pclass_c hF r1 _ (by have := HC1.out; have := HKL.out; omega) AS1.out.pst.drew)).mono ?_
   rintro e w2 (⟨x2, ks2, r2, v2, h1, rfl, hx, hk, h4, h5, hok, h7⟩ | ⟨q, hb, rfl, ho⟩)
   rotate_left
   ·have HH := Lib.hid (show Ps.program F l = .bad q ∧ Only (· = p.B) w w2 from ⟨by simp only [HR1.out.bad HI1.out hb, hb, Ps.O.bind_ok, Ps.O.bind_bad, eq_self, if_true, Bool.false_eq_true, if_false], AS1.out.drew.only.trans ho⟩)
    clear hb ho
    exact ⟨rfl, .inr ⟨_, HH.out.1, rfl, HH.out.2⟩⟩
   have HE2 := Lib.hid h1
   have HX2 := Lib.hid (And.intro hx hok)
   have HL2 := Lib.hid h7
   obtain ⟨ai2, hs2, h22⟩ := AS1.out.drew.asks h5 h4 hx hk hok
   refine hK.out _ _ ((AS1.out.drew.call h5 h4).cell5) (fun hHeld1 => ?_)
   clear hK K
   (try simp only [Act.put, List.getElem_toArray, List.getElem_cons_zero, List.getElem_cons_succ, List.setIfInBounds_toArray, List.set_cons_zero, List.set_cons_succ])
   refine wpAnyT_ready (rs := [4]) (by kernel_rfl) (by simp) ?_
   refine AllReadyT.cons rfl (fun K hK => ?_) AllReadyT.nil
   go_simp
   refine hK.out _ _ ai2.cell5 (fun hHeld2 => ?_)
   clear hK K
   (try simp only [Act.put, List.getElem_toArray, List.getElem_cons_zero, List.getElem_cons_succ, List.setIfInBounds_toArray, List.set_cons_zero, List.set_cons_succ])
   have AJ2 := Lib.hid ai2
   have HS2 := Lib.hid hs2
   have H22 := Lib.hid h22
   clear ai2 hs2 h22 h1 hx hk h4 h5 hok h7 hHeld0 hHeld1
   refine wpAnyT_ready (rs := [5]) (by kernel_rfl) (by simp) ?_
   refine AllReadyT.cons rfl (fun K hK => ?_) AllReadyT.nil
   refine step_nd (k2 := [(x2, v2)]) (.tmp 9) (.tmp 12) rfl rfl rfl AJ2.out.row rfl HS2.out H22.out AJ2.out.size (by first | (simp; done) | (have := HM.out; simp; omega)) ?_
   intro ka2 kc2 wa2 hr ho hl
   obtain ⟨q0, q1, q2⟩ := AJ2.out.more hr ho hl
   refine hK.out _ _ q0 (fun hHeld3 => ?_)
   clear hK K
   (try simp only [Act.put, List.getElem_toArray, List.getElem_cons_zero, List.getElem_cons_succ, List.setIfInBounds_toArray, List.set_cons_zero, List.set_cons_succ])
   refine wpAnyT_take (i := 6) (v := ?_) rfl (by kernel_rfl) (by kernel_rfl) (by kernel_rfl) (fun _ _ _ h => h) (Or.inl ⟨by kernel_rfl, ?_⟩) (by assumption) ?_
   rotate_left
   ·intro w hSw; (try dsimp only at hSw); go_simp; (try with_reducible rfl)
   (try simp only [Act.put, List.getElem_toArray, List.getElem_cons_zero, List.getElem_cons_succ, List.setIfInBounds_toArray, List.set_cons_zero, List.set_cons_succ])
   clear hr ho hl hHeld2 hHeld3
   refine wpAnyT_ready (rs := [7]) (by kernel_rfl) (by simp) ?_
   refine AllReadyT.fin rfl (fun K hK => ?_)
   go_simp
   refine hK.out _ _ ?_
   clear hK K
   (try simp only [Act.put, List.getElem_toArray, List.getElem_cons_zero, List.getElem_cons_succ, List.setIfInBounds_toArray, List.set_cons_zero, List.set_cons_succ])
   refine wpAnyT_done (by kernel_rfl) ?_ _
   have hm := HR1.out.ok HI1.out HE2.out HL2.out (show ks1.length + [(x2, v2)].length = ks1.length + 1 from rfl) q2
   obtain ⟨Y2, hY2⟩ : ∃ Y, wa2.setCell ⟨W0.heap.size, 5, none⟩ (.slice ka2 (ks1.length + 1) kc2) = Y := ⟨_, rfl⟩
   rw [show wa2.setCell ⟨W0.heap.size, 5, none⟩ (.slice ka2 (ks1.length + [(x2, v2)].length) kc2) = Y2 from hY2] at hm
   have HM2 := Lib.hid hm
   have HY2 := Lib.hid hY2
   clear hm hY2 q0 q1 q2
   rw [HY2.out]
   go_wp2_with fail
   go_roundw
   case rel => exact ⟨_, _, _, _, HM2⟩
   case measure =>
    have h1 := HM2.out.app.pst.ahead
    have h2 := HAH1.out
    have h3 := HL2.out
    have h4 := Nd.count_pos x2
    rw [h1, h2]; omega
  | false =>
  rw [hi] at he
  subst he
  have HE1 := Lib.hid (HR1.out.out hi)
  have AI1 := Lib.hid (AR1.out.kept k1)
  have HC1 := Lib.hid HR1.out.cnt
  have HM := Lib.hid (show ks1.length + 1 ≤ 60000 by have := map_fst_len ks1; have := HC1.out; have := HKM.out; omega)
  clear hi k1
  go_wp2_with fail
  refine (take_l [⟨#[109, 97, 105, 110]⟩] (ty := 9) AI1.out.pst (by first | rfl | simp) rfl rfl (by decide) (by decide +kernel)).mono ?_
  rintro e w3 (⟨t3, r3, h1, h2, rfl, h4, h5, h6⟩ | ⟨q, hb, rfl, ho⟩)
  rotate_left
  ·have HH := Lib.hid (show Ps.program F l = .bad q ∧ Only (· = p.B) w w3 from ⟨by simp only [HE1.out, hb, Ps.O.bind_ok, Ps.O.bind_bad, eq_self, if_true, Bool.false_eq_true, if_false], AI1.out.only.trans ho⟩)
   clear hb ho
   go_wp2_with fail
   exact ⟨rfl, .inr ⟨_, HH.out.1, rfl, HH.out.2⟩⟩
  have HE3 := Lib.hid h1
  have HT3 := Lib.hid h6
  have HL3 := Lib.hid (show r3.length + 1 = (r1).length by rw [h2]; rfl)
  have AI3 := Lib.hid (AI1.out.call h5 h4)
  clear h1 h2 h4 h5 h6
  go_wp2_with fail
  refine wp_region_till (S := (fun W => W.cell? ⟨W0.heap.size, 5, none⟩ = some (.slice va1 ks1.length vc1))) 7 (by kernel_rfl) (AI3.out.drew.cell5) (fun hHeld0 => ?_)
  refine wpAnyT_take (i := 0) (v := ?_) rfl (by kernel_rfl) (by kernel_rfl) (by kernel_rfl) (fun _ _ _ h => h) (Or.inl ⟨by kernel_rfl, ?_⟩) (by assumption) ?_
  rotate_left
  ·intro w hSw; (try dsimp only at hSw); go_simp; (try with_reducible rfl)
  (try simp only [Act.put, List.getElem_toArray, List.getElem_cons_zero, List.getElem_cons_succ, List.setIfInBounds_toArray, List.set_cons_zero, List.set_cons_succ])
  refine wpAnyT_take (i := 1) (v := ?_) rfl (by kernel_rfl) (by kernel_rfl) (by kernel_rfl) (fun _ _ _ h => h) (Or.inl ⟨by kernel_rfl, ?_⟩) (by assumption) ?_
  rotate_left
  ·intro w hSw; (try dsimp only at hSw); go_simp; (try with_reducible rfl)
  (try simp only [Act.put, List.getElem_toArray, List.getElem_cons_zero, List.getElem_cons_succ, List.setIfInBounds_toArray, List.set_cons_zero, List.set_cons_succ])
  refine wpAnyT_take (i := 2) (v := ?_) rfl (by kernel_rfl) (by kernel_rfl) (by kernel_rfl) (fun _ _ _ h => h) (Or.inl ⟨by kernel_rfl, ?_⟩) (by assumption) ?_
  rotate_left
  ·intro w hSw; (try dsimp only at hSw); go_simp; (try with_reducible rfl)
  (try simp only [Act.put, List.getElem_toArray, List.getElem_cons_zero, List.getElem_cons_succ, List.setIfInBounds_toArray, List.set_cons_zero, List.set_cons_succ])
  refine wpAnyT_ready (rs := [3]) (by kernel_rfl) (by simp) ?_
  refine AllReadyT.cons rfl (fun K hK => ?_) AllReadyT.nil
  go_simp
  refine ((hF.block r3 _ (by have := HL3.out; have := HC1.out; have := HKL.out; omega) AI3.out.pst.drew)).mono ?_
  rintro e w4 (⟨x4, ks4, r4, v4, h1, rfl, hx, hk, h4, h5, hok, h7⟩ | ⟨q, hb, rfl, ho⟩)
  rotate_left
  ·have HH := Lib.hid (show Ps.program F l = .bad q ∧ Only (· = p.B) w w4 from ⟨by simp only [HE1.out, HE3.out, hb, Ps.O.bind_ok, Ps.O.bind_bad, eq_self, if_true, Bool.false_eq_true, if_false], AI3.out.drew.only.trans ho⟩)
   clear hb ho
   exact ⟨rfl, .inr ⟨_, HH.out.1, rfl, HH.out.2⟩⟩
  have HE4 := Lib.hid h1
  have HX4 := Lib.hid (And.intro hx hok)
  have HL4 := Lib.hid h7
  obtain ⟨ai4, hs4, h24⟩ := AI3.out.drew.asks h5 h4 hx hk hok
  refine hK.out _ _ ((AI3.out.drew.call h5 h4).cell5) (fun hHeld1 => ?_)
  clear hK K
  (try simp only [Act.put, List.getElem_toArray, List.getElem_cons_zero, List.getElem_cons_succ, List.setIfInBounds_toArray, List.set_cons_zero, List.set_cons_succ])
  refine wpAnyT_ready (rs := [4]) (by kernel_rfl) (by simp) ?_
  refine AllReadyT.cons rfl (fun K hK => ?_) AllReadyT.nil
  go_simp
  refine hK.out _ _ ai4.cell5 (fun hHeld2 => ?_)
  clear hK K
  (try simp only [Act.put, List.getElem_toArray, List.getElem_cons_zero, List.getElem_cons_succ, List.setIfInBounds_toArray, List.set_cons_zero, List.set_cons_succ])
  have AJ4 := Lib.hid ai4
  have HS4 := Lib.hid hs4
  have H24 := Lib.hid h24
  clear ai4 hs4 h24 h1 hx hk h4 h5 hok h7 hHeld0 hHeld1
  refine wpAnyT_ready (rs := [5]) (by kernel_rfl) (by simp) ?_
  refine AllReadyT.cons rfl (fun K hK => ?_) AllReadyT.nil
  refine step_nd (k2 := [(x4, v4)]) (.tmp 19) (.tmp 22) rfl rfl rfl AJ4.out.row rfl HS4.out H24.out AJ4.out.size (by first | (simp; done) | (have := HM.out; simp; omega)) ?_
  intro ka4 kc4 wa4 hr ho hl
  obtain ⟨q0, q1, q2⟩ := AJ4.out.more hr ho hl
  refine hK.out _ _ q0 (fun hHeld3 => ?_)
  clear hK K
  (try simp only [Act.put, List.getElem_toArray, List.getElem_cons_zero, List.getElem_cons_succ, List.setIfInBounds_toArray, List.set_cons_zero, List.set_cons_succ])
  refine wpAnyT_take (i := 6) (v := ?_) rfl (by kernel_rfl) (by kernel_rfl) (by kernel_rfl) (fun _ _ _ h => h) (Or.inl ⟨by kernel_rfl, ?_⟩) (by assumption) ?_
  rotate_left
  ·intro w hSw; (try dsimp only at hSw); go_simp; (try with_reducible rfl)
  (try simp only [Act.put, List.getElem_toArray, List.getElem_cons_zero, List.getElem_cons_succ, List.setIfInBounds_toArray, List.set_cons_zero, List.set_cons_succ])
  clear hr ho hl hHeld2 hHeld3
  refine wpAnyT_ready (rs := [7]) (by kernel_rfl) (by simp) ?_
  refine AllReadyT.fin rfl (fun K hK => ?_)
  go_simp
  refine hK.out _ _ ?_
  clear hK K
  (try simp only [Act.put, List.getElem_toArray, List.getElem_cons_zero, List.getElem_cons_succ, List.setIfInBounds_toArray, List.set_cons_zero, List.set_cons_succ])
  refine wpAnyT_done (by kernel_rfl) ?_ _
  have AI5 := Lib.hid q2
  obtain ⟨W7, hW7⟩ : ∃ W7, wa4.setCell ⟨W0.heap.size, 5, none⟩ (.slice ka4 (ks1.length + 1) kc4) = W7 := ⟨_, rfl⟩
  rw [show wa4.setCell ⟨W0.heap.size, 5, none⟩ (.slice ka4 (ks1.length + [(x4, v4)].length) kc4) = W7 from hW7] at AI5
  obtain ⟨⟨z0, z1, z2, z3, z4, z5⟩, _⟩ := nd_six AI5.out.box
  obtain ⟨⟨y0, y1, y2, y3, y4, y5⟩, f0, f1, f2, f3, f4, f5⟩ := nd_six AI5.out.res
  have HW7 := Lib.hid hW7
  clear hW7 q0 q1 q2
  rw [HW7.out]
  go_wp2_with fail
  refine AI5.out.end (y := Ps.nd 1 Ps.e0 Ps.e0 0 (ks1.map (·.1) ++ [x4])) (by rfl) rfl rfl ⟨rfl, rfl, rfl, rfl, rfl⟩ (by simp only [HE1.out, HE3.out, HE4.out, Ps.O.bind_ok, Ps.O.bind_bad, eq_self, if_true, Bool.false_eq_true, if_false]) (by rw [List.map_append]; rfl) (nd_ok1 _ _ _ _ _ (by decide) e0_size e0_size (by decide)) ?_
  have := HL3.out; have := HL4.out; have := HC1.out
  rw [count_nd, countL_snoc]; omega
end
end Go.Proofs.YtfkmnpgpfmkjaaaGreatDoor
namespace Go.Proofs.YtfkmnpgpfmkjaaaGreatDoor
open Go.ChangeShapes Go.WideShapes Go.ChangeAt Go.RowKit
attribute [local go_sem] Oper.semAt_some
open Ps (O W)
section
variable {p : PP} {F : Ps.Fam} {k : Nat}
set_option maxHeartbeats 1000000 in
theorem block_c (hF : FamC p F k) (l : List Lx.T) (w : World) (hk : l.length ≤ k + 1) (hp : Pst p l w) : Calls Tryz.prog 39 #[.pointer (some ⟨p.B, 0, none⟩)] w (NodePost p l (Ps.block F l) w) := by
 obtain ⟨W0, hW0⟩ : ∃ W0, w.alloc (.cells pzN nT) = W0 := ⟨_, rfl⟩
 have k0 : Kept w W0 := by rw [← hW0]; exact (Kept.refl w).alloc _
 have HZ0 := Lib.hid (show w.heap.size + 1 ≤ W0.heap.size by rw [← hW0]; simp)
 have HB0 := Lib.hid (show Blk W0 w.heap.size nT pzN by rw [← hW0]; exact Blk.new _ _ _)
 have HP0 := Lib.hid (hp.kept k0)
 have HN := Lib.hid hp.lt
 have HO0 := Lib.hid (show Only (· = p.B) w W0 from Only.of_kept k0)
 have HKM := Lib.hid (show l.length ≤ 30000 from hp.len)
 obtain ⟨V0, hV0⟩ : ∃ V, W0.alloc (.cells (ndA (Ps.nd 6 Ps.e0 Ps.e0 0 []) (.slice none 0 0)) nT) = V := ⟨_, rfl⟩
 have AI0 := Lib.hid (AppI.new (x := Ps.nd 6 Ps.e0 Ps.e0 0 []) (KRow.nil _ _) HB0.out HN.out HP0.out HO0.out rfl hV0)
 have HV0 := Lib.hid (show W0.alloc (.cells #[.int .i64 6, .string Ps.e0, .string Ps.e0, .string Ps.e0, .int .i64 0, .slice none 0 0] nT) = V0 from hV0)
 clear hV0
 have HW0 := Lib.hid hW0
 have HKL := Lib.hid hk
 clear hp k0 hW0 hk
 have hf1 := field_tok1
 have hf2 := field_tok2
 go_enter Tryz.func39, Tryz.ntmps39
 go_wp2_with (first | rw [HW0.out] | rw [HV0.out])
 refine (take_l [⟨#[123]⟩] (ty := 9) AI0.out.pst (by first | rfl | simp) rfl rfl (by decide) (by decide +kernel)).mono ?_
 rintro e w1 (⟨t1, r1, h1, h2, rfl, h4, h5, h6⟩ | ⟨q, hb, rfl, ho⟩)
 rotate_left
 ·have HH := Lib.hid (show Ps.block F l = .bad q ∧ Only (· = p.B) w w1 from ⟨by simp only [Ps.block, hb, Ps.O.bind_ok, Ps.O.bind_bad, eq_self, if_true, Bool.false_eq_true, if_false], AI0.out.only.trans ho⟩)
  clear hb ho
  go_wp2_with fail
  exact ⟨rfl, .inr ⟨_, HH.out.1, rfl, HH.out.2⟩⟩
 have HE1 := Lib.hid h1
 have HT1 := Lib.hid h6
 have HL1 := Lib.hid (show r1.length + 1 = (l).length by rw [h2]; rfl)
 have AI1 := Lib.hid (AI0.out.call h5 h4)
 clear h1 h2 h4 h5 h6
 go_wp2_with fail
 have HM1 := Lib.hid (show BlkI p F w W0.heap.size (Ps.nd 6 Ps.e0 Ps.e0 0 []) (Ps.block F l) l.length none 0 [] r1 w1 from ⟨AI1.out, ⟨_, Nat.le_refl _, by simp only [Ps.block, HE1.out, Ps.O.bind_ok]; rfl⟩, by show Nd.countL [] + _ + 1 ≤ _; rw [Nd.countL_nil]; have := HL1.out; omega⟩)
 go_loopw [] (fun wr => ∃ ks r va vc, Hid (BlkI p F w W0.heap.size (Ps.nd 6 Ps.e0 Ps.e0 0 []) (Ps.block F l) l.length va vc ks r wr)) (fun wr => ahead p wr)
 case atStart => exact ⟨_, _, _, _, HM1⟩
 case round =>
  obtain ⟨ks2, r2, va2, vc2, HR2⟩ := hrel
  have AR2 := Lib.hid HR2.out.app
  have HC2 := Lib.hid HR2.out.cnt
  have HM := Lib.hid (show ks2.length + 1 ≤ 60000 by have := map_fst_len ks2; have := HC2.out; have := HKM.out; omega)
  go_wp2_with fail
  refine (is_l [Ps.kRight] (ty := 9) AR2.out.pst rfl rfl rfl (by decide)).mono ?_
  rintro e w2 ⟨he, k1⟩
  cases hi : Ps.is [Ps.kRight] r2 with
  | true =>
   rw [hi] at he
   subst he
   have HI2 := Lib.hid hi
   have AS2 := Lib.hid (AR2.out.kept k1)
   clear hi k1
   go_wp2_with fail
   refine (take_l [Ps.kRight] (ty := 9) AS2.out.pst (by first | rfl | simp) rfl rfl (by decide) (by decide +kernel)).mono ?_
   rintro e w3 (⟨t3, r3, h1, h2, rfl, h4, h5, h6⟩ | ⟨q, hb, rfl, ho⟩)
   rotate_left
   ·exact (take_is HI2.out AS2.out.len.1 hb).elim
   have AI3 := Lib.hid (AS2.out.call h5 h4)
   have HE3 := Lib.hid (show Ps.block F l = .ok (Ps.nd 6 Ps.e0 Ps.e0 0 (ks2.map (·.1))) r3 by rw [HR2.out.out HI2.out, (take_ok h1).2])
   have HL3 := Lib.hid (show r3.length + 1 = r2.length by rw [h2]; rfl)
   clear h1 h2 h4 h5 h6
   obtain ⟨⟨z0, z1, z2, z3, z4, z5⟩, g0, g1, g2, g3, g4, g5⟩ := nd_six AI3.out.box
   obtain ⟨⟨y0, y1, y2, y3, y4, y5⟩, f0, f1, f2, f3, f4, f5⟩ := nd_six AI3.out.res
   go_wp2_with fail
   refine AI3.out.end (y := Ps.nd 6 Ps.e0 Ps.e0 0 (ks2.map (·.1))) (by rfl) rfl rfl ⟨rfl, rfl, rfl, rfl, rfl⟩ HE3.out rfl (nd_ok1 _ _ _ _ _ (by decide) e0_size e0_size (by decide)) ?_
   have := HL3.out; have := HC2.out
   rw [count_nd]; omega
  | false =>
   rw [hi] at he
   subst he
   have HI2 := Lib.hid hi
   have AS2 := Lib.hid (AR2.out.kept k1)
   have HAH2 := Lib.hid AR2.out.pst.ahead
   clear hi k1
   go_wp2_with fail
   refine wp_region_till (S := (fun W => W.cell? ⟨W0.heap.size, 5, none⟩ = some (.slice va2 ks2.length vc2))) 7 (by kernel_rfl) (AS2.out.drew.cell5) (fun hHeld0 => ?_)
   refine wpAnyT_take (i := 0) (v := ?_) rfl (by kernel_rfl) (by kernel_rfl) (by kernel_rfl) (fun _ _ _ h => h) (Or.inl ⟨by kernel_rfl, ?_⟩) (by assumption) ?_
   rotate_left
   ·intro w hSw; (try dsimp only at hSw); go_simp; (try with_reducible rfl)
   (try simp only [Act.put, List.getElem_toArray, List.getElem_cons_zero, List.getElem_cons_succ, List.setIfInBounds_toArray, List.set_cons_zero, List.set_cons_succ])
   refine wpAnyT_take (i := 1) (v := ?_) rfl (by kernel_rfl) (by kernel_rfl) (by kernel_rfl) (fun _ _ _ h => h) (Or.inl ⟨by kernel_rfl, ?_⟩) (by assumption) ?_
   rotate_left
   ·intro w hSw; (try dsimp only at hSw); go_simp; (try with_reducible rfl)
   (try simp only [Act.put, List.getElem_toArray, List.getElem_cons_zero, List.getElem_cons_succ, List.setIfInBounds_toArray, List.set_cons_zero, List.set_cons_succ])
   refine wpAnyT_take (i := 2) (v := ?_) rfl (by kernel_rfl) (by kernel_rfl) (by kernel_rfl) (fun _ _ _ h => h) (Or.inl ⟨by kernel_rfl, ?_⟩) (by assumption) ?_
   rotate_left
   ·intro w hSw; (try dsimp only at hSw); go_simp; (try with_reducible rfl)
   (try simp only [Act.put, List.getElem_toArray, List.getElem_cons_zero, List.getElem_cons_succ, List.setIfInBounds_toArray, List.set_cons_zero, List.set_cons_succ])
   refine wpAnyT_ready (rs := [3]) (by kernel_rfl) (by simp) ?_
   refine AllReadyT.cons rfl (fun K hK => ?_) AllReadyT.nil
   go_simp
   refine ((entry_c hF r2 _ (by have := HC2.out; have := HKL.out; omega) AS2.out.pst.drew)).mono ?_
   rintro e w3 (⟨x3, ks3, r3, v3, h1, rfl, hx, hk, h4, h5, hok, h7⟩ | ⟨q, hb, rfl, ho⟩)
   rotate_left
   ·have HH := Lib.hid (show Ps.block F l = .bad q ∧ Only (· = p.B) w w3 from ⟨by simp only [HR2.out.bad HI2.out hb, hb, Ps.O.bind_ok, Ps.O.bind_bad, eq_self, if_true, Bool.false_eq_true, if_false], AS2.out.drew.only.trans ho⟩)
    clear hb ho
    exact ⟨rfl, .inr ⟨_, HH.out.1, rfl, HH.out.2⟩⟩
   have HE3 := Lib.hid h1
   have HX3 := Lib.hid (And.intro hx hok)
   have HL3 := Lib.hid h7
   obtain ⟨ai3, hs3, h23⟩ := AS2.out.drew.asks h5 h4 hx hk hok
   refine hK.out _ _ ((AS2.out.drew.call h5 h4).cell5) (fun hHeld1 => ?_)
   clear hK K
   (try simp only [Act.put, List.getElem_toArray, List.getElem_cons_zero, List.getElem_cons_succ, List.setIfInBounds_toArray, List.set_cons_zero, List.set_cons_succ])
   refine wpAnyT_ready (rs := [4]) (by kernel_rfl) (by simp) ?_
   refine AllReadyT.cons rfl (fun K hK => ?_) AllReadyT.nil
   go_simp
   refine hK.out _ _ ai3.cell5 (fun hHeld2 => ?_)
   clear hK K
   (try simp only [Act.put, List.getElem_toArray, List.getElem_cons_zero, List.getElem_cons_succ, List.setIfInBounds_toArray, List.set_cons_zero, List.set_cons_succ])
   have AJ3 := Lib.hid ai3
   have HS3 := Lib.hid hs3
   have H23 := Lib.hid h23
   clear ai3 hs3 h23 h1 hx hk h4 h5 hok h7 hHeld0 hHeld1
   refine wpAnyT_ready (rs := [5]) (by kernel_rfl) (by simp) ?_
   refine AllReadyT.cons rfl (fun K hK => ?_) AllReadyT.nil
   refine step_nd (k2 := [(x3, v3)]) (.tmp 13) (.tmp 16) rfl rfl rfl AJ3.out.row rfl HS3.out H23.out AJ3.out.size (by first | (simp; done) | (have := HM.out; simp; omega)) ?_
   intro ka3 kc3 wa3 hr ho hl
   obtain ⟨q0, q1, q2⟩ := AJ3.out.more hr ho hl
   refine hK.out _ _ q0 (fun hHeld3 => ?_)
   clear hK K
   (try simp only [Act.put, List.getElem_toArray, List.getElem_cons_zero, List.getElem_cons_succ, List.setIfInBounds_toArray, List.set_cons_zero, List.set_cons_succ])
   refine wpAnyT_take (i := 6) (v := ?_) rfl (by kernel_rfl) (by kernel_rfl) (by kernel_rfl) (fun _ _ _ h => h) (Or.inl ⟨by kernel_rfl, ?_⟩) (by assumption) ?_
   rotate_left
   ·intro w hSw; (try dsimp only at hSw); go_simp; (try with_reducible rfl)
   (try simp only [Act.put, List.getElem_toArray, List.getElem_cons_zero, List.getElem_cons_succ, List.setIfInBounds_toArray, List.set_cons_zero, List.set_cons_succ])
   clear hr ho hl hHeld2 hHeld3
   refine wpAnyT_ready (rs := [7]) (by kernel_rfl) (by simp) ?_
   refine AllReadyT.fin rfl (fun K hK => ?_)
   go_simp
   refine hK.out _ _ ?_
   clear hK K
   (try simp only [Act.put, List.getElem_toArray, List.getElem_cons_zero, List.getElem_cons_succ, List.setIfInBounds_toArray, List.set_cons_zero, List.set_cons_succ])
   refine wpAnyT_done (by kernel_rfl) ?_ _
   have HOK := Lib.hid (HR2.out.ok (u := v3) HI2.out HE3.out HL3.out)
   obtain ⟨Y3, hY3⟩ : ∃ Y, wa3.setCell ⟨W0.heap.size, 5, none⟩ (.slice ka3 (ks2.length + 1) kc3) = Y := ⟨_, rfl⟩
   rw [show wa3.setCell ⟨W0.heap.size, 5, none⟩ (.slice ka3 (ks2.length + [(x3, v3)].length) kc3) = Y3 from hY3] at q2
   have AI4 := Lib.hid q2
   have HY3 := Lib.hid hY3
   clear hY3 q0 q1 q2
   rw [HY3.out]
   go_wp2_with fail
   refine (pskip_c Ps.kSemi r3 _ AI4.out.pst (by decide +kernel)).mono ?_
   rintro e w5 (⟨h1, rfl, h2, h3, h4⟩ | ⟨h1, rfl, h2, h3⟩)
   ·have HM2 := Lib.hid (HOK.out.1 h1 h4 (AI4.out.call h3 h2))
    have HL4 := Lib.hid h4
    clear h1 h2 h3 h4
    go_wp2_with fail
    go_roundw
    case rel => exact ⟨_, _, _, _, HM2⟩
    case measure =>
     have h1 := HM2.out.app.pst.ahead
     have h2 := HAH2.out
     have h3 := HL3.out
     have h4 := HL4.out
     rw [h1, h2]; omega
   ·have HE4 := Lib.hid (HOK.out.2.1 h1)
    have HC4 := Lib.hid HOK.out.2.2
    have AI5 := Lib.hid (AI4.out.call h3 h2)
    clear h1 h2 h3
    go_wp2_with fail
    refine (take_l [Ps.kRight] (ty := 9) AI5.out.pst (by first | rfl | simp) rfl rfl (by decide) (by decide +kernel)).mono ?_
    rintro e w6 (⟨t6, r6, h1, h2, rfl, h4, h5, h6⟩ | ⟨q, hb, rfl, ho⟩)
    rotate_left
    ·have HH := Lib.hid (show Ps.block F l = .bad q ∧ Only (· = p.B) w w6 from ⟨by rw [HE4.out, hb]; rfl, AI5.out.only.trans ho⟩)
     clear hb ho
     go_wp2_with fail
     exact ⟨rfl, .inr ⟨_, HH.out.1, rfl, HH.out.2⟩⟩
    have AI6 := Lib.hid (AI5.out.call h5 h4)
    have HE6 := Lib.hid (show Ps.block F l = .ok (Ps.nd 6 Ps.e0 Ps.e0 0 ((ks2 ++ [(x3, v3)]).map (·.1))) r6 by rw [HE4.out, h1]; rfl)
    have HL6 := Lib.hid (show r6.length + 1 = r3.length by rw [h2]; rfl)
    clear h1 h2 h4 h5 h6
    obtain ⟨⟨z0, z1, z2, z3, z4, z5⟩, g0, g1, g2, g3, g4, g5⟩ := nd_six AI6.out.box
    obtain ⟨⟨y0, y1, y2, y3, y4, y5⟩, f0, f1, f2, f3, f4, f5⟩ := nd_six AI6.out.res
    go_wp2_with fail
    refine AI6.out.end (y := Ps.nd 6 Ps.e0 Ps.e0 0 ((ks2 ++ [(x3, v3)]).map (·.1))) (by rfl) rfl rfl ⟨rfl, rfl, rfl, rfl, rfl⟩ HE6.out rfl (nd_ok1 _ _ _ _ _ (by decide) e0_size e0_size (by decide)) ?_
    have := HL6.out; have := HC4.out
    rw [count_nd]; omega
end
end Go.Proofs.YtfkmnpgpfmkjaaaGreatDoor
