/- The last token taken; Parse. -/
import Derived.Test.YtfkmnpgpfmkjaaaGreatDoorQy19
import Derived.Test.YtfkmnpgpfmkjaaaGreatDoorQw28
import Derived.Recover
import Derived.Defers
set_option linter.unusedSimpArgs false
set_option linter.unusedVariables false
set_option maxRecDepth 100000
namespace Go.Proofs.YtfkmnpgpfmkjaaaGreatDoor
open Go.ChangeShapes Go.WideShapes Go.ChangeAt Go.RowKit
attribute [local go_sem] Oper.semAt_some
open Ps (O W)
set_option maxHeartbeats 1000000 in
theorem pnext_e {p : PP} {t : Lx.T} {r : List Lx.T} (w : World) (hp : Pst p (t :: r) w) : Calls Tryz.prog 41 #[.pointer (some ⟨p.B, 0, none⟩)] w fun e w' => e = .returned (tAgg t) ∧ Only (· = p.B) w w' := by
 have hlt := hp.hi
 obtain ⟨W0, hW0⟩ : ∃ W0, w.alloc (.cells #[.int .i64 0, .string ⟨#[]⟩, .int .i64 0, .int .i64 0] 48) = W0 := ⟨_, rfl⟩
 have k0 : Kept w W0 := by rw [← hW0]; exact (Kept.refl w).alloc _
 have z0 : W0.heap.size = w.heap.size + 1 := by rw [← hW0]; simp
 have b0 : Blk W0 w.heap.size 48 #[.int .i64 0, .string ⟨#[]⟩, .int .i64 0, .int .i64 0] := by rw [← hW0]; exact Blk.new _ _ _
 obtain ⟨W1, hW1⟩ : ∃ W1, W0.alloc (.cells #[.int .i64 t.kind, .string t.text, .int .i64 t.n, .int .i64 t.pos] 48) = W1 := ⟨_, rfl⟩
 have k1 : Kept W0 W1 := by rw [← hW1]; exact (Kept.refl W0).alloc _
 have b1 : Blk W1 (w.heap.size + 1) 48 #[.int .i64 t.kind, .string t.text, .int .i64 t.n, .int .i64 t.pos] := by rw [← hW1, ← z0]; exact Blk.new _ _ _
 obtain ⟨⟨ad, c, hbw, hrow⟩, hg, hs, hlN⟩ := hp
 have hb := hbw.kept k0
 obtain ⟨b, o, rfl, hn, hnc, hcm, ⟨hbB, hbN⟩, h0, h1, h2, h3⟩ := row_head (toks_only (S := fun _ => False) hrow (Only.of_kept k0) (fun _ _ h => h))
 rw [List.length_cons] at hnc
 by_cases hc : c = 1
 ·obtain rfl : r = [] := List.eq_nil_of_length_eq_zero (by omega)
  subst hc
  clear hnc
  obtain ⟨W2, hW2⟩ : ∃ W2, W1.setCell ⟨p.B, 0, none⟩ (.slice (some ⟨b, o, none⟩) 0 0) = W2 := ⟨_, rfl⟩
  have o2 : Only (· = p.B) W1 W2 := by rw [← hW2]; exact (Only.refl _ _).put 0 _
  have B2 : Blk W2 p.B pT (pC (.slice (some ⟨b, o, none⟩) 0 0) p) := by rw [← hW2]; exact (hb.kept k1).put 0 _
  have cB0 := hb.cell 0
  have cB1 := (hb.kept k1).cell 0
  have fB1 := (hb.kept k1).frozen 0
  simp only [pC] at cB0 cB1
  simp at cB0 cB1
  have b2 : Blk W2 (w.heap.size + 1) 48 #[.int .i64 t.kind, .string t.text, .int .i64 t.n, .int .i64 t.pos] := b1.only o2 (by omega)
  have e2 : Blk W2 w.heap.size 48 #[.int .i64 0, .string ⟨#[]⟩, .int .i64 0, .int .i64 0] := (b0.kept k1).only o2 (by omega)
  have x0 := b2.cell 0
  have x1 := b2.cell 1
  have x2 := b2.cell 2
  have x3 := b2.cell 3
  have y0 := e2.cell 0
  have y1 := e2.cell 1
  have y2 := e2.cell 2
  have y3 := e2.cell 3
  have f0 := e2.frozen 0
  have f1 := e2.frozen 1
  have f2 := e2.frozen 2
  have f3 := e2.frozen 3
  simp at x0 x1 x2 x3 y0 y1 y2 y3
  have HP := Lib.hid (fun W' (ho : Only (· = w.heap.size) W2 W') => show Only (· = p.B) w W' from by
   refine ⟨ho.os.trans (o2.os.trans (k1.os.trans k0.os)), ho.output.trans (o2.output.trans (k1.output.trans k0.output)), Nat.le_trans k0.size (Nat.le_trans k1.size (Nat.le_trans o2.size ho.size)), fun k hk hkB => ?_⟩
   have := k0.size
   have := k1.size
   have := o2.size
   exact (ho.block k (by omega) (by omega)).trans ((o2.block k (by omega) hkB).trans ((k1.block k (by omega)).trans (k0.block k hk))))
  have HE2 := Lib.hid e2
  have HW0 := Lib.hid hW0
  have HW1 := Lib.hid hW1
  have HW2 := Lib.hid hW2
  have HB := Lib.hid hlt
  clear hbw hlN hbN k0 b0 k1 b1 hb hrow hg hs hn hcm hbB o2 B2 b2 e2 hW0 hW1 hW2 hlt
  go_enter Tryz.func41, Tryz.ntmps41
  go_wp2_with (first | rw [HW0.out] | rw [HW1.out] | rw [HW2.out])
  exact bodyPost_ret (tok_results (by rfl) _ _ rfl (put4t_blk HE2.out t)) rfl ⟨rfl, HP.out _ (put4t_only W2 w.heap.size t)⟩
 ·obtain ⟨W2, hW2⟩ : ∃ W2, W1.setCell ⟨p.B, 0, none⟩ (.slice (some ⟨b, o + 4, none⟩) r.length (c - 1)) = W2 := ⟨_, rfl⟩
  have o2 : Only (· = p.B) W1 W2 := by rw [← hW2]; exact (Only.refl _ _).put 0 _
  have B2 : Blk W2 p.B pT (pC (.slice (some ⟨b, o + 4, none⟩) r.length (c - 1)) p) := by rw [← hW2]; exact (hb.kept k1).put 0 _
  have cB0 := hb.cell 0
  have cB1 := (hb.kept k1).cell 0
  have fB1 := (hb.kept k1).frozen 0
  simp only [pC] at cB0 cB1
  simp at cB0 cB1
  have b2 : Blk W2 (w.heap.size + 1) 48 #[.int .i64 t.kind, .string t.text, .int .i64 t.n, .int .i64 t.pos] := b1.only o2 (by omega)
  have e2 : Blk W2 w.heap.size 48 #[.int .i64 0, .string ⟨#[]⟩, .int .i64 0, .int .i64 0] := (b0.kept k1).only o2 (by omega)
  have x0 := b2.cell 0
  have x1 := b2.cell 1
  have x2 := b2.cell 2
  have x3 := b2.cell 3
  have y0 := e2.cell 0
  have y1 := e2.cell 1
  have y2 := e2.cell 2
  have y3 := e2.cell 3
  have f0 := e2.frozen 0
  have f1 := e2.frozen 1
  have f2 := e2.frozen 2
  have f3 := e2.frozen 3
  simp at x0 x1 x2 x3 y0 y1 y2 y3
  have hc1 : (1 : Int) < (c : Int) := by omega
  have hc2 : ¬ c = 1 := by omega
  have hrlI : (0 : Int) ≤ (r.length : Int) := by omega
  have HP := Lib.hid (fun W' (ho : Only (· = w.heap.size) W2 W') => show Only (· = p.B) w W' from by
   refine ⟨ho.os.trans (o2.os.trans (k1.os.trans k0.os)), ho.output.trans (o2.output.trans (k1.output.trans k0.output)), Nat.le_trans k0.size (Nat.le_trans k1.size (Nat.le_trans o2.size ho.size)), fun k hk hkB => ?_⟩
   have := k0.size
   have := k1.size
   have := o2.size
   exact (ho.block k (by omega) (by omega)).trans ((o2.block k (by omega) hkB).trans ((k1.block k (by omega)).trans (k0.block k hk))))
  have HE2 := Lib.hid e2
  have HW0 := Lib.hid hW0
  have HW1 := Lib.hid hW1
  have HW2 := Lib.hid hW2
  have HB := Lib.hid hlt
  clear hc hbw hlN hbN k0 b0 k1 b1 hb hrow hg hs hn hnc hcm hbB o2 B2 b2 e2 hW0 hW1 hW2 hlt
  go_enter Tryz.func41, Tryz.ntmps41
  go_wp2_with (first | rw [HW0.out] | rw [HW1.out] | rw [HW2.out])
  exact bodyPost_ret (tok_results (by rfl) _ _ rfl (put4t_blk HE2.out t)) rfl ⟨rfl, HP.out _ (put4t_only W2 w.heap.size t)⟩
theorem ptake_e {p : PP} {l : List Lx.T} {X : World} {g : Nat} {ty : TypeId} (hp : Pst p l X) (hg : g = X.heap.size) :
  Calls Tryz.prog 25 #[.pointer (some ⟨p.B, 0, none⟩), .slice (some ⟨g, 0, none⟩) 1 1] (X.alloc (.cells #[.string Ps.theEnd] ty)) (fun e w' =>
   (∃ t r, Ps.take [Ps.theEnd] l = .ok t r ∧ e = .returned (tAgg t) ∧ Only (· = p.B) X w') ∨ (∃ q, Ps.take [Ps.theEnd] l = .bad q ∧ e = .panicked (refV 5 q) ∧ Only (· = p.B) X w')) := by
 subst hg
 obtain ⟨t, r, rfl, htok⟩ := hp.good.cons
 obtain ⟨Y, hY⟩ : ∃ Y, X.alloc (.cells #[.string Ps.theEnd] ty) = Y := ⟨_, rfl⟩
 have ky : Kept X Y := by rw [← hY]; exact (Kept.refl _).alloc _
 have by0 : LvR (fun _ => True) Y (.slice (some ⟨X.heap.size, 0, none⟩) 1 1) [Ps.theEnd] := by rw [← hY]; exact LvR.lit [Ps.theEnd] (Blk.new _ _ _) (short_len (by simp))
 rw [hY]
 obtain ⟨W0, hW0⟩ : ∃ W0, Y.alloc (.cells #[.int .i64 0, .string ⟨#[]⟩, .int .i64 0, .int .i64 0] 48) = W0 := ⟨_, rfl⟩
 have k0 : Kept Y W0 := by rw [← hW0]; exact (Kept.refl Y).alloc _
 have b0 : Blk W0 Y.heap.size 48 #[.int .i64 0, .string ⟨#[]⟩, .int .i64 0, .int .i64 0] := by rw [← hW0]; exact Blk.new _ _ _
 have hlN := (hp.kept ky).lt
 have HI := Lib.hid (is_c (fun _ => True) [Ps.theEnd] _ 1 1 W0 ((hp.kept ky).kept k0) rfl (by0.kept k0))
 have HP0 := Lib.hid ((hp.kept ky).kept k0)
 have HK0 := Lib.hid (ky.trans k0)
 have HB0 := Lib.hid b0
 have HW0 := Lib.hid hW0
 have HYS := Lib.hid (show X.heap.size ≤ Y.heap.size from ky.size)
 cases hm : Ps.mem [Ps.theEnd] (Ps.srt t) with
 | false =>
  rw [hm] at HI
  have HE := Lib.hid (show Ps.take [Ps.theEnd] (t :: r) = .bad t.pos by rw [Ps.take, hm]; rfl)
  clear hp k0 b0 hW0 htok hm hY ky by0
  go_enter Tryz.func25, Tryz.ntmps25
  go_wp2_with (rw [HW0.out])
  refine HI.out.mono ?_
  rintro e w1 ⟨rfl, k1⟩
  have HR := Lib.hid (prefuse_c w1 (HP0.out.kept k1))
  have HK1 := Lib.hid k1
  clear k1
  go_wp2_with fail
  refine HR.out.mono ?_
  rintro e w2 ⟨rfl, k2⟩
  go_wp2_with fail
  exact ⟨rfl, .inr ⟨_, HE.out, rfl, Only.of_kept ((HK0.out.trans HK1.out).trans k2)⟩⟩
 | true =>
  rw [hm] at HI
  have HE := Lib.hid (show Ps.take [Ps.theEnd] (t :: r) = .ok t r by rw [Ps.take, hm]; rfl)
  clear hp k0 b0 hW0 htok hm hY ky by0
  go_enter Tryz.func25, Tryz.ntmps25
  go_wp2_with (rw [HW0.out])
  refine HI.out.mono ?_
  rintro e w1 ⟨rfl, k1⟩
  have HR := Lib.hid (pnext_e w1 (HP0.out.kept k1))
  have HK1 := Lib.hid k1
  clear k1
  go_wp2_with fail
  refine HR.out.mono ?_
  rintro e w2 ⟨rfl, o2⟩
  have b2 := (HB0.out.kept HK1.out).only o2 (by omega)
  have f0 := b2.frozen 0
  have f1 := b2.frozen 1
  have f2 := b2.frozen 2
  have f3 := b2.frozen 3
  have y0 := b2.cell 0
  have y1 := b2.cell 1
  have y2 := b2.cell 2
  have y3 := b2.cell 3
  simp at y0 y1 y2 y3
  have HB2 := Lib.hid b2
  have HO2 := Lib.hid o2
  clear b2 o2
  go_wp2_with fail
  have h1 := put4t_only w2 Y.heap.size t
  have h2 := HYS.out
  refine bodyPost_ret (tok_results (by rfl) _ _ rfl (put4t_blk HB2.out t)) rfl (.inl ⟨t, r, HE.out, rfl, ?_⟩)
  have hO : Only (· = p.B) X w2 := (Only.of_kept (HK0.out.trans HK1.out)).trans HO2.out
  exact hO.past (h1.mono (T := fun k => Y.heap.size ≤ k) fun k _ e => by omega) h2
theorem pcatch_none (g h : Nat) (w : World) :
  CallsD Tryz.prog 22 #[.pointer (some ⟨g, 0, none⟩), .pointer (some ⟨h, 0, none⟩)] .returning w fun e u' w' => e = .returned (.tuple #[]) ∧ u' = .returning ∧ Kept w w' := by
 have hta : ∀ w, (Instr.typeAssert .nilIface 20 53 true).run Tryz.prog w = .ok (.tuple #[.agg #[.int .i64 0, .int .i64 0], .bool false]) w := fun _ => by kernel_rfl
 refine callsD_of_wpS Tryz.func22 rfl fun c₀ cs hu => ?_
 refine wpS_seq ?_
 refine wpS_region ?_
 simp [wpOpsS, go_sem, recoverD, hu, Tryz.ntmps22, Exit.thenS, hta]
 refine wpS_seq ?_
 refine wpS_region ?_
 simp [wpOpsS, go_sem, Exit.thenS]
 refine wpS_cond (t := false) (by simp [Act.eval, Array.replicate]) ?_
 refine wpS_of_wp ?_
 have hk := ((Kept.refl w).alloc (.cells #[.int .i64 0, .int .i64 0] 53))
 refine wp_skip ?_
 exact ⟨rfl, .returning, (by cases c₀; simp_all), .tuple #[], results_none rfl _ _ _, rfl, rfl, hk⟩
set_option maxHeartbeats 4000000 in
theorem pcatch_some (g h : Nat) (e0 a0 : Int) (x0 x1 x2 x3 x4 x5 y0 y1 : Value) (w : World) (hg : Blk w g nT #[x0, x1, x2, x3, x4, x5]) (hh : Blk w h 36 #[y0, y1]) (hne : g ≠ h) :
  CallsD Tryz.prog 22 #[.pointer (some ⟨g, 0, none⟩), .pointer (some ⟨h, 0, none⟩)] (.panicking (refV e0 a0)) w fun e u' w' => e = .returned (.tuple #[]) ∧ settle u' = .returning ∧
   Blk w' g nT pzN ∧ Blk w' h 36 #[.int .i64 e0, .int .i64 a0] ∧ Only (fun k => k = g ∨ k = h) w w' := by
 have hta : ∀ w, (Instr.typeAssert (.iface 53 (.agg #[.int .i64 e0, .int .i64 a0])) 20 53 true).run Tryz.prog w = .ok (.tuple #[.agg #[.int .i64 e0, .int .i64 a0], .bool true]) w := fun _ => by kernel_rfl
 refine callsD_of_wpS Tryz.func22 rfl fun c₀ cs hu => ?_
 refine wpS_seq ?_
 refine wpS_region ?_
 simp [wpOpsS, go_sem, recoverD, hu, Tryz.ntmps22, Exit.thenS, hta]
 refine wpS_seq ?_
 refine wpS_region ?_
 simp [wpOpsS, go_sem, Exit.thenS]
 refine wpS_cond (t := true) (by simp [Act.eval, Array.replicate]) ?_
 refine wpS_of_wp ?_
 obtain ⟨W0, hW0⟩ : ∃ W, w.alloc (.cells #[.int .i64 e0, .int .i64 a0] 53) = W := ⟨_, rfl⟩
 have k0 : Kept w W0 := by rw [← hW0]; exact (Kept.refl _).alloc _
 have b0 : Blk W0 w.heap.size 53 #[.int .i64 e0, .int .i64 a0] := by rw [← hW0]; exact Blk.new _ _ _
 have bg := hg.kept k0
 have bh := hh.kept k0
 have hgl := hg.lt
 have hhl := hh.lt
 rw [hW0]
 obtain ⟨D0, hD0⟩ : ∃ D, W0.drew = D := ⟨_, rfl⟩
 have kd : Kept W0 D0 := by rw [← hD0]; exact (Kept.refl _).drew
 have b1 := b0.kept kd
 have bg1 := bg.kept kd
 have bh1 := bh.kept kd
 have o1 : Only (fun k => k = g ∨ k = h) w D0 := Only.of_kept (k0.trans kd)
 clear hg hh hW0 k0 b0 bg bh kd hu hta
 rw [if_pos rfl]
 simp only [Nat.reduceAdd, Nat.reduceSub, Array.replicate_succ, Array.replicate_zero, List.push_toArray, List.append_toArray, List.nil_append, List.cons_append, List.setIfInBounds_toArray, List.set_cons_zero, List.set_cons_succ]
 refine wp_region_till (S := (fun W => W.cell? ⟨w.heap.size, 0, none⟩ = some (.int .i64 e0) ∧ W.cell? ⟨w.heap.size, 1, none⟩ = some (.int .i64 a0))) 3 (by kernel_rfl) (by rw [hD0]; exact ⟨b1.cell 0, b1.cell 1⟩) (fun hHeld0 => ?_)
 rw [hD0] at hHeld0 ⊢
 refine wpAnyT_take (i := 0) (v := ?_) rfl (by kernel_rfl) (by kernel_rfl) (by kernel_rfl) (fun _ _ _ h => h) (Or.inl ⟨by kernel_rfl, ?_⟩) (by assumption) ?_
 rotate_left
 ·intro w hSw; (try dsimp only at hSw); go_simp; (try with_reducible rfl)
 (try simp only [Act.put, List.getElem_toArray, List.getElem_cons_zero, List.getElem_cons_succ, List.setIfInBounds_toArray, List.set_cons_zero, List.set_cons_succ])
 refine wpAnyT_take (i := 1) (v := ?_) rfl (by kernel_rfl) (by kernel_rfl) (by kernel_rfl) (fun _ _ _ h => h) (Or.inl ⟨by kernel_rfl, ?_⟩) (by assumption) ?_
 rotate_left
 ·intro w hSw; (try dsimp only at hSw); go_simp; (try with_reducible rfl)
 (try simp only [Act.put, List.getElem_toArray, List.getElem_cons_zero, List.getElem_cons_succ, List.setIfInBounds_toArray, List.set_cons_zero, List.set_cons_succ])
 obtain ⟨_, g0, g1, g2, g3, g4, g5⟩ := nd_six bg1
 have hp2 := put6n_only D0 g (Ps.nd 0 Ps.e0 Ps.e0 0 []) (.slice none 0 0)
 obtain ⟨D1, hD1⟩ : ∃ D, put6n D0 g (Ps.nd 0 Ps.e0 Ps.e0 0 []) (.slice none 0 0) = D := ⟨_, rfl⟩
 have bg2 : Blk D1 g nT pzN := by rw [← hD1]; exact put6n_blk bg1 (Ps.nd 0 Ps.e0 Ps.e0 0 []) (.slice none 0 0)
 rw [hD1] at hp2
 have bh2 := bh1.only hp2 (fun e => hne e.symm)
 have b2 := b1.only hp2 (by omega)
 have o2 : Only (fun k => k = g ∨ k = h) w D1 := o1.trans (hp2.mono fun k _ e => .inl e)
 have HD1 := Lib.hid (show (((((D0.setCell ⟨g, 0, none⟩ (.int .i64 0)).setCell ⟨g, 1, none⟩ (.string ⟨#[]⟩)).setCell ⟨g, 2, none⟩ (.string ⟨#[]⟩)).setCell ⟨g, 3, none⟩ (.string ⟨#[]⟩)).setCell ⟨g, 4, none⟩ (.int .i64 0)).setCell ⟨g, 5, none⟩ (.slice none 0 0) = D1 from hD1)
 refine wpAnyT_ready (rs := [2]) (by kernel_rfl) (by simp) ?_
 refine AllReadyT.cons rfl (fun K hK => ?_) AllReadyT.nil
 go_simp
 rw [HD1.out]
 refine hK.out _ _ ⟨b2.cell 0, b2.cell 1⟩ (fun hHeld1 => ?_)
 clear hK K
 (try simp only [Act.put, List.getElem_toArray, List.getElem_cons_zero, List.getElem_cons_succ, List.setIfInBounds_toArray, List.set_cons_zero, List.set_cons_succ])
 have c0 := bh2.cell 0
 have c1 := bh2.cell 1
 have f0 := bh2.frozen 0
 have f1 := bh2.frozen 1
 have bh3 : Blk ((D1.setCell ⟨h, 0, none⟩ (.int .i64 e0)).setCell ⟨h, 1, none⟩ (.int .i64 a0)) h 36 #[.int .i64 e0, .int .i64 a0] := by
  have := (bh2.put 0 (.int .i64 e0)).put 1 (.int .i64 a0)
  simpa using this
 have o3 : Only (· = h) D1 ((D1.setCell ⟨h, 0, none⟩ (.int .i64 e0)).setCell ⟨h, 1, none⟩ (.int .i64 a0)) := ((Only.refl _ _).put 0 _).put 1 _
 have HB := Lib.hid (And.intro (bg2.only o3 hne) (And.intro bh3 (o2.trans (o3.mono fun k _ e => .inr e))))
 clear hHeld0 hHeld1 bh3 o3 bg2 o2 hD1 hp2 b2 bh2 b1 bg1 bh1 o1
 refine wpAnyT_ready (rs := [3]) (by kernel_rfl) (by simp) ?_
 refine AllReadyT.fin rfl (fun K hK => ?_)
 go_simp
 refine hK.out _ _ ?_
 clear hK K
 (try simp only [Act.put, List.getElem_toArray, List.getElem_cons_zero, List.getElem_cons_succ, List.setIfInBounds_toArray, List.set_cons_zero, List.set_cons_succ])
 refine wpAnyT_done (by kernel_rfl) ?_ _
 exact ⟨rfl, _, rfl, .tuple #[], results_none rfl _ _ _, rfl, rfl, HB.out.1, HB.out.2.1, HB.out.2.2⟩
end Go.Proofs.YtfkmnpgpfmkjaaaGreatDoor
namespace Go.Proofs.YtfkmnpgpfmkjaaaGreatDoor
open Go.ChangeShapes Go.WideShapes Go.ChangeAt Go.RowKit
attribute [local go_sem] Oper.semAt_some
open Ps (O W)
/-- A source's tree, or its first fault. -/
inductive PR where
 | tree (x : Nd)
 | fault (e a : Int)
def parseT (n : Int) (L : List Lx.T × Int × Int) : PR :=
 if L.2.1 = 0 then (match Ps.whole (L.1 ++ [Ps.theEndT n]) with
  | .bad q => .fault 5 q
  | .ok x _ => if (checkE x).1 = 0 then .tree x else .fault (checkE x).1 0)
 else .fault L.2.1 L.2.2
def parseP (l : List UInt8) : PR := parseT (l.length : Int) (Lx.lex l)
def ParsePost (R : PR) (w : World) (e : Ending) (w' : World) : Prop :=
 (∃ x ks v, R = .tree x ∧ e = .returned (.tuple #[ndV x v, .agg #[.int .i64 0, .int .i64 0]]) ∧ x.kids = ks.map (·.1) ∧ KRow w.heap.size w' v ks ∧ x.ok1 ∧ x.count ≤ 30000 ∧ (checkE x).1 = 0 ∧ Kept w w') ∨
 (∃ er ea, R = .fault er ea ∧ er ≠ 0 ∧ e = .returned (.tuple #[.agg #[.int .i64 0, .string ⟨#[]⟩, .string ⟨#[]⟩, .string ⟨#[]⟩, .int .i64 0, .slice none 0 0], .agg #[.int .i64 er, .int .i64 ea]]) ∧ Kept w w')
theorem parse_results {fn : Func} {p q : Tmp} (h : fn.results = #[.cell p nT, .cell q 36]) (tmps : Array Value) (W : World) {g g' : Nat} {e a x0 x1 x2 x3 x4 x5 : Value}
  (hp : tmps.getD p undef = .pointer (some ⟨g, 0, none⟩)) (hq : tmps.getD q undef = .pointer (some ⟨g', 0, none⟩))
  (hg : Blk W g nT #[x0, x1, x2, x3, x4, x5]) (hg' : Blk W g' 36 #[e, a]) :
  (results fn tmps).run Tryz.prog W = .ok (.tuple #[.agg #[x0, x1, x2, x3, x4, x5], .agg #[e, a]]) W := by
 have hp' : tmps[p]?.getD undef = .pointer (some ⟨g, 0, none⟩) := by simpa using hp
 have hq' : tmps[q]?.getD undef = .pointer (some ⟨g', 0, none⟩) := by simpa using hq
 have e2 := run_loadVar_row (P := Tryz.prog) W g' 36 36 #[e, a] (0, 0) _ hg' Tryz.underlying36 (by rfl) (by kernel_rfl)
 have e3 := run_loadVar_row (P := Tryz.prog) W g 25 25 #[x0, x1, x2, x3, x4, x5] (0, 0) _ hg Tryz.underlying25 (by rfl) (by kernel_rfl)
 simp [results, h, hp', hq', asAddr, e2, e3]
set_option maxHeartbeats 8000000 in
theorem parse_c (a : Option Addr) (c : Nat) (l : List UInt8) (w : World) (hs : SrcAt w (.slice a l.length c) l) (hT : Tb w) (hE : Er w) (hS : Sorts w) :
  Calls Tryz.prog 16 #[.slice a l.length c] w (ParsePost (parseP l) w) := by
 obtain ⟨L, hL⟩ : ∃ L, Lx.lex l = L := ⟨_, rfl⟩
 obtain ⟨tk, er, ea⟩ := L
 obtain ⟨R, hR⟩ : ∃ R, parseP l = R := ⟨_, rfl⟩
 have HR := Lib.hid (show parseT (l.length : Int) (tk, er, ea) = R by rw [← hL]; exact hR)
 rw [hR]
 have hmf : ∀ (fn : Fn) (first cap : Array Value) (w : World), (Instr.makeFunc fn first cap).run Tryz.prog w = .ok (.func fn first cap) w := fun _ _ _ _ => rfl
 obtain ⟨W0, hW0⟩ : ∃ W, w.alloc (.cells pzN nT) = W := ⟨_, rfl⟩
 obtain ⟨W1, hW1⟩ : ∃ W, W0.alloc (.cells #[.int .i64 0, .int .i64 0] 36) = W := ⟨_, rfl⟩
 have k0 : Kept w W0 := by rw [← hW0]; exact (Kept.refl _).alloc _
 have k1 : Kept W0 W1 := by rw [← hW1]; exact (Kept.refl _).alloc _
 have z0 : W0.heap.size = w.heap.size + 1 := by rw [← hW0]; simp
 have z1 : W1.heap.size = w.heap.size + 2 := by rw [← hW1]; simp [z0]
 have bg : Blk W1 w.heap.size nT pzN := by rw [← hW1]; exact (show Blk W0 w.heap.size nT pzN by rw [← hW0]; exact Blk.new _ _ _).alloc _
 have bh : Blk W1 (w.heap.size + 1) 36 #[.int .i64 0, .int .i64 0] := by rw [← hW1, ← z0]; exact Blk.new _ _ _
 have k01 := k0.trans k1
 have hsl : 0 < w.heap.size := by obtain ⟨t, fr, h⟩ := hS; exact (Array.getElem?_eq_some_iff.1 h).1
 have hS1 : Sorts W1 := by obtain ⟨t, fr, h⟩ := hS; exact ⟨t, fr, (k01.block _ (Array.getElem?_eq_some_iff.1 h).1).trans h⟩
 have HPO := Lib.hid (parserOf_c a c l tk er ea hL W1 (src_kept hs k01) (hT.kept k01) (hE.kept k01) hS1)
 have HT := Lib.hid hT
 have HK1 := Lib.hid k01
 have HBG := Lib.hid bg
 have HBH := Lib.hid bh
 have HW0 := Lib.hid hW0
 have HW1 := Lib.hid hW1
 have HZ1 := Lib.hid z1
 have HSL := Lib.hid hsl
 clear hs hT hE hS k0 k1 z1 bg bh k01 hS1 hW0 hW1 hL hR hsl
 go_enter_defers Tryz.func16, Tryz.ntmps16
 go_wp2_with (first | rw [HW0.out] | rw [HW1.out])
 refine HPO.out.mono ?_
 rintro e w2 (⟨h0, rfl, k2⟩ | ⟨h0, p, rfl, hf, hP, ⟨hB, hpL⟩, k2⟩)
 ·have HC := Lib.hid (pcatch_some w.heap.size (w.heap.size + 1) er ea _ _ _ _ _ _ _ _ w2 (HBG.out.kept k2) (HBH.out.kept k2) (by omega))
  have HK2 := Lib.hid (HK1.out.trans k2)
  have HRF := Lib.hid (show R = .fault er ea by rw [← HR.out, parseT, if_neg h0])
  have H0 := Lib.hid h0
  clear h0 k2
  go_wp2_with fail
  refine leaves_cons (f := 22) (args := #[.pointer (some ⟨w.heap.size, 0, none⟩), .pointer (some ⟨w.heap.size + 1, 0, none⟩)]) (by simp) (by simp [go_sem]) ?_
  refine HC.out.mono ?_
  rintro r u' w3 ⟨rfl, hu, b1, b2, o3⟩
  show Leaves _ _ _ _ _ (settle u') w3
  rw [hu]
  exact ⟨_, parse_results (by rfl) _ _ rfl rfl b1 b2, .inr ⟨_, _, HRF.out, H0.out, rfl, HK2.out.only o3 rfl (fun k hk => by omega)⟩⟩
 have hF := fam_c hf (tk ++ [Ps.theEndT (l.length : Int)]).length
 have HPR := Lib.hid (program_c hF (tk ++ [Ps.theEndT (l.length : Int)]) w2 (by omega) hP)
 have HLN := Lib.hid hP.len
 have HRW := Lib.hid (show R = (match (Ps.program (Ps.run (tk ++ [Ps.theEndT (l.length : Int)]).length) (tk ++ [Ps.theEndT (l.length : Int)])).bind fun n r => (Ps.take [Ps.theEnd] r).bind fun _ _ => .ok n [] with
  | .bad q => .fault 5 q
  | .ok x _ => if (checkE x).1 = 0 then .tree x else .fault (checkE x).1 0) by rw [← HR.out, parseT, if_pos h0]; rfl)
 have HB := Lib.hid (show w.heap.size + 2 ≤ p.B by rw [← HZ1.out]; exact hB)
 have HPL := Lib.hid (show p.L = w.heap.size + 2 by rw [← HZ1.out]; exact hpL)
 have HK2 := Lib.hid k2
 have HPB := Lib.hid hP.lt
 clear h0 hf hP hB hpL k2 hF
 go_wp2_with fail
 refine HPR.out.mono ?_
 rintro e w3 (⟨x3, k3, r3, v3, h1, rfl, hx, hk, h4, h5, hok, h7⟩ | ⟨q, hb, rfl, ho⟩)
 rotate_left
 ·have HC := Lib.hid (pcatch_some w.heap.size (w.heap.size + 1) 5 q _ _ _ _ _ _ _ _ w3 ((HBG.out.kept HK2.out).only ho (by have := HB.out; omega)) ((HBH.out.kept HK2.out).only ho (by have := HB.out; omega)) (by omega))
  have HK3 := Lib.hid ((HK1.out.trans HK2.out).only ho rfl (fun k hk => by have := HB.out; omega))
  have HRF := Lib.hid (show R = .fault 5 q by rw [HRW.out, hb]; rfl)
  clear hb ho
  go_wp2_with fail
  refine leaves_cons (f := 22) (args := #[.pointer (some ⟨w.heap.size, 0, none⟩), .pointer (some ⟨w.heap.size + 1, 0, none⟩)]) (by simp) (by simp [go_sem]) ?_
  refine HC.out.mono ?_
  rintro r u' w4 ⟨rfl, hu, b1, b2, o3⟩
  show Leaves _ _ _ _ _ (settle u') w4
  rw [hu]
  exact ⟨_, parse_results (by rfl) _ _ rfl rfl b1 b2, .inr ⟨_, _, HRF.out, by decide, rfl, HK3.out.only o3 rfl (fun k hk => by omega)⟩⟩
 obtain ⟨va3, vc3, rfl⟩ := hk.slice
 have bg3 := (HBG.out.kept HK2.out).only h5 (by have := HB.out; omega)
 have bh3 := (HBH.out.kept HK2.out).only h5 (by have := HB.out; omega)
 obtain ⟨W4, hW4⟩ : ∃ W, put6n w3 w.heap.size x3 (.slice va3 k3.length vc3) = W := ⟨_, rfl⟩
 have o4 : Only (· = w.heap.size) w3 W4 := by rw [← hW4]; exact put6n_only _ _ _ _
 have bg4 : Blk W4 w.heap.size nT (ndA x3 (.slice va3 k3.length vc3)) := by rw [← hW4]; exact put6n_blk bg3 _ _
 have bh4 := bh3.only o4 (by omega)
 have hs2 : w.heap.size + 2 ≤ w2.heap.size := by rw [← HZ1.out]; exact HK2.out.size
 have HP4 := Lib.hid (show Pst p r3 W4 from h4.onlyF o4 (by have := HB.out; omega) (fun b hb e => by
  have h1 := hb.2.2
  have h2 := HPL.out
  have h3 := HSL.out
  rcases h1 with h1 | h1 <;> omega))
 have HKR4 := Lib.hid (show KRow w2.heap.size W4 (.slice va3 k3.length vc3) k3 from hk.only o4 (fun k hk => by omega))
 have HK4 := Lib.hid (((HK1.out.trans HK2.out).only h5 rfl (fun k hk => by have := HB.out; omega)).only o4 rfl (fun k hk => by omega))
 have HE3 := Lib.hid h1
 have HX3 := Lib.hid (And.intro hx hok)
 have HL3 := Lib.hid h7
 have HBG4 := Lib.hid bg4
 have HBH4 := Lib.hid bh4
 have HW4 := Lib.hid (show (((((w3.setCell ⟨w.heap.size, 0, none⟩ (.int .i64 x3.kind)).setCell ⟨w.heap.size, 1, none⟩ (.string x3.text)).setCell ⟨w.heap.size, 2, none⟩ (.string x3.typ)).setCell ⟨w.heap.size, 3, none⟩ (.string x3.frm)).setCell ⟨w.heap.size, 4, none⟩ (.int .i64 x3.n)).setCell ⟨w.heap.size, 5, none⟩ (.slice va3 k3.length vc3) = W4 from hW4)
 obtain ⟨⟨y0, y1, y2, y3, y4, y5⟩, f0, f1, f2, f3, f4, f5⟩ := nd_six bg3
 clear h1 hx hk h4 h5 hok h7 bg3 bh3 o4 bg4 bh4 hW4 hs2
 go_wp2_with (rw [HW4.out])
 clear y0 y1 y2 y3 y4 y5 f0 f1 f2 f3 f4 f5
 refine (ptake_e HP4.out rfl).mono ?_
 rintro e w5 (⟨t5, r5, h1, rfl, ho⟩ | ⟨q, hb, rfl, ho⟩)
 rotate_left
 ·have HC := Lib.hid (pcatch_some w.heap.size (w.heap.size + 1) 5 q _ _ _ _ _ _ _ _ w5 (HBG4.out.only ho (by have := HB.out; omega)) (HBH4.out.only ho (by have := HB.out; omega)) (by omega))
  have HK5 := Lib.hid (HK4.out.only ho rfl (fun k hk => by have := HB.out; omega))
  have HRF := Lib.hid (show R = .fault 5 q by rw [HRW.out, HE3.out, Ps.O.bind_ok, hb]; rfl)
  clear hb ho
  go_wp2_with fail
  refine leaves_cons (f := 22) (args := #[.pointer (some ⟨w.heap.size, 0, none⟩), .pointer (some ⟨w.heap.size + 1, 0, none⟩)]) (by simp) (by simp [go_sem]) ?_
  refine HC.out.mono ?_
  rintro r u' w6 ⟨rfl, hu, b1, b2, o3⟩
  show Leaves _ _ _ _ _ (settle u') w6
  rw [hu]
  exact ⟨_, parse_results (by rfl) _ _ rfl rfl b1 b2, .inr ⟨_, _, HRF.out, by decide, rfl, HK5.out.only o3 rfl (fun k hk => by omega)⟩⟩
 have HK5 := Lib.hid (HK4.out.only ho rfl (fun k hk => by have := HB.out; omega))
 have hb5 := HBG4.out.only ho (by have := HB.out; omega)
 have HBH5 := Lib.hid (HBH4.out.only ho (by have := HB.out; omega))
 have HKR5 := Lib.hid (HKR4.out.onB ho (by have := HPB.out; omega))
 have HE5 := Lib.hid h1
 have HT5 := Lib.hid (HT.out.kept HK5.out)
 have HBG5 := Lib.hid hb5
 have HCH := Lib.hid (show Calls Tryz.prog 20 #[ndV x3 (.slice va3 k3.length vc3)] w5 (fun e w' => e = .returned (.agg #[.int .i64 (checkE x3).1, .int .i64 (checkE x3).2]) ∧ Kept w5 w') from by
  have hl : k3.length = x3.kids.length := by rw [HX3.out.1, List.length_map]
  rw [hl]
  refine check_c x3 va3 vc3 w5 HT5.out HX3.out.2 ?_ (by have := HL3.out; have := HLN.out; omega)
  have := HKR5.out.kids.at
  rw [← HX3.out.1, hl] at this
  exact this)
 obtain ⟨⟨y0, y1, y2, y3, y4, y5⟩, f0, f1, f2, f3, f4, f5⟩ := nd_six hb5
 clear h1 ho hb5
 go_wp2_with fail
 clear y0 y1 y2 y3 y4 y5 f0 f1 f2 f3 f4 f5
 refine HCH.out.mono ?_
 rintro e w6 ⟨rfl, k6⟩
 have HK6 := Lib.hid (HK5.out.trans k6)
 have HKR6 := Lib.hid (HKR5.out.kept k6)
 have hb6 := HBG5.out.kept k6
 have HBH6 := Lib.hid (HBH5.out.kept k6)
 have HBG6 := Lib.hid hb6
 clear k6
 obtain ⟨ce, hce⟩ : ∃ ce, (checkE x3).1 = ce := ⟨_, rfl⟩
 obtain ⟨ca, hca⟩ : ∃ ca, (checkE x3).2 = ca := ⟨_, rfl⟩
 rw [hce, hca]
 have HRE := Lib.hid (show R = if (checkE x3).1 = 0 then .tree x3 else .fault (checkE x3).1 0 by rw [HRW.out, HE3.out, Ps.O.bind_ok, HE5.out]; rfl)
 by_cases h0 : ce = 0
 ·subst h0
  have HRF := Lib.hid (show R = .tree x3 by rw [HRE.out, if_pos hce])
  have HCE := Lib.hid hce
  clear hca hce
  obtain ⟨V6, hV6⟩ : ∃ V, w6.alloc (.cells #[.int .i64 0, .int .i64 ca] 36) = V := ⟨_, rfl⟩
  have kv : Kept w6 V6 := by rw [← hV6]; exact (Kept.refl _).alloc _
  have bv : Blk V6 w6.heap.size 36 #[.int .i64 0, .int .i64 ca] := by rw [← hV6]; exact Blk.new _ _ _
  have HV6 := Lib.hid hV6
  have v0 := bv.cell 0
  have v1 := bv.cell 1
  obtain ⟨⟨y0, y1, y2, y3, y4, y5⟩, f0, f1, f2, f3, f4, f5⟩ := nd_six (hb6.kept kv)
  have bh6 := HBH6.out.kept kv
  have i0 := bh6.cell 0
  have i1 := bh6.cell 1
  have j0 := bh6.frozen 0
  have j1 := bh6.frozen 1
  have HK7 := Lib.hid (HK6.out.trans kv)
  have HKR7 := Lib.hid (HKR6.out.kept kv)
  have HB7 := Lib.hid (And.intro (hb6.kept kv) bh6)
  clear hV6 kv bv hb6 bh6
  go_wp2_with (rw [HV6.out])
  clear y0 y1 y2 y3 y4 y5 f0 f1 f2 f3 f4 f5 i0 i1 j0 j1 v0 v1
  have hzk := HK2.out.size
  have hz1 := HZ1.out
  have o7 := put6n_only V6 w.heap.size x3 (.slice va3 k3.length vc3)
  have g7 := put6n_blk HB7.out.1 x3 (.slice va3 k3.length vc3)
  have h7 := HB7.out.2.only o7 (by omega)
  obtain ⟨W7, hW7⟩ : ∃ W, put6n V6 w.heap.size x3 (.slice va3 k3.length vc3) = W := ⟨_, rfl⟩
  rw [hW7] at o7 g7 h7
  have o8 : Only (· = w.heap.size + 1) W7 ((W7.setCell ⟨w.heap.size + 1, 0, none⟩ (.int .i64 0)).setCell ⟨w.heap.size + 1, 1, none⟩ (.int .i64 0)) := ((Only.refl _ _).put 0 _).put 1 _
  have h8 : Blk ((W7.setCell ⟨w.heap.size + 1, 0, none⟩ (.int .i64 0)).setCell ⟨w.heap.size + 1, 1, none⟩ (.int .i64 0)) (w.heap.size + 1) 36 #[.int .i64 0, .int .i64 0] := by
   have := (h7.put 0 (.int .i64 0)).put 1 (.int .i64 0)
   simpa using this
  have g8 := g7.only o8 (by omega)
  have kr8 := (HKR7.out.only o7 (fun k hk => by omega)).only o8 (fun k hk => by omega)
  have k8 := (HK7.out.only o7 rfl (fun k hk => by omega)).only o8 rfl (fun k hk => by omega)
  obtain ⟨W8, hW8⟩ : ∃ W, (W7.setCell ⟨w.heap.size + 1, 0, none⟩ (.int .i64 0)).setCell ⟨w.heap.size + 1, 1, none⟩ (.int .i64 0) = W := ⟨_, rfl⟩
  rw [hW8] at h8 g8 kr8 k8
  have HC := Lib.hid (pcatch_none w.heap.size (w.heap.size + 1) W8)
  have HF := Lib.hid (And.intro g8 (And.intro h8 (And.intro kr8 k8)))
  have hL1 := HL3.out
  have hL2 := HLN.out
  have HCNT := Lib.hid (show x3.count ≤ 30000 by omega)
  have HWW := Lib.hid (show (((((((V6.setCell ⟨w.heap.size, 0, none⟩ (.int .i64 x3.kind)).setCell ⟨w.heap.size, 1, none⟩ (.string x3.text)).setCell ⟨w.heap.size, 2, none⟩ (.string x3.typ)).setCell ⟨w.heap.size, 3, none⟩ (.string x3.frm)).setCell ⟨w.heap.size, 4, none⟩ (.int .i64 x3.n)).setCell ⟨w.heap.size, 5, none⟩ (.slice va3 k3.length vc3)).setCell ⟨w.heap.size + 1, 0, none⟩ (.int .i64 0)).setCell ⟨w.heap.size + 1, 1, none⟩ (.int .i64 0) = W8 by rw [← hW8, ← hW7]; rfl)
  have HSZ := Lib.hid (show w.heap.size ≤ w2.heap.size by omega)
  clear o7 g7 h7 hW7 o8 h8 g8 kr8 k8 hW8 hL1 hL2 hzk hz1
  rw [HWW.out]
  refine leaves_cons (f := 22) (args := #[.pointer (some ⟨w.heap.size, 0, none⟩), .pointer (some ⟨w.heap.size + 1, 0, none⟩)]) (by simp) (by simp [go_sem]) ?_
  refine HC.out.mono ?_
  rintro r u' w9 ⟨rfl, rfl, k9⟩
  exact ⟨_, parse_results (by rfl) _ _ rfl rfl (HF.out.1.kept k9) (HF.out.2.1.kept k9), .inl ⟨x3, k3, _, HRF.out, rfl, HX3.out.1, (HF.out.2.2.1.kept k9).lower HSZ.out, HX3.out.2, HCNT.out, HCE.out, HF.out.2.2.2.trans k9⟩⟩
 ·have hb1 : (ce == 0) = false := by simpa using h0
  have hb2 : (ce != 0) = true := by simpa using h0
  have HRF := Lib.hid (show R = .fault ce 0 by rw [HRE.out, hce, if_neg h0])
  have H0 := Lib.hid h0
  clear hca hce h0
  obtain ⟨V6, hV6⟩ : ∃ V, w6.alloc (.cells #[.int .i64 ce, .int .i64 ca] 36) = V := ⟨_, rfl⟩
  have kv : Kept w6 V6 := by rw [← hV6]; exact (Kept.refl _).alloc _
  have bv : Blk V6 w6.heap.size 36 #[.int .i64 ce, .int .i64 ca] := by rw [← hV6]; exact Blk.new _ _ _
  have HV6 := Lib.hid hV6
  have v0 := bv.cell 0
  have HC := Lib.hid (pcatch_some w.heap.size (w.heap.size + 1) ce 0 _ _ _ _ _ _ _ _ V6 (hb6.kept kv) (HBH6.out.kept kv) (by omega))
  have HK7 := Lib.hid (HK6.out.trans kv)
  clear hV6 kv bv hb6
  go_wp2_with (rw [HV6.out])
  refine leaves_cons (f := 22) (args := #[.pointer (some ⟨w.heap.size, 0, none⟩), .pointer (some ⟨w.heap.size + 1, 0, none⟩)]) (by simp) (by simp [go_sem]) ?_
  refine HC.out.mono ?_
  rintro r u' w8 ⟨rfl, hu, b1, b2, o3⟩
  show Leaves _ _ _ _ _ (settle u') w8
  rw [hu]
  exact ⟨_, parse_results (by rfl) _ _ rfl rfl b1 b2, .inr ⟨_, _, HRF.out, H0.out, rfl, HK7.out.only o3 rfl (fun k hk => by omega)⟩⟩
namespace Px
abbrev e0 : ByteArray := ⟨#[]⟩
def nd (k : Int) (t y : ByteArray) (n : Int) (ks : List Nd) : Nd := .mk k t y e0 n ks
def num (n : Int) : Nd := nd 7 e0 e0 n []
def nam (s : ByteArray) : Nd := nd 14 s e0 0 []
def prog (l : List Nd) : Nd := nd 1 e0 e0 0 [nd 6 e0 e0 0 l]
def s1 : ByteArray := ⟨#[109, 97, 105, 110, 123, 125]⟩
def s2 : ByteArray := ⟨#[109, 97, 105, 110, 123, 49, 43, 50, 42, 51, 59, 125]⟩
def s3 : ByteArray := ⟨#[109, 97, 105, 110, 123, 49, 61, 50, 125]⟩
def s4 : ByteArray := ⟨#[109, 97, 105, 110, 123, 120, 61, 121, 46, 102, 40, 49, 41, 46, 103, 125]⟩
def s5 : ByteArray := ⟨#[109, 97, 105, 110, 123, 97, 46, 98, 61, 40, 99, 58, 63, 41, 125]⟩
def s6 : ByteArray := ⟨#[109, 97, 105, 110, 123, 45, 49, 45, 40, 41, 125]⟩
def s7 : ByteArray := ⟨#[99, 108, 97, 115, 115, 32, 65, 58, 66, 123, 118, 97, 114, 32, 120, 59, 100, 101, 102, 32, 102, 40, 97, 58, 105, 110, 116, 41, 58, 65, 123, 116, 104, 105, 115, 125, 125, 109, 97, 105, 110, 123, 125]⟩
def s8 : ByteArray := ⟨#[]⟩
def s9 : ByteArray := ⟨#[109, 97, 105, 110, 123, 108, 101, 116, 32, 120, 125]⟩
def s10 : ByteArray := ⟨#[109, 97, 105, 110, 123, 125, 32, 49]⟩
def s11 : ByteArray := ⟨#[109, 97, 105, 110, 123, 34]⟩
def s12 : ByteArray := ⟨#[109, 97, 105, 110, 123, 49]⟩
def t1 : Nd := prog []
def t2 : Nd := prog [nd 25 ⟨#[43]⟩ e0 0 [num 1, nd 25 ⟨#[42]⟩ e0 0 [num 2, num 3]]]
def t4 : Nd := prog [nd 16 ⟨#[120]⟩ e0 0 [nd 17 ⟨#[103]⟩ e0 0 [nd 19 ⟨#[102]⟩ e0 0 [nam ⟨#[121]⟩, num 1]]]]
def t5 : Nd := prog [nd 18 ⟨#[98]⟩ e0 0 [nam ⟨#[97]⟩, nd 28 e0 ⟨#[63]⟩ 0 [nam ⟨#[99]⟩]]]
def t6 : Nd := prog [nd 25 ⟨#[45]⟩ e0 0 [nd 24 ⟨#[45]⟩ e0 0 [num 1], nd 11 e0 e0 0 []]]
def t7 : Nd := nd 1 e0 e0 0 [nd 2 ⟨#[65]⟩ ⟨#[66]⟩ 0 [nd 3 ⟨#[120]⟩ ⟨#[63]⟩ 0 [], nd 4 ⟨#[102]⟩ ⟨#[65]⟩ 0 [nd 5 ⟨#[97]⟩ ⟨#[105, 110, 116]⟩ 0 [], nd 6 e0 e0 0 [nd 13 e0 e0 0 []]]], nd 6 e0 e0 0 []]
end Px
open Px
theorem px1 : parseP s1.data.toList = .tree t1 := by kernel_rfl
theorem px2 : parseP s2.data.toList = .tree t2 := by kernel_rfl
theorem px3 : parseP s3.data.toList = .fault 5 6 := by kernel_rfl
theorem px4 : parseP s4.data.toList = .tree t4 := by kernel_rfl
theorem px5 : parseP s5.data.toList = .tree t5 := by kernel_rfl
theorem px6 : parseP s6.data.toList = .tree t6 := by kernel_rfl
theorem px7 : parseP s7.data.toList = .tree t7 := by kernel_rfl
theorem px8 : parseP s8.data.toList = .fault 5 0 := by kernel_rfl
theorem px9 : parseP s9.data.toList = .fault 5 10 := by kernel_rfl
theorem px10 : parseP s10.data.toList = .fault 5 7 := by kernel_rfl
theorem px11 : parseP s11.data.toList = .fault 5 5 := by kernel_rfl
theorem px12 : parseP s12.data.toList = .fault 5 6 := by kernel_rfl
end Go.Proofs.YtfkmnpgpfmkjaaaGreatDoor
