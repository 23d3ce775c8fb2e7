/- casts, enters. (genck.py) -/
import Derived.Test.YtdceafncncgfbaaDoorCkv
import Derived.Deep.Cut
set_option linter.unusedSimpArgs false
set_option linter.unusedVariables false
set_option maxRecDepth 100000
namespace Go.Proofs.YtdceafncncgfbaaDoor
open Go.ChangeShapes Go.WideShapes Go.ChangeAt Go.RowKit Go.Shelf

theorem sent_false (l : List Ly) (r : Except Int (List Ly)) : Co.sent false l r = r := by
  cases r with
  | ok l' => simp [Co.sent, Co.sentP]
  | error q => rfl
theorem lys_put {w w' : World} {v : Value} {l : List Ly} {qb : Nat} (h : LysAt w v l) (hq : Blk w qb uT uZ) (ho : Only (· = qb) w w') : LysAt w' v l := h.mono fun b o x r => by
  have hb : ¬ b = qb := by
    rintro rfl
    have := r.1
    rw [hq.cell] at this
    have hm := Array.mem_of_getElem? this
    simp at hm
  exact ⟨ho.cellN r.1 hb, ho.cellN r.2.1 hb, ho.cellN r.2.2.1 hb, r.2.2.2⟩

set_option maxHeartbeats 16000000 in
theorem casts_c (x : Vw) (va : Option Addr) (vc : Nat) (l : List Ly) (s u : ByteArray) (lab : Int) (y : Vw) (wa : Option Addr) (wn : Nat) (m : List Ly) (blamed : Int) (w : World) (hTb : Tb w) (hv : LysAt w (.slice va l.length vc) l) (hw : LysAt w (.slice wa m.length wn) m) (hb : s.size ≤ maxLen) (hu : u.size ≤ maxLen) (hs : x.s.size ≤ maxLen) (hl : l.length ≤ 900) :
    Calls Tryd.prog 12 #[vV x (.slice va l.length vc), .string s, .string u, .int .i64 lab, vV y (.slice wa m.length wn), .int .i64 blamed] w fun e w' => e = .returned (.bool (decide ((Co.valR x (Co.castR someT x l s u lab)).1 = y ∧ (Co.valR x (Co.castR someT x l s u lab)).2 = m) && decide (Co.labR (Co.castR someT x l s u lab) = blamed))) ∧ Kept w w' := by
  obtain ⟨v2, hv2⟩ : ∃ v, Co.valR x (Co.castR someT x l s u lab) = v := ⟨_, rfl⟩
  obtain ⟨lb, hlb⟩ : ∃ v, Co.labR (Co.castR someT x l s u lab) = v := ⟨_, rfl⟩
  have HC := Lib.hid (fun W (ta : Option Addr) (tcp : Nat) (hT : TabAt W (.slice ta someT.length tcp) someT) (k : Kept w W) => show Calls Tryd.prog 25 #[.slice ta someT.length tcp, vV x (.slice va l.length vc), .string s, .string u, .int .i64 lab, .bool false] W (AnsPost v2 lb W) from (ocast_c false x va vc l ta tcp someT s u lab W hT some_small (hTb.kept k) (lys_kept hv k) hb hu hs hl).mono (fun e w' h => by have := ans_of h; rwa [sent_false, hv2, hlb] at this))
  rw [hv2, hlb]
  obtain ⟨W1, hW1⟩ : ∃ W, w.alloc (.cells #[.int .i64 x.tag, .int .i64 x.n, .int .u64 x.bits, .string x.s, .slice va l.length vc] uT) = W := ⟨_, rfl⟩
  obtain ⟨W2, hW2⟩ : ∃ W, W1.alloc (.cells #[.int .i64 y.tag, .int .i64 y.n, .int .u64 y.bits, .string y.s, .slice wa m.length wn] uT) = W := ⟨_, rfl⟩
  have z1 : W1.heap.size = w.heap.size + 1 := by rw [← hW1]; simp
  have k1 : Kept w W1 := by rw [← hW1]; exact (Kept.refl _).alloc _
  have k2 : Kept W1 W2 := by rw [← hW2]; exact (Kept.refl _).alloc _
  obtain ⟨D, hD⟩ : ∃ D, W2.drew = D := ⟨_, rfl⟩
  have b1 : Blk D w.heap.size uT #[.int .i64 x.tag, .int .i64 x.n, .int .u64 x.bits, .string x.s, .slice va l.length vc] := by
    rw [← hD]
    exact ((show Blk W1 w.heap.size uT _ by rw [← hW1]; exact Blk.new _ _ _).kept k2).kept (Kept.refl _).drew
  have b2 : Blk D (w.heap.size + 1) uT #[.int .i64 y.tag, .int .i64 y.n, .int .u64 y.bits, .string y.s, .slice wa m.length wn] := by
    rw [← hD]
    exact (show Blk W2 (w.heap.size + 1) uT _ by rw [← hW2, ← z1]; exact Blk.new _ _ _).kept (Kept.refl _).drew
  have HKD := Lib.hid (show Kept w D by rw [← hD]; exact (k1.trans k2).drew)
  have HB2 := Lib.hid b2
  obtain ⟨⟨p0, p1, p2, p3, p4⟩, _⟩ := blk5u b1
  have hSK : ∀ W, Kept D W → W.cell? ⟨w.heap.size, 0, none⟩ = some (.int .i64 x.tag) ∧ W.cell? ⟨w.heap.size, 1, none⟩ = some (.int .i64 x.n) ∧ W.cell? ⟨w.heap.size, 2, none⟩ = some (.int .u64 x.bits) ∧ W.cell? ⟨w.heap.size, 3, none⟩ = some (.string x.s) ∧ W.cell? ⟨w.heap.size, 4, none⟩ = some (.slice va l.length vc) := fun W k => ⟨k.cell p0, k.cell p1, k.cell p2, k.cell p3, k.cell p4⟩
  have HV := Lib.hid hv
  have HWV := Lib.hid hw
  have HW1 := Lib.hid hW1
  have HW2 := Lib.hid hW2
  clear hv hw hW1 hW2 k1 k2 b1 b2 hTb hs hl hv2 hlb hb hu
  go_enter Tryd.func12, Tryd.ntmps12
  go_upto_region 1 with (first | rw [HW1.out] | rw [z1] | rw [HW2.out])
  go_cut [13, 14] from 15 (fun sq sl wx => ∃ q ca cc, sq = .pointer (some ⟨q, 0, none⟩) ∧ sl = .int .i64 lb ∧ Hid (Blk wx q uT #[.int .i64 v2.1.tag, .int .i64 v2.1.n, .int .u64 v2.1.bits, .string v2.1.s, .slice ca v2.2.length cc]) ∧ Hid (LysAt wx (.slice ca v2.2.length cc) v2.2) ∧ Hid (Kept D wx))
  case rest =>
    obtain ⟨q, ca, cc, rfl, rfl, HQ, HAN, HKX⟩ := hcut
    clear hD hSK p0 p1 p2 p3 p4
    obtain ⟨⟨g0, g1, g2, g3, g4⟩, _⟩ := blk5u HQ.out
    obtain ⟨⟨h0, h1, h2, h3, h4⟩, _⟩ := blk5u (HB2.out.kept HKX.out)
    have HSV := Lib.hid (sameV_c v2.1 y v2.2 m ca wa cc wn wc HAN.out (lys_kept HWV.out (HKD.out.trans HKX.out)))
    cases hsm : decide (v2.1 = y ∧ v2.2 = m) with
    | true =>
      rw [hsm] at HSV
      have HE := Lib.hid hsm
      clear hsm
      have heb : (lb == blamed) = decide (lb = blamed) := rfl
      go_wp2_with fail
      refine HSV.out.mono ?_
      rintro e w3 ⟨rfl, k3⟩
      go_wp2_with fail
      go_ret
      exact ⟨by rw [HE.out, Bool.true_and]; rfl, (HKD.out.trans HKX.out).trans k3⟩
    | false =>
      rw [hsm] at HSV
      have HE := Lib.hid hsm
      clear hsm
      go_wp2_with fail
      refine HSV.out.mono ?_
      rintro e w3 ⟨rfl, k3⟩
      go_wp2_with fail
      go_ret
      exact ⟨by rw [HE.out, Bool.false_and]; rfl, (HKD.out.trans HKX.out).trans k3⟩
  rename_i J1 K1 hJ1 hK1
  refine wp_region_held_drew (S := (fun W => W.cell? ⟨w.heap.size, 0, none⟩ = some (.int .i64 x.tag) ∧ W.cell? ⟨w.heap.size, 1, none⟩ = some (.int .i64 x.n) ∧ W.cell? ⟨w.heap.size, 2, none⟩ = some (.int .u64 x.bits) ∧ W.cell? ⟨w.heap.size, 3, none⟩ = some (.string x.s) ∧ W.cell? ⟨w.heap.size, 4, none⟩ = some (.slice va l.length vc))) (by kernel_rfl) (by rw [hD]; exact hSK D (Kept.refl _)) (fun hHeld0 => ?_)
  rw [hD] at hHeld0 ⊢
  clear hD
  have kq : Kept D D := Kept.refl _
  refine wpAnyH_take (i := 1) (v := ?_) rfl (by kernel_rfl) (by kernel_rfl) (by kernel_rfl) (fun _ _ _ h => h) (Or.inl ⟨by kernel_rfl, ?_⟩) (by assumption) ?_
  rotate_left
  · intro w hSw; (try dsimp only at hSw); go_simp; (try with_reducible rfl)
  (try simp only [Act.put, List.getElem_toArray, List.getElem_cons_zero, List.getElem_cons_succ, List.setIfInBounds_toArray, List.set_cons_zero, List.set_cons_succ])
  refine wpAnyH_take (i := 2) (v := ?_) rfl (by kernel_rfl) (by kernel_rfl) (by kernel_rfl) (fun _ _ _ h => h) (Or.inl ⟨by kernel_rfl, ?_⟩) (by assumption) ?_
  rotate_left
  · intro w hSw; (try dsimp only at hSw); go_simp; (try with_reducible rfl)
  (try simp only [Act.put, List.getElem_toArray, List.getElem_cons_zero, List.getElem_cons_succ, List.setIfInBounds_toArray, List.set_cons_zero, List.set_cons_succ])
  refine wpAnyH_take (i := 3) (v := ?_) rfl (by kernel_rfl) (by kernel_rfl) (by kernel_rfl) (fun _ _ _ h => h) (Or.inl ⟨by kernel_rfl, ?_⟩) (by assumption) ?_
  rotate_left
  · intro w hSw; (try dsimp only at hSw); go_simp; (try with_reducible rfl)
  (try simp only [Act.put, List.getElem_toArray, List.getElem_cons_zero, List.getElem_cons_succ, List.setIfInBounds_toArray, List.set_cons_zero, List.set_cons_succ])
  refine wpAnyH_take (i := 4) (v := ?_) rfl (by kernel_rfl) (by kernel_rfl) (by kernel_rfl) (fun _ _ _ h => h) (Or.inl ⟨by kernel_rfl, ?_⟩) (by assumption) ?_
  rotate_left
  · intro w hSw; (try dsimp only at hSw); go_simp; (try with_reducible rfl)
  (try simp only [Act.put, List.getElem_toArray, List.getElem_cons_zero, List.getElem_cons_succ, List.setIfInBounds_toArray, List.set_cons_zero, List.set_cons_succ])
  refine wpAnyH_ready (rs := [0,9]) (by kernel_rfl) (by simp) ?_
  refine AllReadyH.cons rfl (fun K hK => ?_) (AllReadyH.cons rfl (fun K hK => ?_) AllReadyH.nil)
  · go_simp
    refine (some_c D).mono ?_
    rintro e x1 ⟨ta, tcp, rfl, hT, kn⟩
    have HTB := Lib.hid hT
    clear hT
    replace kq := kq.trans kn
    clear kn
    refine hK.out _ _ (hSK _ kq) (fun hHeld1 => ?_)
    clear hK K
    (try simp only [Act.put, List.getElem_toArray, List.getElem_cons_zero, List.getElem_cons_succ, List.setIfInBounds_toArray, List.set_cons_zero, List.set_cons_succ])
    refine wpAnyH_ready (rs := [5,9]) (by kernel_rfl) (by simp) ?_
    refine AllReadyH.cons rfl (fun K hK => ?_) (AllReadyH.cons rfl (fun K hK => ?_) AllReadyH.nil)
    · go_simp
      refine (HC.out x1 ta tcp HTB.out (HKD.out.trans kq)).mono ?_
      rintro e x2 ⟨ca, cc, rfl, hly, kn⟩
      have HAN := Lib.hid hly
      clear hly
      replace HTB := Lib.hid (tab_kept HTB.out kn)
      replace kq := kq.trans kn
      clear kn
      refine hK.out _ _ (hSK _ kq) (fun hHeld2 => ?_)
      clear hK K
      (try simp only [Act.put, List.getElem_toArray, List.getElem_cons_zero, List.getElem_cons_succ, List.setIfInBounds_toArray, List.set_cons_zero, List.set_cons_succ])
      refine wpAnyH_take (i := 6) (v := ?_) rfl (by kernel_rfl) (by kernel_rfl) (by kernel_rfl) (fun _ _ _ h => h) (Or.inl ⟨by kernel_rfl, ?_⟩) (by assumption) ?_
      rotate_left
      · intro w hSw; (try dsimp only at hSw); go_simp; (try with_reducible rfl)
      (try simp only [Act.put, List.getElem_toArray, List.getElem_cons_zero, List.getElem_cons_succ, List.setIfInBounds_toArray, List.set_cons_zero, List.set_cons_succ])
      refine wpAnyH_take (i := 7) (v := ?_) rfl (by kernel_rfl) (by kernel_rfl) (by kernel_rfl) (fun _ _ _ h => h) (Or.inl ⟨by kernel_rfl, ?_⟩) (by assumption) ?_
      rotate_left
      · intro w hSw; (try dsimp only at hSw); go_simp; (try with_reducible rfl)
      (try simp only [Act.put, List.getElem_toArray, List.getElem_cons_zero, List.getElem_cons_succ, List.setIfInBounds_toArray, List.set_cons_zero, List.set_cons_succ])
      refine wpAnyH_take (i := 8) (v := ?_) rfl (by kernel_rfl) (by kernel_rfl) (by kernel_rfl) (fun _ _ _ h => h) (Or.inl ⟨by kernel_rfl, ?_⟩) (by assumption) ?_
      rotate_left
      · intro w hSw; (try dsimp only at hSw); go_simp; (try with_reducible rfl)
      (try simp only [Act.put, List.getElem_toArray, List.getElem_cons_zero, List.getElem_cons_succ, List.setIfInBounds_toArray, List.set_cons_zero, List.set_cons_succ])
      refine wpAnyH_ready (rs := [9]) (by kernel_rfl) (by simp) ?_
      refine AllReadyH.cons rfl (fun K hK => ?_) AllReadyH.nil
      go_simp
      obtain ⟨x3, hn⟩ : ∃ W, x2.alloc (.cells uZ uT) = W := ⟨_, rfl⟩
      have kn : Kept x2 x3 := by rw [← hn]; exact (Kept.refl _).alloc _
      obtain ⟨qb, hqb⟩ : ∃ q, x2.heap.size = q := ⟨_, rfl⟩
      have HQ := Lib.hid (show Blk x3 qb uT uZ by rw [← hn, ← hqb]; exact Blk.new _ _ _)
      have HQB := Lib.hid (show D.heap.size ≤ qb by rw [← hqb]; exact kq.size)
      rw [hn, hqb]
      clear hn hqb
      replace HTB := Lib.hid (tab_kept HTB.out kn)
      replace HAN := Lib.hid (lys_kept HAN.out kn)
      replace kq := kq.trans kn
      clear kn
      refine hK.out _ _ (hSK _ kq) (fun hHeld3 => ?_)
      clear hK K
      (try simp only [Act.put, List.getElem_toArray, List.getElem_cons_zero, List.getElem_cons_succ, List.setIfInBounds_toArray, List.set_cons_zero, List.set_cons_succ])
      obtain ⟨⟨g0, g1, g2, g3, g4⟩, f0, f1, f2, f3, f4⟩ := blk5u HQ.out
      obtain ⟨Y, hY⟩ : ∃ Y, put5u x3 qb (.int .i64 v2.1.tag) (.int .i64 v2.1.n) (.int .u64 v2.1.bits) (.string v2.1.s) (.slice ca v2.2.length cc) = Y := ⟨_, rfl⟩
      have oY : Only (· = qb) x3 Y := by rw [← hY]; exact put5u_only _ _ _ _ _ _ _
      have bY : Blk Y qb uT #[.int .i64 v2.1.tag, .int .i64 v2.1.n, .int .u64 v2.1.bits, .string v2.1.s, .slice ca v2.2.length cc] := by rw [← hY]; exact put5u_blk HQ.out _ _ _ _ _
      have hkY : Kept D Y := kq.only oY rfl (fun k e => by have := HQB.out; omega)
      have hlY : LysAt Y (.slice ca v2.2.length cc) v2.2 := lys_put HAN.out HQ.out oY
      have HWY := Lib.hid (show ((((x3.setCell ⟨qb, 0, none⟩ (.int .i64 v2.1.tag)).setCell ⟨qb, 1, none⟩ (.int .i64 v2.1.n)).setCell ⟨qb, 2, none⟩ (.int .u64 v2.1.bits)).setCell ⟨qb, 3, none⟩ (.string v2.1.s)).setCell ⟨qb, 4, none⟩ (.slice ca v2.2.length cc) = Y from hY)
      have HF := Lib.hid (And.intro bY (And.intro hlY hkY))
      refine wpAnyH_ready (rs := [10]) (by kernel_rfl) (by simp) ?_
      refine AllReadyH.cons rfl (fun K hK => ?_) AllReadyH.nil
      go_simp
      clear bY hlY oY
      rw [HWY.out]
      refine hK.out _ _ (hSK _ hkY) (fun hHeldZ => ?_)
      clear hK K
      (try simp only [Act.put, List.getElem_toArray, List.getElem_cons_zero, List.getElem_cons_succ, List.setIfInBounds_toArray, List.set_cons_zero, List.set_cons_succ])
      refine wpAnyH_take (i := 11) (v := ?_) rfl (by kernel_rfl) (by kernel_rfl) (by kernel_rfl) (fun _ _ _ h => h) (Or.inl ⟨by kernel_rfl, ?_⟩) (by assumption) ?_
      rotate_left
      · intro w hSw; (try dsimp only at hSw); go_simp; (try with_reducible rfl)
      (try simp only [Act.put, List.getElem_toArray, List.getElem_cons_zero, List.getElem_cons_succ, List.setIfInBounds_toArray, List.set_cons_zero, List.set_cons_succ])
      refine wpAnyH_done (by kernel_rfl) ?_ _
      first | refine hK1 _ _ (Met.intro (hJ1 _ _ ?_)) | refine Met.intro (hJ1 _ _ ?_)
      repeat apply Exists.intro
      refine ⟨?rel, rfl⟩
      case rel => exact ⟨qb, ca, cc, rfl, rfl, Lib.hid HF.out.1, Lib.hid HF.out.2.1, Lib.hid HF.out.2.2⟩
    · go_simp
      obtain ⟨x4, hn⟩ : ∃ W, x1.alloc (.cells uZ uT) = W := ⟨_, rfl⟩
      have kn : Kept x1 x4 := by rw [← hn]; exact (Kept.refl _).alloc _
      obtain ⟨qb, hqb⟩ : ∃ q, x1.heap.size = q := ⟨_, rfl⟩
      have HQ := Lib.hid (show Blk x4 qb uT uZ by rw [← hn, ← hqb]; exact Blk.new _ _ _)
      have HQB := Lib.hid (show D.heap.size ≤ qb by rw [← hqb]; exact kq.size)
      rw [hn, hqb]
      clear hn hqb
      replace HTB := Lib.hid (tab_kept HTB.out kn)
      replace kq := kq.trans kn
      clear kn
      refine hK.out _ _ (hSK _ kq) (fun hHeld4 => ?_)
      clear hK K
      (try simp only [Act.put, List.getElem_toArray, List.getElem_cons_zero, List.getElem_cons_succ, List.setIfInBounds_toArray, List.set_cons_zero, List.set_cons_succ])
      refine wpAnyH_ready (rs := [5]) (by kernel_rfl) (by simp) ?_
      refine AllReadyH.cons rfl (fun K hK => ?_) AllReadyH.nil
      go_simp
      refine (HC.out x4 ta tcp HTB.out (HKD.out.trans kq)).mono ?_
      rintro e x5 ⟨ca, cc, rfl, hly, kn⟩
      have HAN := Lib.hid hly
      clear hly
      replace HQ := Lib.hid (HQ.out.kept kn)
      replace HTB := Lib.hid (tab_kept HTB.out kn)
      replace kq := kq.trans kn
      clear kn
      refine hK.out _ _ (hSK _ kq) (fun hHeld5 => ?_)
      clear hK K
      (try simp only [Act.put, List.getElem_toArray, List.getElem_cons_zero, List.getElem_cons_succ, List.setIfInBounds_toArray, List.set_cons_zero, List.set_cons_succ])
      refine wpAnyH_take (i := 6) (v := ?_) rfl (by kernel_rfl) (by kernel_rfl) (by kernel_rfl) (fun _ _ _ h => h) (Or.inl ⟨by kernel_rfl, ?_⟩) (by assumption) ?_
      rotate_left
      · intro w hSw; (try dsimp only at hSw); go_simp; (try with_reducible rfl)
      (try simp only [Act.put, List.getElem_toArray, List.getElem_cons_zero, List.getElem_cons_succ, List.setIfInBounds_toArray, List.set_cons_zero, List.set_cons_succ])
      refine wpAnyH_take (i := 7) (v := ?_) rfl (by kernel_rfl) (by kernel_rfl) (by kernel_rfl) (fun _ _ _ h => h) (Or.inl ⟨by kernel_rfl, ?_⟩) (by assumption) ?_
      rotate_left
      · intro w hSw; (try dsimp only at hSw); go_simp; (try with_reducible rfl)
      (try simp only [Act.put, List.getElem_toArray, List.getElem_cons_zero, List.getElem_cons_succ, List.setIfInBounds_toArray, List.set_cons_zero, List.set_cons_succ])
      refine wpAnyH_take (i := 8) (v := ?_) rfl (by kernel_rfl) (by kernel_rfl) (by kernel_rfl) (fun _ _ _ h => h) (Or.inl ⟨by kernel_rfl, ?_⟩) (by assumption) ?_
      rotate_left
      · intro w hSw; (try dsimp only at hSw); go_simp; (try with_reducible rfl)
      (try simp only [Act.put, List.getElem_toArray, List.getElem_cons_zero, List.getElem_cons_succ, List.setIfInBounds_toArray, List.set_cons_zero, List.set_cons_succ])
      obtain ⟨⟨g0, g1, g2, g3, g4⟩, f0, f1, f2, f3, f4⟩ := blk5u HQ.out
      obtain ⟨Y, hY⟩ : ∃ Y, put5u x5 qb (.int .i64 v2.1.tag) (.int .i64 v2.1.n) (.int .u64 v2.1.bits) (.string v2.1.s) (.slice ca v2.2.length cc) = Y := ⟨_, rfl⟩
      have oY : Only (· = qb) x5 Y := by rw [← hY]; exact put5u_only _ _ _ _ _ _ _
      have bY : Blk Y qb uT #[.int .i64 v2.1.tag, .int .i64 v2.1.n, .int .u64 v2.1.bits, .string v2.1.s, .slice ca v2.2.length cc] := by rw [← hY]; exact put5u_blk HQ.out _ _ _ _ _
      have hkY : Kept D Y := kq.only oY rfl (fun k e => by have := HQB.out; omega)
      have hlY : LysAt Y (.slice ca v2.2.length cc) v2.2 := lys_put HAN.out HQ.out oY
      have HWY := Lib.hid (show ((((x5.setCell ⟨qb, 0, none⟩ (.int .i64 v2.1.tag)).setCell ⟨qb, 1, none⟩ (.int .i64 v2.1.n)).setCell ⟨qb, 2, none⟩ (.int .u64 v2.1.bits)).setCell ⟨qb, 3, none⟩ (.string v2.1.s)).setCell ⟨qb, 4, none⟩ (.slice ca v2.2.length cc) = Y from hY)
      have HF := Lib.hid (And.intro bY (And.intro hlY hkY))
      refine wpAnyH_ready (rs := [10]) (by kernel_rfl) (by simp) ?_
      refine AllReadyH.cons rfl (fun K hK => ?_) AllReadyH.nil
      go_simp
      clear bY hlY oY
      rw [HWY.out]
      refine hK.out _ _ (hSK _ hkY) (fun hHeldZ => ?_)
      clear hK K
      (try simp only [Act.put, List.getElem_toArray, List.getElem_cons_zero, List.getElem_cons_succ, List.setIfInBounds_toArray, List.set_cons_zero, List.set_cons_succ])
      refine wpAnyH_take (i := 11) (v := ?_) rfl (by kernel_rfl) (by kernel_rfl) (by kernel_rfl) (fun _ _ _ h => h) (Or.inl ⟨by kernel_rfl, ?_⟩) (by assumption) ?_
      rotate_left
      · intro w hSw; (try dsimp only at hSw); go_simp; (try with_reducible rfl)
      (try simp only [Act.put, List.getElem_toArray, List.getElem_cons_zero, List.getElem_cons_succ, List.setIfInBounds_toArray, List.set_cons_zero, List.set_cons_succ])
      refine wpAnyH_done (by kernel_rfl) ?_ _
      first | refine hK1 _ _ (Met.intro (hJ1 _ _ ?_)) | refine Met.intro (hJ1 _ _ ?_)
      repeat apply Exists.intro
      refine ⟨?rel, rfl⟩
      case rel => exact ⟨qb, ca, cc, rfl, rfl, Lib.hid HF.out.1, Lib.hid HF.out.2.1, Lib.hid HF.out.2.2⟩
  · go_simp
    obtain ⟨x6, hn⟩ : ∃ W, D.alloc (.cells uZ uT) = W := ⟨_, rfl⟩
    have kn : Kept D x6 := by rw [← hn]; exact (Kept.refl _).alloc _
    obtain ⟨qb, hqb⟩ : ∃ q, D.heap.size = q := ⟨_, rfl⟩
    have HQ := Lib.hid (show Blk x6 qb uT uZ by rw [← hn, ← hqb]; exact Blk.new _ _ _)
    have HQB := Lib.hid (show D.heap.size ≤ qb by rw [← hqb]; exact kq.size)
    rw [hn, hqb]
    clear hn hqb
    replace kq := kq.trans kn
    clear kn
    refine hK.out _ _ (hSK _ kq) (fun hHeld6 => ?_)
    clear hK K
    (try simp only [Act.put, List.getElem_toArray, List.getElem_cons_zero, List.getElem_cons_succ, List.setIfInBounds_toArray, List.set_cons_zero, List.set_cons_succ])
    refine wpAnyH_ready (rs := [0]) (by kernel_rfl) (by simp) ?_
    refine AllReadyH.cons rfl (fun K hK => ?_) AllReadyH.nil
    go_simp
    refine (some_c x6).mono ?_
    rintro e x7 ⟨ta, tcp, rfl, hT, kn⟩
    have HTB := Lib.hid hT
    clear hT
    replace HQ := Lib.hid (HQ.out.kept kn)
    replace kq := kq.trans kn
    clear kn
    refine hK.out _ _ (hSK _ kq) (fun hHeld7 => ?_)
    clear hK K
    (try simp only [Act.put, List.getElem_toArray, List.getElem_cons_zero, List.getElem_cons_succ, List.setIfInBounds_toArray, List.set_cons_zero, List.set_cons_succ])
    refine wpAnyH_ready (rs := [5]) (by kernel_rfl) (by simp) ?_
    refine AllReadyH.cons rfl (fun K hK => ?_) AllReadyH.nil
    go_simp
    refine (HC.out x7 ta tcp HTB.out (HKD.out.trans kq)).mono ?_
    rintro e x8 ⟨ca, cc, rfl, hly, kn⟩
    have HAN := Lib.hid hly
    clear hly
    replace HQ := Lib.hid (HQ.out.kept kn)
    replace HTB := Lib.hid (tab_kept HTB.out kn)
    replace kq := kq.trans kn
    clear kn
    refine hK.out _ _ (hSK _ kq) (fun hHeld8 => ?_)
    clear hK K
    (try simp only [Act.put, List.getElem_toArray, List.getElem_cons_zero, List.getElem_cons_succ, List.setIfInBounds_toArray, List.set_cons_zero, List.set_cons_succ])
    refine wpAnyH_take (i := 6) (v := ?_) rfl (by kernel_rfl) (by kernel_rfl) (by kernel_rfl) (fun _ _ _ h => h) (Or.inl ⟨by kernel_rfl, ?_⟩) (by assumption) ?_
    rotate_left
    · intro w hSw; (try dsimp only at hSw); go_simp; (try with_reducible rfl)
    (try simp only [Act.put, List.getElem_toArray, List.getElem_cons_zero, List.getElem_cons_succ, List.setIfInBounds_toArray, List.set_cons_zero, List.set_cons_succ])
    refine wpAnyH_take (i := 7) (v := ?_) rfl (by kernel_rfl) (by kernel_rfl) (by kernel_rfl) (fun _ _ _ h => h) (Or.inl ⟨by kernel_rfl, ?_⟩) (by assumption) ?_
    rotate_left
    · intro w hSw; (try dsimp only at hSw); go_simp; (try with_reducible rfl)
    (try simp only [Act.put, List.getElem_toArray, List.getElem_cons_zero, List.getElem_cons_succ, List.setIfInBounds_toArray, List.set_cons_zero, List.set_cons_succ])
    refine wpAnyH_take (i := 8) (v := ?_) rfl (by kernel_rfl) (by kernel_rfl) (by kernel_rfl) (fun _ _ _ h => h) (Or.inl ⟨by kernel_rfl, ?_⟩) (by assumption) ?_
    rotate_left
    · intro w hSw; (try dsimp only at hSw); go_simp; (try with_reducible rfl)
    (try simp only [Act.put, List.getElem_toArray, List.getElem_cons_zero, List.getElem_cons_succ, List.setIfInBounds_toArray, List.set_cons_zero, List.set_cons_succ])
    obtain ⟨⟨g0, g1, g2, g3, g4⟩, f0, f1, f2, f3, f4⟩ := blk5u HQ.out
    obtain ⟨Y, hY⟩ : ∃ Y, put5u x8 qb (.int .i64 v2.1.tag) (.int .i64 v2.1.n) (.int .u64 v2.1.bits) (.string v2.1.s) (.slice ca v2.2.length cc) = Y := ⟨_, rfl⟩
    have oY : Only (· = qb) x8 Y := by rw [← hY]; exact put5u_only _ _ _ _ _ _ _
    have bY : Blk Y qb uT #[.int .i64 v2.1.tag, .int .i64 v2.1.n, .int .u64 v2.1.bits, .string v2.1.s, .slice ca v2.2.length cc] := by rw [← hY]; exact put5u_blk HQ.out _ _ _ _ _
    have hkY : Kept D Y := kq.only oY rfl (fun k e => by have := HQB.out; omega)
    have hlY : LysAt Y (.slice ca v2.2.length cc) v2.2 := lys_put HAN.out HQ.out oY
    have HWY := Lib.hid (show ((((x8.setCell ⟨qb, 0, none⟩ (.int .i64 v2.1.tag)).setCell ⟨qb, 1, none⟩ (.int .i64 v2.1.n)).setCell ⟨qb, 2, none⟩ (.int .u64 v2.1.bits)).setCell ⟨qb, 3, none⟩ (.string v2.1.s)).setCell ⟨qb, 4, none⟩ (.slice ca v2.2.length cc) = Y from hY)
    have HF := Lib.hid (And.intro bY (And.intro hlY hkY))
    refine wpAnyH_ready (rs := [10]) (by kernel_rfl) (by simp) ?_
    refine AllReadyH.cons rfl (fun K hK => ?_) AllReadyH.nil
    go_simp
    clear bY hlY oY
    rw [HWY.out]
    refine hK.out _ _ (hSK _ hkY) (fun hHeldZ => ?_)
    clear hK K
    (try simp only [Act.put, List.getElem_toArray, List.getElem_cons_zero, List.getElem_cons_succ, List.setIfInBounds_toArray, List.set_cons_zero, List.set_cons_succ])
    refine wpAnyH_take (i := 11) (v := ?_) rfl (by kernel_rfl) (by kernel_rfl) (by kernel_rfl) (fun _ _ _ h => h) (Or.inl ⟨by kernel_rfl, ?_⟩) (by assumption) ?_
    rotate_left
    · intro w hSw; (try dsimp only at hSw); go_simp; (try with_reducible rfl)
    (try simp only [Act.put, List.getElem_toArray, List.getElem_cons_zero, List.getElem_cons_succ, List.setIfInBounds_toArray, List.set_cons_zero, List.set_cons_succ])
    refine wpAnyH_done (by kernel_rfl) ?_ _
    first | refine hK1 _ _ (Met.intro (hJ1 _ _ ?_)) | refine Met.intro (hJ1 _ _ ?_)
    repeat apply Exists.intro
    refine ⟨?rel, rfl⟩
    case rel => exact ⟨qb, ca, cc, rfl, rfl, Lib.hid HF.out.1, Lib.hid HF.out.2.1, Lib.hid HF.out.2.2⟩

set_option maxHeartbeats 16000000 in
theorem enters_c (x : Vw) (va : Option Addr) (vc : Nat) (l : List Ly) (b : ByteArray) (lab : Int) (y : Vw) (wa : Option Addr) (wn : Nat) (m : List Ly) (blamed : Int) (w : World) (hTb : Tb w) (hv : LysAt w (.slice va l.length vc) l) (hw : LysAt w (.slice wa m.length wn) m) (hb : b.size ≤ maxLen) (hs : x.s.size ≤ maxLen) (hl : l.length ≤ 900) :
    Calls Tryd.prog 13 #[vV x (.slice va l.length vc), .string b, .int .i64 lab, vV y (.slice wa m.length wn), .int .i64 blamed] w fun e w' => e = .returned (.bool (decide ((Co.valR x (Co.enterR someT x l b lab)).1 = y ∧ (Co.valR x (Co.enterR someT x l b lab)).2 = m) && decide (Co.labR (Co.enterR someT x l b lab) = blamed))) ∧ Kept w w' := by
  obtain ⟨v2, hv2⟩ : ∃ v, Co.valR x (Co.enterR someT x l b lab) = v := ⟨_, rfl⟩
  obtain ⟨lb, hlb⟩ : ∃ v, Co.labR (Co.enterR someT x l b lab) = v := ⟨_, rfl⟩
  have HC := Lib.hid (fun W (ta : Option Addr) (tcp : Nat) (hT : TabAt W (.slice ta someT.length tcp) someT) (k : Kept w W) => show Calls Tryd.prog 30 #[.slice ta someT.length tcp, vV x (.slice va l.length vc), .string b, .int .i64 lab, .bool false] W (AnsPost v2 lb W) from (oenter_c false x va vc l ta tcp someT b lab W hT some_small (hTb.kept k) (lys_kept hv k) hb hs hl).mono (fun e w' h => by have := ans_of h; rwa [sent_false, hv2, hlb] at this))
  rw [hv2, hlb]
  obtain ⟨W1, hW1⟩ : ∃ W, w.alloc (.cells #[.int .i64 x.tag, .int .i64 x.n, .int .u64 x.bits, .string x.s, .slice va l.length vc] uT) = W := ⟨_, rfl⟩
  obtain ⟨W2, hW2⟩ : ∃ W, W1.alloc (.cells #[.int .i64 y.tag, .int .i64 y.n, .int .u64 y.bits, .string y.s, .slice wa m.length wn] uT) = W := ⟨_, rfl⟩
  have z1 : W1.heap.size = w.heap.size + 1 := by rw [← hW1]; simp
  have k1 : Kept w W1 := by rw [← hW1]; exact (Kept.refl _).alloc _
  have k2 : Kept W1 W2 := by rw [← hW2]; exact (Kept.refl _).alloc _
  obtain ⟨D, hD⟩ : ∃ D, W2.drew = D := ⟨_, rfl⟩
  have b1 : Blk D w.heap.size uT #[.int .i64 x.tag, .int .i64 x.n, .int .u64 x.bits, .string x.s, .slice va l.length vc] := by
    rw [← hD]
    exact ((show Blk W1 w.heap.size uT _ by rw [← hW1]; exact Blk.new _ _ _).kept k2).kept (Kept.refl _).drew
  have b2 : Blk D (w.heap.size + 1) uT #[.int .i64 y.tag, .int .i64 y.n, .int .u64 y.bits, .string y.s, .slice wa m.length wn] := by
    rw [← hD]
    exact (show Blk W2 (w.heap.size + 1) uT _ by rw [← hW2, ← z1]; exact Blk.new _ _ _).kept (Kept.refl _).drew
  have HKD := Lib.hid (show Kept w D by rw [← hD]; exact (k1.trans k2).drew)
  have HB2 := Lib.hid b2
  obtain ⟨⟨p0, p1, p2, p3, p4⟩, _⟩ := blk5u b1
  have hSK : ∀ W, Kept D W → W.cell? ⟨w.heap.size, 0, none⟩ = some (.int .i64 x.tag) ∧ W.cell? ⟨w.heap.size, 1, none⟩ = some (.int .i64 x.n) ∧ W.cell? ⟨w.heap.size, 2, none⟩ = some (.int .u64 x.bits) ∧ W.cell? ⟨w.heap.size, 3, none⟩ = some (.string x.s) ∧ W.cell? ⟨w.heap.size, 4, none⟩ = some (.slice va l.length vc) := fun W k => ⟨k.cell p0, k.cell p1, k.cell p2, k.cell p3, k.cell p4⟩
  have HV := Lib.hid hv
  have HWV := Lib.hid hw
  have HW1 := Lib.hid hW1
  have HW2 := Lib.hid hW2
  clear hv hw hW1 hW2 k1 k2 b1 b2 hTb hs hl hv2 hlb hb
  go_enter Tryd.func13, Tryd.ntmps13
  go_upto_region 1 with (first | rw [HW1.out] | rw [z1] | rw [HW2.out])
  go_cut [11, 12] from 13 (fun sq sl wx => ∃ q ca cc, sq = .pointer (some ⟨q, 0, none⟩) ∧ sl = .int .i64 lb ∧ Hid (Blk wx q uT #[.int .i64 v2.1.tag, .int .i64 v2.1.n, .int .u64 v2.1.bits, .string v2.1.s, .slice ca v2.2.length cc]) ∧ Hid (LysAt wx (.slice ca v2.2.length cc) v2.2) ∧ Hid (Kept D wx))
  case rest =>
    obtain ⟨q, ca, cc, rfl, rfl, HQ, HAN, HKX⟩ := hcut
    clear hD hSK p0 p1 p2 p3 p4
    obtain ⟨⟨g0, g1, g2, g3, g4⟩, _⟩ := blk5u HQ.out
    obtain ⟨⟨h0, h1, h2, h3, h4⟩, _⟩ := blk5u (HB2.out.kept HKX.out)
    have HSV := Lib.hid (sameV_c v2.1 y v2.2 m ca wa cc wn wc HAN.out (lys_kept HWV.out (HKD.out.trans HKX.out)))
    cases hsm : decide (v2.1 = y ∧ v2.2 = m) with
    | true =>
      rw [hsm] at HSV
      have HE := Lib.hid hsm
      clear hsm
      have heb : (lb == blamed) = decide (lb = blamed) := rfl
      go_wp2_with fail
      refine HSV.out.mono ?_
      rintro e w3 ⟨rfl, k3⟩
      go_wp2_with fail
      go_ret
      exact ⟨by rw [HE.out, Bool.true_and]; rfl, (HKD.out.trans HKX.out).trans k3⟩
    | false =>
      rw [hsm] at HSV
      have HE := Lib.hid hsm
      clear hsm
      go_wp2_with fail
      refine HSV.out.mono ?_
      rintro e w3 ⟨rfl, k3⟩
      go_wp2_with fail
      go_ret
      exact ⟨by rw [HE.out, Bool.false_and]; rfl, (HKD.out.trans HKX.out).trans k3⟩
  rename_i J1 K1 hJ1 hK1
  refine wp_region_held_drew (S := (fun W => W.cell? ⟨w.heap.size, 0, none⟩ = some (.int .i64 x.tag) ∧ W.cell? ⟨w.heap.size, 1, none⟩ = some (.int .i64 x.n) ∧ W.cell? ⟨w.heap.size, 2, none⟩ = some (.int .u64 x.bits) ∧ W.cell? ⟨w.heap.size, 3, none⟩ = some (.string x.s) ∧ W.cell? ⟨w.heap.size, 4, none⟩ = some (.slice va l.length vc))) (by kernel_rfl) (by rw [hD]; exact hSK D (Kept.refl _)) (fun hHeld0 => ?_)
  rw [hD] at hHeld0 ⊢
  clear hD
  have kq : Kept D D := Kept.refl _
  refine wpAnyH_take (i := 1) (v := ?_) rfl (by kernel_rfl) (by kernel_rfl) (by kernel_rfl) (fun _ _ _ h => h) (Or.inl ⟨by kernel_rfl, ?_⟩) (by assumption) ?_
  rotate_left
  · intro w hSw; (try dsimp only at hSw); go_simp; (try with_reducible rfl)
  (try simp only [Act.put, List.getElem_toArray, List.getElem_cons_zero, List.getElem_cons_succ, List.setIfInBounds_toArray, List.set_cons_zero, List.set_cons_succ])
  refine wpAnyH_take (i := 2) (v := ?_) rfl (by kernel_rfl) (by kernel_rfl) (by kernel_rfl) (fun _ _ _ h => h) (Or.inl ⟨by kernel_rfl, ?_⟩) (by assumption) ?_
  rotate_left
  · intro w hSw; (try dsimp only at hSw); go_simp; (try with_reducible rfl)
  (try simp only [Act.put, List.getElem_toArray, List.getElem_cons_zero, List.getElem_cons_succ, List.setIfInBounds_toArray, List.set_cons_zero, List.set_cons_succ])
  refine wpAnyH_take (i := 3) (v := ?_) rfl (by kernel_rfl) (by kernel_rfl) (by kernel_rfl) (fun _ _ _ h => h) (Or.inl ⟨by kernel_rfl, ?_⟩) (by assumption) ?_
  rotate_left
  · intro w hSw; (try dsimp only at hSw); go_simp; (try with_reducible rfl)
  (try simp only [Act.put, List.getElem_toArray, List.getElem_cons_zero, List.getElem_cons_succ, List.setIfInBounds_toArray, List.set_cons_zero, List.set_cons_succ])
  refine wpAnyH_ready (rs := [0,8]) (by kernel_rfl) (by simp) ?_
  refine AllReadyH.cons rfl (fun K hK => ?_) (AllReadyH.cons rfl (fun K hK => ?_) AllReadyH.nil)
  · go_simp
    refine (some_c D).mono ?_
    rintro e x1 ⟨ta, tcp, rfl, hT, kn⟩
    have HTB := Lib.hid hT
    clear hT
    replace kq := kq.trans kn
    clear kn
    refine hK.out _ _ (hSK _ kq) (fun hHeld1 => ?_)
    clear hK K
    (try simp only [Act.put, List.getElem_toArray, List.getElem_cons_zero, List.getElem_cons_succ, List.setIfInBounds_toArray, List.set_cons_zero, List.set_cons_succ])
    refine wpAnyH_ready (rs := [4,8]) (by kernel_rfl) (by simp) ?_
    refine AllReadyH.cons rfl (fun K hK => ?_) (AllReadyH.cons rfl (fun K hK => ?_) AllReadyH.nil)
    · go_simp
      refine (HC.out x1 ta tcp HTB.out (HKD.out.trans kq)).mono ?_
      rintro e x2 ⟨ca, cc, rfl, hly, kn⟩
      have HAN := Lib.hid hly
      clear hly
      replace HTB := Lib.hid (tab_kept HTB.out kn)
      replace kq := kq.trans kn
      clear kn
      refine hK.out _ _ (hSK _ kq) (fun hHeld2 => ?_)
      clear hK K
      (try simp only [Act.put, List.getElem_toArray, List.getElem_cons_zero, List.getElem_cons_succ, List.setIfInBounds_toArray, List.set_cons_zero, List.set_cons_succ])
      refine wpAnyH_take (i := 5) (v := ?_) rfl (by kernel_rfl) (by kernel_rfl) (by kernel_rfl) (fun _ _ _ h => h) (Or.inl ⟨by kernel_rfl, ?_⟩) (by assumption) ?_
      rotate_left
      · intro w hSw; (try dsimp only at hSw); go_simp; (try with_reducible rfl)
      (try simp only [Act.put, List.getElem_toArray, List.getElem_cons_zero, List.getElem_cons_succ, List.setIfInBounds_toArray, List.set_cons_zero, List.set_cons_succ])
      refine wpAnyH_take (i := 6) (v := ?_) rfl (by kernel_rfl) (by kernel_rfl) (by kernel_rfl) (fun _ _ _ h => h) (Or.inl ⟨by kernel_rfl, ?_⟩) (by assumption) ?_
      rotate_left
      · intro w hSw; (try dsimp only at hSw); go_simp; (try with_reducible rfl)
      (try simp only [Act.put, List.getElem_toArray, List.getElem_cons_zero, List.getElem_cons_succ, List.setIfInBounds_toArray, List.set_cons_zero, List.set_cons_succ])
      refine wpAnyH_take (i := 7) (v := ?_) rfl (by kernel_rfl) (by kernel_rfl) (by kernel_rfl) (fun _ _ _ h => h) (Or.inl ⟨by kernel_rfl, ?_⟩) (by assumption) ?_
      rotate_left
      · intro w hSw; (try dsimp only at hSw); go_simp; (try with_reducible rfl)
      (try simp only [Act.put, List.getElem_toArray, List.getElem_cons_zero, List.getElem_cons_succ, List.setIfInBounds_toArray, List.set_cons_zero, List.set_cons_succ])
      refine wpAnyH_ready (rs := [8]) (by kernel_rfl) (by simp) ?_
      refine AllReadyH.cons rfl (fun K hK => ?_) AllReadyH.nil
      go_simp
      obtain ⟨x3, hn⟩ : ∃ W, x2.alloc (.cells uZ uT) = W := ⟨_, rfl⟩
      have kn : Kept x2 x3 := by rw [← hn]; exact (Kept.refl _).alloc _
      obtain ⟨qb, hqb⟩ : ∃ q, x2.heap.size = q := ⟨_, rfl⟩
      have HQ := Lib.hid (show Blk x3 qb uT uZ by rw [← hn, ← hqb]; exact Blk.new _ _ _)
      have HQB := Lib.hid (show D.heap.size ≤ qb by rw [← hqb]; exact kq.size)
      rw [hn, hqb]
      clear hn hqb
      replace HTB := Lib.hid (tab_kept HTB.out kn)
      replace HAN := Lib.hid (lys_kept HAN.out kn)
      replace kq := kq.trans kn
      clear kn
      refine hK.out _ _ (hSK _ kq) (fun hHeld3 => ?_)
      clear hK K
      (try simp only [Act.put, List.getElem_toArray, List.getElem_cons_zero, List.getElem_cons_succ, List.setIfInBounds_toArray, List.set_cons_zero, List.set_cons_succ])
      obtain ⟨⟨g0, g1, g2, g3, g4⟩, f0, f1, f2, f3, f4⟩ := blk5u HQ.out
      obtain ⟨Y, hY⟩ : ∃ Y, put5u x3 qb (.int .i64 v2.1.tag) (.int .i64 v2.1.n) (.int .u64 v2.1.bits) (.string v2.1.s) (.slice ca v2.2.length cc) = Y := ⟨_, rfl⟩
      have oY : Only (· = qb) x3 Y := by rw [← hY]; exact put5u_only _ _ _ _ _ _ _
      have bY : Blk Y qb uT #[.int .i64 v2.1.tag, .int .i64 v2.1.n, .int .u64 v2.1.bits, .string v2.1.s, .slice ca v2.2.length cc] := by rw [← hY]; exact put5u_blk HQ.out _ _ _ _ _
      have hkY : Kept D Y := kq.only oY rfl (fun k e => by have := HQB.out; omega)
      have hlY : LysAt Y (.slice ca v2.2.length cc) v2.2 := lys_put HAN.out HQ.out oY
      have HWY := Lib.hid (show ((((x3.setCell ⟨qb, 0, none⟩ (.int .i64 v2.1.tag)).setCell ⟨qb, 1, none⟩ (.int .i64 v2.1.n)).setCell ⟨qb, 2, none⟩ (.int .u64 v2.1.bits)).setCell ⟨qb, 3, none⟩ (.string v2.1.s)).setCell ⟨qb, 4, none⟩ (.slice ca v2.2.length cc) = Y from hY)
      have HF := Lib.hid (And.intro bY (And.intro hlY hkY))
      refine wpAnyH_ready (rs := [9]) (by kernel_rfl) (by simp) ?_
      refine AllReadyH.cons rfl (fun K hK => ?_) AllReadyH.nil
      go_simp
      clear bY hlY oY
      rw [HWY.out]
      refine hK.out _ _ (hSK _ hkY) (fun hHeldZ => ?_)
      clear hK K
      (try simp only [Act.put, List.getElem_toArray, List.getElem_cons_zero, List.getElem_cons_succ, List.setIfInBounds_toArray, List.set_cons_zero, List.set_cons_succ])
      refine wpAnyH_take (i := 10) (v := ?_) rfl (by kernel_rfl) (by kernel_rfl) (by kernel_rfl) (fun _ _ _ h => h) (Or.inl ⟨by kernel_rfl, ?_⟩) (by assumption) ?_
      rotate_left
      · intro w hSw; (try dsimp only at hSw); go_simp; (try with_reducible rfl)
      (try simp only [Act.put, List.getElem_toArray, List.getElem_cons_zero, List.getElem_cons_succ, List.setIfInBounds_toArray, List.set_cons_zero, List.set_cons_succ])
      refine wpAnyH_done (by kernel_rfl) ?_ _
      first | refine hK1 _ _ (Met.intro (hJ1 _ _ ?_)) | refine Met.intro (hJ1 _ _ ?_)
      repeat apply Exists.intro
      refine ⟨?rel, rfl⟩
      case rel => exact ⟨qb, ca, cc, rfl, rfl, Lib.hid HF.out.1, Lib.hid HF.out.2.1, Lib.hid HF.out.2.2⟩
    · go_simp
      obtain ⟨x4, hn⟩ : ∃ W, x1.alloc (.cells uZ uT) = W := ⟨_, rfl⟩
      have kn : Kept x1 x4 := by rw [← hn]; exact (Kept.refl _).alloc _
      obtain ⟨qb, hqb⟩ : ∃ q, x1.heap.size = q := ⟨_, rfl⟩
      have HQ := Lib.hid (show Blk x4 qb uT uZ by rw [← hn, ← hqb]; exact Blk.new _ _ _)
      have HQB := Lib.hid (show D.heap.size ≤ qb by rw [← hqb]; exact kq.size)
      rw [hn, hqb]
      clear hn hqb
      replace HTB := Lib.hid (tab_kept HTB.out kn)
      replace kq := kq.trans kn
      clear kn
      refine hK.out _ _ (hSK _ kq) (fun hHeld4 => ?_)
      clear hK K
      (try simp only [Act.put, List.getElem_toArray, List.getElem_cons_zero, List.getElem_cons_succ, List.setIfInBounds_toArray, List.set_cons_zero, List.set_cons_succ])
      refine wpAnyH_ready (rs := [4]) (by kernel_rfl) (by simp) ?_
      refine AllReadyH.cons rfl (fun K hK => ?_) AllReadyH.nil
      go_simp
      refine (HC.out x4 ta tcp HTB.out (HKD.out.trans kq)).mono ?_
      rintro e x5 ⟨ca, cc, rfl, hly, kn⟩
      have HAN := Lib.hid hly
      clear hly
      replace HQ := Lib.hid (HQ.out.kept kn)
      replace HTB := Lib.hid (tab_kept HTB.out kn)
      replace kq := kq.trans kn
      clear kn
      refine hK.out _ _ (hSK _ kq) (fun hHeld5 => ?_)
      clear hK K
      (try simp only [Act.put, List.getElem_toArray, List.getElem_cons_zero, List.getElem_cons_succ, List.setIfInBounds_toArray, List.set_cons_zero, List.set_cons_succ])
      refine wpAnyH_take (i := 5) (v := ?_) rfl (by kernel_rfl) (by kernel_rfl) (by kernel_rfl) (fun _ _ _ h => h) (Or.inl ⟨by kernel_rfl, ?_⟩) (by assumption) ?_
      rotate_left
      · intro w hSw; (try dsimp only at hSw); go_simp; (try with_reducible rfl)
      (try simp only [Act.put, List.getElem_toArray, List.getElem_cons_zero, List.getElem_cons_succ, List.setIfInBounds_toArray, List.set_cons_zero, List.set_cons_succ])
      refine wpAnyH_take (i := 6) (v := ?_) rfl (by kernel_rfl) (by kernel_rfl) (by kernel_rfl) (fun _ _ _ h => h) (Or.inl ⟨by kernel_rfl, ?_⟩) (by assumption) ?_
      rotate_left
      · intro w hSw; (try dsimp only at hSw); go_simp; (try with_reducible rfl)
      (try simp only [Act.put, List.getElem_toArray, List.getElem_cons_zero, List.getElem_cons_succ, List.setIfInBounds_toArray, List.set_cons_zero, List.set_cons_succ])
      refine wpAnyH_take (i := 7) (v := ?_) rfl (by kernel_rfl) (by kernel_rfl) (by kernel_rfl) (fun _ _ _ h => h) (Or.inl ⟨by kernel_rfl, ?_⟩) (by assumption) ?_
      rotate_left
      · intro w hSw; (try dsimp only at hSw); go_simp; (try with_reducible rfl)
      (try simp only [Act.put, List.getElem_toArray, List.getElem_cons_zero, List.getElem_cons_succ, List.setIfInBounds_toArray, List.set_cons_zero, List.set_cons_succ])
      obtain ⟨⟨g0, g1, g2, g3, g4⟩, f0, f1, f2, f3, f4⟩ := blk5u HQ.out
      obtain ⟨Y, hY⟩ : ∃ Y, put5u x5 qb (.int .i64 v2.1.tag) (.int .i64 v2.1.n) (.int .u64 v2.1.bits) (.string v2.1.s) (.slice ca v2.2.length cc) = Y := ⟨_, rfl⟩
      have oY : Only (· = qb) x5 Y := by rw [← hY]; exact put5u_only _ _ _ _ _ _ _
      have bY : Blk Y qb uT #[.int .i64 v2.1.tag, .int .i64 v2.1.n, .int .u64 v2.1.bits, .string v2.1.s, .slice ca v2.2.length cc] := by rw [← hY]; exact put5u_blk HQ.out _ _ _ _ _
      have hkY : Kept D Y := kq.only oY rfl (fun k e => by have := HQB.out; omega)
      have hlY : LysAt Y (.slice ca v2.2.length cc) v2.2 := lys_put HAN.out HQ.out oY
      have HWY := Lib.hid (show ((((x5.setCell ⟨qb, 0, none⟩ (.int .i64 v2.1.tag)).setCell ⟨qb, 1, none⟩ (.int .i64 v2.1.n)).setCell ⟨qb, 2, none⟩ (.int .u64 v2.1.bits)).setCell ⟨qb, 3, none⟩ (.string v2.1.s)).setCell ⟨qb, 4, none⟩ (.slice ca v2.2.length cc) = Y from hY)
      have HF := Lib.hid (And.intro bY (And.intro hlY hkY))
      refine wpAnyH_ready (rs := [9]) (by kernel_rfl) (by simp) ?_
      refine AllReadyH.cons rfl (fun K hK => ?_) AllReadyH.nil
      go_simp
      clear bY hlY oY
      rw [HWY.out]
      refine hK.out _ _ (hSK _ hkY) (fun hHeldZ => ?_)
      clear hK K
      (try simp only [Act.put, List.getElem_toArray, List.getElem_cons_zero, List.getElem_cons_succ, List.setIfInBounds_toArray, List.set_cons_zero, List.set_cons_succ])
      refine wpAnyH_take (i := 10) (v := ?_) rfl (by kernel_rfl) (by kernel_rfl) (by kernel_rfl) (fun _ _ _ h => h) (Or.inl ⟨by kernel_rfl, ?_⟩) (by assumption) ?_
      rotate_left
      · intro w hSw; (try dsimp only at hSw); go_simp; (try with_reducible rfl)
      (try simp only [Act.put, List.getElem_toArray, List.getElem_cons_zero, List.getElem_cons_succ, List.setIfInBounds_toArray, List.set_cons_zero, List.set_cons_succ])
      refine wpAnyH_done (by kernel_rfl) ?_ _
      first | refine hK1 _ _ (Met.intro (hJ1 _ _ ?_)) | refine Met.intro (hJ1 _ _ ?_)
      repeat apply Exists.intro
      refine ⟨?rel, rfl⟩
      case rel => exact ⟨qb, ca, cc, rfl, rfl, Lib.hid HF.out.1, Lib.hid HF.out.2.1, Lib.hid HF.out.2.2⟩
  · go_simp
    obtain ⟨x6, hn⟩ : ∃ W, D.alloc (.cells uZ uT) = W := ⟨_, rfl⟩
    have kn : Kept D x6 := by rw [← hn]; exact (Kept.refl _).alloc _
    obtain ⟨qb, hqb⟩ : ∃ q, D.heap.size = q := ⟨_, rfl⟩
    have HQ := Lib.hid (show Blk x6 qb uT uZ by rw [← hn, ← hqb]; exact Blk.new _ _ _)
    have HQB := Lib.hid (show D.heap.size ≤ qb by rw [← hqb]; exact kq.size)
    rw [hn, hqb]
    clear hn hqb
    replace kq := kq.trans kn
    clear kn
    refine hK.out _ _ (hSK _ kq) (fun hHeld6 => ?_)
    clear hK K
    (try simp only [Act.put, List.getElem_toArray, List.getElem_cons_zero, List.getElem_cons_succ, List.setIfInBounds_toArray, List.set_cons_zero, List.set_cons_succ])
    refine wpAnyH_ready (rs := [0]) (by kernel_rfl) (by simp) ?_
    refine AllReadyH.cons rfl (fun K hK => ?_) AllReadyH.nil
    go_simp
    refine (some_c x6).mono ?_
    rintro e x7 ⟨ta, tcp, rfl, hT, kn⟩
    have HTB := Lib.hid hT
    clear hT
    replace HQ := Lib.hid (HQ.out.kept kn)
    replace kq := kq.trans kn
    clear kn
    refine hK.out _ _ (hSK _ kq) (fun hHeld7 => ?_)
    clear hK K
    (try simp only [Act.put, List.getElem_toArray, List.getElem_cons_zero, List.getElem_cons_succ, List.setIfInBounds_toArray, List.set_cons_zero, List.set_cons_succ])
    refine wpAnyH_ready (rs := [4]) (by kernel_rfl) (by simp) ?_
    refine AllReadyH.cons rfl (fun K hK => ?_) AllReadyH.nil
    go_simp
    refine (HC.out x7 ta tcp HTB.out (HKD.out.trans kq)).mono ?_
    rintro e x8 ⟨ca, cc, rfl, hly, kn⟩
    have HAN := Lib.hid hly
    clear hly
    replace HQ := Lib.hid (HQ.out.kept kn)
    replace HTB := Lib.hid (tab_kept HTB.out kn)
    replace kq := kq.trans kn
    clear kn
    refine hK.out _ _ (hSK _ kq) (fun hHeld8 => ?_)
    clear hK K
    (try simp only [Act.put, List.getElem_toArray, List.getElem_cons_zero, List.getElem_cons_succ, List.setIfInBounds_toArray, List.set_cons_zero, List.set_cons_succ])
    refine wpAnyH_take (i := 5) (v := ?_) rfl (by kernel_rfl) (by kernel_rfl) (by kernel_rfl) (fun _ _ _ h => h) (Or.inl ⟨by kernel_rfl, ?_⟩) (by assumption) ?_
    rotate_left
    · intro w hSw; (try dsimp only at hSw); go_simp; (try with_reducible rfl)
    (try simp only [Act.put, List.getElem_toArray, List.getElem_cons_zero, List.getElem_cons_succ, List.setIfInBounds_toArray, List.set_cons_zero, List.set_cons_succ])
    refine wpAnyH_take (i := 6) (v := ?_) rfl (by kernel_rfl) (by kernel_rfl) (by kernel_rfl) (fun _ _ _ h => h) (Or.inl ⟨by kernel_rfl, ?_⟩) (by assumption) ?_
    rotate_left
    · intro w hSw; (try dsimp only at hSw); go_simp; (try with_reducible rfl)
    (try simp only [Act.put, List.getElem_toArray, List.getElem_cons_zero, List.getElem_cons_succ, List.setIfInBounds_toArray, List.set_cons_zero, List.set_cons_succ])
    refine wpAnyH_take (i := 7) (v := ?_) rfl (by kernel_rfl) (by kernel_rfl) (by kernel_rfl) (fun _ _ _ h => h) (Or.inl ⟨by kernel_rfl, ?_⟩) (by assumption) ?_
    rotate_left
    · intro w hSw; (try dsimp only at hSw); go_simp; (try with_reducible rfl)
    (try simp only [Act.put, List.getElem_toArray, List.getElem_cons_zero, List.getElem_cons_succ, List.setIfInBounds_toArray, List.set_cons_zero, List.set_cons_succ])
    obtain ⟨⟨g0, g1, g2, g3, g4⟩, f0, f1, f2, f3, f4⟩ := blk5u HQ.out
    obtain ⟨Y, hY⟩ : ∃ Y, put5u x8 qb (.int .i64 v2.1.tag) (.int .i64 v2.1.n) (.int .u64 v2.1.bits) (.string v2.1.s) (.slice ca v2.2.length cc) = Y := ⟨_, rfl⟩
    have oY : Only (· = qb) x8 Y := by rw [← hY]; exact put5u_only _ _ _ _ _ _ _
    have bY : Blk Y qb uT #[.int .i64 v2.1.tag, .int .i64 v2.1.n, .int .u64 v2.1.bits, .string v2.1.s, .slice ca v2.2.length cc] := by rw [← hY]; exact put5u_blk HQ.out _ _ _ _ _
    have hkY : Kept D Y := kq.only oY rfl (fun k e => by have := HQB.out; omega)
    have hlY : LysAt Y (.slice ca v2.2.length cc) v2.2 := lys_put HAN.out HQ.out oY
    have HWY := Lib.hid (show ((((x8.setCell ⟨qb, 0, none⟩ (.int .i64 v2.1.tag)).setCell ⟨qb, 1, none⟩ (.int .i64 v2.1.n)).setCell ⟨qb, 2, none⟩ (.int .u64 v2.1.bits)).setCell ⟨qb, 3, none⟩ (.string v2.1.s)).setCell ⟨qb, 4, none⟩ (.slice ca v2.2.length cc) = Y from hY)
    have HF := Lib.hid (And.intro bY (And.intro hlY hkY))
    refine wpAnyH_ready (rs := [9]) (by kernel_rfl) (by simp) ?_
    refine AllReadyH.cons rfl (fun K hK => ?_) AllReadyH.nil
    go_simp
    clear bY hlY oY
    rw [HWY.out]
    refine hK.out _ _ (hSK _ hkY) (fun hHeldZ => ?_)
    clear hK K
    (try simp only [Act.put, List.getElem_toArray, List.getElem_cons_zero, List.getElem_cons_succ, List.setIfInBounds_toArray, List.set_cons_zero, List.set_cons_succ])
    refine wpAnyH_take (i := 10) (v := ?_) rfl (by kernel_rfl) (by kernel_rfl) (by kernel_rfl) (fun _ _ _ h => h) (Or.inl ⟨by kernel_rfl, ?_⟩) (by assumption) ?_
    rotate_left
    · intro w hSw; (try dsimp only at hSw); go_simp; (try with_reducible rfl)
    (try simp only [Act.put, List.getElem_toArray, List.getElem_cons_zero, List.getElem_cons_succ, List.setIfInBounds_toArray, List.set_cons_zero, List.set_cons_succ])
    refine wpAnyH_done (by kernel_rfl) ?_ _
    first | refine hK1 _ _ (Met.intro (hJ1 _ _ ?_)) | refine Met.intro (hJ1 _ _ ?_)
    repeat apply Exists.intro
    refine ⟨?rel, rfl⟩
    case rel => exact ⟨qb, ca, cc, rfl, rfl, Lib.hid HF.out.1, Lib.hid HF.out.2.1, Lib.hid HF.out.2.2⟩

end Go.Proofs.YtdceafncncgfbaaDoor
