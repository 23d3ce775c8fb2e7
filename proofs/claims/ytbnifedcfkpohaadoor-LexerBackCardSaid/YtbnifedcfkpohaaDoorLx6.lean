/- The contract of package lexer's iterator: which tokens and faults a range over a source's tokens gets, whatever its body. -/
import Derived.Test.YtbnifedcfkpohaaDoorLx3
import Derived.Test.YtbnifedcfkpohaaDoorLx5
import Derived.Test.YtbnifedcfkpohaaDoorRgu
import Derived.OwnWalkIn
import Derived.TacticsInMore
import Derived.LoopNIn
import Derived.LoopIn
import Derived.Sort.LoopGhostIn
set_option linter.unusedSimpArgs false
set_option linter.unusedVariables false
set_option maxRecDepth 100000
namespace Go.Proofs.YtbnifedcfkpohaaDoor
open Go.ChangeShapes Go.WideShapes Go.ChangeAt Go.RowKit Go.Shelf
attribute [local go_sem] Oper.semAt_some

namespace Lx
theorem word_bad {s : List UInt8} {e : Int} {o : Nat} (h : word s = .bad e o) : e ≠ 0 := by
  unfold word wordR at h
  split at h
  · injection h; omega
  · cases h
theorem number_bad {s : List UInt8} {e : Int} {o : Nat} (h : number s = .bad e o) : e ≠ 0 := by
  unfold number numR at h
  repeat' split at h
  all_goals first | (injection h; omega) | cases h
theorem text_bad {s : List UInt8} {e : Int} {o : Nat} (h : text s = .bad e o) : e ≠ 0 := by
  unfold text textR at h
  repeat' split at h
  all_goals first | (injection h; omega) | cases h
theorem sign_bad {s : List UInt8} {e : Int} {o : Nat} (h : sign s = .bad e o) : e ≠ 0 := by
  unfold sign at h
  split at h
  · cases h
  · injection h; omega
theorem tok_bad {s : List UInt8} {e : Int} {o : Nat} (h : tok s = .bad e o) : e ≠ 0 := by
  unfold tok tokK at h
  generalize kd (s.headD 0) = q at h
  by_cases h2 : q = 2
  · rw [if_pos h2] at h; exact word_bad h
  · rw [if_neg h2] at h
    by_cases h3 : q = 3
    · rw [if_pos h3] at h; exact number_bad h
    · rw [if_neg h3] at h
      by_cases h4 : q = 4
      · rw [if_pos h4] at h; exact text_bad h
      · rw [if_neg h4] at h; exact sign_bad h

theorem seqF_end {l : List UInt8} {g p : Nat} (h : ¬ p + skip false (l.drop p) < l.length) : seqF g p (l.drop p) = [] := by
  cases g with
  | zero => rfl
  | succ g =>
    rw [seqF, if_pos]
    rw [List.drop_drop, List.length_drop]; omega
end Lx

theorem seq_step {l : List UInt8} (g p : Nat) (h : p + Lx.skip false (l.drop p) < l.length) :
    ∃ (kk : Int) (x : ByteArray) (v po e a : Int) (en : Nat), wayV (p + Lx.skip false (l.drop p)) (Lx.tok (l.drop (p + Lx.skip false (l.drop p)))) = .tuple #[tagg kk x v po, .int .i64 (en : Int), fagg e a] ∧
      Lx.seqF (g + 1) p (l.drop p) = (⟨kk, x, v, po⟩, e, a) :: (if e = 0 then Lx.seqF g en (l.drop en) else []) ∧ (e = 0 → p + Lx.skip false (l.drop p) < en ∧ en ≤ l.length) := by
  have hne : ¬ ((l.drop p).drop (Lx.skip false (l.drop p))).length = 0 := by rw [List.drop_drop, List.length_drop]; omega
  rw [Lx.seqF, if_neg hne, List.drop_drop]
  generalize p + Lx.skip false (l.drop p) = q at *
  cases ht : Lx.tok (l.drop q) with
  | bad e o =>
    have he := Lx.tok_bad ht
    exact ⟨0, ⟨#[]⟩, 0, 0, e, ((q + o : Nat) : Int), q + o, rfl, by rw [if_neg he]; rfl, fun h => absurd h he⟩
  | tok k x v len =>
    have hl := Lx.tok_len (by rw [List.length_drop]; omega) ht
    rw [List.length_drop] at hl
    exact ⟨k, x, v, q, 0, 0, q + len, rfl, by rw [if_pos rfl]; show _ :: Lx.seqF g (q + len) ((l.drop q).drop len) = _; rw [List.drop_drop], fun _ => by omega⟩

theorem tokens_c (a : Option Addr) (c : Nat) (l : List UInt8) (w : World) :
    Calls Tryd.prog 26 #[.slice a l.length c] w fun e w' => e = .returned (.func (.func 30) #[] #[.pointer (some ⟨w.heap.size, 0, none⟩)]) ∧ w' = w.alloc (.cells #[.slice a l.length c] 58) := by
  go_enter Tryd.func26, Tryd.ntmps26
  go_wp2_with fail
  go_ret
  exact ⟨rfl, rfl⟩

/-- Whichever way it is. -/
theorem way_c (a : Option Addr) (c : Nat) (l : List UInt8) (p : Nat) (w : World) (h : SrcAt w (.slice a l.length c) l) (hT : Tb w) (hE : Er w) (hp : p < l.length) (hl : l.length ≤ 20000) (F : Nat)
    (hF : (if Lx.kd l[p] = 2 then 39 else if Lx.kd l[p] = 3 then 40 else if Lx.kd l[p] = 4 then 41 else 42) = F) :
    Calls Tryd.prog F #[.slice a l.length c, .int .i64 p] w fun r w' => r = .returned (wayV p (Lx.tok (l.drop p))) ∧ Kept w w' := by
  subst hF
  have ht : Lx.tok (l.drop p) = Lx.tokK (Lx.kd l[p]) (l.drop p) := by unfold Lx.tok; rw [drop_at hp]; rfl
  rw [ht]
  unfold Lx.tokK
  by_cases h2 : Lx.kd l[p] = 2
  · rw [if_pos h2, if_pos h2]; exact word_c a c l p w h hT hp h2 hl
  · rw [if_neg h2, if_neg h2]
    by_cases h3 : Lx.kd l[p] = 3
    · rw [if_pos h3, if_pos h3]; exact number_c a c l p w h hE hp h3 hl
    · rw [if_neg h3, if_neg h3]
      by_cases h4 : Lx.kd l[p] = 4
      · rw [if_pos h4, if_pos h4]; exact text_c a c l p w h hT hp hl
      · rw [if_neg h4, if_neg h4]; exact sign_c a c l p w h hT hp hl

theorem way_enters (q F : Nat) (hF : (if q = 2 then 39 else if q = 3 then 40 else if q = 4 then 41 else 42) = F) :
    ∀ args w, (callFunc F args).run Tryd.prog w = .ok (.enter F args) w := by
  subst hF
  by_cases h2 : q = 2
  · rw [if_pos h2]; exact enters_of Tryd.func39 (by kernel_rfl) rfl
  · rw [if_neg h2]
    by_cases h3 : q = 3
    · rw [if_pos h3]; exact enters_of Tryd.func40 (by kernel_rfl) rfl
    · rw [if_neg h3]
      by_cases h4 : q = 4
      · rw [if_pos h4]; exact enters_of Tryd.func41 (by kernel_rfl) rfl
      · rw [if_neg h4]; exact enters_of Tryd.func42 (by kernel_rfl) rfl

abbrev encQ : Lx.Q → Array Value := fun q => #[tagg q.1.kind q.1.text q.1.n q.1.pos, fagg q.2.1 q.2.2]

set_option maxHeartbeats 8000000 in
theorem tokens1_u (n : Nat) (hn : 1 ≤ n) (a : Option Addr) (c : Nat) (l : List UInt8) (w0 : World) (bs : Nat) (U : World → Nat → Prop) (W1 : World)
    (hS : SrcAt w0 (.slice a l.length c) l) (hT : Tb w0) (hE : Er w0) (hl : l.length ≤ 20000) (hk : Kept w0 W1) (hb : Blk W1 bs 58 #[.slice a l.length c]) (h1 : w0.heap.size ≤ bs) (hb1 : bs + 1 < W1.heap.size)
    (hU1 : ∀ W k, U W k → w0.heap.size ≤ k) (hU2 : ∀ W, Blk W bs 58 #[.slice a l.length c] → ¬ U W bs) (hU3 : ∀ W g cs, Blk W g 38 cs → W1.heap.size ≤ g → ¬ U W g) :
    SeqOwnU Fence.wide n Tryd.prog 30 #[.pointer (some ⟨bs, 0, none⟩)] encQ U (· = Lx.seq l) (· <+: Lx.seq l) (· <+: Lx.seq l) W1 := by
  intro lr J Jx hlr abJ abX hY h0
  have c0 := hb.cell 0
  simp at c0
  refine callsIn_of_wp Tryd.func30 rfl trivial ?_ rfl
  simp only [Tryd.ntmps30, List.size_toArray, List.length_cons, List.length_nil, Nat.reduceAdd, Nat.reduceSub, Array.replicate_succ, Array.replicate_zero, List.push_toArray, List.append_toArray, List.nil_append, List.cons_append]
  have HSK := Lib.hid (skip_c a c l 0 W1 (src_kept hS hk) (Nat.zero_le _))
  have HABJ := Lib.hid abJ
  have HABX := Lib.hid abX
  have HY := Lib.hid hY
  have H0 := Lib.hid h0
  have HK := Lib.hid hk
  have HB := Lib.hid hb
  have HU1 := Lib.hid hU1
  have HU2 := Lib.hid hU2
  have HU3 := Lib.hid hU3
  have HS := Lib.hid hS
  have HT := Lib.hid hT
  have HE := Lib.hid hE
  clear abJ abX hY h0 hk hb hU1 hU2 hU3 hS hT hE
  gi_wp2
  refine ⟨trivial, (callsIn_wide.2 HSK.out).mono ?_⟩
  rintro e w2 ⟨rfl, k2⟩
  have HJ2 := Lib.hid (HABJ.out _ _ _ H0.out k2)
  have HK2 := Lib.hid (HK.out.trans k2)
  have HB2 := Lib.hid (HB.out.kept k2)
  have hz2 := k2.size
  clear k2 H0 HSK c0
  gi_wp2
  gi_loopg [3] (l.length + 1) (fun g i3 wr => ∃ (pre : List Lx.Q) (p : Nat), i3 = .int .i64 ((p + Lx.skip false (l.drop p) : Nat) : Int) ∧ Hid (p ≤ l.length ∧ l.length < g + p ∧ Lx.seq l = pre ++ Lx.seqF g p (l.drop p)) ∧ Hid (J pre wr) ∧ Hid (Kept w0 wr) ∧ Hid (Blk wr bs 58 #[.slice a l.length c]) ∧ W1.heap.size ≤ wr.heap.size)
  case atStart => exact ⟨[], 0, by simp, Lib.hid ⟨Nat.zero_le _, by omega, rfl⟩, HJ2, HK2, HB2, hz2⟩
  case round =>
    clear HJ2 HK2 HB2 hz2
    obtain ⟨pre, p, rfl, HP, HJ, HKr, HBr, hz⟩ := hrel
    have b0 := HBr.out.cell 0
    simp at b0
    have hkp : p + Lx.skip false (l.drop p) ≤ l.length := by
      have h1 := Lx.skip_le false (l.drop p)
      have h2 := HP.out.1
      rw [List.length_drop] at h1; omega
    obtain ⟨q, hq⟩ : ∃ q, p + Lx.skip false (l.drop p) = q := ⟨_, rfl⟩
    rw [hq] at hkp ⊢
    have HQ := Lib.hid hq
    clear hq
    by_cases hlt : q < l.length
    · have hltI : (q : Int) < (l.length : Int) := by omega
      obtain ⟨g, rfl⟩ : ∃ g, gk = g + 1 := ⟨gk - 1, by have := HP.out; have := HQ.out; omega⟩
      have HSr := Lib.hid (src_kept HS.out HKr.out)
      have HWO := Lib.hid (wayOf_c a c l q wr HSr.out hlt)
      obtain ⟨F, hF⟩ : ∃ F, (if Lx.kd l[q] = 2 then 39 else if Lx.kd l[q] = 3 then 40 else if Lx.kd l[q] = 4 then 41 else 42) = F := ⟨_, rfl⟩
      rw [hF] at HWO
      have HWY := Lib.hid (way_c a c l q wr HSr.out (HT.out.kept HKr.out) (HE.out.kept HKr.out) hlt hl F hF)
      have hent := way_enters _ F hF
      clear hF
      obtain ⟨kk, x, v, po, ev, av, en, hv, hsq, hen⟩ := seq_step g p (by rw [HQ.out]; exact hlt)
      rw [HQ.out] at hv hen
      rw [hv] at HWY
      have HSQ := Lib.hid (show Lx.seq l = (pre ++ [(⟨kk, x, v, po⟩, ev, av)]) ++ (if ev = 0 then Lx.seqF g en (l.drop en) else []) by rw [HP.out.2.2, hsq]; simp)
      have HEN := Lib.hid hen
      clear hv hsq hen
      gi_wp2
      refine ⟨trivial, (callsIn_wide.2 HWO.out).mono ?_⟩
      rintro e w3 ⟨rfl, rfl⟩
      clear HWO
      gi_wp2
      refine ⟨trivial, (callsIn_wide.2 HWY.out).mono ?_⟩
      rintro e w4 ⟨rfl, k4⟩
      obtain ⟨W5, hW5⟩ : ∃ W5, (w4.alloc (.cells #[.int .i64 kk, .string x, .int .i64 v, .int .i64 po] 24)).alloc (.cells #[.int .i64 ev, .int .i64 av] 38) = W5 := ⟨_, rfl⟩
      have k45 : Kept w4 W5 := by rw [← hW5]; exact ((Kept.refl w4).alloc _).alloc _
      have hb5 : Blk W5 w4.heap.size 24 #[.int .i64 kk, .string x, .int .i64 v, .int .i64 po] ∧ Blk W5 (w4.heap.size + 1) 38 #[.int .i64 ev, .int .i64 av] := by
        rw [← hW5]
        refine ⟨(Blk.new _ _ _).alloc _, ?_⟩
        have := Blk.new (w4.alloc (.cells #[.int .i64 kk, .string x, .int .i64 v, .int .i64 po] 24)) 38 #[.int .i64 ev, .int .i64 av]
        simpa using this
      have HJ5 := Lib.hid (HABJ.out _ _ _ HJ.out (k4.trans k45))
      have HK5 := Lib.hid (HKr.out.trans (k4.trans k45))
      have HB5 := Lib.hid (HBr.out.kept (k4.trans k45))
      have hz4 := k4.size
      have hz5 := k45.size
      have HW5 := Lib.hid hW5
      obtain ⟨d0, d1, d2, d3⟩ : W5.cell? ⟨w4.heap.size, 0, none⟩ = some (.int .i64 kk) ∧ W5.cell? ⟨w4.heap.size, 1, none⟩ = some (.string x) ∧ W5.cell? ⟨w4.heap.size, 2, none⟩ = some (.int .i64 v) ∧ W5.cell? ⟨w4.heap.size, 3, none⟩ = some (.int .i64 po) := ⟨hb5.1.cell 0, hb5.1.cell 1, hb5.1.cell 2, hb5.1.cell 3⟩
      obtain ⟨d4, d5⟩ : W5.cell? ⟨w4.heap.size + 1, 0, none⟩ = some (.int .i64 ev) ∧ W5.cell? ⟨w4.heap.size + 1, 1, none⟩ = some (.int .i64 av) := ⟨hb5.2.cell 0, hb5.2.cell 1⟩
      have HF5 := Lib.hid hb5.2
      obtain ⟨fn, tmps, assign, body, hy, hR⟩ := HY.out pre (⟨kk, x, v, po⟩, ev, av) W5 HJ5.out ⟨_, HSQ.out.symm⟩ (by omega)
      clear hW5 k45 hb5 k4 HJ HKr HBr HWY HSr b0
      gi_wp2_with (rw [HW5.out])
      refine hR.mono ?_
      rintro e W6 (⟨rfl, hJ6, hk6⟩ | ⟨rfl, hJx6⟩)
      · have hgF := HU3.out W5 (w4.heap.size + 1) _ HF5.out (by omega)
        have hF6 := HF5.out.only hk6 (fun h => h.elim hgF (by omega))
        have hB6 := HB5.out.only hk6 (fun h => h.elim (HU2.out _ HB5.out) (by omega))
        have HK6 := Lib.hid (HK5.out.only hk6 rfl (fun k h => h.elim (HU1.out _ k) (by omega)))
        have hz6 := hk6.size
        have b6 := hB6.cell 0
        simp at b6
        have q4 : W6.cell? ⟨w4.heap.size + 1, 0, none⟩ = some (.int .i64 ev) := hF6.cell 0
        have HB6 := Lib.hid hB6
        have HJ6 := Lib.hid hJ6
        clear hgF hF6 hB6 hk6 hJ6 d0 d1 d2 d3 d4 d5 HJ5 HK5 HB5 HF5 hR HY
        by_cases he : ev = 0
        · subst he
          obtain ⟨hen1, hen2⟩ := HEN.out rfl
          have HSK := Lib.hid (skip_c a c l en W6 (src_kept HS.out HK6.out) hen2)
          gi_wp2
          refine ⟨trivial, (callsIn_wide.2 HSK.out).mono ?_⟩
          rintro e w7 ⟨rfl, k7⟩
          gi_wp2
          gi_roundg g
          case measure => omega
          case rel => exact ⟨_, en, by go_num, Lib.hid ⟨hen2, by have := HP.out; have := HQ.out; omega, by rw [HSQ.out]; simp⟩, Lib.hid (HABJ.out _ _ _ HJ6.out k7), Lib.hid (HK6.out.trans k7), Lib.hid (HB6.out.kept k7), by have := k7.size; omega⟩
        · have he1 : (ev == 0) = false := by simp [he]
          have he2 : (ev != 0) = true := by simp [he]
          gi_wp2
          refine bodyPost_ret (results_none rfl _ _ _) rfl ?_
          exact ⟨⟨_, rfl⟩, .inl ⟨_, by rw [HSQ.out, if_neg he, List.append_nil], HJ6.out⟩⟩
      · gi_wp2
        refine bodyPost_ret (results_none rfl _ _ _) rfl ?_
        exact ⟨⟨_, rfl⟩, .inr ⟨_, ⟨_, HSQ.out.symm⟩, hJx6⟩⟩
    · obtain rfl : q = l.length := by omega
      have hltI : ¬ (l.length : Int) < (l.length : Int) := by omega
      gi_wp2
      refine bodyPost_end (results_none rfl _ _ _) rfl ?_
      have e : Lx.seq l = pre := by rw [HP.out.2.2, Lx.seqF_end (by rw [HQ.out]; omega), List.append_nil]
      exact ⟨⟨_, rfl⟩, .inl (by first | exact ⟨pre, e.symm, HJ.out⟩ | (rw [e]; exact HJ.out))⟩

end Go.Proofs.YtbnifedcfkpohaaDoor
