/- Contracts of octet's reader: Word, Rest, End. -/
import Derived.Test.YtfbbhkhingfdeaaRme
set_option linter.unusedSimpArgs false
set_option linter.unusedVariables false
namespace Go.Proofs.Ytfbbhkhingfdeaa
open Go.ChangeShapes Go.WideShapes Go.ChangeAt Go.RowKit

theorem word1_c (c1 c2 b : Nat) (s : ByteArray) (p : Nat) (most : Int) (w : World) (h1 : w.cell? ⟨c1, 0, none⟩ = some (.pointer (some ⟨b, 0, none⟩))) (h2 : w.cell? ⟨c2, 0, none⟩ = some (.int .i64 most))
    (hs : s.size ≤ maxLen) (hp : p ≤ s.size) (hb : Blk w b 49 (rcells b s p 0 0)) :
    Calls Try.prog 41 #[.pointer (some ⟨c1, 0, none⟩), .pointer (some ⟨c2, 0, none⟩)] w (TxtPost b s p most w) := by
  have HT := Lib.hid (text_c b s p most w hs hp hb)
  clear hs hp hb
  go_enter Try.func41, Try.ntmps41
  go_wp2_with fail
  refine HT.out.mono ?_
  intro r w1 hT
  rcases id hT with ⟨_, rfl, _, _⟩ | ⟨_, rfl, _, _⟩
  · have HP := Lib.hid hT
    clear hT
    go_wp2_with fail
    go_ret
    exact HP.out
  · have HP := Lib.hid hT
    clear hT
    go_wp2_with fail
    exact ⟨rfl, HP.out⟩

theorem wordV_ok {l : List UInt8} {p : Nat} {most : Int} (h : Oct.txtE l p most = 0) : Oct.wordV l most (p, 0, 0) = (l.drop (p + (Oct.scan 0 (l.drop p)).2.2)).take (Oct.scan 0 (l.drop p)).2.1 := by
  unfold Oct.wordV; rw [if_neg (by simp), if_pos h]
theorem wordS_ok {l : List UInt8} {p : Nat} {most : Int} (h : Oct.txtE l p most = 0) : Oct.wordS l most (p, 0, 0) = (p + (Oct.scan 0 (l.drop p)).2.2 + (Oct.scan 0 (l.drop p)).2.1, 0, 0) := by
  unfold Oct.wordS; rw [if_neg (by simp), if_pos h]
theorem wordV_bad {l : List UInt8} {p : Nat} {most : Int} (h : Oct.txtE l p most ≠ 0) : Oct.wordV l most (p, 0, 0) = [] := by
  unfold Oct.wordV; rw [if_neg (by simp), if_neg h]
theorem wordS_bad {l : List UInt8} {p : Nat} {most : Int} (h : Oct.txtE l p most ≠ 0) : Oct.wordS l most (p, 0, 0) = (p + (Oct.scan 0 (l.drop p)).2.2, Oct.txtE l p most, p) := by
  unfold Oct.wordS; rw [if_neg (by simp), if_neg h]

theorem attS_c (c1 c2 b : Nat) (s : ByteArray) (p : Nat) (most : Int) (w : World) (h1 : w.cell? ⟨c1, 0, none⟩ = some (.pointer (some ⟨b, 0, none⟩))) (h2 : w.cell? ⟨c2, 0, none⟩ = some (.int .i64 most))
    (hs : s.size ≤ maxLen) (hp : p ≤ s.size) (hb : Blk w b 49 (rcells b s p 0 0)) :
    Calls Try.prog 40 #[.pointer (some ⟨b, 0, none⟩), .func (.func 41) #[] #[.pointer (some ⟨c1, 0, none⟩), .pointer (some ⟨c2, 0, none⟩)]] w fun r w' =>
      r = .returned (.string ⟨(Oct.wordV s.data.toList most (p, 0, 0)).toArray⟩) ∧ Only (· = b) w w' ∧ Blk w' b 49 (rcells b s (Oct.wordS s.data.toList most (p, 0, 0)).1 (Oct.wordS s.data.toList most (p, 0, 0)).2.1 (Oct.wordS s.data.toList most (p, 0, 0)).2.2) := by
  have hmf : ∀ (fn : Fn) (first cap : Array Value) (w : World), (Instr.makeFunc fn first cap).run Try.prog w = .ok (.func fn first cap) w := fun _ _ _ _ => rfl
  have hb1 := hb.alloc (.cells #[.pointer (some ⟨b, 0, none⟩)] 45)
  have hk1 : Kept w (w.alloc (.cells #[.pointer (some ⟨b, 0, none⟩)] 45)) := (Kept.refl w).alloc _
  have HS := Lib.hid (soundR_t b s p 0 _ hb1)
  have HN := Lib.hid (word1_c c1 c2 b s p most _ (hk1.cell h1) (hk1.cell h2) hs hp hb1)
  have hlt := hb.lt
  clear hb hb1 hs hp h1 h2 hk1
  go_enter_defers Try.func40, Try.ntmps40
  go_wp2_with fail
  refine HS.out.mono ?_
  rintro r w' ⟨rfl, rfl⟩
  go_wp2_with fail
  refine HN.out.mono ?_
  rintro r w1 (⟨h0, rfl, ho, hb1⟩ | ⟨h0, rfl, ho, hb1⟩)
  · have hc := (new_only hlt ho).cell 0
    simp at hc
    have HC := Lib.hid (catchS_none w.heap.size b w1 hc)
    have H0 := Lib.hid h0
    clear hc h0 HS HN
    go_wp2_with fail
    refine leaves_cons (f := 48) (args := #[.pointer (some ⟨w.heap.size, 0, none⟩)]) (by simp) (by simp [go_sem]) ?_
    refine HC.out.mono ?_
    rintro r u' w2 ⟨rfl, rfl, hk⟩
    exact ⟨_, results_tmp rfl _ _ _, (by rw [wordV_ok H0.out]; try rfl), (only_new ho).trans (Only.of_kept hk), (by rw [wordS_ok H0.out]; exact hb1.kept hk)⟩
  · have hc := (new_only hlt ho).cell 0
    simp at hc
    have HC := Lib.hid (catchS_some w.heap.size b (Oct.txtE s.data.toList p most) p (.pointer (some ⟨b, 0, none⟩)) (.string s) (.int .i64 (p + (Oct.scan 0 (s.data.toList.drop p)).2.2 : Nat)) w1 hc hb1)
    have H0 := Lib.hid h0
    clear hc h0 HS HN
    go_wp2_with fail
    refine leaves_cons (f := 48) (args := #[.pointer (some ⟨w.heap.size, 0, none⟩)]) (by simp) (by simp [go_sem]) ?_
    refine HC.out.mono ?_
    rintro r u' w2 ⟨rfl, hu, ho2, hb2⟩
    show Leaves _ _ _ _ _ (settle u') w2
    rw [hu]
    exact ⟨_, results_tmp rfl _ _ _, (by rw [wordV_bad H0.out]; try rfl), (only_new ho).trans ho2, (by rw [wordS_bad H0.out]; exact hb2)⟩

theorem wordR_go (q : Option Addr) (most : Int) (u : ByteArray) (w : World) (Po : World → Prop)
    (h : ∀ w', w' = (w.alloc (.cells #[.pointer q] 45)).alloc (.cells #[.int .i64 most] 3) → Calls Try.prog 40 #[.pointer q, .func (.func 41) #[] #[.pointer (some ⟨w.heap.size, 0, none⟩), .pointer (some ⟨w.heap.size + 1, 0, none⟩)]] w' fun r w'' => r = .returned (.string u) ∧ Po w'') :
    Calls Try.prog 24 #[.pointer q, .int .i64 most] w fun r w' => r = .returned (.string u) ∧ Po w' := by
  have hmf : ∀ (fn : Fn) (first cap : Array Value) (w : World), (Instr.makeFunc fn first cap).run Try.prog w = .ok (.func fn first cap) w := fun _ _ _ _ => rfl
  have H := Lib.hid (h _ rfl)
  clear h
  go_enter Try.func24, Try.ntmps24
  go_wp2_with fail
  refine H.out.mono ?_
  rintro r w' ⟨rfl, hp⟩
  go_wp2_with fail
  go_ret
  exact ⟨rfl, hp⟩

theorem wordR_c (b : Nat) (s : ByteArray) (t : Oct.Rs) (most : Int) (w : World) (h : Rd w b s t) :
    Calls Try.prog 24 #[.pointer (some ⟨b, 0, none⟩), .int .i64 most] w fun r w' => r = .returned (.string ⟨(Oct.wordV s.data.toList most t).toArray⟩) ∧ Only (· = b) w w' ∧ Rd w' b s (Oct.wordS s.data.toList most t) := by
  refine wordR_go _ _ _ w _ ?_
  rintro w0 rfl
  obtain ⟨p, e, a⟩ := t
  obtain ⟨hb, hg, hs⟩ := h
  have hp : p ≤ s.size := by have := hg.1; rwa [len_data] at this
  have hk : Kept w ((w.alloc (.cells #[.pointer (some ⟨b, 0, none⟩)] 45)).alloc (.cells #[.int .i64 most] 3)) := ((Kept.refl w).alloc _).alloc _
  by_cases he : e = 0
  · subst he
    obtain rfl : a = 0 := hg.2.2 rfl
    have c1 := ((Blk.new w 45 #[.pointer (some ⟨b, 0, none⟩)]).alloc (.cells #[.int .i64 most] 3)).cell 0
    have c2 := (Blk.new (w.alloc (.cells #[.pointer (some ⟨b, 0, none⟩)] 45)) 3 #[.int .i64 most]).cell 0
    rw [World.size_alloc] at c2
    exact (attS_c w.heap.size (w.heap.size + 1) b s p most _ (by rw [c1]; rfl) (by rw [c2]; rfl) hs hp (hb.kept hk)).mono fun r w' ⟨h1, h2, h3⟩ => ⟨h1, (Only.of_kept hk).trans h2, h3, Oct.good_word most hg, hs⟩
  · have e1 : Oct.wordV s.data.toList most (p, e, a) = [] := by unfold Oct.wordV; rw [if_pos he]
    have e2 : Oct.wordS s.data.toList most (p, e, a) = (p, e, a) := by unfold Oct.wordS; rw [if_pos he]
    rw [e1, e2]
    exact (attS_no _ _ _ fun w' k => soundR_e b s p e a w' he (hb.kept (hk.trans k))).mono fun r w' ⟨h1, h2⟩ => ⟨h1, Only.of_kept (hk.trans h2), hb.kept (hk.trans h2), hg, hs⟩

theorem wordR_f (q : Option Addr) (most : Int) (w : World) (h : BadR w q) : Calls Try.prog 24 #[.pointer q, .int .i64 most] w fun r w' => r = .returned (.string ⟨#[]⟩) ∧ Kept w w' := by
  refine wordR_go _ _ _ w _ ?_
  rintro w0 rfl
  have hk : Kept w ((w.alloc (.cells #[.pointer q] 45)).alloc (.cells #[.int .i64 most] 3)) := ((Kept.refl w).alloc _).alloc _
  exact (attS_no q _ _ fun w' k => soundR_f q w' (h.kept (hk.trans k))).mono fun r w' ⟨h1, h2⟩ => ⟨h1, hk.trans h2⟩

theorem restR_no (q : Option Addr) (w : World) (hS : Calls Try.prog 43 #[.pointer q] w fun r w'' => r = .returned (.bool false) ∧ w = w'') :
    Calls Try.prog 25 #[.pointer q] w fun r w' => r = .returned (.int .i64 0) ∧ Kept w w' := by
  have HS := Lib.hid hS
  clear hS
  go_enter Try.func25, Try.ntmps25
  go_wp2_with fail
  refine HS.out.mono ?_
  rintro r w' ⟨rfl, rfl⟩
  go_wp2_with fail
  go_ret
  exact ⟨rfl, Kept.refl w⟩

theorem restR_c (b : Nat) (s : ByteArray) (t : Oct.Rs) (w : World) (h : Rd w b s t) :
    Calls Try.prog 25 #[.pointer (some ⟨b, 0, none⟩)] w fun r w' => r = .returned (.int .i64 (Oct.restV s.data.toList t)) ∧ Kept w w' := by
  obtain ⟨p, e, a⟩ := t
  obtain ⟨hb, hg, hs⟩ := h
  have hp : p ≤ s.size := by have := hg.1; rwa [len_data] at this
  by_cases he : e = 0
  · subst he
    have hv := Lib.hid (show ((Oct.restV s.data.toList (p, 0, a) : Nat) : Int) = (s.size : Int) - (p : Int) by unfold Oct.restV; rw [if_neg (by simp), len_data]; dsimp only; omega)
    have HS := Lib.hid (soundR_t b s p a w hb)
    have c1 := hb.cell 1
    have c2 := hb.cell 2
    simp at c1 c2
    unfold maxLen at hs
    clear hb hg
    go_enter Try.func25, Try.ntmps25
    go_wp2_with fail
    refine HS.out.mono ?_
    rintro r w' ⟨rfl, rfl⟩
    go_wp2_with fail
    go_quiet (fail)
    go_wp2
    go_ret
    exact ⟨by rw [hv.out]; rfl, (Kept.refl w).drewN _⟩
  · have e1 : Oct.restV s.data.toList (p, e, a) = 0 := by unfold Oct.restV; rw [if_pos he]
    rw [e1]
    exact restR_no _ w (soundR_e b s p e a w he hb)

theorem restR_f (q : Option Addr) (w : World) (h : BadR w q) : Calls Try.prog 25 #[.pointer q] w fun r w' => r = .returned (.int .i64 0) ∧ Kept w w' :=
  restR_no q w (soundR_f q w h)

theorem endR_f (q : Option Addr) (w : World) (h : BadR w q) : Calls Try.prog 26 #[.pointer q] w fun r w' => r = .returned (.agg #[.int .i64 1, .int .i64 0]) ∧ Kept w w' := by
  have HV := Lib.hid (validR_f q _ (h.kept ((Kept.refl w).alloc (.cells #[.int .i64 0, .int .i64 0] 47))))
  clear h
  go_enter Try.func26, Try.ntmps26
  go_wp2_with fail
  refine HV.out.mono ?_
  rintro r w' ⟨rfl, rfl⟩
  go_wp2_with fail
  exact bodyPost_ret (v := .agg #[.int .i64 1, .int .i64 0]) (by simp [results, Try.results26, go_sem]) rfl ⟨rfl, (Kept.refl w).alloc _⟩

theorem endR_c (b : Nat) (s : ByteArray) (t : Oct.Rs) (w : World) (h : Rd w b s t) :
    Calls Try.prog 26 #[.pointer (some ⟨b, 0, none⟩)] w fun r w' => r = .returned (.agg #[.int .i64 (Oct.endE s.data.toList t), .int .i64 (Oct.endA s.data.toList t)]) ∧ Kept w w' := by
  obtain ⟨p, e, a⟩ := t
  have hp := h.place
  have hk : Kept w (w.alloc (.cells #[.int .i64 0, .int .i64 0] 47)) := (Kept.refl w).alloc _
  have HV := Lib.hid (validR_t b s p e a _ (h.kept hk).1)
  have HR := Lib.hid (restR_c b s (p, e, a) _ (h.kept hk))
  have HN := Lib.hid (Blk.new w 47 #[.int .i64 0, .int .i64 0])
  have hlt := h.lt
  have hlen := len_data s
  have hg : e = 0 → a = 0 := h.2.1.2.2
  by_cases he : e = 0
  · subst he
    obtain rfl : a = 0 := hg rfl
    by_cases hr : p < s.size
    · have e1 : Oct.endE s.data.toList (p, 0, 0) = 4 := by unfold Oct.endE; rw [if_neg (by simp), if_pos (by rw [hlen]; exact hr)]
      have e2 : Oct.endA s.data.toList (p, 0, 0) = p := by unfold Oct.endA; rw [if_neg (by simp), if_pos (by rw [hlen]; exact hr)]
      have e3 : Oct.restV s.data.toList (p, 0, 0) = s.size - p := by unfold Oct.restV; rw [if_neg (by simp), hlen]
      rw [e3] at HR
      rw [e1, e2]
      have HB := Lib.hid h.1
      have hpos : 0 < ((s.size - p : Nat) : Int) := by omega
      generalize s.size - p = m at *
      clear e1 e2 e3 h hk hg hlen hr hp
      go_enter Try.func26, Try.ntmps26
      go_wp2_with fail
      refine HV.out.mono ?_
      rintro r w' ⟨rfl, rfl⟩
      go_wp2_with fail
      refine HR.out.mono ?_
      rintro r w2 ⟨rfl, hk2⟩
      have hn := HN.out.kept hk2
      have c0 := hn.cell 0
      have c1 := hn.cell 1
      have f0 := hn.frozen 0
      have f1 := hn.frozen 1
      have d2 := ((HB.out.alloc (.cells #[.int .i64 0, .int .i64 0] 47)).kept hk2).cell 2
      simp at c0 c1 d2
      have hK := Lib.hid hk2
      clear hn hk2
      go_wp2_with fail
      exact bodyPost_ret (v := .agg #[.int .i64 4, .int .i64 p]) (by simp [results, Try.results26, go_sem, c0, c1]) rfl ⟨rfl, ((((Kept.refl w).alloc _).trans hK.out).setCell (Nat.le_refl _) _).setCell (Nat.le_refl _) _⟩
    · have e1 : Oct.endE s.data.toList (p, 0, 0) = 0 := by unfold Oct.endE; rw [if_neg (by simp), if_neg (by rw [hlen]; exact hr)]
      have e2 : Oct.endA s.data.toList (p, 0, 0) = 0 := by unfold Oct.endA; rw [if_neg (by simp), if_neg (by rw [hlen]; exact hr)]
      have e3 : Oct.restV s.data.toList (p, 0, 0) = 0 := by unfold Oct.restV; rw [if_neg (by simp), hlen]; dsimp only; omega
      rw [e3] at HR
      rw [e1, e2]
      have HB := Lib.hid h.1
      clear e1 e2 e3 h hk hg hlen hr hp
      go_enter Try.func26, Try.ntmps26
      go_wp2_with fail
      refine HV.out.mono ?_
      rintro r w' ⟨rfl, rfl⟩
      go_wp2_with fail
      refine HR.out.mono ?_
      rintro r w2 ⟨rfl, hk2⟩
      have hn := HN.out.kept hk2
      have c0 := hn.cell 0
      have c1 := hn.cell 1
      have f0 := hn.frozen 0
      have f1 := hn.frozen 1
      have d3 := ((HB.out.alloc (.cells #[.int .i64 0, .int .i64 0] 47)).kept hk2).cell 3
      have d4 := ((HB.out.alloc (.cells #[.int .i64 0, .int .i64 0] 47)).kept hk2).cell 4
      simp at c0 c1 d3 d4
      have hK := Lib.hid hk2
      clear hn hk2
      go_wp2_with fail
      exact bodyPost_ret (v := .agg #[.int .i64 0, .int .i64 0]) (by simp [results, Try.results26, go_sem, c0, c1]) rfl ⟨rfl, ((((Kept.refl w).alloc _).trans hK.out).setCell (Nat.le_refl _) _).setCell (Nat.le_refl _) _⟩
  · have e1 : Oct.endE s.data.toList (p, e, a) = e := by unfold Oct.endE; rw [if_pos he]
    have e2 : Oct.endA s.data.toList (p, e, a) = a := by unfold Oct.endA; rw [if_pos he]
    have e3 : Oct.restV s.data.toList (p, e, a) = 0 := by unfold Oct.restV; rw [if_pos he]
    rw [e3] at HR
    rw [e1, e2]
    have HB := Lib.hid h.1
    clear e1 e2 e3 h hk hg hlen hp he
    go_enter Try.func26, Try.ntmps26
    go_wp2_with fail
    refine HV.out.mono ?_
    rintro r w' ⟨rfl, rfl⟩
    go_wp2_with fail
    refine HR.out.mono ?_
    rintro r w2 ⟨rfl, hk2⟩
    have hn := HN.out.kept hk2
    have c0 := hn.cell 0
    have c1 := hn.cell 1
    have f0 := hn.frozen 0
    have f1 := hn.frozen 1
    have d3 := ((HB.out.alloc (.cells #[.int .i64 0, .int .i64 0] 47)).kept hk2).cell 3
    have d4 := ((HB.out.alloc (.cells #[.int .i64 0, .int .i64 0] 47)).kept hk2).cell 4
    simp at c0 c1 d3 d4
    have hK := Lib.hid hk2
    clear hn hk2
    go_wp2_with fail
    exact bodyPost_ret (v := .agg #[.int .i64 e, .int .i64 a]) (by simp [results, Try.results26, go_sem, c0, c1]) rfl ⟨rfl, ((((Kept.refl w).alloc _).trans hK.out).setCell (Nat.le_refl _) _).setCell (Nat.le_refl _) _⟩
end Go.Proofs.Ytfbbhkhingfdeaa
