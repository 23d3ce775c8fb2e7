/- The contract of octet's text: which text stands at the reader's place, or the panic that tells why none does. -/
import Derived.Test.YtfbbhkhingfdeaaRat
import Derived.Lib.Strings
set_option linter.unusedSimpArgs false
set_option linter.unusedVariables false
namespace Go.Proofs.Ytfbbhkhingfdeaa
open Go.ChangeShapes Go.WideShapes Go.ChangeAt Go.RowKit

theorem scan_lt (l : List UInt8) : (Oct.scan 0 l).2.1 < 9223372036854775808 := by
  rcases Oct.scan_err 0 l with h | h | h
  · exact (Oct.scan_ok0 h).1
  · rw [h.2]; decide
  · rw [h.2]; decide

theorem len_data (s : ByteArray) : s.data.toList.length = s.size := by rw [Array.length_toList]; rfl

/-- How a text is read. -/
def TxtPost (b : Nat) (s : ByteArray) (p : Nat) (most : Int) (w : World) (e : Ending) (w' : World) : Prop :=
  (Oct.txtE s.data.toList p most = 0 ∧ e = .returned (.string ⟨((s.data.toList.drop (p + (Oct.scan 0 (s.data.toList.drop p)).2.2)).take (Oct.scan 0 (s.data.toList.drop p)).2.1).toArray⟩) ∧ Only (· = b) w w' ∧
    Blk w' b 49 (rcells b s (p + (Oct.scan 0 (s.data.toList.drop p)).2.2 + (Oct.scan 0 (s.data.toList.drop p)).2.1) 0 0)) ∨
  (Oct.txtE s.data.toList p most ≠ 0 ∧ e = .panicked (refusal (Oct.txtE s.data.toList p most) p) ∧ Only (· = b) w w' ∧ Blk w' b 49 (rcells b s (p + (Oct.scan 0 (s.data.toList.drop p)).2.2) 0 0))

theorem extract_is (s : ByteArray) (i j : Nat) (h : i ≤ j) (hj : j ≤ s.size) : s.extract i j = ⟨((s.data.toList.drop i).take (j - i)).toArray⟩ := by
  apply ByteArray.ext
  apply Array.toList_inj.1
  rw [Lib.extract_data]

theorem TxtPost.ok {b : Nat} {s : ByteArray} {p k n : Nat} {most : Int} {w w' : World} {e : Ending} {u : ByteArray} (hE : Oct.txtE s.data.toList p most = 0) (hn : (Oct.scan 0 (s.data.toList.drop p)).2.1 = n) (hk : (Oct.scan 0 (s.data.toList.drop p)).2.2 = k)
    (he : e = .returned (.string u)) (hu : u = ⟨((s.data.toList.drop (p + k)).take n).toArray⟩) (ho : Only (· = b) w w') (hb : Blk w' b 49 (rcells b s (p + k + n) 0 0)) : TxtPost b s p most w e w' := by
  subst hn hk hu
  exact .inl ⟨hE, he, ho, hb⟩
theorem TxtPost.bad {b : Nat} {s : ByteArray} {p k : Nat} {most c : Int} {w w' : World} {e : Ending} (hE : Oct.txtE s.data.toList p most = c) (hc : c ≠ 0) (hk : (Oct.scan 0 (s.data.toList.drop p)).2.2 = k)
    (he : e = .panicked (refusal c p)) (ho : Only (· = b) w w') (hb : Blk w' b 49 (rcells b s (p + k) 0 0)) : TxtPost b s p most w e w' := by
  subst hE hk
  exact .inr ⟨hc, he, ho, hb⟩

set_option maxRecDepth 100000 in
set_option maxHeartbeats 1600000 in
theorem text_c (b : Nat) (s : ByteArray) (p : Nat) (most : Int) (w : World) (hs : s.size ≤ maxLen) (hp : p ≤ s.size) (hb : Blk w b 49 (rcells b s p 0 0)) :
    Calls Try.prog 42 #[.pointer (some ⟨b, 0, none⟩), .int .i64 most] w (TxtPost b s p most w) := by
  have HN := Lib.hid (number_c b s p w hs hp hb)
  have c2 := hb.cell 2
  simp at c2
  unfold maxLen at hs
  have hlen := len_data s
  have hsl := scan_lt (s.data.toList.drop p)
  have hsc := Oct.scan_len (s.data.toList.drop p)
  rw [List.length_drop, hlen] at hsc
  have hE : Oct.txtE s.data.toList p most = Oct.txtE s.data.toList p most := rfl
  conv at hE => rhs; unfold Oct.txtE
  rw [hlen] at hE
  have HE := Lib.hid hE
  clear hE hb hlen
  go_enter Try.func42, Try.ntmps42
  go_wp2_with fail
  refine HN.out.mono ?_
  rintro r w1 (⟨h0, rfl, ho, hb1⟩ | ⟨h0, rfl, ho, hb1⟩)
  · have d1 := hb1.cell 1
    have d2 := hb1.cell 2
    have g2 := hb1.frozen 2
    simp at d1 d2
    have HB := Lib.hid hb1
    have H0 := Lib.hid h0
    clear hb1 h0 HN c2
    generalize hn : (Oct.scan 0 (s.data.toList.drop p)).2.1 = n at *
    generalize hk : (Oct.scan 0 (s.data.toList.drop p)).2.2 = k at *
    have HN := Lib.hid hn
    have HK := Lib.hid hk
    clear hn hk
    by_cases hm : most < (n : Int)
    · have HE := Lib.hid (show Oct.txtE s.data.toList p most = 4 by rw [HE.out, if_neg (fun h => h H0.out), if_pos hm])
      go_wp2
      exact ⟨rfl, TxtPost.bad HE.out (by decide) HK.out rfl ho HB.out⟩
    · by_cases hr : (s.size : Int) - ((p + k : Nat) : Int) < (n : Int)
      · have HE := Lib.hid (show Oct.txtE s.data.toList p most = 13 by rw [HE.out, if_neg (fun h => h H0.out), if_neg hm, if_pos hr])
        go_wp2
        go_quiet (fail)
        go_wp2
        exact ⟨rfl, TxtPost.bad HE.out (by decide) HK.out rfl (ho.drewN _) HB.out⟩
      · have HE := Lib.hid (show Oct.txtE s.data.toList p most = 0 by rw [HE.out, if_neg (fun h => h H0.out), if_neg hm, if_neg hr])
        have e1 : (p : Int) + (k : Int) + (n : Int) - (n : Int) = (p : Int) + (k : Int) := by omega
        go_wp2
        go_quiet (fail)
        go_wp2
        go_quiet (fail)
        go_wp2
        go_ret
        refine TxtPost.ok HE.out HN.out HK.out rfl ?_ (((ho.drewN _).put _ _).drewN _) ?_
        · rw [extract_is s (p + k) (p + k + n) (by omega) (by omega), Nat.add_sub_cancel_left]
        · have := (HB.out.drewN 0).put 2 (.int .i64 ((p : Int) + (k : Int) + (n : Int)))
          have e : ((p + k + n : Nat) : Int) = (p : Int) + (k : Int) + (n : Int) := by omega
          unfold rcells
          rw [e]
          exact this
  · go_wp2
    have hz : (Oct.scan 0 (s.data.toList.drop p)).2.2 = 0 := by
      rcases Oct.scan_err 0 (s.data.toList.drop p) with k | k | k
      · exact absurd k h0
      · rw [k.2]
      · rw [k.2]
    have he : Oct.txtE s.data.toList p most = (Oct.scan 0 (s.data.toList.drop p)).1 := by rw [HE.out, if_pos h0]
    exact ⟨rfl, TxtPost.bad he h0 hz rfl ho hb1⟩
end Go.Proofs.Ytfbbhkhingfdeaa
