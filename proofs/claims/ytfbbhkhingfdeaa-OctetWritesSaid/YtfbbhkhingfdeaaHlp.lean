/- Contracts of the laws' own helpers: SameBytes, has, ends, awake, and of the chapter's examples. -/
import Derived.Test.YtfbbhkhingfdeaaWby
import Derived.Test.YtfbbhkhingfdeaaRwo
set_option linter.unusedSimpArgs false
set_option linter.unusedVariables false
namespace Go.Proofs.Ytfbbhkhingfdeaa
open Go.ChangeShapes Go.WideShapes Go.ChangeAt Go.RowKit

/-- A slice that reads as these bytes, as long as nothing turns that is there. -/
def Str (w : World) (v : Value) (bs : List UInt8) : Prop := ∀ w', Kept w w' → (convert 36 9 v).run Try.prog w' = .ok (.string ⟨bs.toArray⟩) w'

theorem str_nil (w : World) : (convert 36 9 (.slice none 0 0)).run Try.prog w = .ok (.string ⟨([] : List UInt8).toArray⟩) w := by
  rw [run_convert_bytes_string w 36 9 5 none 0 0 Try.underlying36 (by kernel_rfl) Try.underlying9]
  rfl

theorem Str.kept {w w' : World} {v : Value} {bs : List UInt8} (h : Str w v bs) (k : Kept w w') : Str w' v bs := fun w2 k2 => h w2 (k.trans k2)
theorem Row.str {w : World} {v : Value} {bs : List UInt8} (h : Row w v bs) : Str w v bs := by
  intro w' k
  have h' := h.only (S := fun _ => False) (Only.of_kept k) (fun _ _ h => h)
  rcases id h'.2 with ⟨rfl, h0⟩ | ⟨g, cap, cur, rfl, _⟩
  · obtain rfl : bs = [] := List.eq_nil_of_length_eq_zero h0
    exact str_nil w'
  · refine run_convert_bytes_back w' 36 9 5 ⟨g, 0, none⟩ cap bs Try.underlying36 (by kernel_rfl) Try.underlying9 (fun j hj => ?_)
    exact World.ownsRow.cells h' (g := g) rfl j _ (by rw [List.getElem?_map, List.getElem?_eq_getElem hj]; rfl)

/-- A literal's bytes. -/
theorem Row.lit (w : World) (bs : List UInt8) (h : bs.length ≤ 1000) : Row (w.alloc (.cells (bs.map encB).toArray 5)) (.slice (some ⟨w.heap.size, 0, none⟩) bs.length bs.length) bs :=
  ⟨by simp, .inr ⟨w.heap.size, bs.length, _, rfl, Nat.zero_le _, heap_alloc_new w _, Nat.le_refl _, by unfold maxLen; omega, by simp, by rw [Nat.mul_one]; exact List.take_of_length_le (by simp)⟩⟩

theorem sameB_t (a b : Value) (bs : List UInt8) (w : World) (ha : Str w a bs) (hb : Str w b bs) :
    Calls Try.prog 20 #[a, b] w fun e w' => e = .returned (.bool true) ∧ w = w' := by
  have h1 := ha w (Kept.refl w)
  have h2 := hb w (Kept.refl w)
  generalize (⟨bs.toArray⟩ : ByteArray) = s at h1 h2
  clear ha hb
  go_enter Try.func20, Try.ntmps20
  go_wp2
  go_ret
  exact ⟨rfl, rfl⟩

theorem has_t (O : Nat → Prop) (b : Nat) (most : Int) (bs : List UInt8) (want : Value) (w : World) (h : Wr w O b most (bs, 0)) (hw : Str w want bs) :
    Calls Try.prog 32 #[.pointer (some ⟨b, 0, none⟩), want] w fun e w' => e = .returned (.bool true) ∧ Kept w w' := by
  have HB := Lib.hid (bytesW_c O b most (bs, 0) w h)
  have HW := Lib.hid hw
  clear h hw
  go_enter Try.func32, Try.ntmps32
  go_wp2_with fail
  refine HB.out.mono ?_
  rintro e w1 (⟨_, v, rfl, hr, hk, _⟩ | ⟨h, _, _⟩)
  · have HS := Lib.hid (sameB_t v want bs w1 hr.str (HW.out.kept hk))
    have HK := Lib.hid hk
    clear hr hk
    go_wp2_with fail
    refine HS.out.mono ?_
    rintro e w2 ⟨rfl, rfl⟩
    go_wp2_with fail
    go_ret
    exact ⟨rfl, HK.out⟩
  · exact absurd rfl h

theorem ends_t (b : Nat) (s : ByteArray) (t : Oct.Rs) (e a : Int) (w : World) (h : Rd w b s t) (he : Oct.endE s.data.toList t = e) (ha : ((Oct.endA s.data.toList t : Nat) : Int) = a) :
    Calls Try.prog 28 #[.pointer (some ⟨b, 0, none⟩), .int .i64 e, .int .i64 a] w fun r w' => r = .returned (.bool true) ∧ Kept w w' := by
  have H := endR_c b s t w h
  rw [he, ha] at H
  have H := Lib.hid H
  clear h he ha
  go_enter Try.func28, Try.ntmps28
  go_wp2_with fail
  refine H.out.mono ?_
  rintro r w1 ⟨rfl, hk⟩
  go_wp2_with fail
  go_ret
  exact ⟨rfl, hk⟩

/-- A writer and a reader, made behind w0, which have nothing in common. -/
def Two (w0 w : World) (b1 : Nat) (most : Int) (st : Oct.Ws) (b2 : Nat) (s : ByteArray) (t : Oct.Rs) : Prop :=
  ∃ O : Nat → Prop, Kept w0 w ∧ Wr w O b1 most st ∧ Rd w b2 s t ∧ ¬ O b2 ∧ (∀ k, O k → w0.heap.size ≤ k) ∧ w0.heap.size ≤ b2

section
variable {w0 w w' : World} {b1 b2 : Nat} {most : Int} {st : Oct.Ws} {s : ByteArray} {t : Oct.Rs}
theorem Two.from (h : Two w0 w b1 most st b2 s t) : Kept w0 w := by
  obtain ⟨O, h1, _⟩ := h
  exact h1
theorem Two.kept (h : Two w0 w b1 most st b2 s t) (k : Kept w w') : Two w0 w' b1 most st b2 s t := by
  obtain ⟨O, h1, h2, h3, h4, h5, h6⟩ := h
  exact ⟨O, h1.trans k, h2.kept k, h3.kept k, h4, h5, h6⟩

theorem two_wr {O : Nat → Prop} {st' : Oct.Ws} {e : Ending} (h1 : Kept w0 w) (h3 : Rd w b2 s t) (h4 : ¬ O b2) (h5 : ∀ k, O k → w0.heap.size ≤ k) (h6 : w0.heap.size ≤ b2)
    (h : WrPost O b1 most st' w e w') : e = .returned (.int .i64 st'.2) ∧ Two w0 w' b1 most st' b2 s t := by
  obtain ⟨he, O', hw, hg, ho⟩ := h
  refine ⟨he, O', h1.only ho rfl h5, hw, h3.only ho h4, ?_, ?_, h6⟩
  · intro hb
    rcases hg b2 hb with h | h
    · exact h4 h
    · have := h3.lt; omega
  · intro k hk
    rcases hg k hk with h | h
    · exact h5 k h
    · have := h1.size; omega
theorem two_rd {t' : Oct.Rs} (h : Two w0 w b1 most st b2 s t) (ho : Only (· = b2) w w') (hr : Rd w' b2 s t') : Two w0 w' b1 most st b2 s t' := by
  obtain ⟨O, h1, h2, h3, h4, h5, h6⟩ := h
  exact ⟨O, h1.only (n₀ := w0.heap.size) ho rfl (fun k e => by rw [e]; exact h6), h2.only ho (fun g hg e => h4 (e ▸ hg)), hr, h4, h5, h6⟩
end

section
variable (w0 w : World) (b1 b2 : Nat) (most : Int) (st : Oct.Ws) (s : ByteArray) (t : Oct.Rs)
theorem two_num (n : Int) (hn : n ≤ 9223372036854775807) (h : Two w0 w b1 most st b2 s t) :
    Calls Try.prog 12 #[.pointer (some ⟨b1, 0, none⟩), .int .i64 n] w fun e w' => e = .returned (.int .i64 (Oct.put most st (Oct.natO n) []).2) ∧ Two w0 w' b1 most (Oct.put most st (Oct.natO n) []) b2 s t := by
  obtain ⟨O, h1, h2, h3, h4, h5, h6⟩ := h
  exact (numW_c O b1 most st n w hn h2).mono fun e w' h => two_wr h1 h3 h4 h5 h6 h
theorem two_whole (n : Int) (hn1 : -9223372036854775808 ≤ n) (hn2 : n ≤ 9223372036854775807) (h : Two w0 w b1 most st b2 s t) :
    Calls Try.prog 14 #[.pointer (some ⟨b1, 0, none⟩), .int .i64 n] w fun e w' => e = .returned (.int .i64 (Oct.put most st (Oct.zigO n) []).2) ∧ Two w0 w' b1 most (Oct.put most st (Oct.zigO n) []) b2 s t := by
  obtain ⟨O, h1, h2, h3, h4, h5, h6⟩ := h
  exact (wholeW_c O b1 most st n w hn1 hn2 h2).mono fun e w' h => two_wr h1 h3 h4 h5 h6 h
theorem two_word (x : ByteArray) (hx : x.size ≤ 1099511627776) (h : Two w0 w b1 most st b2 s t) :
    Calls Try.prog 16 #[.pointer (some ⟨b1, 0, none⟩), .string x] w fun e w' => e = .returned (.int .i64 (Oct.put most st (some x.size) x.data.toList).2) ∧ Two w0 w' b1 most (Oct.put most st (some x.size) x.data.toList) b2 s t := by
  obtain ⟨O, h1, h2, h3, h4, h5, h6⟩ := h
  exact (wordW_c O b1 most st x w hx h2).mono fun e w' h => two_wr h1 h3 h4 h5 h6 h
theorem two_has (bs : List UInt8) (want : Value) (h : Two w0 w b1 most (bs, 0) b2 s t) (hw : Str w want bs) :
    Calls Try.prog 32 #[.pointer (some ⟨b1, 0, none⟩), want] w fun e w' => e = .returned (.bool true) ∧ Two w0 w' b1 most (bs, 0) b2 s t := by
  have h' := h
  obtain ⟨O, h1, h2, h3, h4, h5, h6⟩ := h
  exact (has_t O b1 most bs want w h2 hw).mono fun e w' h => ⟨h.1, h'.kept h.2⟩
theorem two_rnum (h : Two w0 w b1 most st b2 s t) :
    Calls Try.prog 22 #[.pointer (some ⟨b2, 0, none⟩)] w fun r w' => r = .returned (.int .i64 (Oct.numV s.data.toList t)) ∧ Two w0 w' b1 most st b2 s (Oct.numS s.data.toList t) := by
  have h' := h
  obtain ⟨O, h1, h2, h3, h4, h5, h6⟩ := h
  exact (numR_c b2 s t w h3).mono fun e w' h => ⟨h.1, two_rd h' h.2.1 h.2.2⟩
theorem two_rwhole (h : Two w0 w b1 most st b2 s t) :
    Calls Try.prog 23 #[.pointer (some ⟨b2, 0, none⟩)] w fun r w' => r = .returned (.int .i64 (Oct.zag (Oct.numV s.data.toList t))) ∧ Two w0 w' b1 most st b2 s (Oct.numS s.data.toList t) := by
  have h' := h
  obtain ⟨O, h1, h2, h3, h4, h5, h6⟩ := h
  exact (wholeR_c b2 s t w h3).mono fun e w' h => ⟨h.1, two_rd h' h.2.1 h.2.2⟩
theorem two_rword (n : Int) (h : Two w0 w b1 most st b2 s t) :
    Calls Try.prog 24 #[.pointer (some ⟨b2, 0, none⟩), .int .i64 n] w fun r w' => r = .returned (.string ⟨(Oct.wordV s.data.toList n t).toArray⟩) ∧ Two w0 w' b1 most st b2 s (Oct.wordS s.data.toList n t) := by
  have h' := h
  obtain ⟨O, h1, h2, h3, h4, h5, h6⟩ := h
  exact (wordR_c b2 s t n w h3).mono fun e w' h => ⟨h.1, two_rd h' h.2.1 h.2.2⟩
theorem two_ends (e a : Int) (h : Two w0 w b1 most st b2 s t) (he : Oct.endE s.data.toList t = e) (ha : ((Oct.endA s.data.toList t : Nat) : Int) = a) :
    Calls Try.prog 28 #[.pointer (some ⟨b2, 0, none⟩), .int .i64 e, .int .i64 a] w fun r w' => r = .returned (.bool true) ∧ Two w0 w' b1 most st b2 s t := by
  have h' := h
  obtain ⟨O, h1, h2, h3, h4, h5, h6⟩ := h
  exact (ends_t b2 s t e a w h3 he ha).mono fun e w' h => ⟨h.1, h'.kept h.2⟩
end

theorem rd_new {w : World} {b : Nat} {s : ByteArray} (hs : s.size ≤ maxLen) (hb : Blk w b 49 #[.pointer (some ⟨b, 0, none⟩), .string s, .int .i64 0, .int .i64 0, .int .i64 0]) : Rd w b s (0, 0, 0) :=
  ⟨hb, Oct.good_new _, hs⟩

abbrev six : List UInt8 := [172, 2, 1, 2, 97, 98]
theorem g300 : Oct.grp 300 = [172, 2] := by rw [Oct.grp_ge (by decide), Oct.grp_lt (by decide)]; rfl
theorem pu1 : Oct.put 9 ([], 0) (Oct.natO 300) [] = ([172, 2], 0) := by
  have e : Oct.natO 300 = some 300 := by kernel_rfl
  rw [e]
  unfold Oct.put
  dsimp only
  rw [g300]
  first | rfl | exact (show _ = _ by kernel_rfl)
theorem pu2 : Oct.put 9 ([172, 2], 0) (Oct.zigO (-1)) [] = ([172, 2, 1], 0) := by
  have e : Oct.zigO (-1) = some 1 := by kernel_rfl
  rw [e]
  have g : Oct.grp 1 = [1] := Oct.grp_lt (by decide)
  unfold Oct.put
  dsimp only
  rw [g]
  first | rfl | exact (show _ = _ by kernel_rfl)
theorem pu3 : Oct.put 9 ([172, 2, 1], 0) (some 2) [97, 98] = (six, 0) := by
  have g : Oct.grp 2 = [2] := Oct.grp_lt (by decide)
  unfold Oct.put
  dsimp only
  rw [g]
  first | rfl | exact (show _ = _ by kernel_rfl)

abbrev sixS : ByteArray := ⟨#[172, 2, 1, 2, 97, 98]⟩
abbrev sixO : Obj := .cells #[.int .u8 172, .int .u8 2, .int .u8 1, .int .u8 2, .int .u8 97, .int .u8 98] 5
theorem six_str (w : World) : Str (w.alloc sixO) (.slice (some ⟨w.heap.size, 0, none⟩) 6 6) six := (Row.lit w six (by decide)).str

theorem awake_c (w : World) : Calls Try.prog 11 #[] w fun e w' => e = .returned (.bool true) ∧ Kept w w' := by
  go_enter Try.func11, Try.ntmps11
  go_wp2_with fail
  refine (newW_c 9 w (by decide) (by decide)).mono ?_
  rintro e w1 ⟨rfl, k1, hw1⟩
  have HW := Lib.hid hw1
  have HK := Lib.hid k1
  clear k1 hw1
  go_wp2_with fail
  refine (newR_c _ sixS _ ((six_str w1) _ (Kept.refl _))).mono ?_
  rintro e w2 ⟨rfl, k2, hb2⟩
  have T := Lib.hid (show Two w w2 w.heap.size 9 ([], 0) (w1.alloc sixO).heap.size sixS (0, 0, 0) from by
    have kk : Kept w1 w2 := ((Kept.refl w1).alloc _).trans k2
    have hs := HK.out.size
    exact ⟨_, HK.out.trans kk, HW.out.kept kk, rd_new (by decide) hb2, by simp; omega, fun k e => by rw [e]; exact Nat.le_refl _, by simp; omega⟩)
  clear HW HK k2 hb2
  rw [World.size_alloc] at T ⊢
  go_wp2_with fail
  refine (two_num _ _ _ _ _ _ _ _ 300 (by decide) T.out).mono ?_
  rw [pu1]
  rintro e w3 ⟨rfl, t3⟩
  have T := Lib.hid t3
  clear t3
  go_wp2_with fail
  refine (two_whole _ _ _ _ _ _ _ _ (-1) (by decide) (by decide) T.out).mono ?_
  rw [pu2]
  rintro e w4 ⟨rfl, t4⟩
  have T := Lib.hid t4
  clear t4
  go_wp2_with fail
  refine (two_word _ _ _ _ _ _ _ _ ⟨#[97, 98]⟩ (by decide) T.out).mono ?_
  rw [show Oct.put 9 ([172, 2, 1], 0) (some (⟨#[97, 98]⟩ : ByteArray).size) (⟨#[97, 98]⟩ : ByteArray).data.toList = (six, 0) from pu3]
  rintro e w5 ⟨rfl, t5⟩
  have T := Lib.hid t5
  clear t5
  go_wp2_with fail
  refine (two_has _ _ _ _ _ _ _ six _ (T.out.kept ((Kept.refl _).alloc sixO)) (six_str _)).mono ?_
  rintro e w6 ⟨rfl, t6⟩
  have T := Lib.hid t6
  clear t6
  go_wp2_with fail
  refine (two_rnum _ _ _ _ _ _ _ _ T.out).mono ?_
  rw [show Oct.numV sixS.data.toList (0, 0, 0) = 300 by kernel_rfl, show Oct.numS sixS.data.toList (0, 0, 0) = (2, 0, 0) by kernel_rfl]
  rintro e w7 ⟨rfl, t7⟩
  have T := Lib.hid t7
  clear t7
  go_wp2_with fail
  refine (two_rwhole _ _ _ _ _ _ _ _ T.out).mono ?_
  rw [show Oct.zag (Oct.numV sixS.data.toList (2, 0, 0)) = -1 by kernel_rfl, show Oct.numS sixS.data.toList (2, 0, 0) = (3, 0, 0) by kernel_rfl]
  rintro e w8 ⟨rfl, t8⟩
  have T := Lib.hid t8
  clear t8
  go_wp2_with fail
  refine (two_rword _ _ _ _ _ _ _ _ 2 T.out).mono ?_
  rw [show Oct.wordV sixS.data.toList 2 (3, 0, 0) = [97, 98] by kernel_rfl, show Oct.wordS sixS.data.toList 2 (3, 0, 0) = (6, 0, 0) by kernel_rfl]
  rintro e w9 ⟨rfl, t9⟩
  have T := Lib.hid t9
  clear t9
  go_wp2_with fail
  refine (two_ends _ _ _ _ _ _ _ _ 0 0 T.out (by kernel_rfl) (by kernel_rfl)).mono ?_
  rintro e w10 ⟨rfl, t10⟩
  have T := Lib.hid t10
  clear t10
  go_wp2_with fail
  go_ret
  exact ⟨rfl, T.out.from⟩
end Go.Proofs.Ytfbbhkhingfdeaa
