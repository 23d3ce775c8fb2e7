/- Contracts of octet's writer, method by method: a writer that was made, and one that nobody made. -/
import Derived.Test.YtfbbhkhingfdeaaWad
set_option linter.unusedSimpArgs false
set_option linter.unusedVariables false
namespace Go.Proofs.Ytfbbhkhingfdeaa
open Go.ChangeShapes Go.WideShapes Go.ChangeAt Go.RowKit

theorem add_neg (b : Nat) (most : Int) (v : Value) (bs : List UInt8) (n : Int) (s : ByteArray) (w : World) (hn : n < 0) (hb : Blk w b 43 (wcells b most v 0)) (hr : Row w v bs) :
    Calls Try.prog 45 #[.pointer (some ⟨b, 0, none⟩), .int .i64 n, .string s] w (AddPost b most v bs none s w) := by
  have hk : Kept w (w.alloc (.cells #[.pointer (some ⟨b, 0, none⟩)] 23)) := (Kept.refl w).alloc _
  have HP := Lib.hid (show AddPost b most v bs none s w (.returned (.int .i64 3)) (w.alloc (.cells #[.pointer (some ⟨b, 0, none⟩)] 23)) from
    ⟨v, bs, by rw [put_none], hb.kept hk, hr.only (S := fun _ => False) (Only.of_kept hk) (fun _ _ h => h), (fun h => by rw [put_none] at h; cases h), .inl rfl, Only.of_kept hk⟩)
  clear hb hr hk
  go_enter Try.func45, Try.ntmps45
  go_wp2
  go_ret
  exact HP.out

theorem addI_c (b : Nat) (most : Int) (v : Value) (bs : List UInt8) (n : Int) (s : ByteArray) (w : World) (hn : n ≤ 9223372036854775807) (hs : s.size ≤ 1099511627776) (hm0 : 0 ≤ most) (hm : most ≤ 1048576) (hl : bs.length ≤ 1048576)
    (hb : Blk w b 43 (wcells b most v 0)) (hr : Row w v bs) :
    Calls Try.prog 45 #[.pointer (some ⟨b, 0, none⟩), .int .i64 n, .string s] w (AddPost b most v bs (Oct.natO n) s w) := by
  unfold Oct.natO
  by_cases h : n < 0
  · rw [if_pos h]
    exact add_neg b most v bs n s w h hb hr
  · rw [if_neg h]
    obtain ⟨z, rfl⟩ := Int.eq_ofNat_of_zero_le (show 0 ≤ n by omega)
    exact add_c b most v bs z s w (by omega) hs hm0 hm hl hb hr

/-- A writer that was made: what it may hold, what it holds, its first error, and the blocks that are its own. -/
def Wr (w : World) (O : Nat → Prop) (b : Nat) (most : Int) (st : Oct.Ws) : Prop :=
  ∃ v bs, Blk w b 43 (wcells b most v st.2) ∧ Row w v bs ∧ (st.2 = 0 → bs = st.1 ∧ (bs.length : Int) ≤ most) ∧ (0 ≤ most ∧ most ≤ 1048576) ∧ (∀ k, Own2 b v k → O k) ∧ (∀ k, O k → k < w.heap.size)

/-- No block but new ones has come to those that one owns. -/
def Grew (w : World) (O O' : Nat → Prop) : Prop := ∀ k, O' k → O k ∨ w.heap.size ≤ k

theorem Wr.only {S O : Nat → Prop} {w w' : World} {b : Nat} {most : Int} {st : Oct.Ws} (h : Wr w O b most st) (k : Only S w w') (hs : ∀ g, O g → ¬ S g) : Wr w' O b most st := by
  obtain ⟨v, bs, h1, h2, h3, h4, h5, h6⟩ := h
  exact ⟨v, bs, h1.only k (hs _ (h5 _ (.inl rfl))), h2.only k (fun g hg => hs _ (h5 _ (.inr hg))), h3, h4, h5, fun g hg => Nat.lt_of_lt_of_le (h6 g hg) k.size⟩
theorem Wr.kept {O : Nat → Prop} {w w' : World} {b : Nat} {most : Int} {st : Oct.Ws} (h : Wr w O b most st) (k : Kept w w') : Wr w' O b most st := h.only (S := fun _ => False) (Only.of_kept k) fun _ _ h => h
theorem Wr.lt {O : Nat → Prop} {w : World} {b : Nat} {most : Int} {st : Oct.Ws} (h : Wr w O b most st) : ∀ k, O k → k < w.heap.size := by
  obtain ⟨v, bs, h1, h2, h3, h4, h5, h6⟩ := h
  exact h6

def WrPost (O : Nat → Prop) (b : Nat) (most : Int) (st : Oct.Ws) (w : World) (e : Ending) (w' : World) : Prop :=
  e = .returned (.int .i64 st.2) ∧ ∃ O', Wr w' O' b most st ∧ Grew w O O' ∧ Only O w w'

/-- A writer that nobody made. -/
def BadW (w : World) (q : Option Addr) : Prop := q = none ∨ ∃ b, q = some ⟨b, 0, none⟩ ∧ w.cell? ⟨b, 0, none⟩ = some (.pointer none)
theorem BadW.kept {w w' : World} {q : Option Addr} (h : BadW w q) (k : Kept w w') : BadW w' q := by
  rcases h with rfl | ⟨b, rfl, hc⟩
  · exact .inl rfl
  · exact .inr ⟨b, rfl, k.cell hc⟩

theorem ptrW_same (b : Nat) (w : World) : (binOp .eql 23 (.pointer (some ⟨b, 0, none⟩)) (.pointer (some ⟨b, 0, none⟩))).run Try.prog w = .ok (.bool true) w := by
  have hz : (sizeOf 43).run Try.prog w = .ok 4 w := by kernel_rfl
  have hr : ∀ n, (Op.equalIn (n + 1) 23 (.pointer (some ⟨b, 0, none⟩)) (.pointer (some ⟨b, 0, none⟩))).run Try.prog w = .ok true w := fun n => by
    simp [Op.equalIn, run_underlying Try.underlying23, hz, sameAddr]
  have h := hr 9999
  simp only [binOp]
  simp [Op.equal, Op.maxDepth, h]
theorem ptrW_not (b : Nat) (w : World) : (binOp .eql 23 (.pointer none) (.pointer (some ⟨b, 0, none⟩))).run Try.prog w = .ok (.bool false) w := by
  have hr : ∀ n, (Op.equalIn (n + 1) 23 (.pointer none) (.pointer (some ⟨b, 0, none⟩))).run Try.prog w = .ok false w := fun n => by
    simp [Op.equalIn, run_underlying Try.underlying23]
  have h := hr 9999
  simp only [binOp]
  simp [Op.equal, Op.maxDepth, h]

theorem validW_t (b : Nat) (most : Int) (v : Value) (e : Int) (w : World) (hb : Blk w b 43 (wcells b most v e)) :
    Calls Try.prog 36 #[.pointer (some ⟨b, 0, none⟩)] w fun r w' => r = .returned (.bool true) ∧ w = w' := by
  have c0 := hb.cell 0
  simp at c0
  clear hb
  have hq := ptrW_same b
  go_enter Try.func36, Try.ntmps36
  go_wp2
  go_ret
  exact ⟨rfl, rfl⟩
theorem validW_f (q : Option Addr) (w : World) (h : BadW w q) :
    Calls Try.prog 36 #[.pointer q] w fun r w' => r = .returned (.bool false) ∧ w = w' := by
  have hq := ptrW_not
  rcases h with rfl | ⟨b, rfl, hc⟩
  all_goals
    go_enter Try.func36, Try.ntmps36
    go_wp2
    go_ret
    exact ⟨rfl, rfl⟩

theorem put_len {most : Int} {st : Oct.Ws} {n : Option Nat} {s : List UInt8} (h0 : st.2 = 0) (h : (Oct.put most st n s).2 = 0) : ((Oct.put most st n s).1.length : Int) ≤ most := by
  unfold Oct.put at h ⊢
  rw [if_neg (by simpa using h0)] at h ⊢
  cases n with
  | none => cases h
  | some m =>
    dsimp only at h ⊢
    split at h
    · cases h
    · rename_i hh
      rw [if_neg hh]
      dsimp only
      omega

theorem write_c (O : Nat → Prop) (b : Nat) (most : Int) (st : Oct.Ws) (n : Int) (s : ByteArray) (w : World) (hn : n ≤ 9223372036854775807) (hs : s.size ≤ 1099511627776) (h : Wr w O b most st) :
    Calls Try.prog 33 #[.pointer (some ⟨b, 0, none⟩), .int .i64 n, .string s] w (WrPost O b most (Oct.put most st (Oct.natO n) s.data.toList) w) := by
  obtain ⟨bs0, e⟩ := st
  obtain ⟨v, bs, h1, h2, h3, h4, h5, h6⟩ := h
  have HV := Lib.hid (validW_t b most v e w h1)
  have c3 := h1.cell 3
  simp at c3
  by_cases he : e = 0
  · subst he
    obtain ⟨rfl, hlen⟩ := h3 rfl
    have HA := Lib.hid (addI_c b most v bs n s w hn hs h4.1 h4.2 (by omega) h1 h2)
    have H0 := Lib.hid (put_len (most := most) (st := (bs, 0)) (n := Oct.natO n) (s := s.data.toList) rfl)
    clear h1 h2 h3 hlen
    go_enter Try.func33, Try.ntmps33
    go_wp2_with fail
    refine HV.out.mono ?_
    rintro r w' ⟨rfl, rfl⟩
    go_wp2_with fail
    refine HA.out.mono ?_
    rintro r w1 ⟨v', bs', rfl, a1, a2, a3, a4, a5⟩
    have d3 := a1.cell 3
    have f3 := a1.frozen 3
    simp at d3
    have HW := Lib.hid (show WrPost O b most (Oct.put most (bs, 0) (Oct.natO n) s.data.toList) w (.returned (.int .i64 (Oct.put most (bs, 0) (Oct.natO n) s.data.toList).2)) (w1.setCell ⟨b, 3, none⟩ (.int .i64 (Oct.put most (bs, 0) (Oct.natO n) s.data.toList).2)) from by
      have hlt : b < w.heap.size := h6 b (h5 b (.inl rfl))
      refine ⟨rfl, fun k => O k ∨ v'.ownBlock = some k, ⟨v', bs', a1.put 3 _, ?_, fun h => ⟨a3 h, by rw [a3 h]; exact H0.out h⟩, h4, ?_, ?_⟩, ?_, ?_⟩
      · exact a2.only (S := (· = b)) ((Only.refl _ w1).put 3 _) (fun g hg e => a1.ne_row (by decide) a2 (by rw [hg, e]))
      · rintro k (rfl | hk)
        · exact .inl (h5 _ (.inl rfl))
        · exact .inr hk
      · rintro k (hk | hk)
        · exact Nat.lt_of_lt_of_le (h6 k hk) (by simpa using a5.size)
        · simpa using a2.lt k hk
      · rintro k (hk | hk)
        · exact .inl hk
        · rcases a4 with e | ⟨g, e, hg⟩
          · exact .inl (h5 k (.inr (e.symm.trans hk)))
          · rw [e] at hk; cases hk; exact .inr hg
      · exact (a5.mono fun k _ hk => h5 k hk).setCell (.inl (h5 b (.inl rfl))) _)
    clear a1 a2 a3 a4 a5
    go_wp2_with fail
    go_ret
    exact HW.out
  · have hp : Oct.put most (bs0, e) (Oct.natO n) s.data.toList = (bs0, e) := by unfold Oct.put; rw [if_pos he]
    rw [hp]
    have HP := Lib.hid (show WrPost O b most (bs0, e) w (.returned (.int .i64 e)) w from ⟨rfl, O, ⟨v, bs, h1, h2, h3, h4, h5, h6⟩, fun k h => .inl h, Only.refl _ _⟩)
    have he' : (e == 0) = false := by simpa using he
    clear h1 h2 h3 h4 h5 h6 hp he
    go_enter Try.func33, Try.ntmps33
    go_wp2_with fail
    refine HV.out.mono ?_
    rintro r w' ⟨rfl, rfl⟩
    go_wp2_with fail
    go_ret
    exact HP.out

theorem write_f (q : Option Addr) (n : Int) (s : ByteArray) (w : World) (h : BadW w q) :
    Calls Try.prog 33 #[.pointer q, .int .i64 n, .string s] w fun r w' => r = .returned (.int .i64 1) ∧ Kept w w' := by
  have HV := Lib.hid (validW_f q w h)
  clear h
  go_enter Try.func33, Try.ntmps33
  go_wp2_with fail
  refine HV.out.mono ?_
  rintro r w' ⟨rfl, rfl⟩
  go_wp2_with fail
  go_ret
  exact ⟨rfl, Kept.refl w⟩

theorem numW_go (q : Option Addr) (n : Int) (w : World) (R : Ending → World → Prop) (hR : ∀ e w', R e w' → ∃ c, e = .returned (.int .i64 c)) (h : Calls Try.prog 33 #[.pointer q, .int .i64 n, .string ⟨#[]⟩] w R) :
    Calls Try.prog 12 #[.pointer q, .int .i64 n] w R := by
  have H := Lib.hid h
  have HR := Lib.hid hR
  clear h hR
  go_enter Try.func12, Try.ntmps12
  go_wp2_with fail
  refine H.out.mono ?_
  intro e w' hr
  obtain ⟨c, rfl⟩ := HR.out e w' hr
  have HH := Lib.hid hr
  clear hr
  go_wp2_with fail
  first | exact HH.out | (go_ret; exact HH.out)

theorem wordW_go (q : Option Addr) (s : ByteArray) (w : World) (hs : s.size ≤ 1099511627776) (R : Ending → World → Prop) (hR : ∀ e w', R e w' → ∃ c, e = .returned (.int .i64 c)) (h : Calls Try.prog 33 #[.pointer q, .int .i64 s.size, .string s] w R) :
    Calls Try.prog 16 #[.pointer q, .string s] w R := by
  have H := Lib.hid h
  have HR := Lib.hid hR
  clear h hR
  go_enter Try.func16, Try.ntmps16
  go_wp2_with fail
  refine H.out.mono ?_
  intro e w' hr
  obtain ⟨c, rfl⟩ := HR.out e w' hr
  have HH := Lib.hid hr
  clear hr
  go_wp2_with fail
  first | exact HH.out | (go_ret; exact HH.out)

/-- What Whole writes: twice it, or what it lacks to -1, as it wraps around. -/
def wz (n : Int) : Int := if n < 0 then wrap64 (wrap64 (2 * (-1 - n)) + 1) else wrap64 (2 * n)
theorem wz_bd (n : Int) : wz n ≤ 9223372036854775807 := by unfold wz wrap64; split <;> omega
theorem wz_is {n : Int} (h1 : -9223372036854775808 ≤ n) (h2 : n ≤ 9223372036854775807) : Oct.natO (wz n) = Oct.zigO n := by
  unfold Oct.natO Oct.zigO Oct.zig wz wrap64
  by_cases hi : Oct.inW n
  · rw [if_pos hi]
    unfold Oct.inW at hi
    by_cases hn : n < 0
    · rw [if_pos hn, if_pos hn, if_neg (by omega)]
      congr 1
      omega
    · rw [if_neg hn, if_neg hn, if_neg (by omega)]
      congr 1
      omega
  · rw [if_neg hi]
    unfold Oct.inW at hi
    by_cases hn : n < 0
    · rw [if_pos hn, if_pos (by omega)]
    · rw [if_neg hn, if_pos (by omega)]

theorem wholeW_go (q : Option Addr) (n : Int) (w : World) (h1 : -9223372036854775808 ≤ n) (h2 : n ≤ 9223372036854775807) (R : Ending → World → Prop) (hR : ∀ e w', R e w' → ∃ c, e = .returned (.int .i64 c)) (h : Calls Try.prog 33 #[.pointer q, .int .i64 (wz n), .string ⟨#[]⟩] w R) :
    Calls Try.prog 14 #[.pointer q, .int .i64 n] w R := by
  have HR := Lib.hid hR
  unfold wz at h
  by_cases hn : n < 0
  · rw [if_pos hn] at h
    have H := Lib.hid h
    clear h hR
    go_enter Try.func14, Try.ntmps14
    go_wp2_with fail
    refine H.out.mono ?_
    intro e w' hr
    obtain ⟨c, rfl⟩ := HR.out e w' hr
    have HH := Lib.hid hr
    clear hr
    go_wp2_with fail
    first | exact HH.out | (go_ret; exact HH.out)
  · rw [if_neg hn] at h
    have H := Lib.hid h
    clear h hR
    go_enter Try.func14, Try.ntmps14
    go_wp2_with fail
    refine H.out.mono ?_
    intro e w' hr
    obtain ⟨c, rfl⟩ := HR.out e w' hr
    have HH := Lib.hid hr
    clear hr
    go_wp2_with fail
    first | exact HH.out | (go_ret; exact HH.out)

theorem WrPost.int {O : Nat → Prop} {b : Nat} {most : Int} {st : Oct.Ws} {w : World} (e : Ending) (w' : World) (h : WrPost O b most st w e w') : ∃ c, e = .returned (.int .i64 c) := ⟨_, h.1⟩

theorem numW_c (O : Nat → Prop) (b : Nat) (most : Int) (st : Oct.Ws) (n : Int) (w : World) (hn : n ≤ 9223372036854775807) (h : Wr w O b most st) :
    Calls Try.prog 12 #[.pointer (some ⟨b, 0, none⟩), .int .i64 n] w (WrPost O b most (Oct.put most st (Oct.natO n) []) w) :=
  numW_go _ _ _ _ WrPost.int (write_c O b most st n ⟨#[]⟩ w hn (by decide) h)
theorem wholeW_c (O : Nat → Prop) (b : Nat) (most : Int) (st : Oct.Ws) (n : Int) (w : World) (h1 : -9223372036854775808 ≤ n) (h2 : n ≤ 9223372036854775807) (h : Wr w O b most st) :
    Calls Try.prog 14 #[.pointer (some ⟨b, 0, none⟩), .int .i64 n] w (WrPost O b most (Oct.put most st (Oct.zigO n) []) w) := by
  rw [← wz_is h1 h2]
  exact wholeW_go _ _ _ h1 h2 _ WrPost.int (write_c O b most st (wz n) ⟨#[]⟩ w (wz_bd n) (by decide) h)
theorem wordW_c (O : Nat → Prop) (b : Nat) (most : Int) (st : Oct.Ws) (s : ByteArray) (w : World) (hs : s.size ≤ 1099511627776) (h : Wr w O b most st) :
    Calls Try.prog 16 #[.pointer (some ⟨b, 0, none⟩), .string s] w (WrPost O b most (Oct.put most st (some s.size) s.data.toList) w) := by
  have e : Oct.natO (s.size : Int) = some s.size := by unfold Oct.natO; rw [if_neg (by omega)]; rfl
  rw [← e]
  exact wordW_go _ _ _ hs _ WrPost.int (write_c O b most st s.size s w (by omega) hs h)

theorem numW_f (q : Option Addr) (n : Int) (w : World) (h : BadW w q) : Calls Try.prog 12 #[.pointer q, .int .i64 n] w fun r w' => r = .returned (.int .i64 1) ∧ Kept w w' :=
  numW_go _ _ _ _ (fun e w' h => ⟨_, h.1⟩) (write_f q n _ w h)
theorem wholeW_f (q : Option Addr) (n : Int) (w : World) (h1 : -9223372036854775808 ≤ n) (h2 : n ≤ 9223372036854775807) (h : BadW w q) : Calls Try.prog 14 #[.pointer q, .int .i64 n] w fun r w' => r = .returned (.int .i64 1) ∧ Kept w w' :=
  wholeW_go _ _ _ h1 h2 _ (fun e w' h => ⟨_, h.1⟩) (write_f q _ _ w h)
theorem wordW_f (q : Option Addr) (s : ByteArray) (w : World) (hs : s.size ≤ 1099511627776) (h : BadW w q) : Calls Try.prog 16 #[.pointer q, .string s] w fun r w' => r = .returned (.int .i64 1) ∧ Kept w w' :=
  wordW_go _ _ _ hs _ (fun e w' h => ⟨_, h.1⟩) (write_f q _ _ w h)

theorem newW_no (most : Int) (w : World) (h : most < 0 ∨ 1048576 < most) :
    Calls Try.prog 8 #[.int .i64 most] w fun r w' => r = .returned (.tuple #[.pointer none, .int .i64 3]) ∧ Kept w w' := by
  by_cases h0 : most < 0
  · clear h
    go_enter Try.func8, Try.ntmps8
    go_wp2
    go_ret2
    exact ⟨rfl, Kept.refl w⟩
  · have h1 : 1048576 < most := by omega
    clear h
    go_enter Try.func8, Try.ntmps8
    go_wp2
    go_ret2
    exact ⟨rfl, Kept.refl w⟩

theorem newW_c (most : Int) (w : World) (h0 : 0 ≤ most) (h1 : most ≤ 1048576) :
    Calls Try.prog 8 #[.int .i64 most] w fun r w' => r = .returned (.tuple #[.pointer (some ⟨w.heap.size, 0, none⟩), .int .i64 0]) ∧ Kept w w' ∧ Wr w' (· = w.heap.size) w.heap.size most ([], 0) := by
  go_enter Try.func8, Try.ntmps8
  go_wp2
  go_ret2
  refine ⟨rfl, (Kept.refl w).alloc _, .slice none 0 0, [], Blk.new _ _ _, Row.nil _, fun _ => ⟨rfl, by simpa using h0⟩, ⟨h0, h1⟩, ?_, ?_⟩
  · rintro k (hk | hk)
    · exact hk
    · simp [Value.ownBlock] at hk
  · rintro k rfl
    simp
end Go.Proofs.Ytfbbhkhingfdeaa
