/- Contracts of the answer's writer: NewWriter, lay, Num, Whole, Word, Bytes. -/
import Derived.Test.YtfbbhkhingfdeaaRfg
set_option linter.unusedSimpArgs false
set_option linter.unusedVariables false
namespace Go.Proofs.Ytfbbhkhingfdeaa
open Go.ChangeShapes Go.WideShapes Go.ChangeAt Go.RowKit

abbrev xcells (most : Int) (v : Value) (e : Int) : Array Value := #[v, .int .i64 most, .int .i64 e]

/-- The answer's writer: what it holds, its first error, and the blocks that are its own. -/
def Wx (w : World) (O : Nat → Prop) (b : Nat) (most : Int) (st : Oct.Ws) : Prop :=
  ∃ v bs, Blk w b 63 (xcells most v st.2) ∧ Row w v bs ∧ (st.2 = 0 → bs = st.1 ∧ (bs.length : Int) ≤ most) ∧ (0 ≤ most ∧ most ≤ 1048576) ∧ (∀ k, Own2 b v k → O k) ∧ (∀ k, O k → k < w.heap.size)

theorem Wx.only {S O : Nat → Prop} {w w' : World} {b : Nat} {most : Int} {st : Oct.Ws} (h : Wx w O b most st) (k : Only S w w') (hs : ∀ g, O g → ¬ S g) : Wx w' O b most st := by
  obtain ⟨v, bs, h1, h2, h3, h4, h5, h6⟩ := h
  exact ⟨v, bs, h1.only k (hs _ (h5 _ (.inl rfl))), h2.only k (fun g hg => hs _ (h5 _ (.inr hg))), h3, h4, h5, fun g hg => Nat.lt_of_lt_of_le (h6 g hg) k.size⟩
theorem Wx.kept {O : Nat → Prop} {w w' : World} {b : Nat} {most : Int} {st : Oct.Ws} (h : Wx w O b most st) (k : Kept w w') : Wx w' O b most st := h.only (S := fun _ => False) (Only.of_kept k) fun _ _ h => h
theorem Wx.lt {O : Nat → Prop} {w : World} {b : Nat} {most : Int} {st : Oct.Ws} (h : Wx w O b most st) : ∀ k, O k → k < w.heap.size := by
  obtain ⟨v, bs, h1, h2, h3, h4, h5, h6⟩ := h
  exact h6

def WxPost (O : Nat → Prop) (b : Nat) (most : Int) (st : Oct.Ws) (w : World) (e : Ending) (w' : World) : Prop :=
  e = .returned (.int .i64 st.2) ∧ ∃ O', Wx w' O' b most st ∧ Grew w O O' ∧ Only O w w'
theorem WxPost.int {O : Nat → Prop} {b : Nat} {most : Int} {st : Oct.Ws} {w : World} (e : Ending) (w' : World) (h : WxPost O b most st w e w') : ∃ c, e = .returned (.int .i64 c) := ⟨_, h.1⟩

def layS (most : Int) (st : Oct.Ws) (ns : List UInt8) (fine : Bool) : Oct.Ws :=
  if st.2 ≠ 0 then st else if fine = false then (st.1, 3) else if most < ((st.1 ++ ns).length : Int) then (st.1, 4) else (st.1 ++ ns, 0)
theorem layS_put (most : Int) (st : Oct.Ws) (n : Option Nat) (s : List UInt8) : layS most st (Oct.grp (n.getD 0) ++ s) n.isSome = Oct.put most st n s := by
  unfold layS Oct.put
  cases n with
  | none => rfl
  | some m =>
    simp only [Option.getD_some, Option.isSome_some, List.append_assoc]
    rfl

theorem lay_next {w w1 : World} {b : Nat} {most : Int} {v v1 : Value} {bs ns : List UInt8} {O : Nat → Prop}
    (h1 : Blk w b 63 (xcells most v 0)) (h2 : Row w v bs) (h4 : 0 ≤ most ∧ most ≤ 1048576) (h5 : ∀ k, Own2 b v k → O k) (h6 : ∀ k, O k → k < w.heap.size) (hfit : ((bs ++ ns).length : Int) ≤ most)
    (hr : Row w1 v1 (bs ++ ns)) (hg : w.grownBy w1 v.ownBlock) (hl : v1.ownBlock = v.ownBlock ∨ v1.ownBlock = some w.heap.size) :
    Blk w1 b 63 (xcells most v 0) ∧ WxPost O b most (bs ++ ns, 0) w (.returned (.int .i64 0)) (w1.setCell ⟨b, 0, none⟩ v1) := by
  have n1 := h1.ne_row (by decide) h2
  have b1 : Blk w1 b 63 (xcells most v 0) := (hg.block b h1.lt n1.symm).trans h1
  have ho : Only O w w1 := (Only.refl _ w).grown hg fun k e => .inl (h5 k (.inr e.symm.symm))
  refine ⟨b1, rfl, fun k => O k ∨ v1.ownBlock = some k, ⟨v1, bs ++ ns, b1.put 0 v1, ?_, fun _ => ⟨rfl, hfit⟩, h4, ?_, ?_⟩, ?_, ?_⟩
  · exact hr.only (S := (· = b)) ((Only.refl _ w1).put 0 v1) (fun g hg' e => b1.ne_row (by decide) hr (by rw [hg', e]))
  · rintro k (rfl | hk)
    · exact .inl (h5 _ (.inl rfl))
    · exact .inr hk
  · rintro k (hk | hk)
    · exact Nat.lt_of_lt_of_le (h6 k hk) (by simpa using ho.size)
    · simpa using hr.lt k hk
  · rintro k (hk | hk)
    · exact .inl hk
    · rcases hl with e | e
      · exact .inl (h5 k (.inr (e.symm.trans hk)))
      · rw [e] at hk; cases hk; exact .inr (Nat.le_refl _)
  · exact ho.setCell (.inl (h5 b (.inl rfl))) v1

theorem lay_bad {w : World} {b : Nat} {most : Int} {v : Value} {bs : List UInt8} {O : Nat → Prop} (c : Int) (hc : c ≠ 0)
    (h1 : Blk w b 63 (xcells most v 0)) (h2 : Row w v bs) (h4 : 0 ≤ most ∧ most ≤ 1048576) (h5 : ∀ k, Own2 b v k → O k) (h6 : ∀ k, O k → k < w.heap.size) :
    WxPost O b most (bs, c) w (.returned (.int .i64 c)) (w.setCell ⟨b, 2, none⟩ (.int .i64 c)) :=
  ⟨rfl, O, ⟨v, bs, h1.put 2 _, h2.only (S := (· = b)) ((Only.refl _ w).put 2 _) (fun g hg e => h1.ne_row (by decide) h2 (by rw [hg, e])), fun e => absurd e hc, h4, h5, fun k hk => by simpa using h6 k hk⟩, fun k h => .inl h, (Only.refl _ w).setCell (.inl (h5 b (.inl rfl))) _⟩

theorem WxPost.drewN {O : Nat → Prop} {b : Nat} {most : Int} {st : Oct.Ws} {w w' : World} {e : Ending} {n : Nat} (h : WxPost O b most st (w.drewN n) e w') : WxPost O b most st w e w' := by
  obtain ⟨e, O', hw, hg, ho⟩ := h
  exact ⟨e, O', hw, hg, ⟨ho.os, ho.output, ho.size, ho.block⟩⟩

set_option maxRecDepth 100000 in
set_option maxHeartbeats 1600000 in
theorem lay_c (O : Nat → Prop) (b : Nat) (most : Int) (st : Oct.Ws) (vb : Value) (ns : List UInt8) (fine : Bool) (w : World) (hn : ns.length ≤ 1099511627796) (h : Wx w O b most st) (hv : Row w vb ns) :
    Calls Try.prog 34 #[.pointer (some ⟨b, 0, none⟩), vb, .bool fine] w (WxPost O b most (layS most st ns fine) w) := by
  obtain ⟨bs0, e⟩ := st
  obtain ⟨v, bs, h1, h2, h3, h4, h5, h6⟩ := h
  have c0 := h1.cell 0
  have c1 := h1.cell 1
  have c2 := h1.cell 2
  have g0 := h1.frozen 0
  have g2 := h1.frozen 2
  simp at c0 c1 c2
  dsimp only at c2 h3
  by_cases he : e = 0
  · subst he
    obtain ⟨hbs, hlen⟩ := h3 rfl
    subst hbs
    cases fine with
    | false =>
      have hp : layS most (bs, 0) ns false = (bs, 3) := by unfold layS; rw [if_neg (by simp), if_pos rfl]
      rw [hp]
      have HP := Lib.hid (lay_bad 3 (by decide) h1 h2 h4 h5 h6)
      have d2 := (h1.put 2 (.int .i64 3)).cell 2
      simp at d2
      clear h1 h2 h3 h4 h5 h6 hv hp
      go_enter Try.func34, Try.ntmps34
      go_wp2
      go_ret
      exact HP.out
    | true =>
      obtain ⟨⟨A, cp, rfl⟩, _⟩ := h2.len
      obtain ⟨⟨Ab, cb, rfl⟩, _⟩ := hv.len
      have hlI : (bs.length : Int) ≤ 1048576 := by omega
      have hnI : (ns.length : Int) ≤ 1099511627796 := by omega
      by_cases hfit : most - (bs.length : Int) < (ns.length : Int)
      · have hp : layS most (bs, 0) ns true = (bs, 4) := by unfold layS; rw [if_neg (by simp), if_neg (by simp), if_pos (by dsimp only; rw [List.length_append]; omega)]
        rw [hp]
        have HP := Lib.hid (fun n => (lay_bad (w := w.drewN n) 4 (by decide) h1 h2 h4 h5 h6).drewN)
        have d2 := fun n => ((h1.drewN n).put 2 (.int .i64 4)).cell 2
        simp at d2
        clear h1 h2 h3 h5 h6 hv hp
        obtain ⟨h40, h41⟩ := h4
        go_enter Try.func34, Try.ntmps34
        go_wp2_with fail
        go_quiet (fail)
        go_wp2
        go_ret
        exact HP.out _
      · have hp : layS most (bs, 0) ns true = (bs ++ ns, 0) := by unfold layS; rw [if_neg (by simp), if_neg (by simp), if_neg (by dsimp only; rw [List.length_append]; omega)]
        rw [hp]
        have HR := Lib.hid (fun n => show Row (w.drewN n) (.slice A bs.length cp) bs from h2)
        have HY := Lib.hid (fun n => show Yields (w.drewN n) 36 (.slice Ab ns.length cb) ns from Row.yields (w := w.drewN n) hv)
        have HL := Lib.hid (show bs.length + ns.length ≤ 70368744177664 by omega)
        have HN := Lib.hid (fun n v1 w1 a1 a2 a3 => And.imp_right WxPost.drewN (lay_next (w := w.drewN n) (v1 := v1) (w1 := w1) (bs := bs) (ns := ns) h1 h2 h4 h5 h6 (by rw [List.length_append]; omega) a1 a2 a3))
        clear h1 h2 h3 h5 h6 hv hp
        obtain ⟨h40, h41⟩ := h4
        go_enter Try.func34, Try.ntmps34
        go_wp2_with fail
        go_quiet (fail)
        go_wp2_with (at_builtin; refine wpList_app rfl (.tmp 11) (.tmp 12) 36 rfl rfl (HR.out _) rfl (HY.out _) HL.out ?_; intro v1 w1 a1 a2 a3; have hh := HN.out _ v1 w1 a1 a2 a3; obtain ⟨A1, n1, m1, e1⟩ := a1.form; subst e1; have k0 := hh.1.cell 0; have f0 := hh.1.frozen 0; have k2 := (hh.1.put 0 (.slice A1 n1 m1)).cell 2; simp at k0 k2; have HP := Lib.hid hh.2; clear hh a1 a2 a3)
        go_ret
        exact HP.out
  · have hp : layS most (bs0, e) ns fine = (bs0, e) := by unfold layS; rw [if_pos he]
    rw [hp]
    have HP := Lib.hid (show WxPost O b most (bs0, e) w (.returned (.int .i64 e)) w from ⟨rfl, O, ⟨v, bs, h1, h2, h3, h4, h5, h6⟩, fun k h => .inl h, Only.refl _ _⟩)
    have he' : (e != 0) = true := by simpa using he
    clear h1 h2 h3 h4 h5 h6 hp he hv
    go_enter Try.func34, Try.ntmps34
    go_wp2
    go_ret
    exact HP.out

theorem WxPost.from {O : Nat → Prop} {b : Nat} {most : Int} {st : Oct.Ws} {w w1 w' : World} {e : Ending} (h : WxPost O b most st w1 e w') (k : Kept w w1) : WxPost O b most st w e w' := by
  obtain ⟨e, O', hw, hg, ho⟩ := h
  refine ⟨e, O', hw, fun g hk => ?_, (Only.of_kept k).trans ho⟩
  rcases hg g hk with h | h
  · exact .inl h
  · exact .inr (Nat.le_trans k.size h)

theorem grp_len10 {n : Nat} (h : n < 18446744073709551616) : (Oct.grp n).length ≤ 10 := Oct.grp_len 9 n (Nat.lt_trans h (by decide +kernel))

/-- What follows the groups: lay. -/
theorem lay_after {O : Nat → Prop} {b : Nat} {most : Int} {st : Oct.Ws} {w : World} (h : Wx w O b most st) (fine : Bool) {vb : Value} {ns : List UInt8} {w1 : World} (hn : ns.length ≤ 1099511627796) (hr : NewRow ns w vb w1) :
    Calls Try.prog 34 #[.pointer (some ⟨b, 0, none⟩), vb, .bool fine] w1 (WxPost O b most (layS most st ns fine) w) :=
  (lay_c O b most st vb ns fine w1 hn (h.kept hr.2.1) hr.1).mono fun _ _ hp => hp.from hr.2.1

set_option maxHeartbeats 800000 in
theorem numX_c (O : Nat → Prop) (b : Nat) (most : Int) (st : Oct.Ws) (n : Int) (w : World) (hn : n ≤ 9223372036854775807) (h : Wx w O b most st) :
    Calls Try.prog 13 #[.pointer (some ⟨b, 0, none⟩), .int .i64 n] w (WxPost O b most (Oct.put most st (Oct.natO n) []) w) := by
  rw [← layS_put, List.append_nil]
  by_cases h0 : n < 0
  · have hN : Oct.natO n = none := by unfold Oct.natO; rw [if_pos h0]
    rw [hN]
    have HG := Lib.hid (refGroups_c 0 w (by decide))
    have HL := Lib.hid (fun vb w1 (hr : NewRow (Oct.grp 0) w vb w1) => lay_after h false (by have := grp_len10 (n := 0) (by decide); omega) hr)
    have hd : decide (0 ≤ n) = false := by simpa using h0
    clear h hN
    go_enter Try.func13, Try.ntmps13
    go_wp2_with fail
    refine HG.out.mono ?_
    rintro e w1 ⟨v, rfl, hr⟩
    have HC := Lib.hid (HL.out _ _ hr)
    clear hr
    go_wp2_with fail
    refine HC.out.mono ?_
    intro e w2 hp
    obtain ⟨c, rfl⟩ := WxPost.int e w2 hp
    have HP := Lib.hid hp
    clear hp
    go_wp2_with fail
    go_ret
    exact HP.out
  · have hN : Oct.natO n = some n.toNat := by unfold Oct.natO; rw [if_neg h0]
    rw [hN]
    have hz : ((n.toNat : Nat) : Int) = n := by omega
    have HG := refGroups_c n.toNat w (by omega)
    rw [hz] at HG
    have HG := Lib.hid HG
    have HL := Lib.hid (fun vb w1 (hr : NewRow (Oct.grp n.toNat) w vb w1) => lay_after h true (by have := grp_len10 (n := n.toNat) (by omega); omega) hr)
    have h0' : 0 ≤ n := by omega
    clear h hN hz h0
    go_enter Try.func13, Try.ntmps13
    go_wp2_with fail
    refine HG.out.mono ?_
    rintro e w1 ⟨v, rfl, hr⟩
    have HC := Lib.hid (HL.out _ _ hr)
    clear hr
    go_wp2_with fail
    refine HC.out.mono ?_
    intro e w2 hp
    obtain ⟨c, rfl⟩ := WxPost.int e w2 hp
    have HP := Lib.hid hp
    clear hp
    go_wp2_with fail
    go_ret
    exact HP.out

set_option maxHeartbeats 1600000 in
theorem wholeX_c (O : Nat → Prop) (b : Nat) (most : Int) (st : Oct.Ws) (n : Int) (w : World) (h1 : -9223372036854775808 ≤ n) (h2 : n ≤ 9223372036854775807) (h : Wx w O b most st) :
    Calls Try.prog 15 #[.pointer (some ⟨b, 0, none⟩), .int .i64 n] w (WxPost O b most (Oct.put most st (Oct.zigO n) []) w) := by
  rw [← layS_put, List.append_nil]
  by_cases hi : Oct.inW n
  · have hN : Oct.zigO n = some (Oct.zig n) := by unfold Oct.zigO; rw [if_pos hi]
    rw [hN]
    have hzl := Oct.zig_lt hi
    have hz : ((Oct.zig n : Nat) : Int) = if n < 0 then 2 * (-1 - n) + 1 else 2 * n := by unfold Oct.zig; split <;> omega
    have HL := Lib.hid (fun vb w1 (hr : NewRow (Oct.grp (Oct.zig n)) w vb w1) => lay_after h true (by have := grp_len10 (n := Oct.zig n) (by omega); omega) hr)
    have HG := refGroups_c (Oct.zig n) w (by omega)
    rw [hz] at HG
    unfold Oct.inW at hi
    obtain ⟨i1, i2⟩ := hi
    clear h hN hz hzl
    by_cases h0 : n < 0
    · rw [if_pos h0] at HG
      have HG := Lib.hid HG
      go_enter Try.func15, Try.ntmps15
      go_wp2_with fail
      refine HG.out.mono ?_
      rintro e w1 ⟨v, rfl, hr⟩
      have HC := Lib.hid (HL.out _ _ hr)
      clear hr
      go_wp2_with fail
      refine HC.out.mono ?_
      intro e w2 hp
      obtain ⟨c, rfl⟩ := WxPost.int e w2 hp
      have HP := Lib.hid hp
      clear hp
      go_wp2_with fail
      go_ret
      exact HP.out
    · rw [if_neg h0] at HG
      have HG := Lib.hid HG
      have h0' : 0 ≤ n := by omega
      clear h0
      go_enter Try.func15, Try.ntmps15
      go_wp2_with fail
      refine HG.out.mono ?_
      rintro e w1 ⟨v, rfl, hr⟩
      have HC := Lib.hid (HL.out _ _ hr)
      clear hr
      go_wp2_with fail
      refine HC.out.mono ?_
      intro e w2 hp
      obtain ⟨c, rfl⟩ := WxPost.int e w2 hp
      have HP := Lib.hid hp
      clear hp
      go_wp2_with fail
      go_ret
      exact HP.out
  · have hN : Oct.zigO n = none := by unfold Oct.zigO; rw [if_neg hi]
    rw [hN]
    have HG := Lib.hid (refGroups_c 0 w (by decide))
    have HL := Lib.hid (fun vb w1 (hr : NewRow (Oct.grp 0) w vb w1) => lay_after h false (by have := grp_len10 (n := 0) (by decide); omega) hr)
    unfold Oct.inW at hi
    clear h hN
    by_cases h0 : -4611686018427387904 ≤ n
    · have h0' : 4611686018427387904 ≤ n := by omega
      have hd : decide (n < 4611686018427387904) = false := by simp; omega
      clear hi
      go_enter Try.func15, Try.ntmps15
      go_wp2_with fail
      refine HG.out.mono ?_
      rintro e w1 ⟨v, rfl, hr⟩
      have HC := Lib.hid (HL.out _ _ hr)
      clear hr
      go_wp2_with fail
      refine HC.out.mono ?_
      intro e w2 hp
      obtain ⟨c, rfl⟩ := WxPost.int e w2 hp
      have HP := Lib.hid hp
      clear hp
      go_wp2_with fail
      go_ret
      exact HP.out
    · have hd : decide (-4611686018427387904 ≤ n) = false := by simp; omega
      clear hi
      go_enter Try.func15, Try.ntmps15
      go_wp2_with fail
      refine HG.out.mono ?_
      rintro e w1 ⟨v, rfl, hr⟩
      have HC := Lib.hid (HL.out _ _ hr)
      clear hr
      go_wp2_with fail
      refine HC.out.mono ?_
      intro e w2 hp
      obtain ⟨c, rfl⟩ := WxPost.int e w2 hp
      have HP := Lib.hid hp
      clear hp
      go_wp2_with fail
      go_ret
      exact HP.out

theorem newRow_then {w W w1 : World} {v v1 : Value} {bs ns : List UInt8} (h1 : NewRow bs w v W)
    (hr : Row w1 v1 (bs ++ ns)) (hg : W.grownBy w1 v.ownBlock) (hl : v1.ownBlock = v.ownBlock ∨ v1.ownBlock = some W.heap.size) : NewRow (bs ++ ns) w v1 w1 := by
  obtain ⟨_, h2, h3⟩ := h1
  refine ⟨hr, ((Only.of_kept h2 (S := fun _ => False)).grown hg fun k e => .inr (h3 k e.symm.symm)).kept fun _ _ h => h, ?_⟩
  intro g e
  rcases hl with h | h
  · rw [h] at e; exact h3 g e
  · rw [h] at e; cases e; exact h2.size

set_option maxHeartbeats 800000 in
theorem wordX_c (O : Nat → Prop) (b : Nat) (most : Int) (st : Oct.Ws) (s : ByteArray) (w : World) (hs : s.size ≤ 1099511627776) (h : Wx w O b most st) :
    Calls Try.prog 17 #[.pointer (some ⟨b, 0, none⟩), .string s] w (WxPost O b most (Oct.put most st (some s.size) s.data.toList) w) := by
  rw [← layS_put]
  have hl : s.data.toList.length = s.size := len_data' s
  have hl10 := grp_len10 (n := s.size) (by omega)
  have HG := Lib.hid (refGroups_c s.size w (by omega))
  have HL := Lib.hid (fun vb w1 (hr : NewRow (Oct.grp s.size ++ s.data.toList) w vb w1) => lay_after h true (by rw [List.length_append]; omega) hr)
  have HB := Lib.hid (show (Oct.grp s.size).length + s.data.toList.length ≤ 70368744177664 by omega)
  clear h hl hl10
  go_enter Try.func17, Try.ntmps17
  go_wp2_with fail
  refine HG.out.mono ?_
  rintro e w1 ⟨v, rfl, hr⟩
  have HR := Lib.hid hr
  have HY := Lib.hid (Yields.ofString w1 s)
  clear hr
  go_wp2_with (at_builtin; refine wpList_app rfl (.tmp 9) (.tmp 10) 9 rfl rfl HR.out.1 rfl HY.out HB.out ?_; intro v1 w2 a1 a2 a3; have HC := Lib.hid (HL.out _ _ (newRow_then HR.out a1 a2 a3)); clear a1 a2 a3)
  refine HC.out.mono ?_
  intro e w3 hp
  obtain ⟨c, rfl⟩ := WxPost.int e w3 hp
  have HP := Lib.hid hp
  clear hp
  go_wp2_with fail
  go_ret
  exact HP.out

theorem bytesX_c (O : Nat → Prop) (b : Nat) (most : Int) (st : Oct.Ws) (w : World) (h : Wx w O b most st) :
    Calls Try.prog 19 #[.pointer (some ⟨b, 0, none⟩)] w (BytesPost st w) := by
  obtain ⟨bs0, e⟩ := st
  obtain ⟨v, bs, h1, h2, h3, h4, h5, h6⟩ := h
  have c2 := h1.cell 2
  have c0 := h1.cell 0
  simp at c2 c0
  by_cases he : e = 0
  · subst he
    obtain ⟨rfl, hlen⟩ := h3 rfl
    have hk : Kept w (w.alloc (.cells #[] 5)) := (Kept.refl w).alloc _
    have d0 := (h1.kept hk).cell 0
    simp at d0
    have HY := Lib.hid (h2.only (S := fun _ => False) (Only.of_kept hk) (fun _ _ h => h)).yields
    have HB := Lib.hid (row_empty w)
    have HL := Lib.hid (show ([] : List UInt8).length + bs.length ≤ 70368744177664 by simp; omega)
    obtain ⟨A, nn, cc, rfl⟩ := h2.form
    clear h1 h2 h3 h4 h5 h6 hlen hk
    go_enter Try.func19, Try.ntmps19
    go_wp2_with (at_builtin; refine wpList_app rfl (.tmp 13) (.tmp 17) 36 rfl rfl HB.out rfl HY.out HL.out ?_; intro v' w1 hr1 hg1 hl1; have HP := Lib.hid (newRow_app hr1 hg1 hl1); clear hr1 hg1 hl1)
    go_ret2
    exact .inl ⟨rfl, _, rfl, HP.out⟩
  · have he' : (e != 0) = true := by simpa using he
    have HE := Lib.hid he
    clear h1 h2 h3 h4 h5 h6 he
    go_enter Try.func19, Try.ntmps19
    go_wp2_with fail
    go_quiet (fail)
    go_wp2
    go_ret2
    exact .inr ⟨HE.out, rfl, (Kept.refl w).drewN _⟩

theorem newX_no (most : Int) (w : World) (h : most < 0 ∨ 1048576 < most) :
    Calls Try.prog 9 #[.int .i64 most] w fun r w' => r = .returned (.tuple #[.pointer none, .int .i64 3]) ∧ Kept w w' := by
  by_cases h0 : most < 0
  · clear h
    go_enter Try.func9, Try.ntmps9
    go_wp2
    go_ret2
    exact ⟨rfl, Kept.refl w⟩
  · have h1 : 1048576 < most := by omega
    clear h
    go_enter Try.func9, Try.ntmps9
    go_wp2
    go_ret2
    exact ⟨rfl, Kept.refl w⟩

theorem newX_c (most : Int) (w : World) (h0 : 0 ≤ most) (h1 : most ≤ 1048576) :
    Calls Try.prog 9 #[.int .i64 most] w fun r w' => r = .returned (.tuple #[.pointer (some ⟨w.heap.size, 0, none⟩), .int .i64 0]) ∧ Kept w w' ∧ Wx w' (· = w.heap.size) w.heap.size most ([], 0) := by
  go_enter Try.func9, Try.ntmps9
  go_wp2
  go_ret2
  refine ⟨rfl, (Kept.refl w).alloc _, .slice none 0 0, [], Blk.new _ _ _, Row.nil _, fun _ => ⟨rfl, by simpa using h0⟩, ⟨h0, h1⟩, ?_, ?_⟩
  · rintro k (hk | hk)
    · exact hk
    · simp [Value.ownBlock] at hk
  · rintro k rfl
    simp
end Go.Proofs.Ytfbbhkhingfdeaa
