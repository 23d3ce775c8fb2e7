/- What was written is read as it was, and cut off it is not: in plain words. -/
import Derived.Test.YtfbbhkhingfdeaaIre2
set_option linter.unusedSimpArgs false
set_option linter.unusedVariables false
namespace Go.Proofs.Ytfbbhkhingfdeaa

/-- The bytes of an item that may be written. -/
def encI (x : Itm) : List UInt8 := if x.kind = 0 then Oct.grp x.num.toNat else if x.kind = 1 then Oct.grp (Oct.zig x.num) else if x.kind = 2 then Oct.grp x.txt.size ++ x.txt.data.toList else []
/-- May an item be written at all? -/
def fitI (x : Itm) : Prop := (x.kind = 0 → 0 ≤ x.num) ∧ (x.kind = 1 → Oct.inW x.num)

theorem put_ok {most : Int} {bs s : List UInt8} {n : Option Nat} (h : (Oct.put most (bs, 0) n s).2 = 0) : ∃ m, n = some m ∧ Oct.put most (bs, 0) n s = (bs ++ Oct.grp m ++ s, 0) := by
  cases n with
  | none => rw [put_none] at h; cases h
  | some m =>
    by_cases hl : most < ((bs ++ Oct.grp m).length : Int) + (s.length : Int)
    · rw [put_long hl] at h; cases h
    · exact ⟨m, rfl, put_fits hl⟩

/-- An item that was written: it may be, and its bytes are behind the others. -/
theorem putI_ok {most : Int} {bs : List UInt8} {x : Itm} (h : codeI most (bs, 0) x = 0) : fitI x ∧ putI most (bs, 0) x = (bs ++ encI x, 0) := by
  unfold codeI at h
  unfold fitI putI encI at *
  by_cases h0 : x.kind = 0
  · rw [if_pos (.inl h0), if_pos h0] at h
    rw [if_pos h0, if_pos h0]
    obtain ⟨m, e, hp⟩ := put_ok h
    unfold Oct.natO at e
    by_cases hn : x.num < 0
    · rw [if_pos hn] at e; cases e
    · rw [if_neg hn] at e
      cases e
      exact ⟨⟨fun _ => by omega, fun h => by omega⟩, by rw [hp, List.append_nil]⟩
  · by_cases h1 : x.kind = 1
    · rw [if_pos (.inr (.inl h1)), if_neg h0, if_pos h1] at h
      rw [if_neg h0, if_pos h1, if_neg h0, if_pos h1]
      obtain ⟨m, e, hp⟩ := put_ok h
      unfold Oct.zigO at e
      by_cases hn : Oct.inW x.num
      · rw [if_pos hn] at e
        cases e
        exact ⟨⟨fun h => absurd h h0, fun _ => hn⟩, by rw [hp, List.append_nil]⟩
      · rw [if_neg hn] at e; cases e
    · by_cases h2 : x.kind = 2
      · rw [if_pos (.inr (.inr h2)), if_neg h0, if_neg h1, if_pos h2] at h
        rw [if_neg h0, if_neg h1, if_pos h2, if_neg h0, if_neg h1, if_pos h2]
        obtain ⟨m, e, hp⟩ := put_ok h
        cases e
        exact ⟨⟨fun h => absurd h h0, fun h => absurd h h1⟩, by rw [hp, List.append_assoc]⟩
      · rw [if_neg h0, if_neg h1, if_neg h2, if_neg h0, if_neg h1, if_neg h2]
        exact ⟨⟨fun h => absurd h h0, fun h => absurd h h1⟩, by rw [List.append_nil]⟩

theorem drop_pre (pre r : List UInt8) : (pre ++ r).drop pre.length = r := List.drop_left

theorem num_at {pre r : List UInt8} {v : Nat} (h : v < 9223372036854775808) : Oct.numV (pre ++ (Oct.grp v ++ r)) (pre.length, 0, 0) = v ∧ Oct.numS (pre ++ (Oct.grp v ++ r)) (pre.length, 0, 0) = (pre.length + (Oct.grp v).length, 0, 0) := by
  have hs := Oct.scan_grp0 r h
  have h0 : (Oct.scan 0 ((pre ++ (Oct.grp v ++ r)).drop pre.length)).1 = 0 := by rw [drop_pre, hs]
  constructor
  · rw [numV_at, drop_pre, hs]
  · rw [numS_ok h0, drop_pre, hs]

theorem word_at {pre r u : List UInt8} {most : Int} (h : u.length < 9223372036854775808) (hm : (u.length : Int) ≤ most) : Oct.wordV (pre ++ (Oct.grp u.length ++ (u ++ r))) most (pre.length, 0, 0) = u ∧
    Oct.wordS (pre ++ (Oct.grp u.length ++ (u ++ r))) most (pre.length, 0, 0) = (pre.length + ((Oct.grp u.length).length + u.length), 0, 0) := by
  have hs := Oct.scan_grp0 (u ++ r) h
  have hE : Oct.txtE (pre ++ (Oct.grp u.length ++ (u ++ r))) pre.length most = 0 := by
    unfold Oct.txtE
    rw [drop_pre, hs]
    rw [if_neg (by simp), if_neg (by dsimp only; omega), if_neg (by simp; omega)]
  constructor
  · rw [wordV_ok hE, drop_pre, hs]
    dsimp only
    rw [← List.drop_drop, drop_pre, List.drop_left, List.take_left]
  · rw [wordS_ok hE, drop_pre, hs]
    dsimp only
    rw [Nat.add_assoc]

/-- An item that was written is read as it was. -/
theorem read_at {pre r : List UInt8} {x : Itm} (hx : x.ok) (hf : fitI x) (hs : x.txt.size ≤ 1099511627776) : rdB (pre ++ (encI x ++ r)) (pre.length, 0, 0) x = true ∧ rdS (pre ++ (encI x ++ r)) (pre.length, 0, 0) x = (pre.length + (encI x).length, 0, 0) := by
  obtain ⟨⟨a1, a2⟩, ⟨a3, a4⟩, a5⟩ := hx
  unfold rdB rdS encI
  by_cases h0 : x.kind = 0
  · have hn := hf.1 h0
    rw [if_pos h0, if_pos h0, if_pos h0]
    obtain ⟨e1, e2⟩ := num_at (pre := pre) (r := r) (v := x.num.toNat) (by omega)
    rw [e1, e2]
    exact ⟨by simp; omega, rfl⟩
  · by_cases h1 : x.kind = 1
    · have hn := hf.2 h1
      rw [if_neg h0, if_pos h1, if_neg h0, if_pos h1, if_neg h0, if_pos h1]
      obtain ⟨e1, e2⟩ := num_at (pre := pre) (r := r) (v := Oct.zig x.num) (Oct.zig_lt hn)
      rw [e1, e2, Oct.zag_zig hn]
      exact ⟨by simp, rfl⟩
    · by_cases h2 : x.kind = 2
      · rw [if_neg h0, if_neg h1, if_pos h2, if_neg h0, if_neg h1, if_pos h2, if_neg h0, if_neg h1, if_pos h2]
        have hl := len_data x.txt
        obtain ⟨e1, e2⟩ := word_at (pre := pre) (r := r) (u := x.txt.data.toList) (most := (x.txt.size : Int)) (by omega) (by omega)
        rw [hl] at e1 e2
        rw [List.append_assoc, e1, e2]
        refine ⟨?_, by rw [List.length_append, hl]⟩
        rw [ByteArray.toList_eq]
        simp
      · rw [if_neg h0, if_neg h1, if_neg h2, if_neg h0, if_neg h1, if_neg h2, if_neg h0, if_neg h1, if_neg h2]
        exact ⟨rfl, by simp⟩

/-- A reader that has a fault keeps it. -/
theorem read_dead {s : List UInt8} {p a : Nat} {e : Int} (x : Itm) (he : e ≠ 0) : rdS s (p, e, a) x = (p, e, a) := by
  unfold rdS Oct.numS Oct.wordS
  split
  · first | rfl | rw [if_pos he]
  split
  · first | rfl | rw [if_pos he]
  split
  · first | rfl | rw [if_pos he]
  · rfl

/-- An item that is cut off is none. -/
theorem read_cut {pre : List UInt8} {x : Itm} {m : Nat} (hx : x.ok) (hf : fitI x) (hs : x.txt.size ≤ 1099511627776) (hm : m < (encI x).length) : ∃ p a, rdS (pre ++ (encI x).take m) (pre.length, 0, 0) x = (p, 13, a) := by
  obtain ⟨⟨a1, a2⟩, ⟨a3, a4⟩, a5⟩ := hx
  have cut : ∀ v, v < 9223372036854775808 → m < (Oct.grp v).length → Oct.numS (pre ++ (Oct.grp v).take m) (pre.length, 0, 0) = (pre.length, 13, pre.length) := fun v hv hm => by
    have hc := Oct.scan_cut0 hv hm
    have h0 : (Oct.scan 0 ((pre ++ (Oct.grp v).take m).drop pre.length)).1 ≠ 0 := by rw [drop_pre, hc]; decide
    rw [numS_bad h0, drop_pre, hc]
  unfold rdS encI at *
  by_cases h0 : x.kind = 0
  · have hn := hf.1 h0
    rw [if_pos h0] at hm
    rw [if_pos h0, if_pos h0]
    exact ⟨_, _, cut _ (by omega) hm⟩
  · by_cases h1 : x.kind = 1
    · have hn := hf.2 h1
      rw [if_neg h0, if_pos h1] at hm
      rw [if_neg h0, if_pos h1, if_neg h0, if_pos h1]
      exact ⟨_, _, cut _ (Oct.zig_lt hn) hm⟩
    · by_cases h2 : x.kind = 2
      · rw [if_neg h0, if_neg h1, if_pos h2] at hm
        rw [if_neg h0, if_neg h1, if_pos h2, if_neg h0, if_neg h1, if_pos h2]
        have hl := len_data x.txt
        generalize x.txt.data.toList = u at *
        rw [← hl] at hm ⊢
        have hul : u.length < 9223372036854775808 := by omega
        by_cases hg : m < (Oct.grp u.length).length
        · rw [List.take_append_of_le_length (by omega)]
          have hc := Oct.scan_cut0 hul hg
          have hE : Oct.txtE (pre ++ (Oct.grp u.length).take m) pre.length u.length = 13 := by
            unfold Oct.txtE
            rw [drop_pre, hc]
            rw [if_pos (by decide)]
          exact ⟨_, _, by unfold Oct.wordS; rw [if_neg (by simp), if_neg (by rw [hE]; decide), hE]⟩
        · obtain ⟨j, rfl⟩ := Nat.exists_eq_add_of_le (Nat.le_of_not_lt hg)
          rw [List.take_length_add_append]
          have hc := Oct.scan_grp0 (u.take j) hul
          rw [List.length_append] at hm
          have hE : Oct.txtE (pre ++ (Oct.grp u.length ++ u.take j)) pre.length u.length = 13 := by
            unfold Oct.txtE
            rw [drop_pre, hc]
            rw [if_neg (by simp), if_neg (by dsimp only; omega), if_pos (by simp; omega)]
          exact ⟨_, _, by unfold Oct.wordS; rw [if_neg (by simp), if_neg (by rw [hE]; decide), hE]⟩
      · rw [if_neg h0, if_neg h1, if_neg h2] at hm
        simp at hm

def encL (l : List Itm) : List UInt8 := l.flatMap encI
/-- Where a reader stands behind all items. -/
def runL (s : List UInt8) (t : Oct.Rs) (l : List Itm) : Oct.Rs := l.foldl (rdS s) t

theorem run_step (s : List UInt8) (t : Oct.Rs) (l : List Itm) {k : Nat} {x : Itm} (hx : l[k]? = some x) : runL s t (l.take (k + 1)) = rdS s (runL s t (l.take k)) x := by
  rw [List.take_add_one, hx]
  unfold runL
  rw [List.foldl_append]
  rfl
theorem enc_step (l : List Itm) {k : Nat} {x : Itm} (hx : l[k]? = some x) : encL (l.take (k + 1)) = encL (l.take k) ++ encI x := by
  rw [List.take_add_one, hx]
  unfold encL
  simp
theorem enc_split (l : List Itm) {k : Nat} {x : Itm} (hx : l[k]? = some x) : encL l = encL (l.take k) ++ (encI x ++ encL (l.drop (k + 1))) := by
  have h := List.take_append_drop (k + 1) l
  conv => lhs; rw [← h]
  unfold encL
  rw [List.flatMap_append]
  have := enc_step l hx
  unfold encL at this
  rw [this, List.append_assoc]

theorem run_dead {s : List UInt8} {p a : Nat} {e : Int} (he : e ≠ 0) : ∀ l : List Itm, runL s (p, e, a) l = (p, e, a)
  | [] => rfl
  | x :: l => by
    show runL s (rdS s (p, e, a) x) l = _
    rw [read_dead x he]
    exact run_dead he l

theorem run_cut : ∀ (l : List Itm) (pre : List UInt8), (∀ x ∈ l, x.ok ∧ fitI x ∧ x.txt.size ≤ 1099511627776) → encL l ≠ [] → ∃ p a, runL (pre ++ (encL l).take ((encL l).length - 1)) (pre.length, 0, 0) l = (p, 13, a)
  | [], pre, _, h => absurd rfl h
  | x :: l, pre, hl, h => by
    obtain ⟨h1, h2, h3⟩ := hl x (by simp)
    have hl' : ∀ y ∈ l, y.ok ∧ fitI y ∧ y.txt.size ≤ 1099511627776 := fun y hy => hl y (by simp [hy])
    have e : encL (x :: l) = encI x ++ encL l := rfl
    show ∃ p a, runL _ (rdS _ (pre.length, 0, 0) x) l = _
    by_cases hz : encL l = []
    · rw [e, hz, List.append_nil] at h ⊢
      have hp : 0 < (encI x).length := List.length_pos_iff.2 h
      obtain ⟨p, a, hc⟩ := read_cut (pre := pre) (m := (encI x).length - 1) h1 h2 h3 (by omega)
      rw [hc]
      exact ⟨p, a, run_dead (by decide) l⟩
    · have hp : 0 < (encL l).length := List.length_pos_iff.2 hz
      have et : (encL (x :: l)).take ((encL (x :: l)).length - 1) = encI x ++ (encL l).take ((encL l).length - 1) := by
        rw [e, List.length_append, show (encI x).length + (encL l).length - 1 = (encI x).length + ((encL l).length - 1) by omega, List.take_length_add_append]
      rw [et]
      rw [(read_at (pre := pre) (r := (encL l).take ((encL l).length - 1)) h1 h2 h3).2]
      have := run_cut l (pre ++ encI x) hl' hz
      rw [List.length_append, List.append_assoc] at this
      exact this
end Go.Proofs.Ytfbbhkhingfdeaa
