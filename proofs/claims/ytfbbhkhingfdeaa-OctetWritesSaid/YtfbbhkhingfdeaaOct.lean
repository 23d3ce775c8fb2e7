/- Numbers and texts as bytes, in plain words: the bytes of a number, the number that bytes begin with, and what a writer and a reader make of them. -/
import Derived.Test.YtfbbhkhingfdeaaRows
set_option linter.unusedSimpArgs false
set_option linter.unusedVariables false
namespace Go.Proofs.Ytfbbhkhingfdeaa.Oct

/-- The bytes of a number. -/
def grp (n : Nat) : List UInt8 := if n < 128 then [UInt8.ofNat n] else UInt8.ofNat (128 + n % 128) :: grp (n / 128)
termination_by n
decreasing_by omega

theorem grp_lt {n : Nat} (h : n < 128) : grp n = [UInt8.ofNat n] := by rw [grp, if_pos h]
theorem grp_ge {n : Nat} (h : ¬ n < 128) : grp n = UInt8.ofNat (128 + n % 128) :: grp (n / 128) := by rw [grp, if_neg h]
theorem ofNat_toNat {n : Nat} (h : n < 256) : (UInt8.ofNat n).toNat = n := by simp [UInt8.toNat_ofNat']; omega
theorem toNat_ofNat_self (b : UInt8) : UInt8.ofNat b.toNat = b := by simp
theorem grp_pos (n : Nat) : 0 < (grp n).length := by rw [grp]; split <;> simp
theorem grp_ne (n : Nat) : grp n ≠ [] := fun h => by have := grp_pos n; rw [h] at this; simp at this

theorem grp_len : ∀ (k n : Nat), n < 128 ^ (k + 1) → (grp n).length ≤ k + 1
  | 0, n, h => by rw [grp_lt (by simpa using h)]; simp
  | k + 1, n, h => by
    by_cases hn : n < 128
    · rw [grp_lt hn]; simp
    · rw [grp_ge hn]
      have := grp_len k (n / 128) (by rw [Nat.div_lt_iff_lt_mul (by omega)]; rw [Nat.pow_succ] at h; exact h)
      simp; omega

theorem p9 : (128 : Nat) ^ 9 = 9223372036854775808 := by decide +kernel
theorem grp_len9 {n : Nat} (h : n < 9223372036854775808) : (grp n).length ≤ 9 := grp_len 8 n (by rw [p9]; exact h)

/-- The number that bytes begin with, i groups being behind: its fault (0: none), its value, how many bytes it has. -/
def scan : Nat → List UInt8 → Int × Nat × Nat
  | _, [] => (13, 0, 0)
  | i, b :: l =>
    if i = 9 then (5, 0, 0)
    else if 128 ≤ b.toNat then
      if (scan (i + 1) l).1 = 0 then (0, b.toNat - 128 + 128 * (scan (i + 1) l).2.1, (scan (i + 1) l).2.2 + 1) else ((scan (i + 1) l).1, 0, 0)
    else if b.toNat = 0 ∧ 0 < i then (5, 0, 0)
    else (0, b.toNat, 1)

theorem scan_err : ∀ (i : Nat) (l : List UInt8), (scan i l).1 = 0 ∨ (scan i l).1 = 5 ∧ (scan i l).2 = (0, 0) ∨ (scan i l).1 = 13 ∧ (scan i l).2 = (0, 0)
  | i, [] => by unfold scan; simp
  | i, b :: l => by
    unfold scan
    split
    · simp
    split
    · split
      · simp
      · rcases scan_err (i + 1) l with h | h | h
        · exact absurd h ‹_›
        · simp [h.1]
        · simp [h.1]
    split
    · simp
    · simp

/-- What is read is the one form of its value. -/
theorem scan_ok : ∀ (i : Nat) (l : List UInt8), i ≤ 9 → (scan i l).1 = 0 → i < 9 ∧ (scan i l).2.1 < 128 ^ (9 - i) ∧ 1 ≤ (scan i l).2.2 ∧ (scan i l).2.2 + i ≤ 9 ∧ (scan i l).2.2 ≤ l.length ∧ l.take (scan i l).2.2 = grp (scan i l).2.1 ∧ (0 < i → (scan i l).2.1 ≠ 0)
  | i, [], _, h => by simp [scan] at h
  | i, b :: l, hi, h => by
    have ih := scan_ok (i + 1) l
    unfold scan at h ⊢
    by_cases h9 : i = 9
    · rw [if_pos h9] at h; simp at h
    rw [if_neg h9] at h ⊢
    by_cases hb : 128 ≤ b.toNat
    · rw [if_pos hb] at h ⊢
      by_cases hs : (scan (i + 1) l).1 = 0
      · rw [if_pos hs]
        obtain ⟨h1, h2, h3, h4, h5, h6, h7⟩ := ih (by omega) hs
        generalize (scan (i + 1) l).2.1 = v at *
        generalize (scan (i + 1) l).2.2 = k at *
        have hv := h7 (by omega)
        have hb2 := b.toNat_lt
        have e9 : 9 - i = (9 - (i + 1)) + 1 := by omega
        dsimp only
        refine ⟨by omega, ?_, by omega, by omega, by simpa using h5, ?_, fun _ => by omega⟩
        · rw [e9, Nat.pow_succ]
          generalize 128 ^ (9 - (i + 1)) = q at *
          omega
        · rw [List.take_succ_cons, h6, grp_ge (n := b.toNat - 128 + 128 * v) (by omega)]
          have e1 : (b.toNat - 128 + 128 * v) % 128 = b.toNat - 128 := by omega
          have e2 : (b.toNat - 128 + 128 * v) / 128 = v := by omega
          rw [e1, e2, show 128 + (b.toNat - 128) = b.toNat by omega, toNat_ofNat_self]
      · rw [if_neg hs] at h; exact absurd h hs
    · rw [if_neg hb] at h ⊢
      by_cases hz : b.toNat = 0 ∧ 0 < i
      · rw [if_pos hz] at h; simp at h
      · rw [if_neg hz]
        dsimp only
        have : 128 ^ 1 ≤ 128 ^ (9 - i) := Nat.pow_le_pow_right (by omega) (by omega)
        refine ⟨by omega, by omega, by omega, by omega, by simp, ?_, fun hi => by omega⟩
        rw [grp_lt (by omega), toNat_ofNat_self]
        simp

/-- The one form of a number is read, whatever stands behind it. -/
theorem scan_grp : ∀ (i v : Nat) (r : List UInt8), i < 9 → v < 128 ^ (9 - i) → (0 < i → v ≠ 0) → scan i (grp v ++ r) = (0, v, (grp v).length)
  | i, v, r, hi, hv, h0 => by
    by_cases hn : v < 128
    · rw [grp_lt hn]
      show scan i (UInt8.ofNat v :: r) = _
      unfold scan
      rw [ofNat_toNat (by omega), if_neg (by omega), if_neg (by omega), if_neg (by rintro ⟨a, b⟩; exact h0 b a)]
      rfl
    · have e9 : 9 - i = (9 - (i + 1)) + 1 := by omega
      rw [e9, Nat.pow_succ] at hv
      have hi8 : i + 1 < 9 := by
        by_cases h8 : i = 8
        · subst h8; simp at hv; omega
        · omega
      have ih := scan_grp (i + 1) (v / 128) r hi8 (by rw [Nat.div_lt_iff_lt_mul (by omega)]; exact hv) (fun _ => by omega)
      rw [grp_ge hn]
      show scan i (UInt8.ofNat (128 + v % 128) :: (grp (v / 128) ++ r)) = _
      unfold scan
      rw [ofNat_toNat (by omega), if_neg (by omega), if_pos (by omega), ih, if_pos rfl]
      dsimp only
      rw [show 128 + v % 128 - 128 + 128 * (v / 128) = v by omega, List.length_cons]
termination_by _ v => v

theorem scan_grp0 {v : Nat} (r : List UInt8) (h : v < 9223372036854775808) : scan 0 (grp v ++ r) = (0, v, (grp v).length) :=
  scan_grp 0 v r (by omega) (by rw [show 9 - 0 = 9 from rfl, p9]; exact h) (by omega)

/-- A number that is cut off has not ended. -/
theorem scan_cut : ∀ (i v m : Nat), i < 9 → v < 128 ^ (9 - i) → m < (grp v).length → scan i ((grp v).take m) = (13, 0, 0)
  | i, v, m, hi, hv, hm => by
    by_cases hn : v < 128
    · rw [grp_lt hn] at hm ⊢
      have : m = 0 := by simpa using hm
      subst this
      rfl
    · have e9 : 9 - i = (9 - (i + 1)) + 1 := by omega
      rw [e9, Nat.pow_succ] at hv
      have hi8 : i + 1 < 9 := by
        by_cases h8 : i = 8
        · subst h8; simp at hv; omega
        · omega
      rw [grp_ge hn] at hm ⊢
      cases m with
      | zero => rfl
      | succ m =>
        have ih := scan_cut (i + 1) (v / 128) m hi8 (by rw [Nat.div_lt_iff_lt_mul (by omega)]; exact hv) (by simpa using hm)
        rw [List.take_succ_cons]
        unfold scan
        rw [ofNat_toNat (by omega), if_neg (by omega), if_pos (by omega), ih, if_neg (by decide)]
termination_by _ v => v

theorem scan_cut0 {v m : Nat} (h : v < 9223372036854775808) (hm : m < (grp v).length) : scan 0 ((grp v).take m) = (13, 0, 0) :=
  scan_cut 0 v m (by omega) (by rw [show 9 - 0 = 9 from rfl, p9]; exact h) hm

theorem scan_ok0 {l : List UInt8} (h : (scan 0 l).1 = 0) : (scan 0 l).2.1 < 9223372036854775808 ∧ 1 ≤ (scan 0 l).2.2 ∧ (scan 0 l).2.2 ≤ 9 ∧ (scan 0 l).2.2 ≤ l.length ∧ l.take (scan 0 l).2.2 = grp (scan 0 l).2.1 := by
  obtain ⟨_, h2, h3, h4, h5, h6, _⟩ := scan_ok 0 l (by omega) h
  exact ⟨by rw [show 9 - 0 = 9 from rfl, p9] at h2; exact h2, h3, by omega, h5, h6⟩

/-- What the loop over i groups, acc being their sum, comes to, if the rest comes to r. -/
def fin (acc i : Nat) (r : Int × Nat × Nat) : Int × Nat × Nat := if r.1 = 0 then (0, acc + 128 ^ i * r.2.1, i + r.2.2) else (r.1, 0, 0)

/-! ### A writer -/
/-- The number of a whole number. -/
def zig (n : Int) : Nat := if n < 0 then (2 * (-1 - n) + 1).toNat else (2 * n).toNat
def zag (n : Nat) : Int := if n % 2 = 1 then -1 - ((n / 2 : Nat) : Int) else ((n / 2 : Nat) : Int)
def inW (n : Int) : Prop := -4611686018427387904 ≤ n ∧ n < 4611686018427387904
instance (n : Int) : Decidable (inW n) := inferInstanceAs (Decidable (_ ∧ _))

theorem zag_zig {n : Int} (h : inW n) : zag (zig n) = n := by
  unfold zag zig inW at *
  split <;> split <;> omega
theorem zig_lt {n : Int} (h : inW n) : zig n < 9223372036854775808 := by
  unfold zig inW at *
  split <;> omega
theorem zig_zag (n : Nat) : zig (zag n) = n := by
  unfold zag zig
  split <;> split <;> omega
theorem zag_in {n : Nat} (h : n < 9223372036854775808) : inW (zag n) := by
  unfold zag inW
  split <;> omega

/-- What a writer holds, and its first error. -/
abbrev Ws := List UInt8 × Int
/-- A number, if it may be, and a text are written. -/
def put (most : Int) (st : Ws) (n : Option Nat) (s : List UInt8) : Ws :=
  if st.2 ≠ 0 then st else
  match n with
  | none => (st.1, 3)
  | some m => if most < ((st.1 ++ grp m ++ s).length : Int) then (st.1, 4) else (st.1 ++ grp m ++ s, 0)
def natO (n : Int) : Option Nat := if n < 0 then none else some n.toNat
def zigO (n : Int) : Option Nat := if inW n then some (zig n) else none

/-! ### A reader: its place, its fault, and where that is -/
abbrev Rs := Nat × Int × Nat
def numV (s : List UInt8) (t : Rs) : Nat := if t.2.1 ≠ 0 then 0 else (scan 0 (s.drop t.1)).2.1
def numS (s : List UInt8) (t : Rs) : Rs := if t.2.1 ≠ 0 then t else if (scan 0 (s.drop t.1)).1 = 0 then (t.1 + (scan 0 (s.drop t.1)).2.2, 0, 0) else (t.1, (scan 0 (s.drop t.1)).1, t.1)
/-- The fault of a text whose length has been read. -/
def txtE (s : List UInt8) (p : Nat) (most : Int) : Int :=
  if (scan 0 (s.drop p)).1 ≠ 0 then (scan 0 (s.drop p)).1
  else if most < ((scan 0 (s.drop p)).2.1 : Int) then 4
  else if ((s.length : Int) - ((p + (scan 0 (s.drop p)).2.2 : Nat) : Int)) < ((scan 0 (s.drop p)).2.1 : Int) then 13
  else 0
def wordV (s : List UInt8) (most : Int) (t : Rs) : List UInt8 :=
  if t.2.1 ≠ 0 then [] else if txtE s t.1 most = 0 then (s.drop (t.1 + (scan 0 (s.drop t.1)).2.2)).take (scan 0 (s.drop t.1)).2.1 else []
def wordS (s : List UInt8) (most : Int) (t : Rs) : Rs :=
  if t.2.1 ≠ 0 then t else
  if txtE s t.1 most = 0 then (t.1 + (scan 0 (s.drop t.1)).2.2 + (scan 0 (s.drop t.1)).2.1, 0, 0) else (t.1 + (scan 0 (s.drop t.1)).2.2, txtE s t.1 most, t.1)
def restV (s : List UInt8) (t : Rs) : Nat := if t.2.1 ≠ 0 then 0 else s.length - t.1
def endE (s : List UInt8) (t : Rs) : Int := if t.2.1 ≠ 0 then t.2.1 else if t.1 < s.length then 4 else 0
def endA (s : List UInt8) (t : Rs) : Nat := if t.2.1 ≠ 0 then t.2.2 else if t.1 < s.length then t.1 else t.2.2
/-- A reader's words fit each other. -/
def good (s : List UInt8) (t : Rs) : Prop := t.1 ≤ s.length ∧ t.2.2 ≤ s.length ∧ (t.2.1 = 0 → t.2.2 = 0)

theorem scan_len (l : List UInt8) : (scan 0 l).2.2 ≤ l.length := by
  rcases scan_err 0 l with h | h | h
  · exact (scan_ok0 h).2.2.2.1
  · rw [h.2]; simp
  · rw [h.2]; simp
theorem good_num {s : List UInt8} {t : Rs} (h : good s t) : good s (numS s t) := by
  obtain ⟨h1, h2, h3⟩ := h
  have := scan_len (s.drop t.1)
  rw [List.length_drop] at this
  unfold numS good
  split
  · exact ⟨h1, h2, h3⟩
  split
  · exact ⟨by dsimp only; omega, by simp, fun _ => rfl⟩
  · exact ⟨h1, h1, fun h => absurd h ‹_›⟩
theorem good_word {s : List UInt8} {t : Rs} (most : Int) (h : good s t) : good s (wordS s most t) := by
  obtain ⟨h1, h2, h3⟩ := h
  have := scan_len (s.drop t.1)
  rw [List.length_drop] at this
  unfold wordS good
  split
  · exact ⟨h1, h2, h3⟩
  split
  · rename_i h
    refine ⟨?_, by simp, fun _ => rfl⟩
    unfold txtE at h
    split at h
    · exact absurd h ‹_›
    split at h
    · cases h
    split at h
    · cases h
    · dsimp only; omega
  · exact ⟨by dsimp only; omega, h1, fun h => absurd h ‹_›⟩
theorem good_new (s : List UInt8) : good s (0, 0, 0) := ⟨by simp, by simp, fun _ => rfl⟩

end Go.Proofs.Ytfbbhkhingfdeaa.Oct
