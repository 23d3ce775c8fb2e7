/- Plain facts on decimal digits: the digits of a number, the number that digits stand for, the text of an integer, and which integer a text is. No program is named here. -/
import Derived.KernelRfl
set_option linter.unusedSimpArgs false
set_option linter.unusedVariables false
namespace Go.Proofs.YtcaailiijmjdlaaGreatDoor
namespace Dec

def dgt (d : Nat) : UInt8 := UInt8.ofNat (48 + d)

def digs (m : Nat) : List UInt8 := if m < 10 then [dgt m] else digs (m / 10) ++ [dgt (m % 10)]
termination_by m
decreasing_by omega

theorem digs_lt {m : Nat} (h : m < 10) : digs m = [dgt m] := by rw [digs, if_pos h]
theorem digs_ge {m : Nat} (h : 10 ≤ m) : digs m = digs (m / 10) ++ [dgt (m % 10)] := by rw [digs, if_neg (by omega)]

theorem dgt_toNat {d : Nat} (h : d < 10) : (dgt d).toNat = 48 + d := by
  show (UInt8.ofNat (48 + d)).toNat = _
  rw [UInt8.toNat_ofNat']; omega

def isD (c : UInt8) : Bool := decide (48 ≤ c.toNat) && decide (c.toNat ≤ 57)
def allD (l : List UInt8) : Bool := l.all isD
def val (l : List UInt8) : Nat := l.foldl (fun a c => 10 * a + (c.toNat - 48)) 0

theorem isD_dgt {d : Nat} (h : d < 10) : isD (dgt d) = true := by
  unfold isD; rw [dgt_toNat h]; simp; omega

theorem isD_iff {c : UInt8} : isD c = true ↔ 48 ≤ c.toNat ∧ c.toNat ≤ 57 := by unfold isD; simp

theorem val_snoc (l : List UInt8) (c : UInt8) : val (l ++ [c]) = 10 * val l + (c.toNat - 48) := by
  unfold val; rw [List.foldl_append]; rfl

theorem allD_snoc (l : List UInt8) (c : UInt8) : allD (l ++ [c]) = (allD l && isD c) := by
  unfold allD; simp

theorem digs_ne (m : Nat) : digs m ≠ [] := by
  rw [digs]; split <;> simp

theorem digs_all (m : Nat) : allD (digs m) = true := by
  induction m using digs.induct with
  | case1 m h => rw [digs_lt h]; unfold allD; simp [isD_dgt h]
  | case2 m h ih => rw [digs_ge (by omega), allD_snoc, ih, isD_dgt (by omega)]; rfl

theorem val_digs (m : Nat) : val (digs m) = m := by
  induction m using digs.induct with
  | case1 m h => rw [digs_lt h]; show 10 * 0 + ((dgt m).toNat - 48) = m; rw [dgt_toNat h]; omega
  | case2 m h ih => rw [digs_ge (by omega), val_snoc, ih, dgt_toNat (by omega)]; omega

theorem digs_head (m : Nat) (h : (digs m).head? = some 48) : m = 0 := by
  induction m using digs.induct with
  | case1 m hm =>
    rw [digs_lt hm] at h
    have : dgt m = 48 := by simpa using h
    have e := congrArg UInt8.toNat this
    rw [dgt_toNat hm] at e
    have : (48 : UInt8).toNat = 48 := rfl
    omega
  | case2 m hm ih =>
    rw [digs_ge (by omega)] at h
    have : (digs (m / 10)).head? = some 48 := by
      cases hd : digs (m / 10) with
      | nil => exact absurd hd (digs_ne _)
      | cons a r => rw [hd] at h; simpa using h
    have := ih this
    omega

theorem digs_length (k : Nat) : ∀ m, m < 10 ^ (k + 1) → (digs m).length ≤ k + 1 := by
  induction k with
  | zero => intro m h; rw [digs_lt (by simpa using h)]; simp
  | succ k ih =>
    intro m h
    by_cases hm : m < 10
    · rw [digs_lt hm]; simp
    · rw [digs_ge (by omega)]
      have := ih (m / 10) (by rw [Nat.pow_succ] at h; omega)
      simp; omega

theorem digs_le20 {m : Nat} (h : m < 100000000000000000000) : (digs m).length ≤ 20 := digs_length 19 m (by simpa using h)

theorem dgt_of_isD {c : UInt8} (h : isD c = true) : dgt (c.toNat - 48) = c := by
  obtain ⟨h1, h2⟩ := isD_iff.1 h
  apply UInt8.toNat_inj.1
  rw [dgt_toNat (by omega)]; omega

theorem val_pos : ∀ (n : Nat) (l : List UInt8), l.length = n → allD l = true → l ≠ [] → l.head? ≠ some 48 → 0 < val l := by
  intro n
  induction n with
  | zero => intro l hl _ hne; exact absurd (List.length_eq_zero_iff.1 hl) hne
  | succ n ih =>
    intro l hl ha hne hh
    rw [← List.dropLast_concat_getLast hne] at ha hh ⊢
    rw [allD_snoc, Bool.and_eq_true] at ha
    rw [val_snoc]
    by_cases he : l.dropLast = []
    · rw [he] at hh ⊢
      have hc := (isD_iff.1 ha.2)
      have : (l.getLast hne).toNat ≠ 48 := by
        intro e
        apply hh
        have : l.getLast hne = 48 := UInt8.toNat_inj.1 e
        rw [this]; rfl
      show 0 < 10 * 0 + _
      omega
    · have := ih l.dropLast (by rw [List.length_dropLast]; omega) ha.1 he (by
        intro e; apply hh
        cases hd : l.dropLast with
        | nil => exact absurd hd he
        | cons a r => rw [hd] at e; simpa using e)
      omega

/-- Digits without a leading 0, or one digit: they are those of their number. -/
theorem digs_val : ∀ (n : Nat) (l : List UInt8), l.length = n → allD l = true → l ≠ [] → (l.head? = some 48 → l.length = 1) → digs (val l) = l := by
  intro n
  induction n with
  | zero => intro l hl _ hne; exact absurd (List.length_eq_zero_iff.1 hl) hne
  | succ n ih =>
    intro l hl ha hne hh
    have hdec := List.dropLast_concat_getLast hne
    rw [← hdec] at ha ⊢
    rw [allD_snoc, Bool.and_eq_true] at ha
    obtain ⟨c1, c2⟩ := isD_iff.1 ha.2
    rw [val_snoc]
    by_cases he : l.dropLast = []
    · rw [he]
      show digs (10 * 0 + _) = [] ++ [_]
      rw [Nat.mul_zero, Nat.zero_add, digs_lt (by omega), dgt_of_isD ha.2]; rfl
    · have hl2 : l.dropLast.length = n := by rw [List.length_dropLast]; omega
      have hn0 : n ≠ 0 := by intro e; rw [e] at hl2; exact he (List.length_eq_zero_iff.1 hl2)
      have hh2 : l.dropLast.head? ≠ some 48 := by
        intro e
        have : l.head? = some 48 := by
          rw [← hdec]
          cases hd : l.dropLast with
          | nil => exact absurd hd he
          | cons a r => rw [hd] at e; simpa using e
        have := hh this
        omega
      have hp := val_pos n l.dropLast hl2 ha.1 he hh2
      rw [digs_ge (by omega), show (10 * val l.dropLast + ((l.getLast hne).toNat - 48)) / 10 = val l.dropLast from by omega,
        show (10 * val l.dropLast + ((l.getLast hne).toNat - 48)) % 10 = (l.getLast hne).toNat - 48 from by omega, dgt_of_isD ha.2,
        ih l.dropLast hl2 ha.1 he (fun e => absurd e hh2)]

theorem allD_at (l : List UInt8) (k : Nat) (h : k < l.length) (ha : allD l = true) : isD l[k] = true := by
  unfold allD at ha
  exact (List.all_eq_true.1 ha) _ (List.getElem_mem h)

theorem allD_false_at (l : List UInt8) (k : Nat) (h : k < l.length) (hc : l[k].toNat < 48 ∨ 57 < l[k].toNat) : allD l = false := by
  cases ha : allD l
  · rfl
  · have := isD_iff.1 (allD_at l k h ha)
    omega

/-! ### texts of integers -/

def txt (n : Int) : List UInt8 := if n < 0 then 45 :: digs n.natAbs else digs n.natAbs

def neg (l : List UInt8) : Bool := l.head? == some 45
def num (l : List UInt8) : List UInt8 := if neg l then l.tail else l
/-- Is it digits, as they must be? -/
def form (l : List UInt8) : Bool := allD (num l) && !(num l).isEmpty && !((num l).head? == some 48 && decide (1 < l.length))
def over (l : List UInt8) : Bool := decide (9223372036854775808 < val (num l)) || (!neg l && decide (val (num l) = 9223372036854775808))
def rdN (l : List UInt8) : Int := if form l && !over l then (if neg l then -(val (num l) : Int) else val (num l)) else 0
def rdE (l : List UInt8) : Int := if form l then (if over l then 3 else 0) else 5

theorem digs_not_neg (m : Nat) : neg (digs m) = false := by
  have h := digs_all m
  cases hd : digs m with
  | nil => exact absurd hd (digs_ne m)
  | cons a r =>
    rw [hd] at h
    unfold allD at h
    simp at h
    have := isD_iff.1 h.1
    unfold neg
    simp
    intro e
    rw [e] at this
    exact absurd this.1 (by decide)

theorem neg_txt (n : Int) : neg (txt n) = decide (n < 0) := by
  unfold txt
  split
  · rename_i h; simp [neg, h]
  · rename_i h; rw [digs_not_neg]; simp [h]

theorem num_txt (n : Int) : num (txt n) = digs n.natAbs := by
  unfold num
  rw [neg_txt]
  unfold txt
  by_cases h : n < 0
  · simp [h]
  · simp [h]

theorem form_txt (n : Int) : form (txt n) = true := by
  unfold form
  rw [num_txt, digs_all]
  have h1 : (digs n.natAbs).isEmpty = false := by
    cases hd : digs n.natAbs with
    | nil => exact absurd hd (digs_ne _)
    | cons a r => rfl
  rw [h1]
  by_cases h2 : (digs n.natAbs).head? = some 48
  · have := digs_head _ h2
    have hn : n = 0 := by omega
    subst hn
    have : txt 0 = [48] := by unfold txt; rw [if_neg (by omega)]; show digs 0 = _; rw [digs_lt (by omega)]; rfl
    rw [this]; simp
  · have : ((digs n.natAbs).head? == some 48) = false := by simpa using h2
    rw [this]; rfl

theorem over_txt (n : Int) (h1 : -9223372036854775808 ≤ n) (h2 : n ≤ 9223372036854775807) : over (txt n) = false := by
  unfold over
  rw [num_txt, val_digs, neg_txt]
  by_cases h : n < 0
  · simp [h]; omega
  · simp [h]; omega

theorem rd_txt (n : Int) (h1 : -9223372036854775808 ≤ n) (h2 : n ≤ 9223372036854775807) : rdN (txt n) = n ∧ rdE (txt n) = 0 := by
  unfold rdN rdE
  rw [form_txt, over_txt n h1 h2, neg_txt, num_txt, val_digs]
  refine ⟨?_, by simp⟩
  by_cases h : n < 0
  · simp [h]; omega
  · simp [h]; omega

/-- A text of the form is that of its number. -/
theorem txt_form {l : List UInt8} (h : form l = true) : txt (if neg l then -(val (num l) : Int) else val (num l)) = l := by
  unfold form at h
  simp only [Bool.and_eq_true, Bool.not_eq_true', Bool.and_eq_false_iff] at h
  obtain ⟨⟨ha, he⟩, hz⟩ := h
  have hne : num l ≠ [] := by intro e; rw [e] at he; cases he
  by_cases hg : neg l = true
  · have hl : l = 45 :: l.tail := by
      cases l with
      | nil => cases hg
      | cons a r => unfold neg at hg; simp at hg; rw [hg]; rfl
    have hnum : num l = l.tail := by unfold num; rw [if_pos hg]
    have hlen : 1 < l.length := by
      rw [hnum] at hne
      have := List.length_pos_iff.2 hne
      have e := congrArg List.length hl
      rw [List.length_cons] at e
      omega
    have h48 : (num l).head? ≠ some 48 := by
      rcases hz with h | h
      · simpa using h
      · simp at h; omega
    have hd := digs_val _ (num l) rfl ha hne (fun e => absurd e h48)
    have hp := val_pos _ (num l) rfl ha hne h48
    rw [if_pos hg]
    unfold txt
    rw [if_pos (by omega), show (-(val (num l) : Int)).natAbs = val (num l) from by omega, hd, hnum]
    exact hl.symm
  · have hnum : num l = l := by unfold num; rw [if_neg hg]
    have hd := digs_val _ (num l) rfl ha hne (fun e => by
      rcases hz with h | h
      · simp at h; exact absurd e h
      · simp at h
        rw [hnum] at hne ⊢
        have := List.length_pos_iff.2 hne
        omega)
    rw [if_neg hg]
    unfold txt
    rw [if_neg (by omega), show ((val (num l) : Int)).natAbs = val (num l) from by omega, hd, hnum]

theorem txt_rd {l : List UInt8} (h : rdE l = 0) : txt (rdN l) = l := by
  unfold rdE at h
  by_cases hf : form l = true
  · rw [if_pos hf] at h
    by_cases ho : over l = true
    · rw [if_pos ho] at h; cases h
    · have ho' : over l = false := by simpa using ho
      unfold rdN
      rw [hf, ho']
      exact txt_form hf
  · rw [if_neg hf] at h; cases h

theorem rd_err {l : List UInt8} (h : rdE l ≠ 0) : rdN l = 0 ∧ (rdE l = 5 ∨ rdE l = 3) := by
  unfold rdE at *
  unfold rdN
  by_cases hf : form l = true
  · rw [if_pos hf] at h ⊢
    by_cases ho : over l = true
    · rw [if_pos ho, hf, ho]; simp
    · rw [if_neg ho] at h; exact absurd rfl h
  · rw [if_neg hf]
    have : form l = false := by simpa using hf
    rw [this]; simp

theorem rdN_range (l : List UInt8) : -9223372036854775808 ≤ rdN l ∧ rdN l ≤ 9223372036854775807 := by
  unfold rdN
  by_cases h : (form l && !over l) = true
  · rw [if_pos h]
    simp only [Bool.and_eq_true, Bool.not_eq_true'] at h
    have ho := h.2
    unfold over at ho
    simp only [Bool.or_eq_false_iff, decide_eq_false_iff_not, Bool.and_eq_false_iff, Bool.not_eq_false'] at ho
    by_cases hg : neg l = true
    · rw [if_pos hg]; omega
    · rw [if_neg hg]
      rcases ho.2 with h | h
      · exact absurd h hg
      · omega
  · rw [if_neg h]; omega

/-- The integer between -2^63 and 2^63 - 1 that n wraps around to. -/
def w64 (n : Int) : Int := (n + 9223372036854775808) % 18446744073709551616 - 9223372036854775808

/-- What a text's digits wrap around to has that text just where they stand for an integer. -/
theorem wrap_text {l : List UInt8} (h : form l = true) (n : Int) (h1 : -9223372036854775808 ≤ n) (h2 : n ≤ 9223372036854775807)
    (hn : n = w64 (if neg l then -(val (num l) : Int) else val (num l))) : (over l = false → n = rdN l ∧ txt n = l) ∧ (over l = true → txt n ≠ l) := by
  have ht := txt_form h
  refine ⟨fun ho => ?_, fun ho e => ?_⟩
  · have hr : rdN l = if neg l then -(val (num l) : Int) else val (num l) := by unfold rdN; rw [h, ho]; rfl
    have hb := rdN_range l
    rw [← hr] at hn ht
    have : n = rdN l := by rw [hn]; unfold w64; omega
    exact ⟨this, by rw [this]; exact ht⟩
  · have := over_txt n h1 h2
    rw [e, ho] at this
    cases this

end Dec
end Go.Proofs.YtcaailiijmjdlaaGreatDoor
