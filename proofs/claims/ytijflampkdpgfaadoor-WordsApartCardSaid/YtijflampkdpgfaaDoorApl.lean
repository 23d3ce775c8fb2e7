/- Plain words for nothing being both a name and a type: what a text may be, and texts of one byte more or less. -/
import Derived.Test.YtijflampkdpgfaaDoorLok
set_option linter.unusedSimpArgs false
set_option linter.unusedVariables false
namespace Go.Proofs.YtijflampkdpgfaaDoor

theorem key_small {s : ByteArray} (h : Wrd.key s = true) : Wrd.name s = false ∧ Wrd.cls s = false := by
  have hm := Wrd.has_iff.1 h
  revert hm
  have all : ∀ x ∈ Wrd.ws, Wrd.name x = false ∧ Wrd.cls x = false := by decide +kernel
  exact all s
theorem base_key {s : ByteArray} (h : Wrd.base s = true) : Wrd.key s = true := by
  have hm := Wrd.has_iff.1 h
  revert hm
  have all : ∀ x ∈ Wrd.bs, Wrd.key x = true := by decide +kernel
  exact all s
theorem name_cls (s : ByteArray) (h : Wrd.name s = true) : Wrd.cls s = false := by
  unfold Wrd.name at h
  rw [Bool.and_eq_true] at h
  have h1 := h.1
  rw [spelt_wrd, Bool.and_eq_true] at h1
  unfold Wrd.cls
  rw [spelt_wrd]
  have h2 := eq_of_beq h1.2
  rw [h2, h1.1]; rfl

/-- What a text may be: its name, class name, base, key, kind, type. -/
def Sort5 (nm cl ba ke ty : Bool) (kd : Int) : Prop :=
  (nm = true ∧ cl = false ∧ ba = false ∧ ke = false ∧ ty = false ∧ kd = 0) ∨ (nm = false ∧ cl = true ∧ ba = false ∧ ke = false ∧ ty = true ∧ kd = 3) ∨
  (nm = false ∧ cl = false ∧ ba = true ∧ ke = true ∧ ty = true ∧ kd = 1) ∨ (nm = false ∧ cl = false ∧ ba = false ∧ ke = false ∧ ty = true ∧ kd = 2) ∨
  (nm = false ∧ cl = false ∧ ba = false ∧ ke = true ∧ ty = false ∧ kd = 0) ∨ (nm = false ∧ cl = false ∧ ba = false ∧ ke = false ∧ ty = false ∧ kd = 0)

theorem sort5 (s : ByteArray) : Sort5 (Wrd.name s) (Wrd.cls s) (Wrd.base s) (Wrd.key s) (Wrd.typ s) (Wrd.kind s) := by
  unfold Sort5
  by_cases hq : s = ⟨#[63]⟩
  · subst hq
    decide +kernel
  have hty : Wrd.typ s = decide (Wrd.kind s ≠ 0) := rfl
  cases hb : Wrd.base s
  · have hkd : Wrd.kind s = if Wrd.cls s then 3 else 0 := by unfold Wrd.kind; rw [if_neg (by rw [hb]; decide), if_neg hq]
    cases hc : Wrd.cls s
    · rw [hc, if_neg (by decide)] at hkd
      cases hn : Wrd.name s
      · cases hk : Wrd.key s <;> simp [hty, hkd]
      · have hk : Wrd.key s = false := by
          cases hk : Wrd.key s
          · rfl
          · have := (key_small hk).1; rw [hn] at this; cases this
        simp [hty, hkd, hk]
    · rw [hc, if_pos rfl] at hkd
      have hk : Wrd.key s = false := by
        cases hk : Wrd.key s
        · rfl
        · have := (key_small hk).2; rw [hc] at this; cases this
      have hn : Wrd.name s = false := by
        cases hn : Wrd.name s
        · rfl
        · have := name_cls s hn; rw [hc] at this; cases this
      simp [hty, hkd, hk, hn]
  · have hkd : Wrd.kind s = 1 := by unfold Wrd.kind; rw [if_pos hb]
    have hk := base_key hb
    have := key_small hk
    simp [hty, hkd, hk, this]

theorem name_size {s : ByteArray} (h : Wrd.name s = true) : 1 ≤ s.size ∧ s.size ≤ 20 ∧ Wrd.spelt s 0 = true := by
  unfold Wrd.name at h
  rw [Bool.and_eq_true] at h
  have h1 := h.1
  refine ⟨?_, ?_, h1⟩
  · by_cases k : 1 ≤ s.size
    · exact k
    · rw [Wrd.spelt_len (.inl (by omega))] at h1; cases h1
  · by_cases k : s.size ≤ 20
    · exact k
    · rw [Wrd.spelt_len (.inr (by omega))] at h1; cases h1
theorem cls_size {s : ByteArray} (h : Wrd.cls s = true) : 1 ≤ s.size ∧ s.size ≤ 20 := by
  unfold Wrd.cls at h
  refine ⟨?_, ?_⟩
  · by_cases k : 1 ≤ s.size
    · exact k
    · rw [Wrd.spelt_len (.inl (by omega))] at h; cases h
  · by_cases k : s.size ≤ 20
    · exact k
    · rw [Wrd.spelt_len (.inr (by omega))] at h; cases h

/-- A text's spelling, by its bytes. -/
theorem spelt_list {s : ByteArray} {f : Nat} : Wrd.spelt s f = (decide (1 ≤ s.data.toList.length) && decide (s.data.toList.length ≤ 20) && s.data.toList.all (fun c => Wrd.kd c != 3) && (Wrd.kd (s.data.toList.headD 0) == f)) := by
  have e : s.data.toList.length = s.size := by rw [Array.length_toList]; rfl
  rw [e]; rfl

theorem more_data (s : ByteArray) (c : UInt8) : (s ++ ⟨#[c]⟩).data.toList = s.data.toList ++ [c] := by
  rw [ByteArray.data_append]; simp
theorem more_size (s : ByteArray) (c : UInt8) : (s ++ ⟨#[c]⟩).size = s.size + 1 := by
  have e1 : (s ++ ⟨#[c]⟩).data.toList.length = (s ++ ⟨#[c]⟩).size := by rw [Array.length_toList]; rfl
  have e2 : s.data.toList.length = s.size := by rw [Array.length_toList]; rfl
  rw [← e1, more_data, List.length_append, e2]; rfl

theorem spelt_more {s : ByteArray} {f : Nat} {c : UInt8} (h : Wrd.spelt s f = true) (hc : Wrd.kd c = 0) : Wrd.spelt (s ++ ⟨#[c]⟩) f = decide (s.size < 20) := by
  have e2 : s.data.toList.length = s.size := by rw [Array.length_toList]; rfl
  rw [spelt_list] at h ⊢
  rw [more_data]
  simp only [Bool.and_eq_true, decide_eq_true_eq] at h
  obtain ⟨⟨⟨h1, h2⟩, h3⟩, h4⟩ := h
  have hh : (s.data.toList ++ [c]).headD 0 = s.data.toList.headD 0 := by
    cases e : s.data.toList with
    | nil => rw [e] at h1; simp at h1
    | cons a r => rfl
  rw [hh, h4, List.all_append, h3, List.length_append]
  have h5 : ([c] : List UInt8).all (fun c => Wrd.kd c != 3) = true := by simp [hc]
  rw [h5]
  rw [e2] at h1 h2 ⊢
  have h6 : decide (1 ≤ s.size + [c].length) = true := decide_eq_true (by omega)
  rw [h6]
  simp only [Bool.true_and, Bool.and_true, List.length_singleton]
  exact decide_eq_decide.2 (by omega)

theorem less_data (s : ByteArray) (n : Nat) : (s.extract 0 n).data.toList = s.data.toList.take n := by
  rw [ByteArray.data_extract]; simp

theorem spelt_less {s : ByteArray} {f n : Nat} (h : Wrd.spelt s f = true) (hn : 1 ≤ n) (hs : n ≤ s.size) : Wrd.spelt (s.extract 0 n) f = true := by
  have e2 : s.data.toList.length = s.size := by rw [Array.length_toList]; rfl
  rw [spelt_list] at h ⊢
  rw [less_data]
  simp only [Bool.and_eq_true, decide_eq_true_eq] at h ⊢
  obtain ⟨⟨⟨h1, h2⟩, h3⟩, h4⟩ := h
  refine ⟨⟨⟨?_, ?_⟩, ?_⟩, ?_⟩
  · rw [List.length_take, e2]; omega
  · rw [List.length_take, e2]; omega
  · rw [List.all_eq_true] at h3 ⊢
    exact fun x hx => h3 x (List.mem_of_mem_take hx)
  · have hh : (s.data.toList.take n).headD 0 = s.data.toList.headD 0 := by
      cases e : s.data.toList with
      | nil => rw [e] at h1; simp at h1
      | cons a r =>
        obtain ⟨m, rfl⟩ : ∃ m, n = m + 1 := ⟨n - 1, by omega⟩
        rfl
    rw [hh]; exact h4

end Go.Proofs.YtijflampkdpgfaaDoor
