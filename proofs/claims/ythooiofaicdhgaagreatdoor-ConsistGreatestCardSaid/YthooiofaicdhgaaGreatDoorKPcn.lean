/- Precision in plain words: pairs of types, what a pair of classes asks, the greatest relation that bears it, and what striking out leaves. Plain: what is asked of precision: it is reflexive and goes on, who is below is as precise, and it is told by the members. -/
import Derived.Test.YthooiofaicdhgaaGreatDoorKCfn
import Derived.Test.YthooiofaicdhgaaGreatDoorKVla
set_option linter.unusedSimpArgs false
set_option linter.unusedVariables false
set_option maxRecDepth 100000
namespace Go.Proofs.YthooiofaicdhgaaGreatDoor.Tab
theorem alike_iff {α : Type} {x m : Mb α} : alike x m = true ↔ x.name = m.name ∧ x.ar = m.ar := by
 unfold alike; simp
theorem hasB_iff {α : Type} {L U : List (Mb α)} : hasB L U = true ↔ ∀ m ∈ U, ∃ x ∈ L, alike x m = true := by
 unfold hasB
 simp [List.all_eq_true, List.any_eq_true]
end Go.Proofs.YthooiofaicdhgaaGreatDoor.Tab
namespace Go.Proofs.YthooiofaicdhgaaGreatDoor.Tab
/-- A superclass' member is the class' member, with the same types. -/
theorem mbs_step {t : List C} (hv : Valid t) {i : Nat} (hi : i < t.length) {m : Mb ByteArray} (hm : m ∈ mbs t (nth t i).super) : ∃ x ∈ mbs t (nth t i).name, alike x m = true ∧ x.types = m.types := by
 have hst := (hv.step hi (hv.good_sup hi)).2
 unfold mbs at hm
 rcases List.mem_append.1 hm with hm | hm
 ·refine ⟨m, ?_, alike_iff.2 ⟨rfl, rfl⟩, rfl⟩
  unfold mbs
  rw [hv.fields_eq hi, List.map_append]
  exact List.mem_append.2 (.inl (List.mem_append.2 (.inl hm)))
 ·obtain ⟨f, hf, rfl⟩ := List.mem_map.1 hm
  obtain ⟨g, hg, hn, hs⟩ := hst f hf
  have hmem : mbM g ∈ mbs t (nth t i).name := List.mem_append.2 (.inr (List.mem_map.2 ⟨g, hg, rfl⟩))
  rcases hs with rfl | hs
  ·exact ⟨_, hmem, alike_iff.2 ⟨rfl, rfl⟩, rfl⟩
  ·unfold sameSig at hs
   rw [Bool.and_eq_true] at hs
   obtain ⟨hr, ht⟩ := hs
   have hr := of_decide_eq_true hr
   have hl := sameTys_length ht
   have hp : g.params.map (·.typ) = f.params.map (·.typ) := by
    unfold sameTys at ht
    rw [Bool.and_eq_true, List.all_eq_true] at ht
    refine List.ext_getElem (by simp [hl]) fun k h1 h2 => ?_
    have hk1 : k < g.params.length := by simpa using h1
    have hk2 : k < f.params.length := by simpa using h2
    have := ht.2 (f.params[k], g.params[k]) (by
     rw [List.mem_iff_getElem?]
     exact ⟨k, by rw [List.getElem?_zip_eq_some]; exact ⟨List.getElem?_eq_getElem hk2, List.getElem?_eq_getElem hk1⟩⟩)
    simp only [List.getElem_map]
    exact (of_decide_eq_true this).symm
   refine ⟨_, hmem, alike_iff.2 ⟨hn, ?_⟩, ?_⟩
   ·show (g.params.length : Int) = f.params.length
    rw [hl]
   ·show g.params.map (·.typ) ++ [g.res] = f.params.map (·.typ) ++ [f.res]
    rw [hp, hr]
theorem mbs_up {t : List C} (hv : Valid t) {u : ByteArray} : ∀ i, i < t.length → u ∈ up t (nth t i).name → ∀ m ∈ mbs t u, ∃ x ∈ mbs t (nth t i).name, alike x m = true ∧ x.types = m.types := by
 refine hv.induct (P := fun i => u ∈ up t (nth t i).name → ∀ m ∈ mbs t u, ∃ x ∈ mbs t (nth t i).name, alike x m = true ∧ x.types = m.types) ?_ ?_
 ·intro i hi h hs m hm
  rw [hv.up_lone hi h] at hs
  obtain rfl := List.mem_singleton.1 hs
  exact ⟨m, hm, alike_iff.2 ⟨rfl, rfl⟩, rfl⟩
 ·intro i k hi hk h ih hs m hm
  rw [hv.up_cons hi hk h] at hs
  rcases List.mem_cons.1 hs with rfl | hs
  ·exact ⟨m, hm, alike_iff.2 ⟨rfl, rfl⟩, rfl⟩
  ·obtain ⟨x, hx, ha, ht⟩ := ih hs m hm
   rw [← h] at hx
   obtain ⟨y, hy, hya, hyt⟩ := mbs_step hv hi hx
   rw [alike_iff] at ha hya
   exact ⟨y, hy, alike_iff.2 ⟨hya.1.trans ha.1, hya.2.trans ha.2⟩, hyt.trans ht⟩
theorem kind_typ {t : List C} {s : ByteArray} (h : chkType t s = 0) : isT t s = true := by
 unfold chkType at h
 unfold isT isC
 by_cases h0 : Wrd.kind s = 0
 ·rw [if_pos h0] at h; cases h
 ·rw [if_neg h0] at h
  unfold Wrd.kind at h0 h
  by_cases hb : Wrd.base s = true
  ·have : s ∈ basics := by
    unfold Wrd.base Wrd.has Wrd.bs at hb
    simp at hb
    unfold basics
    simp
    rcases hb with e | e | e | e | e <;> subst e <;> simp
   rw [decide_eq_true this]; rfl
  ·rw [if_neg hb] at h0 h
   by_cases hd : s = ⟨#[63]⟩
   ·have : s ∈ basics := by unfold basics; simp [hd]
    rw [decide_eq_true this]; rfl
   ·rw [if_neg hd] at h0 h
    by_cases hc : Wrd.cls s = true
    ·rw [if_pos hc, if_pos rfl] at h
     by_cases hi : (ix C.name t s).isSome = true
     ·rw [hi]; simp
     ·rw [if_neg hi] at h; cases h
    ·rw [if_neg hc] at h0; exact absurd rfl h0
theorem var_typ {t : List C} {x : V} (h : chkVar t x = 0) : isT t x.typ = true := by
 unfold chkVar at h
 split at h
 ·exact kind_typ h
 ·cases h
theorem ps_typ {t : List C} : ∀ (l pre : List V), chkPs t pre l = 0 → ∀ x ∈ l, isT t x.typ = true
 | [], _, _, x, hx => by cases hx
 | p :: r, pre, h, x, hx => by
  unfold chkPs at h
  by_cases h1 : chkVar t p = 0
  ·rw [if_pos h1] at h
   by_cases h2 : (ix V.name pre p.name).isSome = true
   ·rw [if_pos h2] at h; cases h
   ·rw [if_neg h2] at h
    rcases List.mem_cons.1 hx with rfl | hx
    ·exact var_typ h1
    ·exact ps_typ r _ h x hx
  ·rw [if_neg h1] at h; exact absurd h h1
theorem sig_typ {t : List C} {m : M} (h : chkSig t m = 0) : (∀ p ∈ m.params, isT t p.typ = true) ∧ isT t m.res = true := by
 unfold chkSig at h
 by_cases h1 : Wrd.name m.name = true
 ·rw [if_pos h1] at h
  by_cases h2 : chkPs t [] m.params = 0
  ·rw [if_pos h2] at h
   exact ⟨ps_typ _ _ h2, kind_typ h⟩
  ·rw [if_neg h2] at h; exact absurd h h2
 ·rw [if_neg h1] at h; cases h
theorem fs_typ {t : List C} : ∀ (l : List V) (h h' : Held), chkFs t h l = (0, h') → ∀ f ∈ l, isT t f.typ = true
 | [], _, _, _, f, hf => by cases hf
 | x :: r, h, h', e, f, hf => by
  unfold chkFs at e
  by_cases h1 : chkVar t x = 0
  ·rw [if_pos h1] at e
   by_cases h2 : (h x.name).isSome = true
   ·rw [if_pos h2] at e; injection e with e _; cases e
   ·rw [if_neg h2] at e
    rcases List.mem_cons.1 hf with rfl | hf
    ·exact var_typ h1
    ·exact fs_typ r _ _ e f hf
  ·rw [if_neg h1] at e; injection e with e _; exact absurd e h1
theorem ms_typ {t : List C} : ∀ (l : List M) (h : Held), chkMs t h l = 0 → ∀ m ∈ l, (∀ p ∈ m.params, isT t p.typ = true) ∧ isT t m.res = true
 | [], _, _, m, hm => by cases hm
 | x :: r, h, e, m, hm => by
  unfold chkMs at e
  by_cases h1 : chkSig t x = 0
  ·rw [if_pos h1] at e
   by_cases h2 : chkM1 h x = 0
   ·rw [if_pos h2] at e
    rcases List.mem_cons.1 hm with rfl | hm
    ·exact sig_typ h1
    ·exact ms_typ r _ e m hm
   ·rw [if_neg h2] at e; exact absurd e h2
  ·rw [if_neg h1] at e; exact absurd e h1
theorem field_typ {t : List C} (hv : Valid t) {c : ByteArray} {f : V} (hf : f ∈ fields t c) : isT t f.typ = true := by
 unfold fields at hf
 obtain ⟨i, hi, hf⟩ := List.mem_flatMap.1 hf
 have hi := line_lt (List.mem_reverse.1 hi)
 obtain ⟨h1, e1, _⟩ := hv.mem hi
 exact fs_typ _ _ _ e1 f hf
theorem foldA_mem {x : M} : ∀ (ms l : List M), x ∈ ms.foldl addM l → x ∈ ms ∨ x ∈ l
 | [], l, h => .inr h
 | m :: r, l, h => by
  rcases foldA_mem r _ h with h | h
  ·exact .inl (List.mem_cons_of_mem _ h)
  ·unfold addM at h
   split at h
   ·rcases List.mem_or_eq_of_mem_set h with h | h
    ·exact .inr h
    ·exact .inl (h ▸ List.mem_cons_self ..)
   ·rcases List.mem_append.1 h with h | h
    ·exact .inr h
    ·simp at h; exact .inl (h ▸ List.mem_cons_self ..)
theorem meth_typ {t : List C} (hv : Valid t) {c : ByteArray} {m : M} (hm : m ∈ methods t c) : (∀ p ∈ m.params, isT t p.typ = true) ∧ isT t m.res = true := by
 unfold methods at hm
 rcases foldA_mem _ _ hm with hm | hm
 ·obtain ⟨i, hi, hm⟩ := List.mem_flatMap.1 hm
  have hi := line_lt (List.mem_reverse.1 hi)
  obtain ⟨h1, _, e2⟩ := hv.mem hi
  exact ms_typ _ _ e2 m hm
 ·cases hm
end Go.Proofs.YthooiofaicdhgaaGreatDoor.Tab
