/- checkKids: what is wrong with the number or the kinds of a node's kids. -/
import Derived.Test.YtgdmcdjkmgpkpaaDoorNda
import Derived.Deep.RegionHeld3
set_option linter.unusedSimpArgs false
set_option linter.unusedVariables false
set_option maxRecDepth 100000
namespace Go.Proofs.YtgdmcdjkmgpkpaaDoor
open Go.ChangeShapes Go.WideShapes Go.ChangeAt Go.RowKit

/-- How far kids of one part may go; how many there are; what comes of it; of all parts. -/
def kTo (n : Nat) (p : Pt) (f : Nat) : Nat := if p.more = 0 then min n (f + p.cnt.toNat) else n
def kSize (l : List Nd) (p : Pt) (f : Nat) : Nat := Nd.lead p.kinds ((l.drop f).take (kTo l.length p f - f))
def kStep (l : List Nd) (p : Pt) (st : Int × Nat) : Option (Int × Nat) := if (kSize l p st.2 : Int) < p.cnt then none else some (if p.cnt + p.more < (kSize l p st.2 : Int) then 12 else st.1, st.2 + kSize l p st.2)
def kRun (l : List Nd) : List Pt → Int × Nat → Option (Int × Nat)
  | [], st => some st
  | p :: r, st => match kStep l p st with
    | none => none
    | some s => kRun l r s
def kEnd (l : List Nd) : Option (Int × Nat) → Int
  | none => 5
  | some (e, f) => if f < l.length then 5 else e
def kidsE (l : List Nd) (ps : List Pt) : Int := kEnd l (kRun l ps (0, 0))
theorem kTo_le {n : Nat} {p : Pt} {f : Nat} (hf : f ≤ n) : f ≤ kTo n p f ∧ kTo n p f ≤ n := by unfold kTo; split <;> omega
theorem kSize_le {l : List Nd} {p : Pt} {f : Nat} (hf : f ≤ l.length) : f + kSize l p f ≤ l.length := by
  have h1 := Nd.lead_le p.kinds ((l.drop f).take (kTo l.length p f - f))
  have h2 := kTo_le (p := p) hf
  rw [List.length_take, List.length_drop] at h1
  unfold kSize; omega
/-- The parts are none that no table has. -/
def partsOk (ps : List Pt) : Prop := ∀ p ∈ ps, 0 ≤ p.cnt ∧ p.cnt ≤ 10000 ∧ 0 ≤ p.more ∧ p.more ≤ 10000

/-- Kids from f to t, as a slice of them. -/
theorem kids_cut {D : Nat → Prop} {w : World} {b o c f t : Nat} {l : List Nd} (h : KidsD D w (.slice (some ⟨b, o, none⟩) l.length c) l) (hft : f ≤ t) (ht : t ≤ l.length) :
    KidsD D w (.slice (some ⟨b, o + f * 6, none⟩) ((l.drop f).take (t - f)).length (t - f)) ((l.drop f).take (t - f)) := by
  obtain ⟨_, _, e, hl, hm, hs⟩ := h
  injection e with e1 e2 e3
  subst e1 e3
  refine ⟨_, t - f, rfl, by simp; omega, by omega, fun i x hx => ⟨b, o + f * 6, rfl, ?_⟩⟩
  have hi : i < t - f := by have := (List.getElem?_eq_some_iff.1 hx).1; simp at this; omega
  rw [List.getElem?_take_of_lt hi, List.getElem?_drop] at hx
  obtain ⟨b2, o2, e2, h2⟩ := hs (f + i) x hx
  injection e2 with e2
  injection e2 with e3 e4
  subst e3 e4
  rw [show o + f * 6 + i * 6 = o + (f + i) * 6 by omega]
  exact h2
theorem kids_none {D : Nat → Prop} {w : World} {a : Option Addr} : KidsD D w (.slice a ([] : List Nd).length 0) [] := ⟨a, 0, rfl, Nat.le_refl _, Nat.zero_le _, fun i x h => by simp at h⟩
theorem kids_len {D : Nat → Prop} {w : World} {n c : Nat} {l : List Nd} (h : KidsD D w (.slice none n c) l) : l = [] := by
  obtain ⟨_, _, e, hl, hm, hs⟩ := h
  injection e with e1 e2 e3
  cases l with
  | nil => rfl
  | cons x r => obtain ⟨b, o, e4, _⟩ := hs 0 x rfl; rw [← e1] at e4; cases e4

set_option maxHeartbeats 16000000 in
theorem kids_c (a : Option Addr) (c : Nat) (l : List Nd) (pa : Option Addr) (pc : Nat) (ps : List Pt) (w : World) (h : KidsAt w (.slice a l.length c) l) (hp : PartsR w (.slice pa ps.length pc) ps) (hok : partsOk ps) (hll : l.length ≤ 1000000000000) :
    Calls Tryd.prog 43 #[.slice a l.length c, .slice pa ps.length pc] w fun e w' => e = .returned (.int .i64 (kidsE l ps)) ∧ Kept w w' := by
  have hcap : l.length ≤ maxLen := Row.len h
  have hpl : ps.length ≤ maxLen := Row.len hp
  have hlc : l.length ≤ c ∧ c ≤ maxLen := by obtain ⟨_, _, e, h1, h2, _⟩ := h; injection e with _ _ e3; rw [e3]; exact ⟨h1, h2⟩
  have HL := Lib.hid h
  obtain ⟨_, _, e0, _, _, hat⟩ := hp
  injection e0 with e1 e2 e3
  subst e1 e3
  clear e2
  have HAT := Lib.hid hat
  have HOK := Lib.hid hok
  have HLC := Lib.hid hlc
  clear hat hok h hlc
  unfold maxLen at hcap hpl
  go_enter Tryd.func43, Tryd.ntmps43
  go_wp2_with fail
  go_loopw [5, 6, 13] (fun x5 x6 i wr => ∃ (k f : Nat) (er : Int), i = .int .i64 k ∧ k ≤ ps.length ∧ x6 = .int .i64 f ∧ f ≤ l.length ∧ x5 = .int .i64 er ∧ Hid (kRun l ps (0, 0) = kRun l (ps.drop k) (er, f)) ∧ Kept w wr) (fun x5 x6 i wr => ps.length - (intOf i).toNat)
  case atStart => exact ⟨0, 0, 0, rfl, Nat.zero_le _, rfl, Nat.zero_le _, rfl, Lib.hid (by rw [List.drop_zero]), Kept.refl _⟩
  case round =>
    obtain ⟨k, f, er, rfl, hk, rfl, hf, rfl, HR, hkp⟩ := hrel
    have HK := Lib.hid hkp
    by_cases hlt : k < ps.length
    · have hltI : (k : Int) < (ps.length : Int) := by omega
      have hx : ps[k]? = some ps[k] := List.getElem?_eq_getElem hlt
      have hdr : ps.drop k = ps[k] :: ps.drop (k + 1) := List.drop_eq_getElem_cons hlt
      generalize ps[k] = p at hx hdr
      obtain ⟨pb, po, rfl, hpt⟩ := HAT.out k p hx
      obtain ⟨q1, q2, q3, q4⟩ := HOK.out p (List.mem_of_getElem? hx)
      obtain ⟨ks, d0, d1, d2, hki⟩ := hpt.kept hkp
      obtain ⟨ka, kc, rfl, _⟩ := id hki
      have HST := Lib.hid (show kRun l ps (0, 0) = match kStep l p (er, f) with | none => none | some s => kRun l (ps.drop (k + 1)) s by rw [HR.out, hdr]; rfl)
      obtain ⟨t, ht⟩ : ∃ t, kTo l.length p f = t := ⟨_, rfl⟩
      obtain ⟨z, hz⟩ : ∃ z, kSize l p f = z := ⟨_, rfl⟩
      obtain ⟨t1, t2⟩ := kTo_le (p := p) hf
      have hzl := kSize_le (p := p) hf
      rw [ht] at t1 t2
      rw [hz] at hzl
      have hzt : Nd.lead p.kinds ((l.drop f).take (t - f)) = z := by rw [← ht, ← hz]; rfl
      have htm : p.more = 0 → ((f : Int) + p.cnt < (l.length : Int) → (f : Int) + p.cnt = (t : Int)) ∧ (¬ (f : Int) + p.cnt < (l.length : Int) → t = l.length) := fun hm => by
        have h1 := ht
        unfold kTo at h1
        rw [if_pos hm] at h1
        constructor <;> intro h2 <;> omega
      have htn : p.more ≠ 0 → t = l.length := fun hm => by rw [← ht]; unfold kTo; rw [if_neg hm]
      have HS1 := Lib.hid (fun (h : (z : Int) < p.cnt) => show kidsE l ps = 5 by unfold kidsE; rw [HST.out, show kStep l p (er, f) = none by unfold kStep; rw [if_pos (by rw [show ((er, f) : Int × Nat).2 = f from rfl, hz]; exact h)]]; rfl)
      have HS2 := Lib.hid (fun (h : p.cnt ≤ (z : Int)) => show kRun l ps (0, 0) = kRun l (ps.drop (k + 1)) (if p.cnt + p.more < (z : Int) then 12 else er, f + z) by
        rw [HST.out, show kStep l p (er, f) = some (if p.cnt + p.more < (z : Int) then 12 else er, f + z) by unfold kStep; rw [show ((er, f) : Int × Nat).2 = f from rfl, hz, if_neg (by omega)]])
      obtain ⟨n, hn⟩ : ∃ n, l.length = n := ⟨_, rfl⟩
      have HN := Lib.hid hn
      have HLK := Lib.hid (KidsD.kept HL.out hkp)
      have HC := HLC.out
      rw [hn] at hll hcap hf t2 hzl htm htn HC HLK ⊢
      obtain ⟨W2, hW2⟩ : ∃ W2, wr.alloc (.cells #[.slice ka p.kinds.length kc, .int .i64 p.cnt, .int .i64 p.more] 74) = W2 := ⟨_, rfl⟩
      have k2 : Kept wr W2 := by rw [← hW2]; exact (Kept.refl wr).alloc _
      have b2 : Blk W2 wr.heap.size 74 #[.slice ka p.kinds.length kc, .int .i64 p.cnt, .int .i64 p.more] := by rw [← hW2]; exact Blk.new wr _ _
      have HB2 := Lib.hid b2
      have HK2 := Lib.hid (hkp.trans k2)
      have HKI := Lib.hid (IntsR.kept hki k2)
      have HLK2 := Lib.hid (KidsD.kept HLK.out k2)
      have HW2 := Lib.hid hW2
      have HZ := Lib.hid hzt
      obtain ⟨e0, e1, e2⟩ : W2.cell? ⟨wr.heap.size, 0, none⟩ = some (.slice ka p.kinds.length kc) ∧ W2.cell? ⟨wr.heap.size, 1, none⟩ = some (.int .i64 p.cnt) ∧ W2.cell? ⟨wr.heap.size, 2, none⟩ = some (.int .i64 p.more) := ⟨b2.cell 0, b2.cell 1, b2.cell 2⟩
      clear hW2 k2 b2 hki hpt hzt ht hz hn hx hdr hkp HST HR
      generalize p.cnt = cn at *
      generalize p.more = mo at *
      generalize p.kinds = kk at *
      have tc : (t : Int) ≤ (c : Int) := by have := HC.1; omega
      have ftI : (f : Int) ≤ (t : Int) := by omega
      by_cases hm : mo = 0
      · have hmb : (mo == 0) = true := by simp [hm]
        obtain ⟨hy, hno⟩ := htm hm
        clear htm htn hm
        by_cases hmn : (f : Int) + cn < (n : Int)
        · have heq := hy hmn
          have htnI : (t : Int) < (n : Int) := by omega
          clear hy hno hmn
          by_cases hft : f = t
          · have hz1 : z = 0 := by rw [← HZ.out, hft]; simp [Nd.lead]
            have HLD := Lib.hid (fun W (k : Kept W2 W) => show Calls Tryd.prog 47 #[.slice a 0 0, .slice ka kk.length kc] W (fun e w' => e = .returned (.int .i64 (z : Int)) ∧ w' = W) from by rw [hz1]; exact leading_c a 0 [] ka kc kk W kids_none (IntsR.kept HKI.out k))
            have HZ1 := Lib.hid hz1
            clear hz1
            have hftI : ¬ (f : Int) < (t : Int) := by omega
            have hsub : t - f = 0 := by omega
            subst hft
            clear hsub hftI
            go_wp2_with (rw [HW2.out])
            refine wp_region_held_drew (S := (fun W => W.cell? ⟨wr.heap.size, 0, none⟩ = some (.slice ka kk.length kc) ∧ W.cell? ⟨wr.heap.size, 1, none⟩ = some (.int .i64 cn) ∧ W.cell? ⟨wr.heap.size, 2, none⟩ = some (.int .i64 mo) ∧ Kept W2 W)) (by kernel_rfl) ⟨(Kept.refl W2).drew.cell e0, (Kept.refl W2).drew.cell e1, (Kept.refl W2).drew.cell e2, (Kept.refl W2).drew⟩ (fun hHeld0 => ?_)
            refine wpAnyH_take (i := 0) (v := ?_) rfl (by kernel_rfl) (by kernel_rfl) (by kernel_rfl) (fun _ _ _ h => h) (Or.inl ⟨by kernel_rfl, ?_⟩) (by assumption) ?_
            rotate_left
            · intro w hSw; (try dsimp only at hSw); go_simp; (try with_reducible rfl)
            (try simp only [Act.put, List.getElem_toArray, List.getElem_cons_zero, List.getElem_cons_succ, List.setIfInBounds_toArray, List.set_cons_zero, List.set_cons_succ])
            refine wpAnyH_take (i := 1) (v := ?_) rfl (by kernel_rfl) (by kernel_rfl) (by kernel_rfl) (fun _ _ _ h => h) (Or.inl ⟨by kernel_rfl, ?_⟩) (by assumption) ?_
            rotate_left
            · intro w hSw; (try dsimp only at hSw); go_simp; (try with_reducible rfl)
            (try simp only [Act.put, List.getElem_toArray, List.getElem_cons_zero, List.getElem_cons_succ, List.setIfInBounds_toArray, List.set_cons_zero, List.set_cons_succ])
            refine wpAnyH_take (i := 2) (v := ?_) rfl (by kernel_rfl) (by kernel_rfl) (by kernel_rfl) (fun _ _ _ h => h) (Or.inl ⟨by kernel_rfl, ?_⟩) (by assumption) ?_
            rotate_left
            · intro w hSw; (try dsimp only at hSw); go_simp; (try with_reducible rfl)
            (try simp only [Act.put, List.getElem_toArray, List.getElem_cons_zero, List.getElem_cons_succ, List.setIfInBounds_toArray, List.set_cons_zero, List.set_cons_succ])
            refine wpAnyH_take (i := 3) (v := ?_) rfl (by kernel_rfl) (by kernel_rfl) (by kernel_rfl) (fun _ _ _ h => h) (Or.inl ⟨by kernel_rfl, ?_⟩) (by assumption) ?_
            rotate_left
            · intro w hSw; (try dsimp only at hSw); go_simp; (try with_reducible rfl)
            (try simp only [Act.put, List.getElem_toArray, List.getElem_cons_zero, List.getElem_cons_succ, List.setIfInBounds_toArray, List.set_cons_zero, List.set_cons_succ])
            refine wpAnyH_take (i := 4) (v := ?_) rfl (by kernel_rfl) (by kernel_rfl) (by kernel_rfl) (fun _ _ _ h => h) (Or.inl ⟨by kernel_rfl, ?_⟩) (by assumption) ?_
            rotate_left
            · intro w hSw; (try dsimp only at hSw); go_simp; (try with_reducible rfl)
            (try simp only [Act.put, List.getElem_toArray, List.getElem_cons_zero, List.getElem_cons_succ, List.setIfInBounds_toArray, List.set_cons_zero, List.set_cons_succ])
            refine wpAnyH_take (i := 5) (v := ?_) rfl (by kernel_rfl) (by kernel_rfl) (by kernel_rfl) (fun _ _ _ h => h) (Or.inl ⟨by kernel_rfl, ?_⟩) (by assumption) ?_
            rotate_left
            · intro w hSw; (try dsimp only at hSw); go_simp; (try with_reducible rfl)
            (try simp only [Act.put, List.getElem_toArray, List.getElem_cons_zero, List.getElem_cons_succ, List.setIfInBounds_toArray, List.set_cons_zero, List.set_cons_succ])
            refine wpAnyH_take (i := 6) (v := ?_) rfl (by kernel_rfl) (by kernel_rfl) (by kernel_rfl) (fun _ _ _ h => h) (Or.inl ⟨by kernel_rfl, ?_⟩) (by assumption) ?_
            rotate_left
            · intro w hSw; (try dsimp only at hSw); go_simp; (try with_reducible rfl)
            (try simp only [Act.put, List.getElem_toArray, List.getElem_cons_zero, List.getElem_cons_succ, List.setIfInBounds_toArray, List.set_cons_zero, List.set_cons_succ])
            refine wpAnyH_ready (rs := [7]) (by kernel_rfl) (by simp) ?_
            refine AllReadyH.cons rfl (fun K hK => ?_) AllReadyH.nil
            go_simp
            go_at_call 47
            refine (HLD.out _ (Kept.refl W2).drew).mono ?_
            rintro e w3 ⟨rfl, rfl⟩
            refine hK.out _ _ hHeld0 (fun hHeld1 => ?_)
            clear hK K
            (try simp only [Act.put, List.getElem_toArray, List.getElem_cons_zero, List.getElem_cons_succ, List.setIfInBounds_toArray, List.set_cons_zero, List.set_cons_succ])
            clear hHeld0
            refine wpAnyH_take (i := 8) (v := ?_) rfl (by kernel_rfl) (by kernel_rfl) (by kernel_rfl) (fun _ _ _ h => h) (Or.inl ⟨by kernel_rfl, ?_⟩) (by assumption) ?_
            rotate_left
            · intro w hSw; (try dsimp only at hSw); go_simp; (try with_reducible rfl)
            (try simp only [Act.put, List.getElem_toArray, List.getElem_cons_zero, List.getElem_cons_succ, List.setIfInBounds_toArray, List.set_cons_zero, List.set_cons_succ])
            refine wpAnyH_done (by kernel_rfl) ?_ _
            clear hHeld1
            have e0 := (Kept.refl W2).drew.cell e0
            have e1 := (Kept.refl W2).drew.cell e1
            have e2 := (Kept.refl W2).drew.cell e2
            by_cases hs : (z : Int) < cn
            · first | (exfalso; omega) | (have HV := Lib.hid (HS1.out hs); go_wp2_with fail; go_ret; exact ⟨by rw [HV.out]; rfl, HK2.out.drew⟩)
            · have HV := Lib.hid (HS2.out (by omega))
              have hb : ¬ cn + mo < (z : Int) := by have := HZ1.out; omega
              rw [if_neg hb] at HV
              have hbb : decide (cn + mo < (z : Int)) = false := decide_eq_false hb
              go_wp2_with fail
              go_roundw
              case rel => exact ⟨k + 1, f + z, er, by go_num, by omega, by go_num, by omega, rfl, HV, HK2.out.drew⟩
              case measure => simp [intOf]; omega
          · obtain ⟨b, o, rfl⟩ : ∃ b o, a = some ⟨b, o, none⟩ := by
              cases a with
              | none =>
                exfalso
                have h0 : l.length = 0 := by rw [kids_len (l := l) HLK.out]; rfl
                have := HN.out
                omega
              | some ad =>
                cases hl0 : l with
                | nil => exfalso; have h0 : l.length = 0 := by { rw [hl0]; rfl }; have := HN.out; omega
                | cons y ys => obtain ⟨b, o, e, _⟩ := KidsD.head (x := y) (r := ys) (by rw [← hl0]; exact HLK.out); exact ⟨b, o, e⟩
            have hcut := kids_cut (f := f) (t := t) (by rw [HN.out]; exact HLK2.out) (by omega) (by rw [HN.out]; omega)
            have hcl : ((l.drop f).take (t - f)).length = t - f := by rw [List.length_take, List.length_drop, HN.out]; omega
            have HLD := Lib.hid (fun W (k : Kept W2 W) => show Calls Tryd.prog 47 #[.slice (some ⟨b, o + f * 6, none⟩) (t - f) (t - f), .slice ka kk.length kc] W (fun e w' => e = .returned (.int .i64 (z : Int)) ∧ w' = W) from by
              have := leading_c (some ⟨b, o + f * 6, none⟩) (t - f) _ ka kc kk W (KidsD.kept hcut k) (IntsR.kept HKI.out k)
              rw [hcl, HZ.out] at this; exact this)
            have htf : ¬ t = f := fun e => hft e.symm
            clear hcut hcl hft
            go_wp2_with (rw [HW2.out])
            refine wp_region_held_drew (S := (fun W => W.cell? ⟨wr.heap.size, 0, none⟩ = some (.slice ka kk.length kc) ∧ W.cell? ⟨wr.heap.size, 1, none⟩ = some (.int .i64 cn) ∧ W.cell? ⟨wr.heap.size, 2, none⟩ = some (.int .i64 mo) ∧ Kept W2 W)) (by kernel_rfl) ⟨(Kept.refl W2).drew.cell e0, (Kept.refl W2).drew.cell e1, (Kept.refl W2).drew.cell e2, (Kept.refl W2).drew⟩ (fun hHeld0 => ?_)
            refine wpAnyH_take (i := 0) (v := ?_) rfl (by kernel_rfl) (by kernel_rfl) (by kernel_rfl) (fun _ _ _ h => h) (Or.inl ⟨by kernel_rfl, ?_⟩) (by assumption) ?_
            rotate_left
            · intro w hSw; (try dsimp only at hSw); go_simp; (try with_reducible rfl)
            (try simp only [Act.put, List.getElem_toArray, List.getElem_cons_zero, List.getElem_cons_succ, List.setIfInBounds_toArray, List.set_cons_zero, List.set_cons_succ])
            refine wpAnyH_take (i := 1) (v := ?_) rfl (by kernel_rfl) (by kernel_rfl) (by kernel_rfl) (fun _ _ _ h => h) (Or.inl ⟨by kernel_rfl, ?_⟩) (by assumption) ?_
            rotate_left
            · intro w hSw; (try dsimp only at hSw); go_simp; (try with_reducible rfl)
            (try simp only [Act.put, List.getElem_toArray, List.getElem_cons_zero, List.getElem_cons_succ, List.setIfInBounds_toArray, List.set_cons_zero, List.set_cons_succ])
            refine wpAnyH_take (i := 2) (v := ?_) rfl (by kernel_rfl) (by kernel_rfl) (by kernel_rfl) (fun _ _ _ h => h) (Or.inl ⟨by kernel_rfl, ?_⟩) (by assumption) ?_
            rotate_left
            · intro w hSw; (try dsimp only at hSw); go_simp; (try with_reducible rfl)
            (try simp only [Act.put, List.getElem_toArray, List.getElem_cons_zero, List.getElem_cons_succ, List.setIfInBounds_toArray, List.set_cons_zero, List.set_cons_succ])
            refine wpAnyH_take (i := 3) (v := ?_) rfl (by kernel_rfl) (by kernel_rfl) (by kernel_rfl) (fun _ _ _ h => h) (Or.inl ⟨by kernel_rfl, ?_⟩) (by assumption) ?_
            rotate_left
            · intro w hSw; (try dsimp only at hSw); go_simp; (try with_reducible rfl)
            (try simp only [Act.put, List.getElem_toArray, List.getElem_cons_zero, List.getElem_cons_succ, List.setIfInBounds_toArray, List.set_cons_zero, List.set_cons_succ])
            refine wpAnyH_take (i := 4) (v := ?_) rfl (by kernel_rfl) (by kernel_rfl) (by kernel_rfl) (fun _ _ _ h => h) (Or.inl ⟨by kernel_rfl, ?_⟩) (by assumption) ?_
            rotate_left
            · intro w hSw; (try dsimp only at hSw); go_simp; (try with_reducible rfl)
            (try simp only [Act.put, List.getElem_toArray, List.getElem_cons_zero, List.getElem_cons_succ, List.setIfInBounds_toArray, List.set_cons_zero, List.set_cons_succ])
            refine wpAnyH_take (i := 5) (v := ?_) rfl (by kernel_rfl) (by kernel_rfl) (by kernel_rfl) (fun _ _ _ h => h) (Or.inl ⟨by kernel_rfl, ?_⟩) (by assumption) ?_
            rotate_left
            · intro w hSw; (try dsimp only at hSw); go_simp; (try with_reducible rfl)
            (try simp only [Act.put, List.getElem_toArray, List.getElem_cons_zero, List.getElem_cons_succ, List.setIfInBounds_toArray, List.set_cons_zero, List.set_cons_succ])
            refine wpAnyH_take (i := 6) (v := ?_) rfl (by kernel_rfl) (by kernel_rfl) (by kernel_rfl) (fun _ _ _ h => h) (Or.inl ⟨by kernel_rfl, ?_⟩) (by assumption) ?_
            rotate_left
            · intro w hSw; (try dsimp only at hSw); go_simp; (try with_reducible rfl)
            (try simp only [Act.put, List.getElem_toArray, List.getElem_cons_zero, List.getElem_cons_succ, List.setIfInBounds_toArray, List.set_cons_zero, List.set_cons_succ])
            refine wpAnyH_ready (rs := [7]) (by kernel_rfl) (by simp) ?_
            refine AllReadyH.cons rfl (fun K hK => ?_) AllReadyH.nil
            go_simp
            go_at_call 47
            refine (HLD.out _ (Kept.refl W2).drew).mono ?_
            rintro e w3 ⟨rfl, rfl⟩
            refine hK.out _ _ hHeld0 (fun hHeld1 => ?_)
            clear hK K
            (try simp only [Act.put, List.getElem_toArray, List.getElem_cons_zero, List.getElem_cons_succ, List.setIfInBounds_toArray, List.set_cons_zero, List.set_cons_succ])
            clear hHeld0
            refine wpAnyH_take (i := 8) (v := ?_) rfl (by kernel_rfl) (by kernel_rfl) (by kernel_rfl) (fun _ _ _ h => h) (Or.inl ⟨by kernel_rfl, ?_⟩) (by assumption) ?_
            rotate_left
            · intro w hSw; (try dsimp only at hSw); go_simp; (try with_reducible rfl)
            (try simp only [Act.put, List.getElem_toArray, List.getElem_cons_zero, List.getElem_cons_succ, List.setIfInBounds_toArray, List.set_cons_zero, List.set_cons_succ])
            refine wpAnyH_done (by kernel_rfl) ?_ _
            clear hHeld1
            have e0 := (Kept.refl W2).drew.cell e0
            have e1 := (Kept.refl W2).drew.cell e1
            have e2 := (Kept.refl W2).drew.cell e2
            by_cases hs : (z : Int) < cn
            · first | (exfalso; omega) | (have HV := Lib.hid (HS1.out hs); go_wp2_with fail; go_ret; exact ⟨by rw [HV.out]; rfl, HK2.out.drew⟩)
            · have HV := Lib.hid (HS2.out (by omega))
              by_cases hb : cn + mo < (z : Int)
              · first | (exfalso; omega) | (rw [if_pos hb] at HV; have hbb : decide (cn + mo < (z : Int)) = true := decide_eq_true hb; go_wp2_with fail; go_roundw; (case rel => exact ⟨k + 1, f + z, 12, by go_num, by omega, by go_num, by omega, rfl, HV, HK2.out.drew⟩); (case measure => simp [intOf]; omega))
              · rw [if_neg hb] at HV
                have hbb : decide (cn + mo < (z : Int)) = false := decide_eq_false hb
                go_wp2_with fail
                go_roundw
                case rel => exact ⟨k + 1, f + z, er, by go_num, by omega, by go_num, by omega, rfl, HV, HK2.out.drew⟩
                case measure => simp [intOf]; omega
        · obtain rfl := hno hmn
          clear hy hno
          by_cases hft : f = t
          · have hz1 : z = 0 := by rw [← HZ.out, hft]; simp [Nd.lead]
            have HLD := Lib.hid (fun W (k : Kept W2 W) => show Calls Tryd.prog 47 #[.slice a 0 0, .slice ka kk.length kc] W (fun e w' => e = .returned (.int .i64 (z : Int)) ∧ w' = W) from by rw [hz1]; exact leading_c a 0 [] ka kc kk W kids_none (IntsR.kept HKI.out k))
            have HZ1 := Lib.hid hz1
            clear hz1
            have hftI : ¬ (f : Int) < (t : Int) := by omega
            have hsub : t - f = 0 := by omega
            subst hft
            clear hsub hftI
            go_wp2_with (rw [HW2.out])
            refine wp_region_held_drew (S := (fun W => W.cell? ⟨wr.heap.size, 0, none⟩ = some (.slice ka kk.length kc) ∧ W.cell? ⟨wr.heap.size, 1, none⟩ = some (.int .i64 cn) ∧ W.cell? ⟨wr.heap.size, 2, none⟩ = some (.int .i64 mo) ∧ Kept W2 W)) (by kernel_rfl) ⟨(Kept.refl W2).drew.cell e0, (Kept.refl W2).drew.cell e1, (Kept.refl W2).drew.cell e2, (Kept.refl W2).drew⟩ (fun hHeld0 => ?_)
            refine wpAnyH_take (i := 0) (v := ?_) rfl (by kernel_rfl) (by kernel_rfl) (by kernel_rfl) (fun _ _ _ h => h) (Or.inl ⟨by kernel_rfl, ?_⟩) (by assumption) ?_
            rotate_left
            · intro w hSw; (try dsimp only at hSw); go_simp; (try with_reducible rfl)
            (try simp only [Act.put, List.getElem_toArray, List.getElem_cons_zero, List.getElem_cons_succ, List.setIfInBounds_toArray, List.set_cons_zero, List.set_cons_succ])
            refine wpAnyH_take (i := 1) (v := ?_) rfl (by kernel_rfl) (by kernel_rfl) (by kernel_rfl) (fun _ _ _ h => h) (Or.inl ⟨by kernel_rfl, ?_⟩) (by assumption) ?_
            rotate_left
            · intro w hSw; (try dsimp only at hSw); go_simp; (try with_reducible rfl)
            (try simp only [Act.put, List.getElem_toArray, List.getElem_cons_zero, List.getElem_cons_succ, List.setIfInBounds_toArray, List.set_cons_zero, List.set_cons_succ])
            refine wpAnyH_take (i := 2) (v := ?_) rfl (by kernel_rfl) (by kernel_rfl) (by kernel_rfl) (fun _ _ _ h => h) (Or.inl ⟨by kernel_rfl, ?_⟩) (by assumption) ?_
            rotate_left
            · intro w hSw; (try dsimp only at hSw); go_simp; (try with_reducible rfl)
            (try simp only [Act.put, List.getElem_toArray, List.getElem_cons_zero, List.getElem_cons_succ, List.setIfInBounds_toArray, List.set_cons_zero, List.set_cons_succ])
            refine wpAnyH_take (i := 3) (v := ?_) rfl (by kernel_rfl) (by kernel_rfl) (by kernel_rfl) (fun _ _ _ h => h) (Or.inl ⟨by kernel_rfl, ?_⟩) (by assumption) ?_
            rotate_left
            · intro w hSw; (try dsimp only at hSw); go_simp; (try with_reducible rfl)
            (try simp only [Act.put, List.getElem_toArray, List.getElem_cons_zero, List.getElem_cons_succ, List.setIfInBounds_toArray, List.set_cons_zero, List.set_cons_succ])
            refine wpAnyH_take (i := 4) (v := ?_) rfl (by kernel_rfl) (by kernel_rfl) (by kernel_rfl) (fun _ _ _ h => h) (Or.inl ⟨by kernel_rfl, ?_⟩) (by assumption) ?_
            rotate_left
            · intro w hSw; (try dsimp only at hSw); go_simp; (try with_reducible rfl)
            (try simp only [Act.put, List.getElem_toArray, List.getElem_cons_zero, List.getElem_cons_succ, List.setIfInBounds_toArray, List.set_cons_zero, List.set_cons_succ])
            refine wpAnyH_take (i := 5) (v := ?_) rfl (by kernel_rfl) (by kernel_rfl) (by kernel_rfl) (fun _ _ _ h => h) (Or.inl ⟨by kernel_rfl, ?_⟩) (by assumption) ?_
            rotate_left
            · intro w hSw; (try dsimp only at hSw); go_simp; (try with_reducible rfl)
            (try simp only [Act.put, List.getElem_toArray, List.getElem_cons_zero, List.getElem_cons_succ, List.setIfInBounds_toArray, List.set_cons_zero, List.set_cons_succ])
            refine wpAnyH_take (i := 6) (v := ?_) rfl (by kernel_rfl) (by kernel_rfl) (by kernel_rfl) (fun _ _ _ h => h) (Or.inl ⟨by kernel_rfl, ?_⟩) (by assumption) ?_
            rotate_left
            · intro w hSw; (try dsimp only at hSw); go_simp; (try with_reducible rfl)
            (try simp only [Act.put, List.getElem_toArray, List.getElem_cons_zero, List.getElem_cons_succ, List.setIfInBounds_toArray, List.set_cons_zero, List.set_cons_succ])
            refine wpAnyH_ready (rs := [7]) (by kernel_rfl) (by simp) ?_
            refine AllReadyH.cons rfl (fun K hK => ?_) AllReadyH.nil
            go_simp
            go_at_call 47
            refine (HLD.out _ (Kept.refl W2).drew).mono ?_
            rintro e w3 ⟨rfl, rfl⟩
            refine hK.out _ _ hHeld0 (fun hHeld1 => ?_)
            clear hK K
            (try simp only [Act.put, List.getElem_toArray, List.getElem_cons_zero, List.getElem_cons_succ, List.setIfInBounds_toArray, List.set_cons_zero, List.set_cons_succ])
            clear hHeld0
            refine wpAnyH_take (i := 8) (v := ?_) rfl (by kernel_rfl) (by kernel_rfl) (by kernel_rfl) (fun _ _ _ h => h) (Or.inl ⟨by kernel_rfl, ?_⟩) (by assumption) ?_
            rotate_left
            · intro w hSw; (try dsimp only at hSw); go_simp; (try with_reducible rfl)
            (try simp only [Act.put, List.getElem_toArray, List.getElem_cons_zero, List.getElem_cons_succ, List.setIfInBounds_toArray, List.set_cons_zero, List.set_cons_succ])
            refine wpAnyH_done (by kernel_rfl) ?_ _
            clear hHeld1
            have e0 := (Kept.refl W2).drew.cell e0
            have e1 := (Kept.refl W2).drew.cell e1
            have e2 := (Kept.refl W2).drew.cell e2
            by_cases hs : (z : Int) < cn
            · first | (exfalso; omega) | (have HV := Lib.hid (HS1.out hs); go_wp2_with fail; go_ret; exact ⟨by rw [HV.out]; rfl, HK2.out.drew⟩)
            · have HV := Lib.hid (HS2.out (by omega))
              have hb : ¬ cn + mo < (z : Int) := by have := HZ1.out; omega
              rw [if_neg hb] at HV
              have hbb : decide (cn + mo < (z : Int)) = false := decide_eq_false hb
              go_wp2_with fail
              go_roundw
              case rel => exact ⟨k + 1, f + z, er, by go_num, by omega, by go_num, by omega, rfl, HV, HK2.out.drew⟩
              case measure => simp [intOf]; omega
          · obtain ⟨b, o, rfl⟩ : ∃ b o, a = some ⟨b, o, none⟩ := by
              cases a with
              | none =>
                exfalso
                have h0 : l.length = 0 := by rw [kids_len (l := l) HLK.out]; rfl
                have := HN.out
                omega
              | some ad =>
                cases hl0 : l with
                | nil => exfalso; have h0 : l.length = 0 := by { rw [hl0]; rfl }; have := HN.out; omega
                | cons y ys => obtain ⟨b, o, e, _⟩ := KidsD.head (x := y) (r := ys) (by rw [← hl0]; exact HLK.out); exact ⟨b, o, e⟩
            have hcut := kids_cut (f := f) (t := t) (by rw [HN.out]; exact HLK2.out) (by omega) (by rw [HN.out]; omega)
            have hcl : ((l.drop f).take (t - f)).length = t - f := by rw [List.length_take, List.length_drop, HN.out]; omega
            have HLD := Lib.hid (fun W (k : Kept W2 W) => show Calls Tryd.prog 47 #[.slice (some ⟨b, o + f * 6, none⟩) (t - f) (t - f), .slice ka kk.length kc] W (fun e w' => e = .returned (.int .i64 (z : Int)) ∧ w' = W) from by
              have := leading_c (some ⟨b, o + f * 6, none⟩) (t - f) _ ka kc kk W (KidsD.kept hcut k) (IntsR.kept HKI.out k)
              rw [hcl, HZ.out] at this; exact this)
            have htf : ¬ t = f := fun e => hft e.symm
            clear hcut hcl hft
            go_wp2_with (rw [HW2.out])
            refine wp_region_held_drew (S := (fun W => W.cell? ⟨wr.heap.size, 0, none⟩ = some (.slice ka kk.length kc) ∧ W.cell? ⟨wr.heap.size, 1, none⟩ = some (.int .i64 cn) ∧ W.cell? ⟨wr.heap.size, 2, none⟩ = some (.int .i64 mo) ∧ Kept W2 W)) (by kernel_rfl) ⟨(Kept.refl W2).drew.cell e0, (Kept.refl W2).drew.cell e1, (Kept.refl W2).drew.cell e2, (Kept.refl W2).drew⟩ (fun hHeld0 => ?_)
            refine wpAnyH_take (i := 0) (v := ?_) rfl (by kernel_rfl) (by kernel_rfl) (by kernel_rfl) (fun _ _ _ h => h) (Or.inl ⟨by kernel_rfl, ?_⟩) (by assumption) ?_
            rotate_left
            · intro w hSw; (try dsimp only at hSw); go_simp; (try with_reducible rfl)
            (try simp only [Act.put, List.getElem_toArray, List.getElem_cons_zero, List.getElem_cons_succ, List.setIfInBounds_toArray, List.set_cons_zero, List.set_cons_succ])
            refine wpAnyH_take (i := 1) (v := ?_) rfl (by kernel_rfl) (by kernel_rfl) (by kernel_rfl) (fun _ _ _ h => h) (Or.inl ⟨by kernel_rfl, ?_⟩) (by assumption) ?_
            rotate_left
            · intro w hSw; (try dsimp only at hSw); go_simp; (try with_reducible rfl)
            (try simp only [Act.put, List.getElem_toArray, List.getElem_cons_zero, List.getElem_cons_succ, List.setIfInBounds_toArray, List.set_cons_zero, List.set_cons_succ])
            refine wpAnyH_take (i := 2) (v := ?_) rfl (by kernel_rfl) (by kernel_rfl) (by kernel_rfl) (fun _ _ _ h => h) (Or.inl ⟨by kernel_rfl, ?_⟩) (by assumption) ?_
            rotate_left
            · intro w hSw; (try dsimp only at hSw); go_simp; (try with_reducible rfl)
            (try simp only [Act.put, List.getElem_toArray, List.getElem_cons_zero, List.getElem_cons_succ, List.setIfInBounds_toArray, List.set_cons_zero, List.set_cons_succ])
            refine wpAnyH_take (i := 3) (v := ?_) rfl (by kernel_rfl) (by kernel_rfl) (by kernel_rfl) (fun _ _ _ h => h) (Or.inl ⟨by kernel_rfl, ?_⟩) (by assumption) ?_
            rotate_left
            · intro w hSw; (try dsimp only at hSw); go_simp; (try with_reducible rfl)
            (try simp only [Act.put, List.getElem_toArray, List.getElem_cons_zero, List.getElem_cons_succ, List.setIfInBounds_toArray, List.set_cons_zero, List.set_cons_succ])
            refine wpAnyH_take (i := 4) (v := ?_) rfl (by kernel_rfl) (by kernel_rfl) (by kernel_rfl) (fun _ _ _ h => h) (Or.inl ⟨by kernel_rfl, ?_⟩) (by assumption) ?_
            rotate_left
            · intro w hSw; (try dsimp only at hSw); go_simp; (try with_reducible rfl)
            (try simp only [Act.put, List.getElem_toArray, List.getElem_cons_zero, List.getElem_cons_succ, List.setIfInBounds_toArray, List.set_cons_zero, List.set_cons_succ])
            refine wpAnyH_take (i := 5) (v := ?_) rfl (by kernel_rfl) (by kernel_rfl) (by kernel_rfl) (fun _ _ _ h => h) (Or.inl ⟨by kernel_rfl, ?_⟩) (by assumption) ?_
            rotate_left
            · intro w hSw; (try dsimp only at hSw); go_simp; (try with_reducible rfl)
            (try simp only [Act.put, List.getElem_toArray, List.getElem_cons_zero, List.getElem_cons_succ, List.setIfInBounds_toArray, List.set_cons_zero, List.set_cons_succ])
            refine wpAnyH_take (i := 6) (v := ?_) rfl (by kernel_rfl) (by kernel_rfl) (by kernel_rfl) (fun _ _ _ h => h) (Or.inl ⟨by kernel_rfl, ?_⟩) (by assumption) ?_
            rotate_left
            · intro w hSw; (try dsimp only at hSw); go_simp; (try with_reducible rfl)
            (try simp only [Act.put, List.getElem_toArray, List.getElem_cons_zero, List.getElem_cons_succ, List.setIfInBounds_toArray, List.set_cons_zero, List.set_cons_succ])
            refine wpAnyH_ready (rs := [7]) (by kernel_rfl) (by simp) ?_
            refine AllReadyH.cons rfl (fun K hK => ?_) AllReadyH.nil
            go_simp
            go_at_call 47
            refine (HLD.out _ (Kept.refl W2).drew).mono ?_
            rintro e w3 ⟨rfl, rfl⟩
            refine hK.out _ _ hHeld0 (fun hHeld1 => ?_)
            clear hK K
            (try simp only [Act.put, List.getElem_toArray, List.getElem_cons_zero, List.getElem_cons_succ, List.setIfInBounds_toArray, List.set_cons_zero, List.set_cons_succ])
            clear hHeld0
            refine wpAnyH_take (i := 8) (v := ?_) rfl (by kernel_rfl) (by kernel_rfl) (by kernel_rfl) (fun _ _ _ h => h) (Or.inl ⟨by kernel_rfl, ?_⟩) (by assumption) ?_
            rotate_left
            · intro w hSw; (try dsimp only at hSw); go_simp; (try with_reducible rfl)
            (try simp only [Act.put, List.getElem_toArray, List.getElem_cons_zero, List.getElem_cons_succ, List.setIfInBounds_toArray, List.set_cons_zero, List.set_cons_succ])
            refine wpAnyH_done (by kernel_rfl) ?_ _
            clear hHeld1
            have e0 := (Kept.refl W2).drew.cell e0
            have e1 := (Kept.refl W2).drew.cell e1
            have e2 := (Kept.refl W2).drew.cell e2
            by_cases hs : (z : Int) < cn
            · first | (exfalso; omega) | (have HV := Lib.hid (HS1.out hs); go_wp2_with fail; go_ret; exact ⟨by rw [HV.out]; rfl, HK2.out.drew⟩)
            · have HV := Lib.hid (HS2.out (by omega))
              by_cases hb : cn + mo < (z : Int)
              · first | (exfalso; omega) | (rw [if_pos hb] at HV; have hbb : decide (cn + mo < (z : Int)) = true := decide_eq_true hb; go_wp2_with fail; go_roundw; (case rel => exact ⟨k + 1, f + z, 12, by go_num, by omega, by go_num, by omega, rfl, HV, HK2.out.drew⟩); (case measure => simp [intOf]; omega))
              · rw [if_neg hb] at HV
                have hbb : decide (cn + mo < (z : Int)) = false := decide_eq_false hb
                go_wp2_with fail
                go_roundw
                case rel => exact ⟨k + 1, f + z, er, by go_num, by omega, by go_num, by omega, rfl, HV, HK2.out.drew⟩
                case measure => simp [intOf]; omega
      · obtain rfl := htn hm
        have hmb : (mo == 0) = false := by simp [hm]
        clear htm hm
        by_cases hft : f = t
        · have hz1 : z = 0 := by rw [← HZ.out, hft]; simp [Nd.lead]
          have HLD := Lib.hid (fun W (k : Kept W2 W) => show Calls Tryd.prog 47 #[.slice a 0 0, .slice ka kk.length kc] W (fun e w' => e = .returned (.int .i64 (z : Int)) ∧ w' = W) from by rw [hz1]; exact leading_c a 0 [] ka kc kk W kids_none (IntsR.kept HKI.out k))
          have HZ1 := Lib.hid hz1
          clear hz1
          have hftI : ¬ (f : Int) < (t : Int) := by omega
          have hsub : t - f = 0 := by omega
          subst hft
          clear hsub hftI
          go_wp2_with (rw [HW2.out])
          refine wp_region_held_drew (S := (fun W => W.cell? ⟨wr.heap.size, 0, none⟩ = some (.slice ka kk.length kc) ∧ W.cell? ⟨wr.heap.size, 1, none⟩ = some (.int .i64 cn) ∧ W.cell? ⟨wr.heap.size, 2, none⟩ = some (.int .i64 mo) ∧ Kept W2 W)) (by kernel_rfl) ⟨(Kept.refl W2).drew.cell e0, (Kept.refl W2).drew.cell e1, (Kept.refl W2).drew.cell e2, (Kept.refl W2).drew⟩ (fun hHeld0 => ?_)
          refine wpAnyH_take (i := 0) (v := ?_) rfl (by kernel_rfl) (by kernel_rfl) (by kernel_rfl) (fun _ _ _ h => h) (Or.inl ⟨by kernel_rfl, ?_⟩) (by assumption) ?_
          rotate_left
          · intro w hSw; (try dsimp only at hSw); go_simp; (try with_reducible rfl)
          (try simp only [Act.put, List.getElem_toArray, List.getElem_cons_zero, List.getElem_cons_succ, List.setIfInBounds_toArray, List.set_cons_zero, List.set_cons_succ])
          refine wpAnyH_take (i := 1) (v := ?_) rfl (by kernel_rfl) (by kernel_rfl) (by kernel_rfl) (fun _ _ _ h => h) (Or.inl ⟨by kernel_rfl, ?_⟩) (by assumption) ?_
          rotate_left
          · intro w hSw; (try dsimp only at hSw); go_simp; (try with_reducible rfl)
          (try simp only [Act.put, List.getElem_toArray, List.getElem_cons_zero, List.getElem_cons_succ, List.setIfInBounds_toArray, List.set_cons_zero, List.set_cons_succ])
          refine wpAnyH_take (i := 2) (v := ?_) rfl (by kernel_rfl) (by kernel_rfl) (by kernel_rfl) (fun _ _ _ h => h) (Or.inl ⟨by kernel_rfl, ?_⟩) (by assumption) ?_
          rotate_left
          · intro w hSw; (try dsimp only at hSw); go_simp; (try with_reducible rfl)
          (try simp only [Act.put, List.getElem_toArray, List.getElem_cons_zero, List.getElem_cons_succ, List.setIfInBounds_toArray, List.set_cons_zero, List.set_cons_succ])
          refine wpAnyH_take (i := 3) (v := ?_) rfl (by kernel_rfl) (by kernel_rfl) (by kernel_rfl) (fun _ _ _ h => h) (Or.inl ⟨by kernel_rfl, ?_⟩) (by assumption) ?_
          rotate_left
          · intro w hSw; (try dsimp only at hSw); go_simp; (try with_reducible rfl)
          (try simp only [Act.put, List.getElem_toArray, List.getElem_cons_zero, List.getElem_cons_succ, List.setIfInBounds_toArray, List.set_cons_zero, List.set_cons_succ])
          refine wpAnyH_take (i := 4) (v := ?_) rfl (by kernel_rfl) (by kernel_rfl) (by kernel_rfl) (fun _ _ _ h => h) (Or.inl ⟨by kernel_rfl, ?_⟩) (by assumption) ?_
          rotate_left
          · intro w hSw; (try dsimp only at hSw); go_simp; (try with_reducible rfl)
          (try simp only [Act.put, List.getElem_toArray, List.getElem_cons_zero, List.getElem_cons_succ, List.setIfInBounds_toArray, List.set_cons_zero, List.set_cons_succ])
          refine wpAnyH_take (i := 5) (v := ?_) rfl (by kernel_rfl) (by kernel_rfl) (by kernel_rfl) (fun _ _ _ h => h) (Or.inl ⟨by kernel_rfl, ?_⟩) (by assumption) ?_
          rotate_left
          · intro w hSw; (try dsimp only at hSw); go_simp; (try with_reducible rfl)
          (try simp only [Act.put, List.getElem_toArray, List.getElem_cons_zero, List.getElem_cons_succ, List.setIfInBounds_toArray, List.set_cons_zero, List.set_cons_succ])
          refine wpAnyH_take (i := 6) (v := ?_) rfl (by kernel_rfl) (by kernel_rfl) (by kernel_rfl) (fun _ _ _ h => h) (Or.inl ⟨by kernel_rfl, ?_⟩) (by assumption) ?_
          rotate_left
          · intro w hSw; (try dsimp only at hSw); go_simp; (try with_reducible rfl)
          (try simp only [Act.put, List.getElem_toArray, List.getElem_cons_zero, List.getElem_cons_succ, List.setIfInBounds_toArray, List.set_cons_zero, List.set_cons_succ])
          refine wpAnyH_ready (rs := [7]) (by kernel_rfl) (by simp) ?_
          refine AllReadyH.cons rfl (fun K hK => ?_) AllReadyH.nil
          go_simp
          go_at_call 47
          refine (HLD.out _ (Kept.refl W2).drew).mono ?_
          rintro e w3 ⟨rfl, rfl⟩
          refine hK.out _ _ hHeld0 (fun hHeld1 => ?_)
          clear hK K
          (try simp only [Act.put, List.getElem_toArray, List.getElem_cons_zero, List.getElem_cons_succ, List.setIfInBounds_toArray, List.set_cons_zero, List.set_cons_succ])
          clear hHeld0
          refine wpAnyH_take (i := 8) (v := ?_) rfl (by kernel_rfl) (by kernel_rfl) (by kernel_rfl) (fun _ _ _ h => h) (Or.inl ⟨by kernel_rfl, ?_⟩) (by assumption) ?_
          rotate_left
          · intro w hSw; (try dsimp only at hSw); go_simp; (try with_reducible rfl)
          (try simp only [Act.put, List.getElem_toArray, List.getElem_cons_zero, List.getElem_cons_succ, List.setIfInBounds_toArray, List.set_cons_zero, List.set_cons_succ])
          refine wpAnyH_done (by kernel_rfl) ?_ _
          clear hHeld1
          have e0 := (Kept.refl W2).drew.cell e0
          have e1 := (Kept.refl W2).drew.cell e1
          have e2 := (Kept.refl W2).drew.cell e2
          by_cases hs : (z : Int) < cn
          · first | (exfalso; omega) | (have HV := Lib.hid (HS1.out hs); go_wp2_with fail; go_ret; exact ⟨by rw [HV.out]; rfl, HK2.out.drew⟩)
          · have HV := Lib.hid (HS2.out (by omega))
            have hb : ¬ cn + mo < (z : Int) := by have := HZ1.out; omega
            rw [if_neg hb] at HV
            have hbb : decide (cn + mo < (z : Int)) = false := decide_eq_false hb
            go_wp2_with fail
            go_roundw
            case rel => exact ⟨k + 1, f + z, er, by go_num, by omega, by go_num, by omega, rfl, HV, HK2.out.drew⟩
            case measure => simp [intOf]; omega
        · obtain ⟨b, o, rfl⟩ : ∃ b o, a = some ⟨b, o, none⟩ := by
            cases a with
            | none =>
              exfalso
              have h0 : l.length = 0 := by rw [kids_len (l := l) HLK.out]; rfl
              have := HN.out
              omega
            | some ad =>
              cases hl0 : l with
              | nil => exfalso; have h0 : l.length = 0 := by { rw [hl0]; rfl }; have := HN.out; omega
              | cons y ys => obtain ⟨b, o, e, _⟩ := KidsD.head (x := y) (r := ys) (by rw [← hl0]; exact HLK.out); exact ⟨b, o, e⟩
          have hcut := kids_cut (f := f) (t := t) (by rw [HN.out]; exact HLK2.out) (by omega) (by rw [HN.out]; omega)
          have hcl : ((l.drop f).take (t - f)).length = t - f := by rw [List.length_take, List.length_drop, HN.out]; omega
          have HLD := Lib.hid (fun W (k : Kept W2 W) => show Calls Tryd.prog 47 #[.slice (some ⟨b, o + f * 6, none⟩) (t - f) (t - f), .slice ka kk.length kc] W (fun e w' => e = .returned (.int .i64 (z : Int)) ∧ w' = W) from by
            have := leading_c (some ⟨b, o + f * 6, none⟩) (t - f) _ ka kc kk W (KidsD.kept hcut k) (IntsR.kept HKI.out k)
            rw [hcl, HZ.out] at this; exact this)
          have htf : ¬ t = f := fun e => hft e.symm
          clear hcut hcl hft
          go_wp2_with (rw [HW2.out])
          refine wp_region_held_drew (S := (fun W => W.cell? ⟨wr.heap.size, 0, none⟩ = some (.slice ka kk.length kc) ∧ W.cell? ⟨wr.heap.size, 1, none⟩ = some (.int .i64 cn) ∧ W.cell? ⟨wr.heap.size, 2, none⟩ = some (.int .i64 mo) ∧ Kept W2 W)) (by kernel_rfl) ⟨(Kept.refl W2).drew.cell e0, (Kept.refl W2).drew.cell e1, (Kept.refl W2).drew.cell e2, (Kept.refl W2).drew⟩ (fun hHeld0 => ?_)
          refine wpAnyH_take (i := 0) (v := ?_) rfl (by kernel_rfl) (by kernel_rfl) (by kernel_rfl) (fun _ _ _ h => h) (Or.inl ⟨by kernel_rfl, ?_⟩) (by assumption) ?_
          rotate_left
          · intro w hSw; (try dsimp only at hSw); go_simp; (try with_reducible rfl)
          (try simp only [Act.put, List.getElem_toArray, List.getElem_cons_zero, List.getElem_cons_succ, List.setIfInBounds_toArray, List.set_cons_zero, List.set_cons_succ])
          refine wpAnyH_take (i := 1) (v := ?_) rfl (by kernel_rfl) (by kernel_rfl) (by kernel_rfl) (fun _ _ _ h => h) (Or.inl ⟨by kernel_rfl, ?_⟩) (by assumption) ?_
          rotate_left
          · intro w hSw; (try dsimp only at hSw); go_simp; (try with_reducible rfl)
          (try simp only [Act.put, List.getElem_toArray, List.getElem_cons_zero, List.getElem_cons_succ, List.setIfInBounds_toArray, List.set_cons_zero, List.set_cons_succ])
          refine wpAnyH_take (i := 2) (v := ?_) rfl (by kernel_rfl) (by kernel_rfl) (by kernel_rfl) (fun _ _ _ h => h) (Or.inl ⟨by kernel_rfl, ?_⟩) (by assumption) ?_
          rotate_left
          · intro w hSw; (try dsimp only at hSw); go_simp; (try with_reducible rfl)
          (try simp only [Act.put, List.getElem_toArray, List.getElem_cons_zero, List.getElem_cons_succ, List.setIfInBounds_toArray, List.set_cons_zero, List.set_cons_succ])
          refine wpAnyH_take (i := 3) (v := ?_) rfl (by kernel_rfl) (by kernel_rfl) (by kernel_rfl) (fun _ _ _ h => h) (Or.inl ⟨by kernel_rfl, ?_⟩) (by assumption) ?_
          rotate_left
          · intro w hSw; (try dsimp only at hSw); go_simp; (try with_reducible rfl)
          (try simp only [Act.put, List.getElem_toArray, List.getElem_cons_zero, List.getElem_cons_succ, List.setIfInBounds_toArray, List.set_cons_zero, List.set_cons_succ])
          refine wpAnyH_take (i := 4) (v := ?_) rfl (by kernel_rfl) (by kernel_rfl) (by kernel_rfl) (fun _ _ _ h => h) (Or.inl ⟨by kernel_rfl, ?_⟩) (by assumption) ?_
          rotate_left
          · intro w hSw; (try dsimp only at hSw); go_simp; (try with_reducible rfl)
          (try simp only [Act.put, List.getElem_toArray, List.getElem_cons_zero, List.getElem_cons_succ, List.setIfInBounds_toArray, List.set_cons_zero, List.set_cons_succ])
          refine wpAnyH_take (i := 5) (v := ?_) rfl (by kernel_rfl) (by kernel_rfl) (by kernel_rfl) (fun _ _ _ h => h) (Or.inl ⟨by kernel_rfl, ?_⟩) (by assumption) ?_
          rotate_left
          · intro w hSw; (try dsimp only at hSw); go_simp; (try with_reducible rfl)
          (try simp only [Act.put, List.getElem_toArray, List.getElem_cons_zero, List.getElem_cons_succ, List.setIfInBounds_toArray, List.set_cons_zero, List.set_cons_succ])
          refine wpAnyH_take (i := 6) (v := ?_) rfl (by kernel_rfl) (by kernel_rfl) (by kernel_rfl) (fun _ _ _ h => h) (Or.inl ⟨by kernel_rfl, ?_⟩) (by assumption) ?_
          rotate_left
          · intro w hSw; (try dsimp only at hSw); go_simp; (try with_reducible rfl)
          (try simp only [Act.put, List.getElem_toArray, List.getElem_cons_zero, List.getElem_cons_succ, List.setIfInBounds_toArray, List.set_cons_zero, List.set_cons_succ])
          refine wpAnyH_ready (rs := [7]) (by kernel_rfl) (by simp) ?_
          refine AllReadyH.cons rfl (fun K hK => ?_) AllReadyH.nil
          go_simp
          go_at_call 47
          refine (HLD.out _ (Kept.refl W2).drew).mono ?_
          rintro e w3 ⟨rfl, rfl⟩
          refine hK.out _ _ hHeld0 (fun hHeld1 => ?_)
          clear hK K
          (try simp only [Act.put, List.getElem_toArray, List.getElem_cons_zero, List.getElem_cons_succ, List.setIfInBounds_toArray, List.set_cons_zero, List.set_cons_succ])
          clear hHeld0
          refine wpAnyH_take (i := 8) (v := ?_) rfl (by kernel_rfl) (by kernel_rfl) (by kernel_rfl) (fun _ _ _ h => h) (Or.inl ⟨by kernel_rfl, ?_⟩) (by assumption) ?_
          rotate_left
          · intro w hSw; (try dsimp only at hSw); go_simp; (try with_reducible rfl)
          (try simp only [Act.put, List.getElem_toArray, List.getElem_cons_zero, List.getElem_cons_succ, List.setIfInBounds_toArray, List.set_cons_zero, List.set_cons_succ])
          refine wpAnyH_done (by kernel_rfl) ?_ _
          clear hHeld1
          have e0 := (Kept.refl W2).drew.cell e0
          have e1 := (Kept.refl W2).drew.cell e1
          have e2 := (Kept.refl W2).drew.cell e2
          by_cases hs : (z : Int) < cn
          · first | (exfalso; omega) | (have HV := Lib.hid (HS1.out hs); go_wp2_with fail; go_ret; exact ⟨by rw [HV.out]; rfl, HK2.out.drew⟩)
          · have HV := Lib.hid (HS2.out (by omega))
            by_cases hb : cn + mo < (z : Int)
            · first | (exfalso; omega) | (rw [if_pos hb] at HV; have hbb : decide (cn + mo < (z : Int)) = true := decide_eq_true hb; go_wp2_with fail; go_roundw; (case rel => exact ⟨k + 1, f + z, 12, by go_num, by omega, by go_num, by omega, rfl, HV, HK2.out.drew⟩); (case measure => simp [intOf]; omega))
            · rw [if_neg hb] at HV
              have hbb : decide (cn + mo < (z : Int)) = false := decide_eq_false hb
              go_wp2_with fail
              go_roundw
              case rel => exact ⟨k + 1, f + z, er, by go_num, by omega, by go_num, by omega, rfl, HV, HK2.out.drew⟩
              case measure => simp [intOf]; omega
    · obtain rfl : k = ps.length := by omega
      have hltI : ¬ (ps.length : Int) < (ps.length : Int) := by omega
      have hr := HR.out
      rw [List.drop_length] at hr
      have HE := Lib.hid (show kidsE l ps = if f < l.length then 5 else er by unfold kidsE; rw [hr]; rfl)
      clear hr HR
      by_cases hfl : f < l.length
      · have hfI : (f : Int) < (l.length : Int) := by omega
        rw [if_pos hfl] at HE
        go_wp2_with fail
        go_ret
        exact ⟨by rw [HE.out]; rfl, HK.out⟩
      · have hfI : ¬ (f : Int) < (l.length : Int) := by omega
        rw [if_neg hfl] at HE
        go_wp2_with fail
        go_ret
        exact ⟨by rw [HE.out]; rfl, HK.out⟩

end Go.Proofs.YtgdmcdjkmgpkpaaDoor
