/- The walk of OctetOne. -/
import Derived.Test.YtfbbhkhingfdeaaKtr
import Derived.Test.YtfbbhkhingfdeaaKnw
set_option linter.unusedSimpArgs false
set_option linter.unusedVariables false
namespace Go.Proofs.Ytfbbhkhingfdeaa
open Go.ChangeShapes Go.WideShapes Go.ChangeAt Go.RowKit

theorem pick3_c (x : Int) (w : World) (h1 : -9223372036854775808 ≤ x) (h2 : x ≤ 9223372036854775807) :
    Calls Try.prog 31 #[.int .i64 x, .int .i64 3] w fun e w' => e = .returned (.int .i64 (x % 3)) ∧ w = w' := by
  by_cases h : x.tmod 3 < 0
  · have HE := Lib.hid (show wrap64 (x.tmod 3 + 3) = x % 3 by
      have := Int.tmod_eq_emod (a := x) (b := 3)
      have hl := Int.lt_tmod_of_pos x (show (0 : Int) < 3 by decide)
      rw [w_in (by omega) (by omega)]
      split at this <;> simp at this <;> omega)
    go_enter Try.func31, Try.ntmps31
    go_wp2
    go_ret
    exact ⟨by rw [← HE.out]; rfl, rfl⟩
  · have HE := Lib.hid (show x.tmod 3 = x % 3 by
      have := Int.tmod_eq_emod (a := x) (b := 3)
      split at this <;> simp at this <;> omega)
    go_enter Try.func31, Try.ntmps31
    go_wp2
    go_ret
    exact ⟨by rw [← HE.out]; rfl, rfl⟩

/-- How the reader stands behind what was read once, and what was written of it. -/
def OneSt (bs out : List UInt8) (t : Oct.Rs) : Prop := (∃ n, t = (n, 0, 0) ∧ 1 ≤ n ∧ n ≤ bs.length ∧ bs.take n = out) ∨ ∃ p e, t = (p, e, 0) ∧ e ≠ 0

theorem put200 {n : Nat} {s : List UInt8} (h : n < 9223372036854775808) (hs : s.length ≤ 60) : Oct.put 200 ([], 0) (some n) s = (Oct.grp n ++ s, 0) := by
  have h9 := Oct.grp_len9 h
  unfold Oct.put
  rw [if_neg (by simp)]
  dsimp only
  rw [if_neg (by simp; omega)]
  simp

theorem one_num (bs : List UInt8) : Oct.put 200 ([], 0) (Oct.natO (Oct.numV bs (0, 0, 0) : Nat)) [] = (Oct.grp (Oct.numV bs (0, 0, 0)), 0) ∧ OneSt bs (Oct.grp (Oct.numV bs (0, 0, 0))) (Oct.numS bs (0, 0, 0)) := by
  constructor
  · have e : Oct.natO ((Oct.numV bs (0, 0, 0) : Nat) : Int) = some (Oct.numV bs (0, 0, 0)) := by unfold Oct.natO; rw [if_neg (by omega)]; rfl
    rw [e, put200 (numV_lt _ _) (by simp)]
    simp
  · rw [numV_at]
    by_cases h : (Oct.scan 0 (bs.drop 0)).1 = 0
    · rw [numS_ok h]
      have k := Oct.scan_ok0 h
      simp only [List.drop_zero] at k ⊢
      exact .inl ⟨_, by rw [Nat.zero_add], k.2.1, k.2.2.2.1, k.2.2.2.2⟩
    · rw [numS_bad h]
      exact .inr ⟨0, _, rfl, h⟩

theorem one_whole (bs : List UInt8) : Oct.put 200 ([], 0) (Oct.zigO (Oct.zag (Oct.numV bs (0, 0, 0)))) [] = (Oct.grp (Oct.numV bs (0, 0, 0)), 0) := by
  have e : Oct.zigO (Oct.zag (Oct.numV bs (0, 0, 0))) = some (Oct.numV bs (0, 0, 0)) := by
    unfold Oct.zigO
    rw [if_pos (Oct.zag_in (numV_lt _ _)), Oct.zig_zag]
  rw [e, put200 (numV_lt _ _) (by simp)]
  simp

theorem one_word (bs : List UInt8) : (Oct.wordV bs 60 (0, 0, 0)).length ≤ 60 ∧ Oct.put 200 ([], 0) (some (Oct.wordV bs 60 (0, 0, 0)).length) (Oct.wordV bs 60 (0, 0, 0)) = (Oct.grp (Oct.wordV bs 60 (0, 0, 0)).length ++ Oct.wordV bs 60 (0, 0, 0), 0) ∧
    OneSt bs (Oct.grp (Oct.wordV bs 60 (0, 0, 0)).length ++ Oct.wordV bs 60 (0, 0, 0)) (Oct.wordS bs 60 (0, 0, 0)) := by
  by_cases h : Oct.txtE bs 0 60 = 0
  · rw [wordV_ok h, wordS_ok h]
    have hh := h
    unfold Oct.txtE at hh
    simp only [List.drop_zero, Nat.zero_add] at hh ⊢
    by_cases h0 : (Oct.scan 0 bs).1 = 0
    · rw [if_neg (fun e => e h0)] at hh
      obtain ⟨k1, k2, k3, k4, k5⟩ := Oct.scan_ok0 h0
      generalize (Oct.scan 0 bs).2.1 = v at *
      generalize (Oct.scan 0 bs).2.2 = k at *
      have hv : ¬ (60 : Int) < v := by intro e; rw [if_pos e] at hh; cases hh
      rw [if_neg hv] at hh
      have hr : ¬ ((bs.length : Int) - ((k : Nat) : Int)) < (v : Int) := by intro e; rw [if_pos e] at hh; cases hh
      have hl : ((bs.drop k).take v).length = v := by rw [List.length_take, List.length_drop]; omega
      rw [hl]
      refine ⟨by omega, put200 k1 (by omega), .inl ⟨k + v, rfl, by omega, by omega, ?_⟩⟩
      rw [List.take_add, k5]
    · rw [if_pos h0] at hh; exact absurd hh h0
  · rw [wordV_bad h, wordS_bad h]
    refine ⟨by simp, put200 (by simp) (by simp), .inr ⟨_, _, rfl, h⟩⟩

theorem Arg.str {w : World} {a : Option Addr} {cap : Nat} {bs : List UInt8} (h : Arg w a cap bs) : Str w (.slice a bs.length cap) bs := by
  cases a with
  | none =>
    obtain ⟨rfl, rfl⟩ := h.2.1 rfl
    exact fun w' _ => str_nil w'
  | some x =>
    have := h.2.2 bs.length (Nat.le_refl _) (by simp)
    rwa [List.take_length] at this
theorem Arg.kept {w w' : World} {a : Option Addr} {cap : Nat} {bs : List UInt8} (h : Arg w a cap bs) (k : Kept w w') : Arg w' a cap bs := ⟨h.1, h.2.1, fun m hm ha => (h.2.2 m hm ha).kept k⟩
theorem back (s : ByteArray) : (⟨s.data.toList.toArray⟩ : ByteArray) = s := by apply ByteArray.ext; rfl
theorem Two.rd {w0 w : World} {b1 b2 : Nat} {most : Int} {st : Oct.Ws} {s : ByteArray} {t : Oct.Rs} (h : Two w0 w b1 most st b2 s t) : Rd w b2 s t := by
  obtain ⟨O, _, _, h, _⟩ := h
  exact h
theorem rest_at (l : List UInt8) (n : Nat) : Oct.restV l (n, 0, 0) = l.length - n := by unfold Oct.restV; rw [if_neg (by simp)]
theorem rest_e (l : List UInt8) (p a : Nat) {e : Int} (h : e ≠ 0) : Oct.restV l (p, e, a) = 0 := by unfold Oct.restV; rw [if_pos h]
theorem ende_e (l : List UInt8) (p a : Nat) {e : Int} (h : e ≠ 0) : Oct.endE l (p, e, a) = e ∧ Oct.endA l (p, e, a) = a := by unfold Oct.endE Oct.endA; rw [if_pos h, if_pos h]; exact ⟨rfl, rfl⟩
theorem ende_lt {l : List UInt8} {n : Nat} (h : n < l.length) : Oct.endE l (n, 0, 0) = 4 ∧ Oct.endA l (n, 0, 0) = n := by unfold Oct.endE Oct.endA; rw [if_neg (by simp), if_pos h, if_neg (by simp), if_pos h]; exact ⟨rfl, rfl⟩
theorem ende_eq {l : List UInt8} {n : Nat} (h : ¬ n < l.length) : Oct.endE l (n, 0, 0) = 0 ∧ Oct.endA l (n, 0, 0) = 0 := by unfold Oct.endE Oct.endA; rw [if_neg (by simp), if_neg h, if_neg (by simp), if_neg h]; exact ⟨rfl, rfl⟩

theorem one_long (a : Option Addr) (n cap : Nat) (kind : Int) (w : World) (hl : 60 < n) (hm : n ≤ 9223372036854775807) :
    Calls Try.prog 7 #[.slice a n cap, .int .i64 kind] w fun e w' => e = .returned (.bool true) ∧ Kept w w' := by
  have hl' : 60 < (n : Int) := by omega
  go_enter Try.func7, Try.ntmps7
  go_wp2_with fail
  refine (known_c _).mono ?_
  rintro e wk ⟨rfl, kk⟩
  have HK := Lib.hid kk
  clear kk
  go_wp2_with fail
  go_ret
  exact ⟨rfl, HK.out⟩

set_option maxRecDepth 100000 in
set_option maxHeartbeats 1600000 in
theorem one_k0 (a : Option Addr) (cap : Nat) (s : ByteArray) (kind : Int) (w : World) (hA : Arg w a cap s.data.toList) (hl : s.size ≤ 60) (hcm : cap ≤ maxLen) (b1 : -9223372036854775808 ≤ kind) (b2 : kind ≤ 9223372036854775807) (hk : kind % 3 = 0) :
    Calls Try.prog 7 #[.slice a s.size cap, .int .i64 kind] w fun e w' => e = .returned (.bool true) ∧ Kept w w' := by
  have HP := Lib.hid (fun w => pick3_c kind w b1 b2)
  rw [hk] at HP
  have hsz := len_data s
  have hS := hA.str
  rw [hsz] at hS
  have HS := Lib.hid (show ∀ w', Kept w w' → (convert 36 9 (.slice a s.size cap)).run Try.prog w' = .ok (.string s) w' from fun w' k => by rw [hS w' k, back])
  have HZ := Lib.hid (show s.size ≤ maxLen by unfold maxLen; omega)
  have HA := Lib.hid hA
  have hl' : (s.size : Int) ≤ 60 := by omega
  unfold maxLen at hcm
  have HSZ := Lib.hid hsz
  clear hS hA hk hsz
  have HLT := Lib.hid (show ((Oct.numV s.data.toList (0, 0, 0) : Nat) : Int) ≤ 9223372036854775807 by have := numV_lt s.data.toList (0, 0, 0); omega)
  go_enter Try.func7, Try.ntmps7
  go_wp2_with fail
  refine (known_c _).mono ?_
  rintro e wk ⟨rfl, kk⟩
  have HK := Lib.hid kk
  clear kk
  go_wp2_with fail
  refine (newR_c _ s _ (HS.out _ HK.out)).mono ?_
  rintro e w1 ⟨rfl, k1, hb1⟩
  have R := Lib.hid (rd_new HZ.out hb1)
  have HK1 := Lib.hid k1
  clear k1 hb1
  go_wp2_with fail
  refine (newW_c 200 _ (by decide) (by decide)).mono ?_
  rintro e w2 ⟨rfl, k2, hw2⟩
  have T := Lib.hid (show Two wk w2 w1.heap.size 200 ([], 0) wk.heap.size s (0, 0, 0) from
    ⟨(· = w1.heap.size), HK1.out.trans k2, hw2, R.out.kept k2, by have := R.out.lt; omega, fun k e => by rw [e]; exact HK1.out.size, Nat.le_refl _⟩)
  clear k2 hw2 R HK1
  go_wp2_with fail
  refine (HP.out _).mono ?_
  rintro e w3 ⟨rfl, rfl⟩
  go_wp2_with fail
  refine (two_rnum _ _ _ _ _ _ _ _ T.out).mono ?_
  rintro e wn ⟨rfl, tn⟩
  have T := Lib.hid tn
  clear tn
  go_wp2_with fail
  refine (two_num _ _ _ _ _ _ _ _ _ HLT.out T.out).mono ?_
  rw [(one_num s.data.toList).1]
  rintro e wn ⟨rfl, tn⟩
  have T := Lib.hid tn
  clear tn
  have hsz := HSZ.out
  clear HSZ
  rcases (one_num s.data.toList).2 with ⟨n, et, n1, n2, n3⟩ | ⟨p, e, et, he⟩
  · rw [et] at T
    have hr : ((Oct.restV s.data.toList (n, 0, 0) : Nat) : Int) = (s.size : Int) - (n : Int) := by rw [rest_at, hsz]; omega
    have HHR := Lib.hid hr
    rw [hsz] at n2
    obtain ⟨x, rfl⟩ : ∃ x, a = some x := by
      cases a with
      | none => have := (HA.out.2.1 rfl).1; rw [this] at hsz; simp at hsz; omega
      | some x => exact ⟨x, rfl⟩
    have HW := Lib.hid (HA.out.2.2 n (by rw [hsz]; exact n2) (by simp))
    rw [n3] at HW
    have e9 : (s.size : Int) - ((s.size : Int) - (n : Int)) = (n : Int) := by omega
    have n1' : 1 ≤ (n : Int) := by omega
    have n2' : (n : Int) ≤ (s.size : Int) := by omega
    have hcap := HA.out.1
    rw [hsz] at hcap
    have HSZ := Lib.hid hsz
    have HET := Lib.hid et
    clear et hr n3 hsz
    by_cases hn : n < s.size
    · have HH1 := Lib.hid (show Oct.endE s.data.toList (n, 0, 0) = 4 from (ende_lt (by rw [HSZ.out]; exact hn)).1)
      have HH2 := Lib.hid (show ((Oct.endA s.data.toList (n, 0, 0) : Nat) : Int) = (n : Int) by rw [(ende_lt (by rw [HSZ.out]; exact hn)).2])
      have hn0 : ((n : Int) == 0) = false := by simp; omega
      have HR := restR_c _ _ _ _ T.out.rd
      rw [HHR.out] at HR
      have HR := Lib.hid HR
      go_wp2_with fail
      refine HR.out.mono ?_
      rintro e' wn ⟨rfl, kn⟩
      have T := Lib.hid (T.out.kept kn)
      clear kn HR
      have HE := endR_c _ _ _ _ T.out.rd
      rw [HH1.out, HH2.out] at HE
      have HE := Lib.hid HE
      go_wp2_with fail
      refine HE.out.mono ?_
      rintro e' w5 ⟨rfl, kn⟩
      have T := Lib.hid (T.out.kept kn)
      clear kn HE
      have T := Lib.hid (T.out.kept ((Kept.refl w5).alloc (.cells #[.int .i64 4, .int .i64 (n : Int)] 47)))
      go_wp2_with fail
      refine (two_has _ _ _ _ _ _ _ _ _ T.out (HW.out.kept (HK.out.trans T.out.from))).mono ?_
      rintro e' w6 ⟨rfl, tn⟩
      have T := Lib.hid tn
      clear tn
      go_wp2_with fail
      go_ret
      exact ⟨rfl, HK.out.trans T.out.from⟩
    · have HH1 := Lib.hid (show Oct.endE s.data.toList (n, 0, 0) = 0 from (ende_eq (by rw [HSZ.out]; exact hn)).1)
      have HH2 := Lib.hid (show ((Oct.endA s.data.toList (n, 0, 0) : Nat) : Int) = 0 by rw [(ende_eq (by rw [HSZ.out]; exact hn)).2]; rfl)
      have HR := restR_c _ _ _ _ T.out.rd
      rw [HHR.out] at HR
      have HR := Lib.hid HR
      go_wp2_with fail
      refine HR.out.mono ?_
      rintro e' wn ⟨rfl, kn⟩
      have T := Lib.hid (T.out.kept kn)
      clear kn HR
      have HE := endR_c _ _ _ _ T.out.rd
      rw [HH1.out, HH2.out] at HE
      have HE := Lib.hid HE
      go_wp2_with fail
      refine HE.out.mono ?_
      rintro e' w5 ⟨rfl, kn⟩
      have T := Lib.hid (T.out.kept kn)
      clear kn HE
      have T := Lib.hid (T.out.kept ((Kept.refl w5).alloc (.cells #[.int .i64 0, .int .i64 0] 47)))
      go_wp2_with fail
      refine (two_has _ _ _ _ _ _ _ _ _ T.out (HW.out.kept (HK.out.trans T.out.from))).mono ?_
      rintro e' w6 ⟨rfl, tn⟩
      have T := Lib.hid tn
      clear tn
      go_wp2_with fail
      go_ret
      exact ⟨rfl, HK.out.trans T.out.from⟩
  · rw [et] at T
    have hr : ((Oct.restV s.data.toList (p, e, 0) : Nat) : Int) = 0 := by rw [rest_e s.data.toList p 0 he]; rfl
    have hE := ende_e s.data.toList p 0 he
    have hA0 : ((Oct.endA s.data.toList (p, e, 0) : Nat) : Int) = 0 := by rw [hE.2]; rfl
    have hE1 := hE.1
    have HHR := Lib.hid hr
    have HH1 := Lib.hid hE1
    have HH2 := Lib.hid hA0
    clear et hr hE hE1 hA0
    have he0 : (e != 0) = true := by simpa using he
    clear he
    by_cases h4 : e = 4
    · subst h4
      clear he0
      have HR := restR_c _ _ _ _ T.out.rd
      rw [HHR.out] at HR
      have HR := Lib.hid HR
      go_wp2_with fail
      refine HR.out.mono ?_
      rintro e' wn ⟨rfl, kn⟩
      have T := Lib.hid (T.out.kept kn)
      clear kn HR
      have HE := endR_c _ _ _ _ T.out.rd
      rw [HH1.out, HH2.out] at HE
      have HE := Lib.hid HE
      go_wp2_with fail
      refine HE.out.mono ?_
      rintro e' w5 ⟨rfl, kn⟩
      have T := Lib.hid (T.out.kept kn)
      clear kn HE
      have HB := Lib.hid (Blk.new w5 47 #[.int .i64 4, .int .i64 0])
      have T := Lib.hid (T.out.kept ((Kept.refl w5).alloc (.cells #[.int .i64 4, .int .i64 0] 47)))
      have HR := restR_c _ _ _ _ T.out.rd
      rw [HHR.out] at HR
      have HR := Lib.hid HR
      go_wp2_with fail
      refine HR.out.mono ?_
      rintro e' w6 ⟨rfl, kn⟩
      have c1 := (HB.out.kept kn).cell 1
      simp at c1
      have T := Lib.hid (T.out.kept kn)
      clear kn HR HB
      go_wp2_with fail
      go_ret
      exact ⟨rfl, HK.out.trans T.out.from⟩
    · have h4' : (e != 4) = true := by simpa using h4
      clear h4
      have HR := restR_c _ _ _ _ T.out.rd
      rw [HHR.out] at HR
      have HR := Lib.hid HR
      go_wp2_with fail
      refine HR.out.mono ?_
      rintro e' wn ⟨rfl, kn⟩
      have T := Lib.hid (T.out.kept kn)
      clear kn HR
      have HE := endR_c _ _ _ _ T.out.rd
      rw [HH1.out, HH2.out] at HE
      have HE := Lib.hid HE
      go_wp2_with fail
      refine HE.out.mono ?_
      rintro e' w5 ⟨rfl, kn⟩
      have T := Lib.hid (T.out.kept kn)
      clear kn HE
      have HB := Lib.hid (Blk.new w5 47 #[.int .i64 e, .int .i64 0])
      have T := Lib.hid (T.out.kept ((Kept.refl w5).alloc (.cells #[.int .i64 e, .int .i64 0] 47)))
      have HR := restR_c _ _ _ _ T.out.rd
      rw [HHR.out] at HR
      have HR := Lib.hid HR
      go_wp2_with fail
      refine HR.out.mono ?_
      rintro e' w6 ⟨rfl, kn⟩
      have c1 := (HB.out.kept kn).cell 1
      simp at c1
      have T := Lib.hid (T.out.kept kn)
      clear kn HR HB
      go_wp2_with fail
      go_ret
      exact ⟨rfl, HK.out.trans T.out.from⟩

set_option maxRecDepth 100000 in
set_option maxHeartbeats 1600000 in
theorem one_k1 (a : Option Addr) (cap : Nat) (s : ByteArray) (kind : Int) (w : World) (hA : Arg w a cap s.data.toList) (hl : s.size ≤ 60) (hcm : cap ≤ maxLen) (b1 : -9223372036854775808 ≤ kind) (b2 : kind ≤ 9223372036854775807) (hk : kind % 3 = 1) :
    Calls Try.prog 7 #[.slice a s.size cap, .int .i64 kind] w fun e w' => e = .returned (.bool true) ∧ Kept w w' := by
  have HP := Lib.hid (fun w => pick3_c kind w b1 b2)
  rw [hk] at HP
  have hsz := len_data s
  have hS := hA.str
  rw [hsz] at hS
  have HS := Lib.hid (show ∀ w', Kept w w' → (convert 36 9 (.slice a s.size cap)).run Try.prog w' = .ok (.string s) w' from fun w' k => by rw [hS w' k, back])
  have HZ := Lib.hid (show s.size ≤ maxLen by unfold maxLen; omega)
  have HA := Lib.hid hA
  have hl' : (s.size : Int) ≤ 60 := by omega
  unfold maxLen at hcm
  have HSZ := Lib.hid hsz
  clear hS hA hk hsz
  have HLT := Lib.hid (show -9223372036854775808 ≤ Oct.zag (Oct.numV s.data.toList (0, 0, 0)) ∧ Oct.zag (Oct.numV s.data.toList (0, 0, 0)) ≤ 9223372036854775807 by have h := Oct.zag_in (numV_lt s.data.toList (0, 0, 0)); unfold Oct.inW at h; omega)
  go_enter Try.func7, Try.ntmps7
  go_wp2_with fail
  refine (known_c _).mono ?_
  rintro e wk ⟨rfl, kk⟩
  have HK := Lib.hid kk
  clear kk
  go_wp2_with fail
  refine (newR_c _ s _ (HS.out _ HK.out)).mono ?_
  rintro e w1 ⟨rfl, k1, hb1⟩
  have R := Lib.hid (rd_new HZ.out hb1)
  have HK1 := Lib.hid k1
  clear k1 hb1
  go_wp2_with fail
  refine (newW_c 200 _ (by decide) (by decide)).mono ?_
  rintro e w2 ⟨rfl, k2, hw2⟩
  have T := Lib.hid (show Two wk w2 w1.heap.size 200 ([], 0) wk.heap.size s (0, 0, 0) from
    ⟨(· = w1.heap.size), HK1.out.trans k2, hw2, R.out.kept k2, by have := R.out.lt; omega, fun k e => by rw [e]; exact HK1.out.size, Nat.le_refl _⟩)
  clear k2 hw2 R HK1
  go_wp2_with fail
  refine (HP.out _).mono ?_
  rintro e w3 ⟨rfl, rfl⟩
  go_wp2_with fail
  refine (two_rwhole _ _ _ _ _ _ _ _ T.out).mono ?_
  rintro e wn ⟨rfl, tn⟩
  have T := Lib.hid tn
  clear tn
  go_wp2_with fail
  refine (two_whole _ _ _ _ _ _ _ _ _ HLT.out.1 HLT.out.2 T.out).mono ?_
  rw [one_whole s.data.toList]
  rintro e wn ⟨rfl, tn⟩
  have T := Lib.hid tn
  clear tn
  have hsz := HSZ.out
  clear HSZ
  rcases (one_num s.data.toList).2 with ⟨n, et, n1, n2, n3⟩ | ⟨p, e, et, he⟩
  · rw [et] at T
    have hr : ((Oct.restV s.data.toList (n, 0, 0) : Nat) : Int) = (s.size : Int) - (n : Int) := by rw [rest_at, hsz]; omega
    have HHR := Lib.hid hr
    rw [hsz] at n2
    obtain ⟨x, rfl⟩ : ∃ x, a = some x := by
      cases a with
      | none => have := (HA.out.2.1 rfl).1; rw [this] at hsz; simp at hsz; omega
      | some x => exact ⟨x, rfl⟩
    have HW := Lib.hid (HA.out.2.2 n (by rw [hsz]; exact n2) (by simp))
    rw [n3] at HW
    have e9 : (s.size : Int) - ((s.size : Int) - (n : Int)) = (n : Int) := by omega
    have n1' : 1 ≤ (n : Int) := by omega
    have n2' : (n : Int) ≤ (s.size : Int) := by omega
    have hcap := HA.out.1
    rw [hsz] at hcap
    have HSZ := Lib.hid hsz
    have HET := Lib.hid et
    clear et hr n3 hsz
    by_cases hn : n < s.size
    · have HH1 := Lib.hid (show Oct.endE s.data.toList (n, 0, 0) = 4 from (ende_lt (by rw [HSZ.out]; exact hn)).1)
      have HH2 := Lib.hid (show ((Oct.endA s.data.toList (n, 0, 0) : Nat) : Int) = (n : Int) by rw [(ende_lt (by rw [HSZ.out]; exact hn)).2])
      have hn0 : ((n : Int) == 0) = false := by simp; omega
      have HR := restR_c _ _ _ _ T.out.rd
      rw [HHR.out] at HR
      have HR := Lib.hid HR
      go_wp2_with fail
      refine HR.out.mono ?_
      rintro e' wn ⟨rfl, kn⟩
      have T := Lib.hid (T.out.kept kn)
      clear kn HR
      have HE := endR_c _ _ _ _ T.out.rd
      rw [HH1.out, HH2.out] at HE
      have HE := Lib.hid HE
      go_wp2_with fail
      refine HE.out.mono ?_
      rintro e' w5 ⟨rfl, kn⟩
      have T := Lib.hid (T.out.kept kn)
      clear kn HE
      have T := Lib.hid (T.out.kept ((Kept.refl w5).alloc (.cells #[.int .i64 4, .int .i64 (n : Int)] 47)))
      go_wp2_with fail
      refine (two_has _ _ _ _ _ _ _ _ _ T.out (HW.out.kept (HK.out.trans T.out.from))).mono ?_
      rintro e' w6 ⟨rfl, tn⟩
      have T := Lib.hid tn
      clear tn
      go_wp2_with fail
      go_ret
      exact ⟨rfl, HK.out.trans T.out.from⟩
    · have HH1 := Lib.hid (show Oct.endE s.data.toList (n, 0, 0) = 0 from (ende_eq (by rw [HSZ.out]; exact hn)).1)
      have HH2 := Lib.hid (show ((Oct.endA s.data.toList (n, 0, 0) : Nat) : Int) = 0 by rw [(ende_eq (by rw [HSZ.out]; exact hn)).2]; rfl)
      have HR := restR_c _ _ _ _ T.out.rd
      rw [HHR.out] at HR
      have HR := Lib.hid HR
      go_wp2_with fail
      refine HR.out.mono ?_
      rintro e' wn ⟨rfl, kn⟩
      have T := Lib.hid (T.out.kept kn)
      clear kn HR
      have HE := endR_c _ _ _ _ T.out.rd
      rw [HH1.out, HH2.out] at HE
      have HE := Lib.hid HE
      go_wp2_with fail
      refine HE.out.mono ?_
      rintro e' w5 ⟨rfl, kn⟩
      have T := Lib.hid (T.out.kept kn)
      clear kn HE
      have T := Lib.hid (T.out.kept ((Kept.refl w5).alloc (.cells #[.int .i64 0, .int .i64 0] 47)))
      go_wp2_with fail
      refine (two_has _ _ _ _ _ _ _ _ _ T.out (HW.out.kept (HK.out.trans T.out.from))).mono ?_
      rintro e' w6 ⟨rfl, tn⟩
      have T := Lib.hid tn
      clear tn
      go_wp2_with fail
      go_ret
      exact ⟨rfl, HK.out.trans T.out.from⟩
  · rw [et] at T
    have hr : ((Oct.restV s.data.toList (p, e, 0) : Nat) : Int) = 0 := by rw [rest_e s.data.toList p 0 he]; rfl
    have hE := ende_e s.data.toList p 0 he
    have hA0 : ((Oct.endA s.data.toList (p, e, 0) : Nat) : Int) = 0 := by rw [hE.2]; rfl
    have hE1 := hE.1
    have HHR := Lib.hid hr
    have HH1 := Lib.hid hE1
    have HH2 := Lib.hid hA0
    clear et hr hE hE1 hA0
    have he0 : (e != 0) = true := by simpa using he
    clear he
    by_cases h4 : e = 4
    · subst h4
      clear he0
      have HR := restR_c _ _ _ _ T.out.rd
      rw [HHR.out] at HR
      have HR := Lib.hid HR
      go_wp2_with fail
      refine HR.out.mono ?_
      rintro e' wn ⟨rfl, kn⟩
      have T := Lib.hid (T.out.kept kn)
      clear kn HR
      have HE := endR_c _ _ _ _ T.out.rd
      rw [HH1.out, HH2.out] at HE
      have HE := Lib.hid HE
      go_wp2_with fail
      refine HE.out.mono ?_
      rintro e' w5 ⟨rfl, kn⟩
      have T := Lib.hid (T.out.kept kn)
      clear kn HE
      have HB := Lib.hid (Blk.new w5 47 #[.int .i64 4, .int .i64 0])
      have T := Lib.hid (T.out.kept ((Kept.refl w5).alloc (.cells #[.int .i64 4, .int .i64 0] 47)))
      have HR := restR_c _ _ _ _ T.out.rd
      rw [HHR.out] at HR
      have HR := Lib.hid HR
      go_wp2_with fail
      refine HR.out.mono ?_
      rintro e' w6 ⟨rfl, kn⟩
      have c1 := (HB.out.kept kn).cell 1
      simp at c1
      have T := Lib.hid (T.out.kept kn)
      clear kn HR HB
      go_wp2_with fail
      go_ret
      exact ⟨rfl, HK.out.trans T.out.from⟩
    · have h4' : (e != 4) = true := by simpa using h4
      clear h4
      have HR := restR_c _ _ _ _ T.out.rd
      rw [HHR.out] at HR
      have HR := Lib.hid HR
      go_wp2_with fail
      refine HR.out.mono ?_
      rintro e' wn ⟨rfl, kn⟩
      have T := Lib.hid (T.out.kept kn)
      clear kn HR
      have HE := endR_c _ _ _ _ T.out.rd
      rw [HH1.out, HH2.out] at HE
      have HE := Lib.hid HE
      go_wp2_with fail
      refine HE.out.mono ?_
      rintro e' w5 ⟨rfl, kn⟩
      have T := Lib.hid (T.out.kept kn)
      clear kn HE
      have HB := Lib.hid (Blk.new w5 47 #[.int .i64 e, .int .i64 0])
      have T := Lib.hid (T.out.kept ((Kept.refl w5).alloc (.cells #[.int .i64 e, .int .i64 0] 47)))
      have HR := restR_c _ _ _ _ T.out.rd
      rw [HHR.out] at HR
      have HR := Lib.hid HR
      go_wp2_with fail
      refine HR.out.mono ?_
      rintro e' w6 ⟨rfl, kn⟩
      have c1 := (HB.out.kept kn).cell 1
      simp at c1
      have T := Lib.hid (T.out.kept kn)
      clear kn HR HB
      go_wp2_with fail
      go_ret
      exact ⟨rfl, HK.out.trans T.out.from⟩

set_option maxRecDepth 100000 in
set_option maxHeartbeats 1600000 in
theorem one_k2 (a : Option Addr) (cap : Nat) (s : ByteArray) (kind : Int) (w : World) (hA : Arg w a cap s.data.toList) (hl : s.size ≤ 60) (hcm : cap ≤ maxLen) (b1 : -9223372036854775808 ≤ kind) (b2 : kind ≤ 9223372036854775807) (hk : kind % 3 = 2) :
    Calls Try.prog 7 #[.slice a s.size cap, .int .i64 kind] w fun e w' => e = .returned (.bool true) ∧ Kept w w' := by
  have HP := Lib.hid (fun w => pick3_c kind w b1 b2)
  rw [hk] at HP
  have hsz := len_data s
  have hS := hA.str
  rw [hsz] at hS
  have HS := Lib.hid (show ∀ w', Kept w w' → (convert 36 9 (.slice a s.size cap)).run Try.prog w' = .ok (.string s) w' from fun w' k => by rw [hS w' k, back])
  have HZ := Lib.hid (show s.size ≤ maxLen by unfold maxLen; omega)
  have HA := Lib.hid hA
  have hl' : (s.size : Int) ≤ 60 := by omega
  unfold maxLen at hcm
  have HSZ := Lib.hid hsz
  clear hS hA hk hsz
  have HLT := Lib.hid (one_word s.data.toList)
  have HWS := Lib.hid (show (⟨(Oct.wordV s.data.toList 60 (0, 0, 0)).toArray⟩ : ByteArray).size ≤ 1099511627776 by have := HLT.out.1; show (Oct.wordV s.data.toList 60 (0, 0, 0)).toArray.size ≤ _; simp; omega)
  go_enter Try.func7, Try.ntmps7
  go_wp2_with fail
  refine (known_c _).mono ?_
  rintro e wk ⟨rfl, kk⟩
  have HK := Lib.hid kk
  clear kk
  go_wp2_with fail
  refine (newR_c _ s _ (HS.out _ HK.out)).mono ?_
  rintro e w1 ⟨rfl, k1, hb1⟩
  have R := Lib.hid (rd_new HZ.out hb1)
  have HK1 := Lib.hid k1
  clear k1 hb1
  go_wp2_with fail
  refine (newW_c 200 _ (by decide) (by decide)).mono ?_
  rintro e w2 ⟨rfl, k2, hw2⟩
  have T := Lib.hid (show Two wk w2 w1.heap.size 200 ([], 0) wk.heap.size s (0, 0, 0) from
    ⟨(· = w1.heap.size), HK1.out.trans k2, hw2, R.out.kept k2, by have := R.out.lt; omega, fun k e => by rw [e]; exact HK1.out.size, Nat.le_refl _⟩)
  clear k2 hw2 R HK1
  go_wp2_with fail
  refine (HP.out _).mono ?_
  rintro e w3 ⟨rfl, rfl⟩
  go_wp2_with fail
  refine (two_rword _ _ _ _ _ _ _ _ 60 T.out).mono ?_
  rintro e wn ⟨rfl, tn⟩
  have T := Lib.hid tn
  clear tn
  go_wp2_with fail
  refine (two_word _ _ _ _ _ _ _ _ _ HWS.out T.out).mono ?_
  rw [show Oct.put 200 ([], 0) (some (⟨(Oct.wordV s.data.toList 60 (0, 0, 0)).toArray⟩ : ByteArray).size) (⟨(Oct.wordV s.data.toList 60 (0, 0, 0)).toArray⟩ : ByteArray).data.toList = (Oct.grp (Oct.wordV s.data.toList 60 (0, 0, 0)).length ++ Oct.wordV s.data.toList 60 (0, 0, 0), 0) from HLT.out.2.1]
  rintro e wn ⟨rfl, tn⟩
  have T := Lib.hid tn
  clear tn
  have hsz := HSZ.out
  clear HSZ
  rcases HLT.out.2.2 with ⟨n, et, n1, n2, n3⟩ | ⟨p, e, et, he⟩
  · rw [et] at T
    have hr : ((Oct.restV s.data.toList (n, 0, 0) : Nat) : Int) = (s.size : Int) - (n : Int) := by rw [rest_at, hsz]; omega
    have HHR := Lib.hid hr
    rw [hsz] at n2
    obtain ⟨x, rfl⟩ : ∃ x, a = some x := by
      cases a with
      | none => have := (HA.out.2.1 rfl).1; rw [this] at hsz; simp at hsz; omega
      | some x => exact ⟨x, rfl⟩
    have HW := Lib.hid (HA.out.2.2 n (by rw [hsz]; exact n2) (by simp))
    rw [n3] at HW
    have e9 : (s.size : Int) - ((s.size : Int) - (n : Int)) = (n : Int) := by omega
    have n1' : 1 ≤ (n : Int) := by omega
    have n2' : (n : Int) ≤ (s.size : Int) := by omega
    have hcap := HA.out.1
    rw [hsz] at hcap
    have HSZ := Lib.hid hsz
    have HET := Lib.hid et
    clear et hr n3 hsz
    by_cases hn : n < s.size
    · have HH1 := Lib.hid (show Oct.endE s.data.toList (n, 0, 0) = 4 from (ende_lt (by rw [HSZ.out]; exact hn)).1)
      have HH2 := Lib.hid (show ((Oct.endA s.data.toList (n, 0, 0) : Nat) : Int) = (n : Int) by rw [(ende_lt (by rw [HSZ.out]; exact hn)).2])
      have hn0 : ((n : Int) == 0) = false := by simp; omega
      have HR := restR_c _ _ _ _ T.out.rd
      rw [HHR.out] at HR
      have HR := Lib.hid HR
      go_wp2_with fail
      refine HR.out.mono ?_
      rintro e' wn ⟨rfl, kn⟩
      have T := Lib.hid (T.out.kept kn)
      clear kn HR
      have HE := endR_c _ _ _ _ T.out.rd
      rw [HH1.out, HH2.out] at HE
      have HE := Lib.hid HE
      go_wp2_with fail
      refine HE.out.mono ?_
      rintro e' w5 ⟨rfl, kn⟩
      have T := Lib.hid (T.out.kept kn)
      clear kn HE
      have T := Lib.hid (T.out.kept ((Kept.refl w5).alloc (.cells #[.int .i64 4, .int .i64 (n : Int)] 47)))
      go_wp2_with fail
      refine (two_has _ _ _ _ _ _ _ _ _ T.out (HW.out.kept (HK.out.trans T.out.from))).mono ?_
      rintro e' w6 ⟨rfl, tn⟩
      have T := Lib.hid tn
      clear tn
      go_wp2_with fail
      go_ret
      exact ⟨rfl, HK.out.trans T.out.from⟩
    · have HH1 := Lib.hid (show Oct.endE s.data.toList (n, 0, 0) = 0 from (ende_eq (by rw [HSZ.out]; exact hn)).1)
      have HH2 := Lib.hid (show ((Oct.endA s.data.toList (n, 0, 0) : Nat) : Int) = 0 by rw [(ende_eq (by rw [HSZ.out]; exact hn)).2]; rfl)
      have HR := restR_c _ _ _ _ T.out.rd
      rw [HHR.out] at HR
      have HR := Lib.hid HR
      go_wp2_with fail
      refine HR.out.mono ?_
      rintro e' wn ⟨rfl, kn⟩
      have T := Lib.hid (T.out.kept kn)
      clear kn HR
      have HE := endR_c _ _ _ _ T.out.rd
      rw [HH1.out, HH2.out] at HE
      have HE := Lib.hid HE
      go_wp2_with fail
      refine HE.out.mono ?_
      rintro e' w5 ⟨rfl, kn⟩
      have T := Lib.hid (T.out.kept kn)
      clear kn HE
      have T := Lib.hid (T.out.kept ((Kept.refl w5).alloc (.cells #[.int .i64 0, .int .i64 0] 47)))
      go_wp2_with fail
      refine (two_has _ _ _ _ _ _ _ _ _ T.out (HW.out.kept (HK.out.trans T.out.from))).mono ?_
      rintro e' w6 ⟨rfl, tn⟩
      have T := Lib.hid tn
      clear tn
      go_wp2_with fail
      go_ret
      exact ⟨rfl, HK.out.trans T.out.from⟩
  · rw [et] at T
    have hr : ((Oct.restV s.data.toList (p, e, 0) : Nat) : Int) = 0 := by rw [rest_e s.data.toList p 0 he]; rfl
    have hE := ende_e s.data.toList p 0 he
    have hA0 : ((Oct.endA s.data.toList (p, e, 0) : Nat) : Int) = 0 := by rw [hE.2]; rfl
    have hE1 := hE.1
    have HHR := Lib.hid hr
    have HH1 := Lib.hid hE1
    have HH2 := Lib.hid hA0
    clear et hr hE hE1 hA0
    have he0 : (e != 0) = true := by simpa using he
    clear he
    by_cases h4 : e = 4
    · subst h4
      clear he0
      have HR := restR_c _ _ _ _ T.out.rd
      rw [HHR.out] at HR
      have HR := Lib.hid HR
      go_wp2_with fail
      refine HR.out.mono ?_
      rintro e' wn ⟨rfl, kn⟩
      have T := Lib.hid (T.out.kept kn)
      clear kn HR
      have HE := endR_c _ _ _ _ T.out.rd
      rw [HH1.out, HH2.out] at HE
      have HE := Lib.hid HE
      go_wp2_with fail
      refine HE.out.mono ?_
      rintro e' w5 ⟨rfl, kn⟩
      have T := Lib.hid (T.out.kept kn)
      clear kn HE
      have HB := Lib.hid (Blk.new w5 47 #[.int .i64 4, .int .i64 0])
      have T := Lib.hid (T.out.kept ((Kept.refl w5).alloc (.cells #[.int .i64 4, .int .i64 0] 47)))
      have HR := restR_c _ _ _ _ T.out.rd
      rw [HHR.out] at HR
      have HR := Lib.hid HR
      go_wp2_with fail
      refine HR.out.mono ?_
      rintro e' w6 ⟨rfl, kn⟩
      have c1 := (HB.out.kept kn).cell 1
      simp at c1
      have T := Lib.hid (T.out.kept kn)
      clear kn HR HB
      go_wp2_with fail
      go_ret
      exact ⟨rfl, HK.out.trans T.out.from⟩
    · have h4' : (e != 4) = true := by simpa using h4
      clear h4
      have HR := restR_c _ _ _ _ T.out.rd
      rw [HHR.out] at HR
      have HR := Lib.hid HR
      go_wp2_with fail
      refine HR.out.mono ?_
      rintro e' wn ⟨rfl, kn⟩
      have T := Lib.hid (T.out.kept kn)
      clear kn HR
      have HE := endR_c _ _ _ _ T.out.rd
      rw [HH1.out, HH2.out] at HE
      have HE := Lib.hid HE
      go_wp2_with fail
      refine HE.out.mono ?_
      rintro e' w5 ⟨rfl, kn⟩
      have T := Lib.hid (T.out.kept kn)
      clear kn HE
      have HB := Lib.hid (Blk.new w5 47 #[.int .i64 e, .int .i64 0])
      have T := Lib.hid (T.out.kept ((Kept.refl w5).alloc (.cells #[.int .i64 e, .int .i64 0] 47)))
      have HR := restR_c _ _ _ _ T.out.rd
      rw [HHR.out] at HR
      have HR := Lib.hid HR
      go_wp2_with fail
      refine HR.out.mono ?_
      rintro e' w6 ⟨rfl, kn⟩
      have c1 := (HB.out.kept kn).cell 1
      simp at c1
      have T := Lib.hid (T.out.kept kn)
      clear kn HR HB
      go_wp2_with fail
      go_ret
      exact ⟨rfl, HK.out.trans T.out.from⟩

end Go.Proofs.Ytfbbhkhingfdeaa
