/- isFormed: a node has nothing that it should not have. -/
import Derived.Test.YtfkmnpgpfmkjaaaGreatDoorz3
import Derived.Test.YtfkmnpgpfmkjaaaGreatDoorz2
import Derived.Recover
import Derived.Defers
set_option linter.unusedSimpArgs false
set_option linter.unusedVariables false
set_option maxRecDepth 100000
namespace Go.Proofs.YtfkmnpgpfmkjaaaGreatDoor
open Go.ChangeShapes Go.WideShapes Go.ChangeAt Go.RowKit

/-- Is Text one that a kind may have? -/
def textB (q : Int) (ws tx : ByteArray) (nn : Int) : Bool :=
  if q = 0 then decide (tx = ⟨#[]⟩) else if q = 5 then hasW ws tx else if q = 6 then decide (tx = ⟨#[]⟩) || (decide (nn = 0) && hasW ws tx) else if q = 7 then contsB tx else true
/-- Has a node nothing else? -/
def restB (tp ms : Int) (fr ty : ByteArray) (nn : Int) : Bool := decide (fr = ⟨#[]⟩) && (decide (tp ≠ 0) || decide (ty = ⟨#[]⟩)) && (decide (0 < ms) || decide (nn = 0))
def formedB (x : Ne) (n : Nd) : Bool := textB x.text x.words n.text n.n && restB x.typ x.most n.frm n.typ n.n

set_option maxHeartbeats 16000000 in
theorem formed_c (nb no b o : Nat) (x : Ne) (n : Nd) (w : World) (hT : Tb w) (hn : NeedAt w nb no x) (hwk : wordsOk x.words) (hd : NdAt w b o n) :
    Calls Tryz.prog 53 #[.pointer (some ⟨nb, no, none⟩), .pointer (some ⟨b, o, none⟩)] w fun e w' => e = .returned (.bool (formedB x n)) ∧ Kept w w' := by
  have HH := Lib.hid (hasW_c nb no x n.text w hT hn hwk)
  obtain ⟨ns, c0, c1, _, c3, _⟩ := hn
  obtain ⟨_, _, ⟨_, d1, d2, d3, d4, _⟩, hok, _⟩ := hd.cells
  have HQ := Lib.hid (conts_c n.text w hok.2.2.1)
  clear hok hd hwk hT
  unfold formedB
  generalize x.text = q at *
  generalize x.typ = tp at *
  generalize x.most = ms at *
  generalize x.words = ws at *
  generalize n.text = tx at *
  generalize n.typ = ty at *
  generalize n.frm = fr at *
  generalize n.n = nn at *
  obtain ⟨V, hV⟩ : ∃ V, (textB q ws tx nn && restB tp ms fr ty nn) = V := ⟨_, rfl⟩
  rw [hV]
  by_cases hq0 : q = 0
  · have bq0 : (q == 0) = true := by simp [hq0]
    by_cases he : tx = ⟨#[]⟩
    · have be : (tx.toList == []) = true := by rw [he]; exact emp_yes
      by_cases hf : fr = ⟨#[]⟩
      · have bf : (fr.toList == []) = true := by rw [hf]; exact emp_yes
        by_cases htp : tp = 0
        · have btp : (tp != 0) = false := by simp [htp]
          by_cases hty : ty = ⟨#[]⟩
          · have bty : (ty.toList == []) = true := by rw [hty]; exact emp_yes
            by_cases hm : 0 < ms
            · have bm : decide (0 < ms) = true := by simp [hm]
              have hv : V = true := by rw [← hV]; simp [textB, restB, hq0, he, hf, htp, hty, hm]
              have HV := Lib.hid hv
              clear hv hV hq0 he hf htp hty
              go_enter Tryz.func53, Tryz.ntmps53
              go_wp2_with fail
              go_ret
              exact ⟨by rw [HV.out]; rfl, Kept.refl _⟩
            · have bm : decide (0 < ms) = false := by simp [hm]
              by_cases hz : nn = 0
              · have bz : (nn == 0) = true := by simp [hz]
                have bz' : (nn != 0) = false := by simp [hz]
                have hv : V = true := by rw [← hV]; simp [textB, restB, hq0, he, hf, htp, hty, hm, hz]
                have HV := Lib.hid hv
                clear hv hV hq0 he hf htp hty hz
                go_enter Tryz.func53, Tryz.ntmps53
                go_wp2_with fail
                go_ret
                exact ⟨by rw [HV.out]; rfl, Kept.refl _⟩
              · have bz : (nn == 0) = false := by simp [hz]
                have bz' : (nn != 0) = true := by simp [hz]
                have hv : V = false := by rw [← hV]; simp [textB, restB, hq0, he, hf, htp, hty, hm, hz]
                have HV := Lib.hid hv
                clear hv hV hq0 he hf htp hty hz
                go_enter Tryz.func53, Tryz.ntmps53
                go_wp2_with fail
                go_ret
                exact ⟨by rw [HV.out]; rfl, Kept.refl _⟩
          · have bty : (ty.toList == []) = false := emp_no hty
            have hv : V = false := by rw [← hV]; simp [textB, restB, hq0, he, hf, htp, hty]
            have HV := Lib.hid hv
            clear hv hV hq0 he hf htp hty
            go_enter Tryz.func53, Tryz.ntmps53
            go_wp2_with fail
            go_ret
            exact ⟨by rw [HV.out]; rfl, Kept.refl _⟩
        · have btp : (tp != 0) = true := by simp [htp]
          by_cases hm : 0 < ms
          · have bm : decide (0 < ms) = true := by simp [hm]
            have hv : V = true := by rw [← hV]; simp [textB, restB, hq0, he, hf, htp, hm]
            have HV := Lib.hid hv
            clear hv hV hq0 he hf htp
            go_enter Tryz.func53, Tryz.ntmps53
            go_wp2_with fail
            go_ret
            exact ⟨by rw [HV.out]; rfl, Kept.refl _⟩
          · have bm : decide (0 < ms) = false := by simp [hm]
            by_cases hz : nn = 0
            · have bz : (nn == 0) = true := by simp [hz]
              have bz' : (nn != 0) = false := by simp [hz]
              have hv : V = true := by rw [← hV]; simp [textB, restB, hq0, he, hf, htp, hm, hz]
              have HV := Lib.hid hv
              clear hv hV hq0 he hf htp hz
              go_enter Tryz.func53, Tryz.ntmps53
              go_wp2_with fail
              go_ret
              exact ⟨by rw [HV.out]; rfl, Kept.refl _⟩
            · have bz : (nn == 0) = false := by simp [hz]
              have bz' : (nn != 0) = true := by simp [hz]
              have hv : V = false := by rw [← hV]; simp [textB, restB, hq0, he, hf, htp, hm, hz]
              have HV := Lib.hid hv
              clear hv hV hq0 he hf htp hz
              go_enter Tryz.func53, Tryz.ntmps53
              go_wp2_with fail
              go_ret
              exact ⟨by rw [HV.out]; rfl, Kept.refl _⟩
      · have bf : (fr.toList == []) = false := emp_no hf
        have hv : V = false := by rw [← hV]; simp [textB, restB, hq0, he, hf]
        have HV := Lib.hid hv
        clear hv hV hq0 he hf
        go_enter Tryz.func53, Tryz.ntmps53
        go_wp2_with fail
        go_ret
        exact ⟨by rw [HV.out]; rfl, Kept.refl _⟩
    · have be : (tx.toList == []) = false := emp_no he
      have hv : V = false := by rw [← hV]; simp [textB, restB, hq0, he]
      have HV := Lib.hid hv
      clear hv hV hq0 he
      go_enter Tryz.func53, Tryz.ntmps53
      go_wp2_with fail
      go_ret
      exact ⟨by rw [HV.out]; rfl, Kept.refl _⟩
  · have bq0 : (q == 0) = false := by simp [hq0]
    by_cases hq5 : q = 5
    · have bq5 : (q == 5) = true := by simp [hq5]
      cases hw : hasW ws tx with
      | false =>
        rw [hw] at HH
        have hv : V = false := by rw [← hV]; simp [textB, restB, hq0, hq5, hw]
        have HV := Lib.hid hv
        clear hv hV hq0 hq5
        clear hw
        go_enter Tryz.func53, Tryz.ntmps53
        go_wp2_with (go_at_call 91; refine HH.out.mono ?_; rintro e w' ⟨rfl, k⟩; have c0 := k.cell c0; have c1 := k.cell c1; have c3 := k.cell c3; have d1 := k.cell d1; have d2 := k.cell d2; have d3 := k.cell d3; have d4 := k.cell d4)
        go_ret
        exact ⟨by rw [HV.out]; rfl, k⟩
      | true =>
        rw [hw] at HH
        by_cases hf : fr = ⟨#[]⟩
        · have bf : (fr.toList == []) = true := by rw [hf]; exact emp_yes
          by_cases htp : tp = 0
          · have btp : (tp != 0) = false := by simp [htp]
            by_cases hty : ty = ⟨#[]⟩
            · have bty : (ty.toList == []) = true := by rw [hty]; exact emp_yes
              by_cases hm : 0 < ms
              · have bm : decide (0 < ms) = true := by simp [hm]
                have hv : V = true := by rw [← hV]; simp [textB, restB, hq0, hq5, hw, hf, htp, hty, hm]
                have HV := Lib.hid hv
                clear hv hV hq0 hq5 hf htp hty
                clear hw
                go_enter Tryz.func53, Tryz.ntmps53
                go_wp2_with (go_at_call 91; refine HH.out.mono ?_; rintro e w' ⟨rfl, k⟩; have c0 := k.cell c0; have c1 := k.cell c1; have c3 := k.cell c3; have d1 := k.cell d1; have d2 := k.cell d2; have d3 := k.cell d3; have d4 := k.cell d4)
                go_ret
                exact ⟨by rw [HV.out]; rfl, k⟩
              · have bm : decide (0 < ms) = false := by simp [hm]
                by_cases hz : nn = 0
                · have bz : (nn == 0) = true := by simp [hz]
                  have bz' : (nn != 0) = false := by simp [hz]
                  have hv : V = true := by rw [← hV]; simp [textB, restB, hq0, hq5, hw, hf, htp, hty, hm, hz]
                  have HV := Lib.hid hv
                  clear hv hV hq0 hq5 hf htp hty hz
                  clear hw
                  go_enter Tryz.func53, Tryz.ntmps53
                  go_wp2_with (go_at_call 91; refine HH.out.mono ?_; rintro e w' ⟨rfl, k⟩; have c0 := k.cell c0; have c1 := k.cell c1; have c3 := k.cell c3; have d1 := k.cell d1; have d2 := k.cell d2; have d3 := k.cell d3; have d4 := k.cell d4)
                  go_ret
                  exact ⟨by rw [HV.out]; rfl, k⟩
                · have bz : (nn == 0) = false := by simp [hz]
                  have bz' : (nn != 0) = true := by simp [hz]
                  have hv : V = false := by rw [← hV]; simp [textB, restB, hq0, hq5, hw, hf, htp, hty, hm, hz]
                  have HV := Lib.hid hv
                  clear hv hV hq0 hq5 hf htp hty hz
                  clear hw
                  go_enter Tryz.func53, Tryz.ntmps53
                  go_wp2_with (go_at_call 91; refine HH.out.mono ?_; rintro e w' ⟨rfl, k⟩; have c0 := k.cell c0; have c1 := k.cell c1; have c3 := k.cell c3; have d1 := k.cell d1; have d2 := k.cell d2; have d3 := k.cell d3; have d4 := k.cell d4)
                  go_ret
                  exact ⟨by rw [HV.out]; rfl, k⟩
            · have bty : (ty.toList == []) = false := emp_no hty
              have hv : V = false := by rw [← hV]; simp [textB, restB, hq0, hq5, hw, hf, htp, hty]
              have HV := Lib.hid hv
              clear hv hV hq0 hq5 hf htp hty
              clear hw
              go_enter Tryz.func53, Tryz.ntmps53
              go_wp2_with (go_at_call 91; refine HH.out.mono ?_; rintro e w' ⟨rfl, k⟩; have c0 := k.cell c0; have c1 := k.cell c1; have c3 := k.cell c3; have d1 := k.cell d1; have d2 := k.cell d2; have d3 := k.cell d3; have d4 := k.cell d4)
              go_ret
              exact ⟨by rw [HV.out]; rfl, k⟩
          · have btp : (tp != 0) = true := by simp [htp]
            by_cases hm : 0 < ms
            · have bm : decide (0 < ms) = true := by simp [hm]
              have hv : V = true := by rw [← hV]; simp [textB, restB, hq0, hq5, hw, hf, htp, hm]
              have HV := Lib.hid hv
              clear hv hV hq0 hq5 hf htp
              clear hw
              go_enter Tryz.func53, Tryz.ntmps53
              go_wp2_with (go_at_call 91; refine HH.out.mono ?_; rintro e w' ⟨rfl, k⟩; have c0 := k.cell c0; have c1 := k.cell c1; have c3 := k.cell c3; have d1 := k.cell d1; have d2 := k.cell d2; have d3 := k.cell d3; have d4 := k.cell d4)
              go_ret
              exact ⟨by rw [HV.out]; rfl, k⟩
            · have bm : decide (0 < ms) = false := by simp [hm]
              by_cases hz : nn = 0
              · have bz : (nn == 0) = true := by simp [hz]
                have bz' : (nn != 0) = false := by simp [hz]
                have hv : V = true := by rw [← hV]; simp [textB, restB, hq0, hq5, hw, hf, htp, hm, hz]
                have HV := Lib.hid hv
                clear hv hV hq0 hq5 hf htp hz
                clear hw
                go_enter Tryz.func53, Tryz.ntmps53
                go_wp2_with (go_at_call 91; refine HH.out.mono ?_; rintro e w' ⟨rfl, k⟩; have c0 := k.cell c0; have c1 := k.cell c1; have c3 := k.cell c3; have d1 := k.cell d1; have d2 := k.cell d2; have d3 := k.cell d3; have d4 := k.cell d4)
                go_ret
                exact ⟨by rw [HV.out]; rfl, k⟩
              · have bz : (nn == 0) = false := by simp [hz]
                have bz' : (nn != 0) = true := by simp [hz]
                have hv : V = false := by rw [← hV]; simp [textB, restB, hq0, hq5, hw, hf, htp, hm, hz]
                have HV := Lib.hid hv
                clear hv hV hq0 hq5 hf htp hz
                clear hw
                go_enter Tryz.func53, Tryz.ntmps53
                go_wp2_with (go_at_call 91; refine HH.out.mono ?_; rintro e w' ⟨rfl, k⟩; have c0 := k.cell c0; have c1 := k.cell c1; have c3 := k.cell c3; have d1 := k.cell d1; have d2 := k.cell d2; have d3 := k.cell d3; have d4 := k.cell d4)
                go_ret
                exact ⟨by rw [HV.out]; rfl, k⟩
        · have bf : (fr.toList == []) = false := emp_no hf
          have hv : V = false := by rw [← hV]; simp [textB, restB, hq0, hq5, hw, hf]
          have HV := Lib.hid hv
          clear hv hV hq0 hq5 hf
          clear hw
          go_enter Tryz.func53, Tryz.ntmps53
          go_wp2_with (go_at_call 91; refine HH.out.mono ?_; rintro e w' ⟨rfl, k⟩; have c0 := k.cell c0; have c1 := k.cell c1; have c3 := k.cell c3; have d1 := k.cell d1; have d2 := k.cell d2; have d3 := k.cell d3; have d4 := k.cell d4)
          go_ret
          exact ⟨by rw [HV.out]; rfl, k⟩
    · have bq5 : (q == 5) = false := by simp [hq5]
      by_cases hq6 : q = 6
      · have bq6 : (q == 6) = true := by simp [hq6]
        by_cases he : tx = ⟨#[]⟩
        · have be : (tx.toList == []) = true := by rw [he]; exact emp_yes
          by_cases hf : fr = ⟨#[]⟩
          · have bf : (fr.toList == []) = true := by rw [hf]; exact emp_yes
            by_cases htp : tp = 0
            · have btp : (tp != 0) = false := by simp [htp]
              by_cases hty : ty = ⟨#[]⟩
              · have bty : (ty.toList == []) = true := by rw [hty]; exact emp_yes
                by_cases hm : 0 < ms
                · have bm : decide (0 < ms) = true := by simp [hm]
                  have hv : V = true := by rw [← hV]; simp [textB, restB, hq0, hq5, hq6, he, hf, htp, hty, hm]
                  have HV := Lib.hid hv
                  clear hv hV hq0 hq5 hq6 he hf htp hty
                  go_enter Tryz.func53, Tryz.ntmps53
                  go_wp2_with fail
                  go_ret
                  exact ⟨by rw [HV.out]; rfl, Kept.refl _⟩
                · have bm : decide (0 < ms) = false := by simp [hm]
                  by_cases hz : nn = 0
                  · have bz : (nn == 0) = true := by simp [hz]
                    have bz' : (nn != 0) = false := by simp [hz]
                    have hv : V = true := by rw [← hV]; simp [textB, restB, hq0, hq5, hq6, he, hf, htp, hty, hm, hz]
                    have HV := Lib.hid hv
                    clear hv hV hq0 hq5 hq6 he hf htp hty hz
                    go_enter Tryz.func53, Tryz.ntmps53
                    go_wp2_with fail
                    go_ret
                    exact ⟨by rw [HV.out]; rfl, Kept.refl _⟩
                  · have bz : (nn == 0) = false := by simp [hz]
                    have bz' : (nn != 0) = true := by simp [hz]
                    have hv : V = false := by rw [← hV]; simp [textB, restB, hq0, hq5, hq6, he, hf, htp, hty, hm, hz]
                    have HV := Lib.hid hv
                    clear hv hV hq0 hq5 hq6 he hf htp hty hz
                    go_enter Tryz.func53, Tryz.ntmps53
                    go_wp2_with fail
                    go_ret
                    exact ⟨by rw [HV.out]; rfl, Kept.refl _⟩
              · have bty : (ty.toList == []) = false := emp_no hty
                have hv : V = false := by rw [← hV]; simp [textB, restB, hq0, hq5, hq6, he, hf, htp, hty]
                have HV := Lib.hid hv
                clear hv hV hq0 hq5 hq6 he hf htp hty
                go_enter Tryz.func53, Tryz.ntmps53
                go_wp2_with fail
                go_ret
                exact ⟨by rw [HV.out]; rfl, Kept.refl _⟩
            · have btp : (tp != 0) = true := by simp [htp]
              by_cases hm : 0 < ms
              · have bm : decide (0 < ms) = true := by simp [hm]
                have hv : V = true := by rw [← hV]; simp [textB, restB, hq0, hq5, hq6, he, hf, htp, hm]
                have HV := Lib.hid hv
                clear hv hV hq0 hq5 hq6 he hf htp
                go_enter Tryz.func53, Tryz.ntmps53
                go_wp2_with fail
                go_ret
                exact ⟨by rw [HV.out]; rfl, Kept.refl _⟩
              · have bm : decide (0 < ms) = false := by simp [hm]
                by_cases hz : nn = 0
                · have bz : (nn == 0) = true := by simp [hz]
                  have bz' : (nn != 0) = false := by simp [hz]
                  have hv : V = true := by rw [← hV]; simp [textB, restB, hq0, hq5, hq6, he, hf, htp, hm, hz]
                  have HV := Lib.hid hv
                  clear hv hV hq0 hq5 hq6 he hf htp hz
                  go_enter Tryz.func53, Tryz.ntmps53
                  go_wp2_with fail
                  go_ret
                  exact ⟨by rw [HV.out]; rfl, Kept.refl _⟩
                · have bz : (nn == 0) = false := by simp [hz]
                  have bz' : (nn != 0) = true := by simp [hz]
                  have hv : V = false := by rw [← hV]; simp [textB, restB, hq0, hq5, hq6, he, hf, htp, hm, hz]
                  have HV := Lib.hid hv
                  clear hv hV hq0 hq5 hq6 he hf htp hz
                  go_enter Tryz.func53, Tryz.ntmps53
                  go_wp2_with fail
                  go_ret
                  exact ⟨by rw [HV.out]; rfl, Kept.refl _⟩
          · have bf : (fr.toList == []) = false := emp_no hf
            have hv : V = false := by rw [← hV]; simp [textB, restB, hq0, hq5, hq6, he, hf]
            have HV := Lib.hid hv
            clear hv hV hq0 hq5 hq6 he hf
            go_enter Tryz.func53, Tryz.ntmps53
            go_wp2_with fail
            go_ret
            exact ⟨by rw [HV.out]; rfl, Kept.refl _⟩
        · have be : (tx.toList == []) = false := emp_no he
          by_cases hz : nn = 0
          · have bz : (nn == 0) = true := by simp [hz]
            have bz' : (nn != 0) = false := by simp [hz]
            cases hw : hasW ws tx with
            | false =>
              rw [hw] at HH
              have hv : V = false := by rw [← hV]; simp [textB, restB, hq0, hq5, hq6, he, hz, hw]
              have HV := Lib.hid hv
              clear hv hV hq0 hq5 hq6 he hz
              clear hw
              go_enter Tryz.func53, Tryz.ntmps53
              go_wp2_with (go_at_call 91; refine HH.out.mono ?_; rintro e w' ⟨rfl, k⟩; have c0 := k.cell c0; have c1 := k.cell c1; have c3 := k.cell c3; have d1 := k.cell d1; have d2 := k.cell d2; have d3 := k.cell d3; have d4 := k.cell d4)
              go_ret
              exact ⟨by rw [HV.out]; rfl, k⟩
            | true =>
              rw [hw] at HH
              by_cases hf : fr = ⟨#[]⟩
              · have bf : (fr.toList == []) = true := by rw [hf]; exact emp_yes
                by_cases htp : tp = 0
                · have btp : (tp != 0) = false := by simp [htp]
                  by_cases hty : ty = ⟨#[]⟩
                  · have bty : (ty.toList == []) = true := by rw [hty]; exact emp_yes
                    by_cases hm : 0 < ms
                    · have bm : decide (0 < ms) = true := by simp [hm]
                      have hv : V = true := by rw [← hV]; simp [textB, restB, hq0, hq5, hq6, he, hz, hw, hf, htp, hty, hm]
                      have HV := Lib.hid hv
                      clear hv hV hq0 hq5 hq6 he hz hf htp hty
                      clear hw
                      go_enter Tryz.func53, Tryz.ntmps53
                      go_wp2_with (go_at_call 91; refine HH.out.mono ?_; rintro e w' ⟨rfl, k⟩; have c0 := k.cell c0; have c1 := k.cell c1; have c3 := k.cell c3; have d1 := k.cell d1; have d2 := k.cell d2; have d3 := k.cell d3; have d4 := k.cell d4)
                      go_ret
                      exact ⟨by rw [HV.out]; rfl, k⟩
                    · have bm : decide (0 < ms) = false := by simp [hm]
                      have hv : V = true := by rw [← hV]; simp [textB, restB, hq0, hq5, hq6, he, hz, hw, hf, htp, hty, hm]
                      have HV := Lib.hid hv
                      clear hv hV hq0 hq5 hq6 he hz hf htp hty
                      clear hw
                      go_enter Tryz.func53, Tryz.ntmps53
                      go_wp2_with (go_at_call 91; refine HH.out.mono ?_; rintro e w' ⟨rfl, k⟩; have c0 := k.cell c0; have c1 := k.cell c1; have c3 := k.cell c3; have d1 := k.cell d1; have d2 := k.cell d2; have d3 := k.cell d3; have d4 := k.cell d4)
                      go_ret
                      exact ⟨by rw [HV.out]; rfl, k⟩
                  · have bty : (ty.toList == []) = false := emp_no hty
                    have hv : V = false := by rw [← hV]; simp [textB, restB, hq0, hq5, hq6, he, hz, hw, hf, htp, hty]
                    have HV := Lib.hid hv
                    clear hv hV hq0 hq5 hq6 he hz hf htp hty
                    clear hw
                    go_enter Tryz.func53, Tryz.ntmps53
                    go_wp2_with (go_at_call 91; refine HH.out.mono ?_; rintro e w' ⟨rfl, k⟩; have c0 := k.cell c0; have c1 := k.cell c1; have c3 := k.cell c3; have d1 := k.cell d1; have d2 := k.cell d2; have d3 := k.cell d3; have d4 := k.cell d4)
                    go_ret
                    exact ⟨by rw [HV.out]; rfl, k⟩
                · have btp : (tp != 0) = true := by simp [htp]
                  by_cases hm : 0 < ms
                  · have bm : decide (0 < ms) = true := by simp [hm]
                    have hv : V = true := by rw [← hV]; simp [textB, restB, hq0, hq5, hq6, he, hz, hw, hf, htp, hm]
                    have HV := Lib.hid hv
                    clear hv hV hq0 hq5 hq6 he hz hf htp
                    clear hw
                    go_enter Tryz.func53, Tryz.ntmps53
                    go_wp2_with (go_at_call 91; refine HH.out.mono ?_; rintro e w' ⟨rfl, k⟩; have c0 := k.cell c0; have c1 := k.cell c1; have c3 := k.cell c3; have d1 := k.cell d1; have d2 := k.cell d2; have d3 := k.cell d3; have d4 := k.cell d4)
                    go_ret
                    exact ⟨by rw [HV.out]; rfl, k⟩
                  · have bm : decide (0 < ms) = false := by simp [hm]
                    have hv : V = true := by rw [← hV]; simp [textB, restB, hq0, hq5, hq6, he, hz, hw, hf, htp, hm]
                    have HV := Lib.hid hv
                    clear hv hV hq0 hq5 hq6 he hz hf htp
                    clear hw
                    go_enter Tryz.func53, Tryz.ntmps53
                    go_wp2_with (go_at_call 91; refine HH.out.mono ?_; rintro e w' ⟨rfl, k⟩; have c0 := k.cell c0; have c1 := k.cell c1; have c3 := k.cell c3; have d1 := k.cell d1; have d2 := k.cell d2; have d3 := k.cell d3; have d4 := k.cell d4)
                    go_ret
                    exact ⟨by rw [HV.out]; rfl, k⟩
              · have bf : (fr.toList == []) = false := emp_no hf
                have hv : V = false := by rw [← hV]; simp [textB, restB, hq0, hq5, hq6, he, hz, hw, hf]
                have HV := Lib.hid hv
                clear hv hV hq0 hq5 hq6 he hz hf
                clear hw
                go_enter Tryz.func53, Tryz.ntmps53
                go_wp2_with (go_at_call 91; refine HH.out.mono ?_; rintro e w' ⟨rfl, k⟩; have c0 := k.cell c0; have c1 := k.cell c1; have c3 := k.cell c3; have d1 := k.cell d1; have d2 := k.cell d2; have d3 := k.cell d3; have d4 := k.cell d4)
                go_ret
                exact ⟨by rw [HV.out]; rfl, k⟩
          · have bz : (nn == 0) = false := by simp [hz]
            have bz' : (nn != 0) = true := by simp [hz]
            have hv : V = false := by rw [← hV]; simp [textB, restB, hq0, hq5, hq6, he, hz]
            have HV := Lib.hid hv
            clear hv hV hq0 hq5 hq6 he hz
            go_enter Tryz.func53, Tryz.ntmps53
            go_wp2_with fail
            go_ret
            exact ⟨by rw [HV.out]; rfl, Kept.refl _⟩
      · have bq6 : (q == 6) = false := by simp [hq6]
        by_cases hq7 : q = 7
        · have bq7 : (q == 7) = true := by simp [hq7]
          cases hw : contsB tx with
          | false =>
            rw [hw] at HQ
            have hv : V = false := by rw [← hV]; simp [textB, restB, hq0, hq5, hq6, hq7, hw]
            have HV := Lib.hid hv
            clear hv hV hq0 hq5 hq6 hq7
            clear hw
            go_enter Tryz.func53, Tryz.ntmps53
            go_wp2_with (go_at_call 92; refine HQ.out.mono ?_; rintro e w' ⟨rfl, rfl⟩)
            go_ret
            exact ⟨by rw [HV.out]; rfl, Kept.refl _⟩
          | true =>
            rw [hw] at HQ
            by_cases hf : fr = ⟨#[]⟩
            · have bf : (fr.toList == []) = true := by rw [hf]; exact emp_yes
              by_cases htp : tp = 0
              · have btp : (tp != 0) = false := by simp [htp]
                by_cases hty : ty = ⟨#[]⟩
                · have bty : (ty.toList == []) = true := by rw [hty]; exact emp_yes
                  by_cases hm : 0 < ms
                  · have bm : decide (0 < ms) = true := by simp [hm]
                    have hv : V = true := by rw [← hV]; simp [textB, restB, hq0, hq5, hq6, hq7, hw, hf, htp, hty, hm]
                    have HV := Lib.hid hv
                    clear hv hV hq0 hq5 hq6 hq7 hf htp hty
                    clear hw
                    go_enter Tryz.func53, Tryz.ntmps53
                    go_wp2_with (go_at_call 92; refine HQ.out.mono ?_; rintro e w' ⟨rfl, rfl⟩)
                    go_ret
                    exact ⟨by rw [HV.out]; rfl, Kept.refl _⟩
                  · have bm : decide (0 < ms) = false := by simp [hm]
                    by_cases hz : nn = 0
                    · have bz : (nn == 0) = true := by simp [hz]
                      have bz' : (nn != 0) = false := by simp [hz]
                      have hv : V = true := by rw [← hV]; simp [textB, restB, hq0, hq5, hq6, hq7, hw, hf, htp, hty, hm, hz]
                      have HV := Lib.hid hv
                      clear hv hV hq0 hq5 hq6 hq7 hf htp hty hz
                      clear hw
                      go_enter Tryz.func53, Tryz.ntmps53
                      go_wp2_with (go_at_call 92; refine HQ.out.mono ?_; rintro e w' ⟨rfl, rfl⟩)
                      go_ret
                      exact ⟨by rw [HV.out]; rfl, Kept.refl _⟩
                    · have bz : (nn == 0) = false := by simp [hz]
                      have bz' : (nn != 0) = true := by simp [hz]
                      have hv : V = false := by rw [← hV]; simp [textB, restB, hq0, hq5, hq6, hq7, hw, hf, htp, hty, hm, hz]
                      have HV := Lib.hid hv
                      clear hv hV hq0 hq5 hq6 hq7 hf htp hty hz
                      clear hw
                      go_enter Tryz.func53, Tryz.ntmps53
                      go_wp2_with (go_at_call 92; refine HQ.out.mono ?_; rintro e w' ⟨rfl, rfl⟩)
                      go_ret
                      exact ⟨by rw [HV.out]; rfl, Kept.refl _⟩
                · have bty : (ty.toList == []) = false := emp_no hty
                  have hv : V = false := by rw [← hV]; simp [textB, restB, hq0, hq5, hq6, hq7, hw, hf, htp, hty]
                  have HV := Lib.hid hv
                  clear hv hV hq0 hq5 hq6 hq7 hf htp hty
                  clear hw
                  go_enter Tryz.func53, Tryz.ntmps53
                  go_wp2_with (go_at_call 92; refine HQ.out.mono ?_; rintro e w' ⟨rfl, rfl⟩)
                  go_ret
                  exact ⟨by rw [HV.out]; rfl, Kept.refl _⟩
              · have btp : (tp != 0) = true := by simp [htp]
                by_cases hm : 0 < ms
                · have bm : decide (0 < ms) = true := by simp [hm]
                  have hv : V = true := by rw [← hV]; simp [textB, restB, hq0, hq5, hq6, hq7, hw, hf, htp, hm]
                  have HV := Lib.hid hv
                  clear hv hV hq0 hq5 hq6 hq7 hf htp
                  clear hw
                  go_enter Tryz.func53, Tryz.ntmps53
                  go_wp2_with (go_at_call 92; refine HQ.out.mono ?_; rintro e w' ⟨rfl, rfl⟩)
                  go_ret
                  exact ⟨by rw [HV.out]; rfl, Kept.refl _⟩
                · have bm : decide (0 < ms) = false := by simp [hm]
                  by_cases hz : nn = 0
                  · have bz : (nn == 0) = true := by simp [hz]
                    have bz' : (nn != 0) = false := by simp [hz]
                    have hv : V = true := by rw [← hV]; simp [textB, restB, hq0, hq5, hq6, hq7, hw, hf, htp, hm, hz]
                    have HV := Lib.hid hv
                    clear hv hV hq0 hq5 hq6 hq7 hf htp hz
                    clear hw
                    go_enter Tryz.func53, Tryz.ntmps53
                    go_wp2_with (go_at_call 92; refine HQ.out.mono ?_; rintro e w' ⟨rfl, rfl⟩)
                    go_ret
                    exact ⟨by rw [HV.out]; rfl, Kept.refl _⟩
                  · have bz : (nn == 0) = false := by simp [hz]
                    have bz' : (nn != 0) = true := by simp [hz]
                    have hv : V = false := by rw [← hV]; simp [textB, restB, hq0, hq5, hq6, hq7, hw, hf, htp, hm, hz]
                    have HV := Lib.hid hv
                    clear hv hV hq0 hq5 hq6 hq7 hf htp hz
                    clear hw
                    go_enter Tryz.func53, Tryz.ntmps53
                    go_wp2_with (go_at_call 92; refine HQ.out.mono ?_; rintro e w' ⟨rfl, rfl⟩)
                    go_ret
                    exact ⟨by rw [HV.out]; rfl, Kept.refl _⟩
            · have bf : (fr.toList == []) = false := emp_no hf
              have hv : V = false := by rw [← hV]; simp [textB, restB, hq0, hq5, hq6, hq7, hw, hf]
              have HV := Lib.hid hv
              clear hv hV hq0 hq5 hq6 hq7 hf
              clear hw
              go_enter Tryz.func53, Tryz.ntmps53
              go_wp2_with (go_at_call 92; refine HQ.out.mono ?_; rintro e w' ⟨rfl, rfl⟩)
              go_ret
              exact ⟨by rw [HV.out]; rfl, Kept.refl _⟩
        · have bq7 : (q == 7) = false := by simp [hq7]
          by_cases hf : fr = ⟨#[]⟩
          · have bf : (fr.toList == []) = true := by rw [hf]; exact emp_yes
            by_cases htp : tp = 0
            · have btp : (tp != 0) = false := by simp [htp]
              by_cases hty : ty = ⟨#[]⟩
              · have bty : (ty.toList == []) = true := by rw [hty]; exact emp_yes
                by_cases hm : 0 < ms
                · have bm : decide (0 < ms) = true := by simp [hm]
                  have hv : V = true := by rw [← hV]; simp [textB, restB, hq0, hq5, hq6, hq7, hf, htp, hty, hm]
                  have HV := Lib.hid hv
                  clear hv hV hq0 hq5 hq6 hq7 hf htp hty
                  go_enter Tryz.func53, Tryz.ntmps53
                  go_wp2_with fail
                  go_ret
                  exact ⟨by rw [HV.out]; rfl, Kept.refl _⟩
                · have bm : decide (0 < ms) = false := by simp [hm]
                  by_cases hz : nn = 0
                  · have bz : (nn == 0) = true := by simp [hz]
                    have bz' : (nn != 0) = false := by simp [hz]
                    have hv : V = true := by rw [← hV]; simp [textB, restB, hq0, hq5, hq6, hq7, hf, htp, hty, hm, hz]
                    have HV := Lib.hid hv
                    clear hv hV hq0 hq5 hq6 hq7 hf htp hty hz
                    go_enter Tryz.func53, Tryz.ntmps53
                    go_wp2_with fail
                    go_ret
                    exact ⟨by rw [HV.out]; rfl, Kept.refl _⟩
                  · have bz : (nn == 0) = false := by simp [hz]
                    have bz' : (nn != 0) = true := by simp [hz]
                    have hv : V = false := by rw [← hV]; simp [textB, restB, hq0, hq5, hq6, hq7, hf, htp, hty, hm, hz]
                    have HV := Lib.hid hv
                    clear hv hV hq0 hq5 hq6 hq7 hf htp hty hz
                    go_enter Tryz.func53, Tryz.ntmps53
                    go_wp2_with fail
                    go_ret
                    exact ⟨by rw [HV.out]; rfl, Kept.refl _⟩
              · have bty : (ty.toList == []) = false := emp_no hty
                have hv : V = false := by rw [← hV]; simp [textB, restB, hq0, hq5, hq6, hq7, hf, htp, hty]
                have HV := Lib.hid hv
                clear hv hV hq0 hq5 hq6 hq7 hf htp hty
                go_enter Tryz.func53, Tryz.ntmps53
                go_wp2_with fail
                go_ret
                exact ⟨by rw [HV.out]; rfl, Kept.refl _⟩
            · have btp : (tp != 0) = true := by simp [htp]
              by_cases hm : 0 < ms
              · have bm : decide (0 < ms) = true := by simp [hm]
                have hv : V = true := by rw [← hV]; simp [textB, restB, hq0, hq5, hq6, hq7, hf, htp, hm]
                have HV := Lib.hid hv
                clear hv hV hq0 hq5 hq6 hq7 hf htp
                go_enter Tryz.func53, Tryz.ntmps53
                go_wp2_with fail
                go_ret
                exact ⟨by rw [HV.out]; rfl, Kept.refl _⟩
              · have bm : decide (0 < ms) = false := by simp [hm]
                by_cases hz : nn = 0
                · have bz : (nn == 0) = true := by simp [hz]
                  have bz' : (nn != 0) = false := by simp [hz]
                  have hv : V = true := by rw [← hV]; simp [textB, restB, hq0, hq5, hq6, hq7, hf, htp, hm, hz]
                  have HV := Lib.hid hv
                  clear hv hV hq0 hq5 hq6 hq7 hf htp hz
                  go_enter Tryz.func53, Tryz.ntmps53
                  go_wp2_with fail
                  go_ret
                  exact ⟨by rw [HV.out]; rfl, Kept.refl _⟩
                · have bz : (nn == 0) = false := by simp [hz]
                  have bz' : (nn != 0) = true := by simp [hz]
                  have hv : V = false := by rw [← hV]; simp [textB, restB, hq0, hq5, hq6, hq7, hf, htp, hm, hz]
                  have HV := Lib.hid hv
                  clear hv hV hq0 hq5 hq6 hq7 hf htp hz
                  go_enter Tryz.func53, Tryz.ntmps53
                  go_wp2_with fail
                  go_ret
                  exact ⟨by rw [HV.out]; rfl, Kept.refl _⟩
          · have bf : (fr.toList == []) = false := emp_no hf
            have hv : V = false := by rw [← hV]; simp [textB, restB, hq0, hq5, hq6, hq7, hf]
            have HV := Lib.hid hv
            clear hv hV hq0 hq5 hq6 hq7 hf
            go_enter Tryz.func53, Tryz.ntmps53
            go_wp2_with fail
            go_ret
            exact ⟨by rw [HV.out]; rfl, Kept.refl _⟩


/-- Why a node is not as a kind requires; why it is not well-formed. -/
def ruleE (nd : Ne) (x : Nd) : Int :=
  if kidsE x.kids nd.kids ≠ 0 then kidsE x.kids nd.kids else if formedB nd x = false then 5 else if namedB nd x = false then 6 else if nd.typ = 4 ∧ Wrd.typ x.typ = false then 7
  else if x.n < 0 ∨ nd.most < x.n then 3 else if nd.text = 7 ∧ 1000 < x.text.size then 4 else 0
def nodeE (x : Nd) : Int := if x.kind < 1 ∨ (needsT.length : Int) ≤ x.kind then 5 else match needsT[x.kind.toNat]? with
  | some nd => ruleE nd x
  | none => 5

theorem needs_okB : (needsT.all fun nd => decide (nd.words.size ≤ 9223372036854775807) && nd.words.data.toList.all (fun c => decide (c.toNat < 128)) && nd.kids.all fun p => decide (0 ≤ p.cnt) && decide (p.cnt ≤ 10000) && decide (0 ≤ p.more) && decide (p.more ≤ 10000)) = true := by decide +kernel
theorem needs_ok {nd : Ne} (h : nd ∈ needsT) : wordsOk nd.words ∧ partsOk nd.kids := by
  have h1 := List.all_eq_true.1 needs_okB nd h
  simp only [Bool.and_eq_true, List.all_eq_true, decide_eq_true_eq] at h1
  exact ⟨h1.1, fun p hp => by have := h1.2 p hp; exact ⟨this.1.1.1, this.1.1.2, this.1.2, this.2⟩⟩

set_option maxHeartbeats 16000000 in
theorem node_c (b o : Nat) (x : Nd) (ta : Option Addr) (tc : Nat) (w : World) (hT : Tb w) (hd : NdAt w b o x) (ht : NeedsR w (.slice ta needsT.length tc) needsT) (hll : x.kids.length ≤ 1000000000000) :
    Calls Tryz.prog 34 #[.pointer (some ⟨b, o, none⟩), .slice ta needsT.length tc] w fun e w' => e = .returned (.int .i64 (nodeE x)) ∧ Kept w w' := by
  obtain ⟨kad, kc, ⟨d0, d1, d2, d3, d4, d5⟩, hok, hkd, _⟩ := hd.cells
  have hlN : 0 < needsT.length := by decide
  by_cases hr : x.kind < 1
  · have HV := Lib.hid (show nodeE x = 5 by unfold nodeE; rw [if_pos (.inl hr)])
    go_enter Tryz.func34, Tryz.ntmps34
    go_wp2_with fail
    go_ret
    exact ⟨by rw [HV.out]; rfl, Kept.refl _⟩
  have hrb : decide (x.kind < 1) = false := decide_eq_false hr
  by_cases hr2 : (needsT.length : Int) ≤ x.kind
  · have HV := Lib.hid (show nodeE x = 5 by unfold nodeE; rw [if_pos (.inr hr2)])
    go_enter Tryz.func34, Tryz.ntmps34
    go_wp2_with fail
    go_ret
    exact ⟨by rw [HV.out]; rfl, Kept.refl _⟩
  obtain ⟨kn, hkn⟩ : ∃ kn : Nat, x.kind = (kn : Int) := ⟨x.kind.toNat, by omega⟩
  have hlt : kn < needsT.length := by omega
  have hnd : needsT[kn]? = some needsT[kn] := List.getElem?_eq_getElem hlt
  have HE := Lib.hid (show nodeE x = ruleE needsT[kn] x by unfold nodeE; rw [if_neg (by omega), hkn, Int.toNat_natCast, hnd])
  obtain ⟨nd, hnde⟩ : ∃ nd, needsT[kn] = nd := ⟨_, rfl⟩
  rw [hnde] at hnd HE
  obtain ⟨hwk, hpk⟩ := needs_ok (List.mem_of_getElem? hnd)
  obtain ⟨_, _, e0, _, _, hat⟩ := ht
  injection e0 with e1 e2 e3
  subst e1 e3
  obtain ⟨tb, to, rfl, hne⟩ := hat kn nd hnd
  obtain ⟨nb, hnb⟩ : ∃ nb, tb = nb := ⟨_, rfl⟩
  obtain ⟨no, hno⟩ : ∃ no, to + kn * 5 = no := ⟨_, rfl⟩
  have HNO := Lib.hid hno
  have HFO := Lib.hid (fun W (k : Kept w W) => formed_c tb (to + kn * 5) b o nd x W (hT.kept k) (hne.kept k) hwk (hd.kept k))
  have HNM := Lib.hid (fun W (k : Kept w W) => named_c tb (to + kn * 5) b o nd x W (hT.kept k) (hne.kept k) (hd.kept k))
  have HTY := Lib.hid (fun W (k : Kept w W) => type_c x.typ W (hT.kept k) (by have := hok.2.2.2.1; unfold maxLen at this; omega))
  obtain ⟨ns, c0, c1, _, c3, c4, hps⟩ := hne
  obtain ⟨pa, pc, rfl, _⟩ := id hps
  have HKK := Lib.hid (fun W (k : Kept w W) => kids_c kad kc x.kids pa pc nd.kids W (KidsD.kept hkd k) (PartsR.kept hps k) hpk hll)
  have hltI : ¬ (needsT.length : Int) ≤ (kn : Int) := by omega
  have hltJ : (kn : Int) < (needsT.length : Int) := by omega
  have hrb2 : decide ((kn : Int) < 1) = false := decide_eq_false (by omega)
  have hts := hok.2.2.1
  have hnl := needsT.length
  unfold maxLen at hts
  rw [hkn] at d0
  clear hat hnde hnd hr hr2 hkn hlt hd hkd hps hT hok hwk hpk hno hnb hrb e2 hlN
  by_cases hk0 : kidsE x.kids nd.kids = 0
  · have HK0 := Lib.hid hk0
    rw [hk0] at HKK
    cases hf : formedB nd x with
    | false =>
      rw [hf] at HFO
      have HV := Lib.hid (show nodeE x = 5 by rw [HE.out]; unfold ruleE; simp [hk0, hf])
      clear hk0 hf
      go_enter Tryz.func34, Tryz.ntmps34
      go_wp2_with fail
      refine wp_region_held_drew (S := (fun W => W.cell? ⟨b, o + 5, none⟩ = some (.slice kad x.kids.length kc) ∧ W.cell? ⟨tb, to + kn * 5 + 4, none⟩ = some (.slice pa nd.kids.length pc) ∧ Kept w W)) (by kernel_rfl) ⟨(Kept.refl w).drew.cell d5, (Kept.refl w).drew.cell c4, (Kept.refl w).drew⟩ (fun hHeld0 => ?_)
      refine wpAnyH_take (i := 0) (v := ?_) rfl (by kernel_rfl) (by kernel_rfl) (by kernel_rfl) (fun _ _ _ h => h) (Or.inl ⟨by kernel_rfl, ?_⟩) (by assumption) ?_
      rotate_left
      · intro w hSw; (try dsimp only at hSw); go_simp; (try with_reducible rfl)
      (try simp only [Act.put, List.getElem_toArray, List.getElem_cons_zero, List.getElem_cons_succ, List.setIfInBounds_toArray, List.set_cons_zero, List.set_cons_succ])
      refine wpAnyH_take (i := 1) (v := ?_) rfl (by kernel_rfl) (by kernel_rfl) (by kernel_rfl) (fun _ _ _ h => h) (Or.inl ⟨by kernel_rfl, ?_⟩) (by assumption) ?_
      rotate_left
      · intro w hSw; (try dsimp only at hSw); go_simp; (try with_reducible rfl)
      (try simp only [Act.put, List.getElem_toArray, List.getElem_cons_zero, List.getElem_cons_succ, List.setIfInBounds_toArray, List.set_cons_zero, List.set_cons_succ])
      refine wpAnyH_take (i := 2) (v := ?_) rfl (by kernel_rfl) (by kernel_rfl) (by kernel_rfl) (fun _ _ _ h => h) (Or.inl ⟨by kernel_rfl, ?_⟩) (by assumption) ?_
      rotate_left
      · intro w hSw; (try dsimp only at hSw); go_simp; (try with_reducible rfl)
      (try simp only [Act.put, List.getElem_toArray, List.getElem_cons_zero, List.getElem_cons_succ, List.setIfInBounds_toArray, List.set_cons_zero, List.set_cons_succ])
      refine wpAnyH_take (i := 3) (v := ?_) rfl (by kernel_rfl) (by kernel_rfl) (by kernel_rfl) (fun _ _ _ h => h) (Or.inl ⟨by kernel_rfl, ?_⟩) (by assumption) ?_
      rotate_left
      · intro w hSw; (try dsimp only at hSw); go_simp; (try with_reducible rfl)
      (try simp only [Act.put, List.getElem_toArray, List.getElem_cons_zero, List.getElem_cons_succ, List.setIfInBounds_toArray, List.set_cons_zero, List.set_cons_succ])
      refine wpAnyH_take (i := 4) (v := ?_) rfl (by kernel_rfl) (by kernel_rfl) (by kernel_rfl) (fun _ _ _ h => h) (Or.inl ⟨by kernel_rfl, ?_⟩) (by assumption) ?_
      rotate_left
      · intro w hSw; (try dsimp only at hSw); go_simp; (try with_reducible rfl)
      (try simp only [Act.put, List.getElem_toArray, List.getElem_cons_zero, List.getElem_cons_succ, List.setIfInBounds_toArray, List.set_cons_zero, List.set_cons_succ])
      refine wpAnyH_take (i := 5) (v := ?_) rfl (by kernel_rfl) (by kernel_rfl) (by kernel_rfl) (fun _ _ _ h => h) (Or.inl ⟨by kernel_rfl, ?_⟩) (by assumption) ?_
      rotate_left
      · intro w hSw; (try dsimp only at hSw); go_simp; (try with_reducible rfl)
      (try simp only [Act.put, List.getElem_toArray, List.getElem_cons_zero, List.getElem_cons_succ, List.setIfInBounds_toArray, List.set_cons_zero, List.set_cons_succ])
      refine wpAnyH_take (i := 6) (v := ?_) rfl (by kernel_rfl) (by kernel_rfl) (by kernel_rfl) (fun _ _ _ h => h) (Or.inl ⟨by kernel_rfl, ?_⟩) (by assumption) ?_
      rotate_left
      · intro w hSw; (try dsimp only at hSw); go_simp; (try with_reducible rfl)
      (try simp only [Act.put, List.getElem_toArray, List.getElem_cons_zero, List.getElem_cons_succ, List.setIfInBounds_toArray, List.set_cons_zero, List.set_cons_succ])
      refine wpAnyH_take (i := 7) (v := ?_) rfl (by kernel_rfl) (by kernel_rfl) (by kernel_rfl) (fun _ _ _ h => h) (Or.inl ⟨by kernel_rfl, ?_⟩) (by assumption) ?_
      rotate_left
      · intro w hSw; (try dsimp only at hSw); go_simp; (try with_reducible rfl)
      (try simp only [Act.put, List.getElem_toArray, List.getElem_cons_zero, List.getElem_cons_succ, List.setIfInBounds_toArray, List.set_cons_zero, List.set_cons_succ])
      refine wpAnyH_ready (rs := [8]) (by kernel_rfl) (by simp) ?_
      refine AllReadyH.cons rfl (fun K hK => ?_) AllReadyH.nil
      go_simp
      go_at_call 52
      refine (HKK.out _ (Kept.refl w).drew).mono ?_
      rintro e w2 ⟨rfl, k2⟩
      have k2 := (Kept.refl w).drew.trans k2
      refine hK.out _ _ ⟨k2.cell d5, k2.cell c4, k2⟩ (fun hHeld1 => ?_)
      clear hK K
      (try simp only [Act.put, List.getElem_toArray, List.getElem_cons_zero, List.getElem_cons_succ, List.setIfInBounds_toArray, List.set_cons_zero, List.set_cons_succ])
      clear hHeld0
      refine wpAnyH_take (i := 9) (v := ?_) rfl (by kernel_rfl) (by kernel_rfl) (by kernel_rfl) (fun _ _ _ h => h) (Or.inl ⟨by kernel_rfl, ?_⟩) (by assumption) ?_
      rotate_left
      · intro w hSw; (try dsimp only at hSw); go_simp; (try with_reducible rfl)
      (try simp only [Act.put, List.getElem_toArray, List.getElem_cons_zero, List.getElem_cons_succ, List.setIfInBounds_toArray, List.set_cons_zero, List.set_cons_succ])
      refine wpAnyH_done (by kernel_rfl) ?_ _
      clear hHeld1
      have d0 := k2.cell d0
      have d1 := k2.cell d1
      have d2 := k2.cell d2
      have d3 := k2.cell d3
      have d4 := k2.cell d4
      have d5 := k2.cell d5
      have c0 := k2.cell c0
      have c1 := k2.cell c1
      have c3 := k2.cell c3
      have c4 := k2.cell c4
      go_wp2_with (first | (go_at_call 53; refine (HFO.out _ k2).mono ?_; rintro e w3 ⟨rfl, k3⟩; have d0 := k3.cell d0; have d1 := k3.cell d1; have d2 := k3.cell d2; have d4 := k3.cell d4; have c0 := k3.cell c0; have c1 := k3.cell c1; have c3 := k3.cell c3; replace k2 := k2.trans k3; clear k3))
      go_ret
      exact ⟨by rw [HV.out]; rfl, k2⟩
    | true =>
      rw [hf] at HFO
      cases hm : namedB nd x with
      | false =>
        rw [hm] at HNM
        have HV := Lib.hid (show nodeE x = 6 by rw [HE.out]; unfold ruleE; simp [hk0, hf, hm])
        clear hk0 hf hm
        go_enter Tryz.func34, Tryz.ntmps34
        go_wp2_with fail
        refine wp_region_held_drew (S := (fun W => W.cell? ⟨b, o + 5, none⟩ = some (.slice kad x.kids.length kc) ∧ W.cell? ⟨tb, to + kn * 5 + 4, none⟩ = some (.slice pa nd.kids.length pc) ∧ Kept w W)) (by kernel_rfl) ⟨(Kept.refl w).drew.cell d5, (Kept.refl w).drew.cell c4, (Kept.refl w).drew⟩ (fun hHeld0 => ?_)
        refine wpAnyH_take (i := 0) (v := ?_) rfl (by kernel_rfl) (by kernel_rfl) (by kernel_rfl) (fun _ _ _ h => h) (Or.inl ⟨by kernel_rfl, ?_⟩) (by assumption) ?_
        rotate_left
        · intro w hSw; (try dsimp only at hSw); go_simp; (try with_reducible rfl)
        (try simp only [Act.put, List.getElem_toArray, List.getElem_cons_zero, List.getElem_cons_succ, List.setIfInBounds_toArray, List.set_cons_zero, List.set_cons_succ])
        refine wpAnyH_take (i := 1) (v := ?_) rfl (by kernel_rfl) (by kernel_rfl) (by kernel_rfl) (fun _ _ _ h => h) (Or.inl ⟨by kernel_rfl, ?_⟩) (by assumption) ?_
        rotate_left
        · intro w hSw; (try dsimp only at hSw); go_simp; (try with_reducible rfl)
        (try simp only [Act.put, List.getElem_toArray, List.getElem_cons_zero, List.getElem_cons_succ, List.setIfInBounds_toArray, List.set_cons_zero, List.set_cons_succ])
        refine wpAnyH_take (i := 2) (v := ?_) rfl (by kernel_rfl) (by kernel_rfl) (by kernel_rfl) (fun _ _ _ h => h) (Or.inl ⟨by kernel_rfl, ?_⟩) (by assumption) ?_
        rotate_left
        · intro w hSw; (try dsimp only at hSw); go_simp; (try with_reducible rfl)
        (try simp only [Act.put, List.getElem_toArray, List.getElem_cons_zero, List.getElem_cons_succ, List.setIfInBounds_toArray, List.set_cons_zero, List.set_cons_succ])
        refine wpAnyH_take (i := 3) (v := ?_) rfl (by kernel_rfl) (by kernel_rfl) (by kernel_rfl) (fun _ _ _ h => h) (Or.inl ⟨by kernel_rfl, ?_⟩) (by assumption) ?_
        rotate_left
        · intro w hSw; (try dsimp only at hSw); go_simp; (try with_reducible rfl)
        (try simp only [Act.put, List.getElem_toArray, List.getElem_cons_zero, List.getElem_cons_succ, List.setIfInBounds_toArray, List.set_cons_zero, List.set_cons_succ])
        refine wpAnyH_take (i := 4) (v := ?_) rfl (by kernel_rfl) (by kernel_rfl) (by kernel_rfl) (fun _ _ _ h => h) (Or.inl ⟨by kernel_rfl, ?_⟩) (by assumption) ?_
        rotate_left
        · intro w hSw; (try dsimp only at hSw); go_simp; (try with_reducible rfl)
        (try simp only [Act.put, List.getElem_toArray, List.getElem_cons_zero, List.getElem_cons_succ, List.setIfInBounds_toArray, List.set_cons_zero, List.set_cons_succ])
        refine wpAnyH_take (i := 5) (v := ?_) rfl (by kernel_rfl) (by kernel_rfl) (by kernel_rfl) (fun _ _ _ h => h) (Or.inl ⟨by kernel_rfl, ?_⟩) (by assumption) ?_
        rotate_left
        · intro w hSw; (try dsimp only at hSw); go_simp; (try with_reducible rfl)
        (try simp only [Act.put, List.getElem_toArray, List.getElem_cons_zero, List.getElem_cons_succ, List.setIfInBounds_toArray, List.set_cons_zero, List.set_cons_succ])
        refine wpAnyH_take (i := 6) (v := ?_) rfl (by kernel_rfl) (by kernel_rfl) (by kernel_rfl) (fun _ _ _ h => h) (Or.inl ⟨by kernel_rfl, ?_⟩) (by assumption) ?_
        rotate_left
        · intro w hSw; (try dsimp only at hSw); go_simp; (try with_reducible rfl)
        (try simp only [Act.put, List.getElem_toArray, List.getElem_cons_zero, List.getElem_cons_succ, List.setIfInBounds_toArray, List.set_cons_zero, List.set_cons_succ])
        refine wpAnyH_take (i := 7) (v := ?_) rfl (by kernel_rfl) (by kernel_rfl) (by kernel_rfl) (fun _ _ _ h => h) (Or.inl ⟨by kernel_rfl, ?_⟩) (by assumption) ?_
        rotate_left
        · intro w hSw; (try dsimp only at hSw); go_simp; (try with_reducible rfl)
        (try simp only [Act.put, List.getElem_toArray, List.getElem_cons_zero, List.getElem_cons_succ, List.setIfInBounds_toArray, List.set_cons_zero, List.set_cons_succ])
        refine wpAnyH_ready (rs := [8]) (by kernel_rfl) (by simp) ?_
        refine AllReadyH.cons rfl (fun K hK => ?_) AllReadyH.nil
        go_simp
        go_at_call 52
        refine (HKK.out _ (Kept.refl w).drew).mono ?_
        rintro e w2 ⟨rfl, k2⟩
        have k2 := (Kept.refl w).drew.trans k2
        refine hK.out _ _ ⟨k2.cell d5, k2.cell c4, k2⟩ (fun hHeld1 => ?_)
        clear hK K
        (try simp only [Act.put, List.getElem_toArray, List.getElem_cons_zero, List.getElem_cons_succ, List.setIfInBounds_toArray, List.set_cons_zero, List.set_cons_succ])
        clear hHeld0
        refine wpAnyH_take (i := 9) (v := ?_) rfl (by kernel_rfl) (by kernel_rfl) (by kernel_rfl) (fun _ _ _ h => h) (Or.inl ⟨by kernel_rfl, ?_⟩) (by assumption) ?_
        rotate_left
        · intro w hSw; (try dsimp only at hSw); go_simp; (try with_reducible rfl)
        (try simp only [Act.put, List.getElem_toArray, List.getElem_cons_zero, List.getElem_cons_succ, List.setIfInBounds_toArray, List.set_cons_zero, List.set_cons_succ])
        refine wpAnyH_done (by kernel_rfl) ?_ _
        clear hHeld1
        have d0 := k2.cell d0
        have d1 := k2.cell d1
        have d2 := k2.cell d2
        have d3 := k2.cell d3
        have d4 := k2.cell d4
        have d5 := k2.cell d5
        have c0 := k2.cell c0
        have c1 := k2.cell c1
        have c3 := k2.cell c3
        have c4 := k2.cell c4
        go_wp2_with (first | (go_at_call 53; refine (HFO.out _ k2).mono ?_; rintro e w3 ⟨rfl, k3⟩; have d0 := k3.cell d0; have d1 := k3.cell d1; have d2 := k3.cell d2; have d4 := k3.cell d4; have c0 := k3.cell c0; have c1 := k3.cell c1; have c3 := k3.cell c3; replace k2 := k2.trans k3; clear k3) | (go_at_call 54; refine (HNM.out _ k2).mono ?_; rintro e w3 ⟨rfl, k3⟩; have d0 := k3.cell d0; have d1 := k3.cell d1; have d2 := k3.cell d2; have d4 := k3.cell d4; have c0 := k3.cell c0; have c1 := k3.cell c1; have c3 := k3.cell c3; replace k2 := k2.trans k3; clear k3))
        go_ret
        exact ⟨by rw [HV.out]; rfl, k2⟩
      | true =>
        rw [hm] at HNM
        by_cases ht4 : nd.typ = 4
        · have htb4 : (nd.typ == 4) = true := by simp [ht4]
          cases hy : Wrd.typ x.typ with
          | false =>
            rw [hy] at HTY
            have HV := Lib.hid (show nodeE x = 7 by rw [HE.out]; unfold ruleE; simp [hk0, hf, hm, ht4, hy])
            clear hk0 hf hm ht4 hy
            go_enter Tryz.func34, Tryz.ntmps34
            go_wp2_with fail
            refine wp_region_held_drew (S := (fun W => W.cell? ⟨b, o + 5, none⟩ = some (.slice kad x.kids.length kc) ∧ W.cell? ⟨tb, to + kn * 5 + 4, none⟩ = some (.slice pa nd.kids.length pc) ∧ Kept w W)) (by kernel_rfl) ⟨(Kept.refl w).drew.cell d5, (Kept.refl w).drew.cell c4, (Kept.refl w).drew⟩ (fun hHeld0 => ?_)
            refine wpAnyH_take (i := 0) (v := ?_) rfl (by kernel_rfl) (by kernel_rfl) (by kernel_rfl) (fun _ _ _ h => h) (Or.inl ⟨by kernel_rfl, ?_⟩) (by assumption) ?_
            rotate_left
            · intro w hSw; (try dsimp only at hSw); go_simp; (try with_reducible rfl)
            (try simp only [Act.put, List.getElem_toArray, List.getElem_cons_zero, List.getElem_cons_succ, List.setIfInBounds_toArray, List.set_cons_zero, List.set_cons_succ])
            refine wpAnyH_take (i := 1) (v := ?_) rfl (by kernel_rfl) (by kernel_rfl) (by kernel_rfl) (fun _ _ _ h => h) (Or.inl ⟨by kernel_rfl, ?_⟩) (by assumption) ?_
            rotate_left
            · intro w hSw; (try dsimp only at hSw); go_simp; (try with_reducible rfl)
            (try simp only [Act.put, List.getElem_toArray, List.getElem_cons_zero, List.getElem_cons_succ, List.setIfInBounds_toArray, List.set_cons_zero, List.set_cons_succ])
            refine wpAnyH_take (i := 2) (v := ?_) rfl (by kernel_rfl) (by kernel_rfl) (by kernel_rfl) (fun _ _ _ h => h) (Or.inl ⟨by kernel_rfl, ?_⟩) (by assumption) ?_
            rotate_left
            · intro w hSw; (try dsimp only at hSw); go_simp; (try with_reducible rfl)
            (try simp only [Act.put, List.getElem_toArray, List.getElem_cons_zero, List.getElem_cons_succ, List.setIfInBounds_toArray, List.set_cons_zero, List.set_cons_succ])
            refine wpAnyH_take (i := 3) (v := ?_) rfl (by kernel_rfl) (by kernel_rfl) (by kernel_rfl) (fun _ _ _ h => h) (Or.inl ⟨by kernel_rfl, ?_⟩) (by assumption) ?_
            rotate_left
            · intro w hSw; (try dsimp only at hSw); go_simp; (try with_reducible rfl)
            (try simp only [Act.put, List.getElem_toArray, List.getElem_cons_zero, List.getElem_cons_succ, List.setIfInBounds_toArray, List.set_cons_zero, List.set_cons_succ])
            refine wpAnyH_take (i := 4) (v := ?_) rfl (by kernel_rfl) (by kernel_rfl) (by kernel_rfl) (fun _ _ _ h => h) (Or.inl ⟨by kernel_rfl, ?_⟩) (by assumption) ?_
            rotate_left
            · intro w hSw; (try dsimp only at hSw); go_simp; (try with_reducible rfl)
            (try simp only [Act.put, List.getElem_toArray, List.getElem_cons_zero, List.getElem_cons_succ, List.setIfInBounds_toArray, List.set_cons_zero, List.set_cons_succ])
            refine wpAnyH_take (i := 5) (v := ?_) rfl (by kernel_rfl) (by kernel_rfl) (by kernel_rfl) (fun _ _ _ h => h) (Or.inl ⟨by kernel_rfl, ?_⟩) (by assumption) ?_
            rotate_left
            · intro w hSw; (try dsimp only at hSw); go_simp; (try with_reducible rfl)
            (try simp only [Act.put, List.getElem_toArray, List.getElem_cons_zero, List.getElem_cons_succ, List.setIfInBounds_toArray, List.set_cons_zero, List.set_cons_succ])
            refine wpAnyH_take (i := 6) (v := ?_) rfl (by kernel_rfl) (by kernel_rfl) (by kernel_rfl) (fun _ _ _ h => h) (Or.inl ⟨by kernel_rfl, ?_⟩) (by assumption) ?_
            rotate_left
            · intro w hSw; (try dsimp only at hSw); go_simp; (try with_reducible rfl)
            (try simp only [Act.put, List.getElem_toArray, List.getElem_cons_zero, List.getElem_cons_succ, List.setIfInBounds_toArray, List.set_cons_zero, List.set_cons_succ])
            refine wpAnyH_take (i := 7) (v := ?_) rfl (by kernel_rfl) (by kernel_rfl) (by kernel_rfl) (fun _ _ _ h => h) (Or.inl ⟨by kernel_rfl, ?_⟩) (by assumption) ?_
            rotate_left
            · intro w hSw; (try dsimp only at hSw); go_simp; (try with_reducible rfl)
            (try simp only [Act.put, List.getElem_toArray, List.getElem_cons_zero, List.getElem_cons_succ, List.setIfInBounds_toArray, List.set_cons_zero, List.set_cons_succ])
            refine wpAnyH_ready (rs := [8]) (by kernel_rfl) (by simp) ?_
            refine AllReadyH.cons rfl (fun K hK => ?_) AllReadyH.nil
            go_simp
            go_at_call 52
            refine (HKK.out _ (Kept.refl w).drew).mono ?_
            rintro e w2 ⟨rfl, k2⟩
            have k2 := (Kept.refl w).drew.trans k2
            refine hK.out _ _ ⟨k2.cell d5, k2.cell c4, k2⟩ (fun hHeld1 => ?_)
            clear hK K
            (try simp only [Act.put, List.getElem_toArray, List.getElem_cons_zero, List.getElem_cons_succ, List.setIfInBounds_toArray, List.set_cons_zero, List.set_cons_succ])
            clear hHeld0
            refine wpAnyH_take (i := 9) (v := ?_) rfl (by kernel_rfl) (by kernel_rfl) (by kernel_rfl) (fun _ _ _ h => h) (Or.inl ⟨by kernel_rfl, ?_⟩) (by assumption) ?_
            rotate_left
            · intro w hSw; (try dsimp only at hSw); go_simp; (try with_reducible rfl)
            (try simp only [Act.put, List.getElem_toArray, List.getElem_cons_zero, List.getElem_cons_succ, List.setIfInBounds_toArray, List.set_cons_zero, List.set_cons_succ])
            refine wpAnyH_done (by kernel_rfl) ?_ _
            clear hHeld1
            have d0 := k2.cell d0
            have d1 := k2.cell d1
            have d2 := k2.cell d2
            have d3 := k2.cell d3
            have d4 := k2.cell d4
            have d5 := k2.cell d5
            have c0 := k2.cell c0
            have c1 := k2.cell c1
            have c3 := k2.cell c3
            have c4 := k2.cell c4
            go_wp2_with (first | (go_at_call 53; refine (HFO.out _ k2).mono ?_; rintro e w3 ⟨rfl, k3⟩; have d0 := k3.cell d0; have d1 := k3.cell d1; have d2 := k3.cell d2; have d4 := k3.cell d4; have c0 := k3.cell c0; have c1 := k3.cell c1; have c3 := k3.cell c3; replace k2 := k2.trans k3; clear k3) | (go_at_call 54; refine (HNM.out _ k2).mono ?_; rintro e w3 ⟨rfl, k3⟩; have d0 := k3.cell d0; have d1 := k3.cell d1; have d2 := k3.cell d2; have d4 := k3.cell d4; have c0 := k3.cell c0; have c1 := k3.cell c1; have c3 := k3.cell c3; replace k2 := k2.trans k3; clear k3) | (go_at_call 55; refine (HTY.out _ k2).mono ?_; rintro e w3 ⟨rfl, k3⟩; have d0 := k3.cell d0; have d1 := k3.cell d1; have d2 := k3.cell d2; have d4 := k3.cell d4; have c0 := k3.cell c0; have c1 := k3.cell c1; have c3 := k3.cell c3; replace k2 := k2.trans k3; clear k3))
            go_ret
            exact ⟨by rw [HV.out]; rfl, k2⟩
          | true =>
            rw [hy] at HTY
            by_cases hn0 : x.n < 0
            · have hnb0 : decide (x.n < 0) = true := decide_eq_true hn0
              have HV := Lib.hid (show nodeE x = 3 by rw [HE.out]; unfold ruleE; simp [hk0, hf, hm, ht4, hy, hn0])
              clear hk0 hf hm ht4 hy hn0
              go_enter Tryz.func34, Tryz.ntmps34
              go_wp2_with fail
              refine wp_region_held_drew (S := (fun W => W.cell? ⟨b, o + 5, none⟩ = some (.slice kad x.kids.length kc) ∧ W.cell? ⟨tb, to + kn * 5 + 4, none⟩ = some (.slice pa nd.kids.length pc) ∧ Kept w W)) (by kernel_rfl) ⟨(Kept.refl w).drew.cell d5, (Kept.refl w).drew.cell c4, (Kept.refl w).drew⟩ (fun hHeld0 => ?_)
              refine wpAnyH_take (i := 0) (v := ?_) rfl (by kernel_rfl) (by kernel_rfl) (by kernel_rfl) (fun _ _ _ h => h) (Or.inl ⟨by kernel_rfl, ?_⟩) (by assumption) ?_
              rotate_left
              · intro w hSw; (try dsimp only at hSw); go_simp; (try with_reducible rfl)
              (try simp only [Act.put, List.getElem_toArray, List.getElem_cons_zero, List.getElem_cons_succ, List.setIfInBounds_toArray, List.set_cons_zero, List.set_cons_succ])
              refine wpAnyH_take (i := 1) (v := ?_) rfl (by kernel_rfl) (by kernel_rfl) (by kernel_rfl) (fun _ _ _ h => h) (Or.inl ⟨by kernel_rfl, ?_⟩) (by assumption) ?_
              rotate_left
              · intro w hSw; (try dsimp only at hSw); go_simp; (try with_reducible rfl)
              (try simp only [Act.put, List.getElem_toArray, List.getElem_cons_zero, List.getElem_cons_succ, List.setIfInBounds_toArray, List.set_cons_zero, List.set_cons_succ])
              refine wpAnyH_take (i := 2) (v := ?_) rfl (by kernel_rfl) (by kernel_rfl) (by kernel_rfl) (fun _ _ _ h => h) (Or.inl ⟨by kernel_rfl, ?_⟩) (by assumption) ?_
              rotate_left
              · intro w hSw; (try dsimp only at hSw); go_simp; (try with_reducible rfl)
              (try simp only [Act.put, List.getElem_toArray, List.getElem_cons_zero, List.getElem_cons_succ, List.setIfInBounds_toArray, List.set_cons_zero, List.set_cons_succ])
              refine wpAnyH_take (i := 3) (v := ?_) rfl (by kernel_rfl) (by kernel_rfl) (by kernel_rfl) (fun _ _ _ h => h) (Or.inl ⟨by kernel_rfl, ?_⟩) (by assumption) ?_
              rotate_left
              · intro w hSw; (try dsimp only at hSw); go_simp; (try with_reducible rfl)
              (try simp only [Act.put, List.getElem_toArray, List.getElem_cons_zero, List.getElem_cons_succ, List.setIfInBounds_toArray, List.set_cons_zero, List.set_cons_succ])
              refine wpAnyH_take (i := 4) (v := ?_) rfl (by kernel_rfl) (by kernel_rfl) (by kernel_rfl) (fun _ _ _ h => h) (Or.inl ⟨by kernel_rfl, ?_⟩) (by assumption) ?_
              rotate_left
              · intro w hSw; (try dsimp only at hSw); go_simp; (try with_reducible rfl)
              (try simp only [Act.put, List.getElem_toArray, List.getElem_cons_zero, List.getElem_cons_succ, List.setIfInBounds_toArray, List.set_cons_zero, List.set_cons_succ])
              refine wpAnyH_take (i := 5) (v := ?_) rfl (by kernel_rfl) (by kernel_rfl) (by kernel_rfl) (fun _ _ _ h => h) (Or.inl ⟨by kernel_rfl, ?_⟩) (by assumption) ?_
              rotate_left
              · intro w hSw; (try dsimp only at hSw); go_simp; (try with_reducible rfl)
              (try simp only [Act.put, List.getElem_toArray, List.getElem_cons_zero, List.getElem_cons_succ, List.setIfInBounds_toArray, List.set_cons_zero, List.set_cons_succ])
              refine wpAnyH_take (i := 6) (v := ?_) rfl (by kernel_rfl) (by kernel_rfl) (by kernel_rfl) (fun _ _ _ h => h) (Or.inl ⟨by kernel_rfl, ?_⟩) (by assumption) ?_
              rotate_left
              · intro w hSw; (try dsimp only at hSw); go_simp; (try with_reducible rfl)
              (try simp only [Act.put, List.getElem_toArray, List.getElem_cons_zero, List.getElem_cons_succ, List.setIfInBounds_toArray, List.set_cons_zero, List.set_cons_succ])
              refine wpAnyH_take (i := 7) (v := ?_) rfl (by kernel_rfl) (by kernel_rfl) (by kernel_rfl) (fun _ _ _ h => h) (Or.inl ⟨by kernel_rfl, ?_⟩) (by assumption) ?_
              rotate_left
              · intro w hSw; (try dsimp only at hSw); go_simp; (try with_reducible rfl)
              (try simp only [Act.put, List.getElem_toArray, List.getElem_cons_zero, List.getElem_cons_succ, List.setIfInBounds_toArray, List.set_cons_zero, List.set_cons_succ])
              refine wpAnyH_ready (rs := [8]) (by kernel_rfl) (by simp) ?_
              refine AllReadyH.cons rfl (fun K hK => ?_) AllReadyH.nil
              go_simp
              go_at_call 52
              refine (HKK.out _ (Kept.refl w).drew).mono ?_
              rintro e w2 ⟨rfl, k2⟩
              have k2 := (Kept.refl w).drew.trans k2
              refine hK.out _ _ ⟨k2.cell d5, k2.cell c4, k2⟩ (fun hHeld1 => ?_)
              clear hK K
              (try simp only [Act.put, List.getElem_toArray, List.getElem_cons_zero, List.getElem_cons_succ, List.setIfInBounds_toArray, List.set_cons_zero, List.set_cons_succ])
              clear hHeld0
              refine wpAnyH_take (i := 9) (v := ?_) rfl (by kernel_rfl) (by kernel_rfl) (by kernel_rfl) (fun _ _ _ h => h) (Or.inl ⟨by kernel_rfl, ?_⟩) (by assumption) ?_
              rotate_left
              · intro w hSw; (try dsimp only at hSw); go_simp; (try with_reducible rfl)
              (try simp only [Act.put, List.getElem_toArray, List.getElem_cons_zero, List.getElem_cons_succ, List.setIfInBounds_toArray, List.set_cons_zero, List.set_cons_succ])
              refine wpAnyH_done (by kernel_rfl) ?_ _
              clear hHeld1
              have d0 := k2.cell d0
              have d1 := k2.cell d1
              have d2 := k2.cell d2
              have d3 := k2.cell d3
              have d4 := k2.cell d4
              have d5 := k2.cell d5
              have c0 := k2.cell c0
              have c1 := k2.cell c1
              have c3 := k2.cell c3
              have c4 := k2.cell c4
              go_wp2_with (first | (go_at_call 53; refine (HFO.out _ k2).mono ?_; rintro e w3 ⟨rfl, k3⟩; have d0 := k3.cell d0; have d1 := k3.cell d1; have d2 := k3.cell d2; have d4 := k3.cell d4; have c0 := k3.cell c0; have c1 := k3.cell c1; have c3 := k3.cell c3; replace k2 := k2.trans k3; clear k3) | (go_at_call 54; refine (HNM.out _ k2).mono ?_; rintro e w3 ⟨rfl, k3⟩; have d0 := k3.cell d0; have d1 := k3.cell d1; have d2 := k3.cell d2; have d4 := k3.cell d4; have c0 := k3.cell c0; have c1 := k3.cell c1; have c3 := k3.cell c3; replace k2 := k2.trans k3; clear k3) | (go_at_call 55; refine (HTY.out _ k2).mono ?_; rintro e w3 ⟨rfl, k3⟩; have d0 := k3.cell d0; have d1 := k3.cell d1; have d2 := k3.cell d2; have d4 := k3.cell d4; have c0 := k3.cell c0; have c1 := k3.cell c1; have c3 := k3.cell c3; replace k2 := k2.trans k3; clear k3))
              refine wp_region_held_drew (S := (fun W => W.cell? ⟨b, o + 4, none⟩ = some (.int .i64 x.n) ∧ W.cell? ⟨tb, to + kn * 5 + 3, none⟩ = some (.int .i64 nd.most) ∧ Kept w W)) (by kernel_rfl) ⟨(Kept.refl _).drew.cell d4, (Kept.refl _).drew.cell c3, k2.drew⟩ (fun hHeld0 => ?_)
              refine wpAnyH_take (i := 0) (v := ?_) rfl (by kernel_rfl) (by kernel_rfl) (by kernel_rfl) (fun _ _ _ h => h) (Or.inl ⟨by kernel_rfl, ?_⟩) (by assumption) ?_
              rotate_left
              · intro w hSw; (try dsimp only at hSw); go_simp; (try with_reducible rfl)
              (try simp only [Act.put, List.getElem_toArray, List.getElem_cons_zero, List.getElem_cons_succ, List.setIfInBounds_toArray, List.set_cons_zero, List.set_cons_succ])
              refine wpAnyH_take (i := 1) (v := ?_) rfl (by kernel_rfl) (by kernel_rfl) (by kernel_rfl) (fun _ _ _ h => h) (Or.inl ⟨by kernel_rfl, ?_⟩) (by assumption) ?_
              rotate_left
              · intro w hSw; (try dsimp only at hSw); go_simp; (try with_reducible rfl)
              (try simp only [Act.put, List.getElem_toArray, List.getElem_cons_zero, List.getElem_cons_succ, List.setIfInBounds_toArray, List.set_cons_zero, List.set_cons_succ])
              refine wpAnyH_take (i := 2) (v := ?_) rfl (by kernel_rfl) (by kernel_rfl) (by kernel_rfl) (fun _ _ _ h => h) (Or.inl ⟨by kernel_rfl, ?_⟩) (by assumption) ?_
              rotate_left
              · intro w hSw; (try dsimp only at hSw); go_simp; (try with_reducible rfl)
              (try simp only [Act.put, List.getElem_toArray, List.getElem_cons_zero, List.getElem_cons_succ, List.setIfInBounds_toArray, List.set_cons_zero, List.set_cons_succ])
              refine wpAnyH_take (i := 3) (v := ?_) rfl (by kernel_rfl) (by kernel_rfl) (by kernel_rfl) (fun _ _ _ h => h) (Or.inl ⟨by kernel_rfl, ?_⟩) (by assumption) ?_
              rotate_left
              · intro w hSw; (try dsimp only at hSw); go_simp; (try with_reducible rfl)
              (try simp only [Act.put, List.getElem_toArray, List.getElem_cons_zero, List.getElem_cons_succ, List.setIfInBounds_toArray, List.set_cons_zero, List.set_cons_succ])
              refine wpAnyH_take (i := 4) (v := ?_) rfl (by kernel_rfl) (by kernel_rfl) (by kernel_rfl) (fun _ _ _ h => h) (Or.inl ⟨by kernel_rfl, ?_⟩) (by assumption) ?_
              rotate_left
              · intro w hSw; (try dsimp only at hSw); go_simp; (try with_reducible rfl)
              (try simp only [Act.put, List.getElem_toArray, List.getElem_cons_zero, List.getElem_cons_succ, List.setIfInBounds_toArray, List.set_cons_zero, List.set_cons_succ])
              refine wpAnyH_take (i := 5) (v := ?_) rfl (by kernel_rfl) (by kernel_rfl) (by kernel_rfl) (fun _ _ _ h => h) (Or.inl ⟨by kernel_rfl, ?_⟩) (by assumption) ?_
              rotate_left
              · intro w hSw; (try dsimp only at hSw); go_simp; (try with_reducible rfl)
              (try simp only [Act.put, List.getElem_toArray, List.getElem_cons_zero, List.getElem_cons_succ, List.setIfInBounds_toArray, List.set_cons_zero, List.set_cons_succ])
              refine wpAnyH_take (i := 6) (v := undef) rfl (by kernel_rfl) (by kernel_rfl) (by kernel_rfl) (fun _ _ _ h => h) (Or.inr ⟨by kernel_rfl, rfl⟩) (by assumption) ?_
              (try simp only [Act.put, List.getElem_toArray, List.getElem_cons_zero, List.getElem_cons_succ, List.setIfInBounds_toArray, List.set_cons_zero, List.set_cons_succ])
              refine wpAnyH_take (i := 7) (v := undef) rfl (by kernel_rfl) (by kernel_rfl) (by kernel_rfl) (fun _ _ _ h => h) (Or.inr ⟨by kernel_rfl, rfl⟩) (by assumption) ?_
              (try simp only [Act.put, List.getElem_toArray, List.getElem_cons_zero, List.getElem_cons_succ, List.setIfInBounds_toArray, List.set_cons_zero, List.set_cons_succ])
              refine wpAnyH_take (i := 8) (v := undef) rfl (by kernel_rfl) (by kernel_rfl) (by kernel_rfl) (fun _ _ _ h => h) (Or.inr ⟨by kernel_rfl, rfl⟩) (by assumption) ?_
              (try simp only [Act.put, List.getElem_toArray, List.getElem_cons_zero, List.getElem_cons_succ, List.setIfInBounds_toArray, List.set_cons_zero, List.set_cons_succ])
              refine wpAnyH_take (i := 9) (v := undef) rfl (by kernel_rfl) (by kernel_rfl) (by kernel_rfl) (fun _ _ _ h => h) (Or.inr ⟨by kernel_rfl, rfl⟩) (by assumption) ?_
              (try simp only [Act.put, List.getElem_toArray, List.getElem_cons_zero, List.getElem_cons_succ, List.setIfInBounds_toArray, List.set_cons_zero, List.set_cons_succ])
              refine wpAnyH_take (i := 10) (v := undef) rfl (by kernel_rfl) (by kernel_rfl) (by kernel_rfl) (fun _ _ _ h => h) (Or.inr ⟨by kernel_rfl, rfl⟩) (by assumption) ?_
              (try simp only [Act.put, List.getElem_toArray, List.getElem_cons_zero, List.getElem_cons_succ, List.setIfInBounds_toArray, List.set_cons_zero, List.set_cons_succ])
              refine wpAnyH_take (i := 11) (v := undef) rfl (by kernel_rfl) (by kernel_rfl) (by kernel_rfl) (fun _ _ _ h => h) (Or.inr ⟨by kernel_rfl, rfl⟩) (by assumption) ?_
              (try simp only [Act.put, List.getElem_toArray, List.getElem_cons_zero, List.getElem_cons_succ, List.setIfInBounds_toArray, List.set_cons_zero, List.set_cons_succ])
              refine wpAnyH_take (i := 12) (v := undef) rfl (by kernel_rfl) (by kernel_rfl) (by kernel_rfl) (fun _ _ _ h => h) (Or.inr ⟨by kernel_rfl, rfl⟩) (by assumption) ?_
              (try simp only [Act.put, List.getElem_toArray, List.getElem_cons_zero, List.getElem_cons_succ, List.setIfInBounds_toArray, List.set_cons_zero, List.set_cons_succ])
              refine wpAnyH_take (i := 13) (v := undef) rfl (by kernel_rfl) (by kernel_rfl) (by kernel_rfl) (fun _ _ _ h => h) (Or.inr ⟨by kernel_rfl, rfl⟩) (by assumption) ?_
              (try simp only [Act.put, List.getElem_toArray, List.getElem_cons_zero, List.getElem_cons_succ, List.setIfInBounds_toArray, List.set_cons_zero, List.set_cons_succ])
              refine wpAnyH_take (i := 14) (v := undef) rfl (by kernel_rfl) (by kernel_rfl) (by kernel_rfl) (fun _ _ _ h => h) (Or.inr ⟨by kernel_rfl, rfl⟩) (by assumption) ?_
              (try simp only [Act.put, List.getElem_toArray, List.getElem_cons_zero, List.getElem_cons_succ, List.setIfInBounds_toArray, List.set_cons_zero, List.set_cons_succ])
              refine wpAnyH_take (i := 15) (v := ?_) rfl (by kernel_rfl) (by kernel_rfl) (by kernel_rfl) (fun _ _ _ h => h) (Or.inl ⟨by kernel_rfl, ?_⟩) (by assumption) ?_
              rotate_left
              · intro w hSw; (try dsimp only at hSw); go_simp; (try with_reducible rfl)
              (try simp only [Act.put, List.getElem_toArray, List.getElem_cons_zero, List.getElem_cons_succ, List.setIfInBounds_toArray, List.set_cons_zero, List.set_cons_succ])
              refine wpAnyH_take (i := 16) (v := ?_) rfl (by kernel_rfl) (by kernel_rfl) (by kernel_rfl) (fun _ _ _ h => h) (Or.inl ⟨by kernel_rfl, ?_⟩) (by assumption) ?_
              rotate_left
              · intro w hSw; (try dsimp only at hSw); go_simp; (try with_reducible rfl)
              (try simp only [Act.put, List.getElem_toArray, List.getElem_cons_zero, List.getElem_cons_succ, List.setIfInBounds_toArray, List.set_cons_zero, List.set_cons_succ])
              refine wpAnyH_done (by kernel_rfl) ?_ _
              clear hHeld0
              replace k2 := k2.drew
              go_wp2_with fail
              go_ret
              exact ⟨by rw [HV.out]; rfl, k2⟩
            have hnb0 : decide (x.n < 0) = false := decide_eq_false hn0
            by_cases hn1 : nd.most < x.n
            · have hnb1 : decide (nd.most < x.n) = true := decide_eq_true hn1
              have HV := Lib.hid (show nodeE x = 3 by rw [HE.out]; unfold ruleE; simp [hk0, hf, hm, ht4, hy, hn0, hn1])
              clear hk0 hf hm ht4 hy hn0 hn1
              go_enter Tryz.func34, Tryz.ntmps34
              go_wp2_with fail
              refine wp_region_held_drew (S := (fun W => W.cell? ⟨b, o + 5, none⟩ = some (.slice kad x.kids.length kc) ∧ W.cell? ⟨tb, to + kn * 5 + 4, none⟩ = some (.slice pa nd.kids.length pc) ∧ Kept w W)) (by kernel_rfl) ⟨(Kept.refl w).drew.cell d5, (Kept.refl w).drew.cell c4, (Kept.refl w).drew⟩ (fun hHeld0 => ?_)
              refine wpAnyH_take (i := 0) (v := ?_) rfl (by kernel_rfl) (by kernel_rfl) (by kernel_rfl) (fun _ _ _ h => h) (Or.inl ⟨by kernel_rfl, ?_⟩) (by assumption) ?_
              rotate_left
              · intro w hSw; (try dsimp only at hSw); go_simp; (try with_reducible rfl)
              (try simp only [Act.put, List.getElem_toArray, List.getElem_cons_zero, List.getElem_cons_succ, List.setIfInBounds_toArray, List.set_cons_zero, List.set_cons_succ])
              refine wpAnyH_take (i := 1) (v := ?_) rfl (by kernel_rfl) (by kernel_rfl) (by kernel_rfl) (fun _ _ _ h => h) (Or.inl ⟨by kernel_rfl, ?_⟩) (by assumption) ?_
              rotate_left
              · intro w hSw; (try dsimp only at hSw); go_simp; (try with_reducible rfl)
              (try simp only [Act.put, List.getElem_toArray, List.getElem_cons_zero, List.getElem_cons_succ, List.setIfInBounds_toArray, List.set_cons_zero, List.set_cons_succ])
              refine wpAnyH_take (i := 2) (v := ?_) rfl (by kernel_rfl) (by kernel_rfl) (by kernel_rfl) (fun _ _ _ h => h) (Or.inl ⟨by kernel_rfl, ?_⟩) (by assumption) ?_
              rotate_left
              · intro w hSw; (try dsimp only at hSw); go_simp; (try with_reducible rfl)
              (try simp only [Act.put, List.getElem_toArray, List.getElem_cons_zero, List.getElem_cons_succ, List.setIfInBounds_toArray, List.set_cons_zero, List.set_cons_succ])
              refine wpAnyH_take (i := 3) (v := ?_) rfl (by kernel_rfl) (by kernel_rfl) (by kernel_rfl) (fun _ _ _ h => h) (Or.inl ⟨by kernel_rfl, ?_⟩) (by assumption) ?_
              rotate_left
              · intro w hSw; (try dsimp only at hSw); go_simp; (try with_reducible rfl)
              (try simp only [Act.put, List.getElem_toArray, List.getElem_cons_zero, List.getElem_cons_succ, List.setIfInBounds_toArray, List.set_cons_zero, List.set_cons_succ])
              refine wpAnyH_take (i := 4) (v := ?_) rfl (by kernel_rfl) (by kernel_rfl) (by kernel_rfl) (fun _ _ _ h => h) (Or.inl ⟨by kernel_rfl, ?_⟩) (by assumption) ?_
              rotate_left
              · intro w hSw; (try dsimp only at hSw); go_simp; (try with_reducible rfl)
              (try simp only [Act.put, List.getElem_toArray, List.getElem_cons_zero, List.getElem_cons_succ, List.setIfInBounds_toArray, List.set_cons_zero, List.set_cons_succ])
              refine wpAnyH_take (i := 5) (v := ?_) rfl (by kernel_rfl) (by kernel_rfl) (by kernel_rfl) (fun _ _ _ h => h) (Or.inl ⟨by kernel_rfl, ?_⟩) (by assumption) ?_
              rotate_left
              · intro w hSw; (try dsimp only at hSw); go_simp; (try with_reducible rfl)
              (try simp only [Act.put, List.getElem_toArray, List.getElem_cons_zero, List.getElem_cons_succ, List.setIfInBounds_toArray, List.set_cons_zero, List.set_cons_succ])
              refine wpAnyH_take (i := 6) (v := ?_) rfl (by kernel_rfl) (by kernel_rfl) (by kernel_rfl) (fun _ _ _ h => h) (Or.inl ⟨by kernel_rfl, ?_⟩) (by assumption) ?_
              rotate_left
              · intro w hSw; (try dsimp only at hSw); go_simp; (try with_reducible rfl)
              (try simp only [Act.put, List.getElem_toArray, List.getElem_cons_zero, List.getElem_cons_succ, List.setIfInBounds_toArray, List.set_cons_zero, List.set_cons_succ])
              refine wpAnyH_take (i := 7) (v := ?_) rfl (by kernel_rfl) (by kernel_rfl) (by kernel_rfl) (fun _ _ _ h => h) (Or.inl ⟨by kernel_rfl, ?_⟩) (by assumption) ?_
              rotate_left
              · intro w hSw; (try dsimp only at hSw); go_simp; (try with_reducible rfl)
              (try simp only [Act.put, List.getElem_toArray, List.getElem_cons_zero, List.getElem_cons_succ, List.setIfInBounds_toArray, List.set_cons_zero, List.set_cons_succ])
              refine wpAnyH_ready (rs := [8]) (by kernel_rfl) (by simp) ?_
              refine AllReadyH.cons rfl (fun K hK => ?_) AllReadyH.nil
              go_simp
              go_at_call 52
              refine (HKK.out _ (Kept.refl w).drew).mono ?_
              rintro e w2 ⟨rfl, k2⟩
              have k2 := (Kept.refl w).drew.trans k2
              refine hK.out _ _ ⟨k2.cell d5, k2.cell c4, k2⟩ (fun hHeld1 => ?_)
              clear hK K
              (try simp only [Act.put, List.getElem_toArray, List.getElem_cons_zero, List.getElem_cons_succ, List.setIfInBounds_toArray, List.set_cons_zero, List.set_cons_succ])
              clear hHeld0
              refine wpAnyH_take (i := 9) (v := ?_) rfl (by kernel_rfl) (by kernel_rfl) (by kernel_rfl) (fun _ _ _ h => h) (Or.inl ⟨by kernel_rfl, ?_⟩) (by assumption) ?_
              rotate_left
              · intro w hSw; (try dsimp only at hSw); go_simp; (try with_reducible rfl)
              (try simp only [Act.put, List.getElem_toArray, List.getElem_cons_zero, List.getElem_cons_succ, List.setIfInBounds_toArray, List.set_cons_zero, List.set_cons_succ])
              refine wpAnyH_done (by kernel_rfl) ?_ _
              clear hHeld1
              have d0 := k2.cell d0
              have d1 := k2.cell d1
              have d2 := k2.cell d2
              have d3 := k2.cell d3
              have d4 := k2.cell d4
              have d5 := k2.cell d5
              have c0 := k2.cell c0
              have c1 := k2.cell c1
              have c3 := k2.cell c3
              have c4 := k2.cell c4
              go_wp2_with (first | (go_at_call 53; refine (HFO.out _ k2).mono ?_; rintro e w3 ⟨rfl, k3⟩; have d0 := k3.cell d0; have d1 := k3.cell d1; have d2 := k3.cell d2; have d4 := k3.cell d4; have c0 := k3.cell c0; have c1 := k3.cell c1; have c3 := k3.cell c3; replace k2 := k2.trans k3; clear k3) | (go_at_call 54; refine (HNM.out _ k2).mono ?_; rintro e w3 ⟨rfl, k3⟩; have d0 := k3.cell d0; have d1 := k3.cell d1; have d2 := k3.cell d2; have d4 := k3.cell d4; have c0 := k3.cell c0; have c1 := k3.cell c1; have c3 := k3.cell c3; replace k2 := k2.trans k3; clear k3) | (go_at_call 55; refine (HTY.out _ k2).mono ?_; rintro e w3 ⟨rfl, k3⟩; have d0 := k3.cell d0; have d1 := k3.cell d1; have d2 := k3.cell d2; have d4 := k3.cell d4; have c0 := k3.cell c0; have c1 := k3.cell c1; have c3 := k3.cell c3; replace k2 := k2.trans k3; clear k3))
              refine wp_region_held_drew (S := (fun W => W.cell? ⟨b, o + 4, none⟩ = some (.int .i64 x.n) ∧ W.cell? ⟨tb, to + kn * 5 + 3, none⟩ = some (.int .i64 nd.most) ∧ Kept w W)) (by kernel_rfl) ⟨(Kept.refl _).drew.cell d4, (Kept.refl _).drew.cell c3, k2.drew⟩ (fun hHeld0 => ?_)
              refine wpAnyH_take (i := 0) (v := ?_) rfl (by kernel_rfl) (by kernel_rfl) (by kernel_rfl) (fun _ _ _ h => h) (Or.inl ⟨by kernel_rfl, ?_⟩) (by assumption) ?_
              rotate_left
              · intro w hSw; (try dsimp only at hSw); go_simp; (try with_reducible rfl)
              (try simp only [Act.put, List.getElem_toArray, List.getElem_cons_zero, List.getElem_cons_succ, List.setIfInBounds_toArray, List.set_cons_zero, List.set_cons_succ])
              refine wpAnyH_take (i := 1) (v := ?_) rfl (by kernel_rfl) (by kernel_rfl) (by kernel_rfl) (fun _ _ _ h => h) (Or.inl ⟨by kernel_rfl, ?_⟩) (by assumption) ?_
              rotate_left
              · intro w hSw; (try dsimp only at hSw); go_simp; (try with_reducible rfl)
              (try simp only [Act.put, List.getElem_toArray, List.getElem_cons_zero, List.getElem_cons_succ, List.setIfInBounds_toArray, List.set_cons_zero, List.set_cons_succ])
              refine wpAnyH_take (i := 2) (v := ?_) rfl (by kernel_rfl) (by kernel_rfl) (by kernel_rfl) (fun _ _ _ h => h) (Or.inl ⟨by kernel_rfl, ?_⟩) (by assumption) ?_
              rotate_left
              · intro w hSw; (try dsimp only at hSw); go_simp; (try with_reducible rfl)
              (try simp only [Act.put, List.getElem_toArray, List.getElem_cons_zero, List.getElem_cons_succ, List.setIfInBounds_toArray, List.set_cons_zero, List.set_cons_succ])
              refine wpAnyH_take (i := 3) (v := ?_) rfl (by kernel_rfl) (by kernel_rfl) (by kernel_rfl) (fun _ _ _ h => h) (Or.inl ⟨by kernel_rfl, ?_⟩) (by assumption) ?_
              rotate_left
              · intro w hSw; (try dsimp only at hSw); go_simp; (try with_reducible rfl)
              (try simp only [Act.put, List.getElem_toArray, List.getElem_cons_zero, List.getElem_cons_succ, List.setIfInBounds_toArray, List.set_cons_zero, List.set_cons_succ])
              refine wpAnyH_take (i := 4) (v := ?_) rfl (by kernel_rfl) (by kernel_rfl) (by kernel_rfl) (fun _ _ _ h => h) (Or.inl ⟨by kernel_rfl, ?_⟩) (by assumption) ?_
              rotate_left
              · intro w hSw; (try dsimp only at hSw); go_simp; (try with_reducible rfl)
              (try simp only [Act.put, List.getElem_toArray, List.getElem_cons_zero, List.getElem_cons_succ, List.setIfInBounds_toArray, List.set_cons_zero, List.set_cons_succ])
              refine wpAnyH_take (i := 5) (v := ?_) rfl (by kernel_rfl) (by kernel_rfl) (by kernel_rfl) (fun _ _ _ h => h) (Or.inl ⟨by kernel_rfl, ?_⟩) (by assumption) ?_
              rotate_left
              · intro w hSw; (try dsimp only at hSw); go_simp; (try with_reducible rfl)
              (try simp only [Act.put, List.getElem_toArray, List.getElem_cons_zero, List.getElem_cons_succ, List.setIfInBounds_toArray, List.set_cons_zero, List.set_cons_succ])
              refine wpAnyH_take (i := 6) (v := ?_) rfl (by kernel_rfl) (by kernel_rfl) (by kernel_rfl) (fun _ _ _ h => h) (Or.inl ⟨by kernel_rfl, ?_⟩) (by assumption) ?_
              rotate_left
              · intro w hSw; (try dsimp only at hSw); go_simp; (try with_reducible rfl)
              (try simp only [Act.put, List.getElem_toArray, List.getElem_cons_zero, List.getElem_cons_succ, List.setIfInBounds_toArray, List.set_cons_zero, List.set_cons_succ])
              refine wpAnyH_take (i := 7) (v := ?_) rfl (by kernel_rfl) (by kernel_rfl) (by kernel_rfl) (fun _ _ _ h => h) (Or.inl ⟨by kernel_rfl, ?_⟩) (by assumption) ?_
              rotate_left
              · intro w hSw; (try dsimp only at hSw); go_simp; (try with_reducible rfl)
              (try simp only [Act.put, List.getElem_toArray, List.getElem_cons_zero, List.getElem_cons_succ, List.setIfInBounds_toArray, List.set_cons_zero, List.set_cons_succ])
              refine wpAnyH_take (i := 8) (v := ?_) rfl (by kernel_rfl) (by kernel_rfl) (by kernel_rfl) (fun _ _ _ h => h) (Or.inl ⟨by kernel_rfl, ?_⟩) (by assumption) ?_
              rotate_left
              · intro w hSw; (try dsimp only at hSw); go_simp; (try with_reducible rfl)
              (try simp only [Act.put, List.getElem_toArray, List.getElem_cons_zero, List.getElem_cons_succ, List.setIfInBounds_toArray, List.set_cons_zero, List.set_cons_succ])
              refine wpAnyH_take (i := 9) (v := ?_) rfl (by kernel_rfl) (by kernel_rfl) (by kernel_rfl) (fun _ _ _ h => h) (Or.inl ⟨by kernel_rfl, ?_⟩) (by assumption) ?_
              rotate_left
              · intro w hSw; (try dsimp only at hSw); go_simp; (try with_reducible rfl)
              (try simp only [Act.put, List.getElem_toArray, List.getElem_cons_zero, List.getElem_cons_succ, List.setIfInBounds_toArray, List.set_cons_zero, List.set_cons_succ])
              refine wpAnyH_take (i := 10) (v := ?_) rfl (by kernel_rfl) (by kernel_rfl) (by kernel_rfl) (fun _ _ _ h => h) (Or.inl ⟨by kernel_rfl, ?_⟩) (by assumption) ?_
              rotate_left
              · intro w hSw; (try dsimp only at hSw); go_simp; (try with_reducible rfl)
              (try simp only [Act.put, List.getElem_toArray, List.getElem_cons_zero, List.getElem_cons_succ, List.setIfInBounds_toArray, List.set_cons_zero, List.set_cons_succ])
              refine wpAnyH_take (i := 11) (v := ?_) rfl (by kernel_rfl) (by kernel_rfl) (by kernel_rfl) (fun _ _ _ h => h) (Or.inl ⟨by kernel_rfl, ?_⟩) (by assumption) ?_
              rotate_left
              · intro w hSw; (try dsimp only at hSw); go_simp; (try with_reducible rfl)
              (try simp only [Act.put, List.getElem_toArray, List.getElem_cons_zero, List.getElem_cons_succ, List.setIfInBounds_toArray, List.set_cons_zero, List.set_cons_succ])
              refine wpAnyH_take (i := 12) (v := ?_) rfl (by kernel_rfl) (by kernel_rfl) (by kernel_rfl) (fun _ _ _ h => h) (Or.inl ⟨by kernel_rfl, ?_⟩) (by assumption) ?_
              rotate_left
              · intro w hSw; (try dsimp only at hSw); go_simp; (try with_reducible rfl)
              (try simp only [Act.put, List.getElem_toArray, List.getElem_cons_zero, List.getElem_cons_succ, List.setIfInBounds_toArray, List.set_cons_zero, List.set_cons_succ])
              refine wpAnyH_take (i := 13) (v := ?_) rfl (by kernel_rfl) (by kernel_rfl) (by kernel_rfl) (fun _ _ _ h => h) (Or.inl ⟨by kernel_rfl, ?_⟩) (by assumption) ?_
              rotate_left
              · intro w hSw; (try dsimp only at hSw); go_simp; (try with_reducible rfl)
              (try simp only [Act.put, List.getElem_toArray, List.getElem_cons_zero, List.getElem_cons_succ, List.setIfInBounds_toArray, List.set_cons_zero, List.set_cons_succ])
              refine wpAnyH_take (i := 14) (v := ?_) rfl (by kernel_rfl) (by kernel_rfl) (by kernel_rfl) (fun _ _ _ h => h) (Or.inl ⟨by kernel_rfl, ?_⟩) (by assumption) ?_
              rotate_left
              · intro w hSw; (try dsimp only at hSw); go_simp; (try with_reducible rfl)
              (try simp only [Act.put, List.getElem_toArray, List.getElem_cons_zero, List.getElem_cons_succ, List.setIfInBounds_toArray, List.set_cons_zero, List.set_cons_succ])
              refine wpAnyH_take (i := 15) (v := ?_) rfl (by kernel_rfl) (by kernel_rfl) (by kernel_rfl) (fun _ _ _ h => h) (Or.inl ⟨by kernel_rfl, ?_⟩) (by assumption) ?_
              rotate_left
              · intro w hSw; (try dsimp only at hSw); go_simp; (try with_reducible rfl)
              (try simp only [Act.put, List.getElem_toArray, List.getElem_cons_zero, List.getElem_cons_succ, List.setIfInBounds_toArray, List.set_cons_zero, List.set_cons_succ])
              refine wpAnyH_take (i := 16) (v := ?_) rfl (by kernel_rfl) (by kernel_rfl) (by kernel_rfl) (fun _ _ _ h => h) (Or.inl ⟨by kernel_rfl, ?_⟩) (by assumption) ?_
              rotate_left
              · intro w hSw; (try dsimp only at hSw); go_simp; (try with_reducible rfl)
              (try simp only [Act.put, List.getElem_toArray, List.getElem_cons_zero, List.getElem_cons_succ, List.setIfInBounds_toArray, List.set_cons_zero, List.set_cons_succ])
              refine wpAnyH_done (by kernel_rfl) ?_ _
              clear hHeld0
              replace k2 := k2.drew
              go_wp2_with fail
              go_ret
              exact ⟨by rw [HV.out]; rfl, k2⟩
            have hnb1 : decide (nd.most < x.n) = false := decide_eq_false hn1
            by_cases ht7 : nd.text = 7
            · have htb7 : (nd.text == 7) = true := by simp [ht7]
              by_cases hsz : 1000 < x.text.size
              · have hszI : decide ((1000 : Int) < (x.text.size : Int)) = true := decide_eq_true (by omega)
                have HV := Lib.hid (show nodeE x = 4 by rw [HE.out]; unfold ruleE; simp [hk0, hf, hm, ht4, hy, hn0, hn1, ht7, hsz])
                clear hk0 hf hm ht4 hy hn0 hn1 ht7 hsz
                go_enter Tryz.func34, Tryz.ntmps34
                go_wp2_with fail
                refine wp_region_held_drew (S := (fun W => W.cell? ⟨b, o + 5, none⟩ = some (.slice kad x.kids.length kc) ∧ W.cell? ⟨tb, to + kn * 5 + 4, none⟩ = some (.slice pa nd.kids.length pc) ∧ Kept w W)) (by kernel_rfl) ⟨(Kept.refl w).drew.cell d5, (Kept.refl w).drew.cell c4, (Kept.refl w).drew⟩ (fun hHeld0 => ?_)
                refine wpAnyH_take (i := 0) (v := ?_) rfl (by kernel_rfl) (by kernel_rfl) (by kernel_rfl) (fun _ _ _ h => h) (Or.inl ⟨by kernel_rfl, ?_⟩) (by assumption) ?_
                rotate_left
                · intro w hSw; (try dsimp only at hSw); go_simp; (try with_reducible rfl)
                (try simp only [Act.put, List.getElem_toArray, List.getElem_cons_zero, List.getElem_cons_succ, List.setIfInBounds_toArray, List.set_cons_zero, List.set_cons_succ])
                refine wpAnyH_take (i := 1) (v := ?_) rfl (by kernel_rfl) (by kernel_rfl) (by kernel_rfl) (fun _ _ _ h => h) (Or.inl ⟨by kernel_rfl, ?_⟩) (by assumption) ?_
                rotate_left
                · intro w hSw; (try dsimp only at hSw); go_simp; (try with_reducible rfl)
                (try simp only [Act.put, List.getElem_toArray, List.getElem_cons_zero, List.getElem_cons_succ, List.setIfInBounds_toArray, List.set_cons_zero, List.set_cons_succ])
                refine wpAnyH_take (i := 2) (v := ?_) rfl (by kernel_rfl) (by kernel_rfl) (by kernel_rfl) (fun _ _ _ h => h) (Or.inl ⟨by kernel_rfl, ?_⟩) (by assumption) ?_
                rotate_left
                · intro w hSw; (try dsimp only at hSw); go_simp; (try with_reducible rfl)
                (try simp only [Act.put, List.getElem_toArray, List.getElem_cons_zero, List.getElem_cons_succ, List.setIfInBounds_toArray, List.set_cons_zero, List.set_cons_succ])
                refine wpAnyH_take (i := 3) (v := ?_) rfl (by kernel_rfl) (by kernel_rfl) (by kernel_rfl) (fun _ _ _ h => h) (Or.inl ⟨by kernel_rfl, ?_⟩) (by assumption) ?_
                rotate_left
                · intro w hSw; (try dsimp only at hSw); go_simp; (try with_reducible rfl)
                (try simp only [Act.put, List.getElem_toArray, List.getElem_cons_zero, List.getElem_cons_succ, List.setIfInBounds_toArray, List.set_cons_zero, List.set_cons_succ])
                refine wpAnyH_take (i := 4) (v := ?_) rfl (by kernel_rfl) (by kernel_rfl) (by kernel_rfl) (fun _ _ _ h => h) (Or.inl ⟨by kernel_rfl, ?_⟩) (by assumption) ?_
                rotate_left
                · intro w hSw; (try dsimp only at hSw); go_simp; (try with_reducible rfl)
                (try simp only [Act.put, List.getElem_toArray, List.getElem_cons_zero, List.getElem_cons_succ, List.setIfInBounds_toArray, List.set_cons_zero, List.set_cons_succ])
                refine wpAnyH_take (i := 5) (v := ?_) rfl (by kernel_rfl) (by kernel_rfl) (by kernel_rfl) (fun _ _ _ h => h) (Or.inl ⟨by kernel_rfl, ?_⟩) (by assumption) ?_
                rotate_left
                · intro w hSw; (try dsimp only at hSw); go_simp; (try with_reducible rfl)
                (try simp only [Act.put, List.getElem_toArray, List.getElem_cons_zero, List.getElem_cons_succ, List.setIfInBounds_toArray, List.set_cons_zero, List.set_cons_succ])
                refine wpAnyH_take (i := 6) (v := ?_) rfl (by kernel_rfl) (by kernel_rfl) (by kernel_rfl) (fun _ _ _ h => h) (Or.inl ⟨by kernel_rfl, ?_⟩) (by assumption) ?_
                rotate_left
                · intro w hSw; (try dsimp only at hSw); go_simp; (try with_reducible rfl)
                (try simp only [Act.put, List.getElem_toArray, List.getElem_cons_zero, List.getElem_cons_succ, List.setIfInBounds_toArray, List.set_cons_zero, List.set_cons_succ])
                refine wpAnyH_take (i := 7) (v := ?_) rfl (by kernel_rfl) (by kernel_rfl) (by kernel_rfl) (fun _ _ _ h => h) (Or.inl ⟨by kernel_rfl, ?_⟩) (by assumption) ?_
                rotate_left
                · intro w hSw; (try dsimp only at hSw); go_simp; (try with_reducible rfl)
                (try simp only [Act.put, List.getElem_toArray, List.getElem_cons_zero, List.getElem_cons_succ, List.setIfInBounds_toArray, List.set_cons_zero, List.set_cons_succ])
                refine wpAnyH_ready (rs := [8]) (by kernel_rfl) (by simp) ?_
                refine AllReadyH.cons rfl (fun K hK => ?_) AllReadyH.nil
                go_simp
                go_at_call 52
                refine (HKK.out _ (Kept.refl w).drew).mono ?_
                rintro e w2 ⟨rfl, k2⟩
                have k2 := (Kept.refl w).drew.trans k2
                refine hK.out _ _ ⟨k2.cell d5, k2.cell c4, k2⟩ (fun hHeld1 => ?_)
                clear hK K
                (try simp only [Act.put, List.getElem_toArray, List.getElem_cons_zero, List.getElem_cons_succ, List.setIfInBounds_toArray, List.set_cons_zero, List.set_cons_succ])
                clear hHeld0
                refine wpAnyH_take (i := 9) (v := ?_) rfl (by kernel_rfl) (by kernel_rfl) (by kernel_rfl) (fun _ _ _ h => h) (Or.inl ⟨by kernel_rfl, ?_⟩) (by assumption) ?_
                rotate_left
                · intro w hSw; (try dsimp only at hSw); go_simp; (try with_reducible rfl)
                (try simp only [Act.put, List.getElem_toArray, List.getElem_cons_zero, List.getElem_cons_succ, List.setIfInBounds_toArray, List.set_cons_zero, List.set_cons_succ])
                refine wpAnyH_done (by kernel_rfl) ?_ _
                clear hHeld1
                have d0 := k2.cell d0
                have d1 := k2.cell d1
                have d2 := k2.cell d2
                have d3 := k2.cell d3
                have d4 := k2.cell d4
                have d5 := k2.cell d5
                have c0 := k2.cell c0
                have c1 := k2.cell c1
                have c3 := k2.cell c3
                have c4 := k2.cell c4
                go_wp2_with (first | (go_at_call 53; refine (HFO.out _ k2).mono ?_; rintro e w3 ⟨rfl, k3⟩; have d0 := k3.cell d0; have d1 := k3.cell d1; have d2 := k3.cell d2; have d4 := k3.cell d4; have c0 := k3.cell c0; have c1 := k3.cell c1; have c3 := k3.cell c3; replace k2 := k2.trans k3; clear k3) | (go_at_call 54; refine (HNM.out _ k2).mono ?_; rintro e w3 ⟨rfl, k3⟩; have d0 := k3.cell d0; have d1 := k3.cell d1; have d2 := k3.cell d2; have d4 := k3.cell d4; have c0 := k3.cell c0; have c1 := k3.cell c1; have c3 := k3.cell c3; replace k2 := k2.trans k3; clear k3) | (go_at_call 55; refine (HTY.out _ k2).mono ?_; rintro e w3 ⟨rfl, k3⟩; have d0 := k3.cell d0; have d1 := k3.cell d1; have d2 := k3.cell d2; have d4 := k3.cell d4; have c0 := k3.cell c0; have c1 := k3.cell c1; have c3 := k3.cell c3; replace k2 := k2.trans k3; clear k3))
                refine wp_region_held_drew (S := (fun W => W.cell? ⟨b, o + 4, none⟩ = some (.int .i64 x.n) ∧ W.cell? ⟨tb, to + kn * 5 + 3, none⟩ = some (.int .i64 nd.most) ∧ Kept w W)) (by kernel_rfl) ⟨(Kept.refl _).drew.cell d4, (Kept.refl _).drew.cell c3, k2.drew⟩ (fun hHeld0 => ?_)
                refine wpAnyH_take (i := 0) (v := ?_) rfl (by kernel_rfl) (by kernel_rfl) (by kernel_rfl) (fun _ _ _ h => h) (Or.inl ⟨by kernel_rfl, ?_⟩) (by assumption) ?_
                rotate_left
                · intro w hSw; (try dsimp only at hSw); go_simp; (try with_reducible rfl)
                (try simp only [Act.put, List.getElem_toArray, List.getElem_cons_zero, List.getElem_cons_succ, List.setIfInBounds_toArray, List.set_cons_zero, List.set_cons_succ])
                refine wpAnyH_take (i := 1) (v := ?_) rfl (by kernel_rfl) (by kernel_rfl) (by kernel_rfl) (fun _ _ _ h => h) (Or.inl ⟨by kernel_rfl, ?_⟩) (by assumption) ?_
                rotate_left
                · intro w hSw; (try dsimp only at hSw); go_simp; (try with_reducible rfl)
                (try simp only [Act.put, List.getElem_toArray, List.getElem_cons_zero, List.getElem_cons_succ, List.setIfInBounds_toArray, List.set_cons_zero, List.set_cons_succ])
                refine wpAnyH_take (i := 2) (v := ?_) rfl (by kernel_rfl) (by kernel_rfl) (by kernel_rfl) (fun _ _ _ h => h) (Or.inl ⟨by kernel_rfl, ?_⟩) (by assumption) ?_
                rotate_left
                · intro w hSw; (try dsimp only at hSw); go_simp; (try with_reducible rfl)
                (try simp only [Act.put, List.getElem_toArray, List.getElem_cons_zero, List.getElem_cons_succ, List.setIfInBounds_toArray, List.set_cons_zero, List.set_cons_succ])
                refine wpAnyH_take (i := 3) (v := ?_) rfl (by kernel_rfl) (by kernel_rfl) (by kernel_rfl) (fun _ _ _ h => h) (Or.inl ⟨by kernel_rfl, ?_⟩) (by assumption) ?_
                rotate_left
                · intro w hSw; (try dsimp only at hSw); go_simp; (try with_reducible rfl)
                (try simp only [Act.put, List.getElem_toArray, List.getElem_cons_zero, List.getElem_cons_succ, List.setIfInBounds_toArray, List.set_cons_zero, List.set_cons_succ])
                refine wpAnyH_take (i := 4) (v := ?_) rfl (by kernel_rfl) (by kernel_rfl) (by kernel_rfl) (fun _ _ _ h => h) (Or.inl ⟨by kernel_rfl, ?_⟩) (by assumption) ?_
                rotate_left
                · intro w hSw; (try dsimp only at hSw); go_simp; (try with_reducible rfl)
                (try simp only [Act.put, List.getElem_toArray, List.getElem_cons_zero, List.getElem_cons_succ, List.setIfInBounds_toArray, List.set_cons_zero, List.set_cons_succ])
                refine wpAnyH_take (i := 5) (v := ?_) rfl (by kernel_rfl) (by kernel_rfl) (by kernel_rfl) (fun _ _ _ h => h) (Or.inl ⟨by kernel_rfl, ?_⟩) (by assumption) ?_
                rotate_left
                · intro w hSw; (try dsimp only at hSw); go_simp; (try with_reducible rfl)
                (try simp only [Act.put, List.getElem_toArray, List.getElem_cons_zero, List.getElem_cons_succ, List.setIfInBounds_toArray, List.set_cons_zero, List.set_cons_succ])
                refine wpAnyH_take (i := 6) (v := ?_) rfl (by kernel_rfl) (by kernel_rfl) (by kernel_rfl) (fun _ _ _ h => h) (Or.inl ⟨by kernel_rfl, ?_⟩) (by assumption) ?_
                rotate_left
                · intro w hSw; (try dsimp only at hSw); go_simp; (try with_reducible rfl)
                (try simp only [Act.put, List.getElem_toArray, List.getElem_cons_zero, List.getElem_cons_succ, List.setIfInBounds_toArray, List.set_cons_zero, List.set_cons_succ])
                refine wpAnyH_take (i := 7) (v := ?_) rfl (by kernel_rfl) (by kernel_rfl) (by kernel_rfl) (fun _ _ _ h => h) (Or.inl ⟨by kernel_rfl, ?_⟩) (by assumption) ?_
                rotate_left
                · intro w hSw; (try dsimp only at hSw); go_simp; (try with_reducible rfl)
                (try simp only [Act.put, List.getElem_toArray, List.getElem_cons_zero, List.getElem_cons_succ, List.setIfInBounds_toArray, List.set_cons_zero, List.set_cons_succ])
                refine wpAnyH_take (i := 8) (v := ?_) rfl (by kernel_rfl) (by kernel_rfl) (by kernel_rfl) (fun _ _ _ h => h) (Or.inl ⟨by kernel_rfl, ?_⟩) (by assumption) ?_
                rotate_left
                · intro w hSw; (try dsimp only at hSw); go_simp; (try with_reducible rfl)
                (try simp only [Act.put, List.getElem_toArray, List.getElem_cons_zero, List.getElem_cons_succ, List.setIfInBounds_toArray, List.set_cons_zero, List.set_cons_succ])
                refine wpAnyH_take (i := 9) (v := ?_) rfl (by kernel_rfl) (by kernel_rfl) (by kernel_rfl) (fun _ _ _ h => h) (Or.inl ⟨by kernel_rfl, ?_⟩) (by assumption) ?_
                rotate_left
                · intro w hSw; (try dsimp only at hSw); go_simp; (try with_reducible rfl)
                (try simp only [Act.put, List.getElem_toArray, List.getElem_cons_zero, List.getElem_cons_succ, List.setIfInBounds_toArray, List.set_cons_zero, List.set_cons_succ])
                refine wpAnyH_take (i := 10) (v := ?_) rfl (by kernel_rfl) (by kernel_rfl) (by kernel_rfl) (fun _ _ _ h => h) (Or.inl ⟨by kernel_rfl, ?_⟩) (by assumption) ?_
                rotate_left
                · intro w hSw; (try dsimp only at hSw); go_simp; (try with_reducible rfl)
                (try simp only [Act.put, List.getElem_toArray, List.getElem_cons_zero, List.getElem_cons_succ, List.setIfInBounds_toArray, List.set_cons_zero, List.set_cons_succ])
                refine wpAnyH_take (i := 11) (v := ?_) rfl (by kernel_rfl) (by kernel_rfl) (by kernel_rfl) (fun _ _ _ h => h) (Or.inl ⟨by kernel_rfl, ?_⟩) (by assumption) ?_
                rotate_left
                · intro w hSw; (try dsimp only at hSw); go_simp; (try with_reducible rfl)
                (try simp only [Act.put, List.getElem_toArray, List.getElem_cons_zero, List.getElem_cons_succ, List.setIfInBounds_toArray, List.set_cons_zero, List.set_cons_succ])
                refine wpAnyH_take (i := 12) (v := ?_) rfl (by kernel_rfl) (by kernel_rfl) (by kernel_rfl) (fun _ _ _ h => h) (Or.inl ⟨by kernel_rfl, ?_⟩) (by assumption) ?_
                rotate_left
                · intro w hSw; (try dsimp only at hSw); go_simp; (try with_reducible rfl)
                (try simp only [Act.put, List.getElem_toArray, List.getElem_cons_zero, List.getElem_cons_succ, List.setIfInBounds_toArray, List.set_cons_zero, List.set_cons_succ])
                refine wpAnyH_take (i := 13) (v := ?_) rfl (by kernel_rfl) (by kernel_rfl) (by kernel_rfl) (fun _ _ _ h => h) (Or.inl ⟨by kernel_rfl, ?_⟩) (by assumption) ?_
                rotate_left
                · intro w hSw; (try dsimp only at hSw); go_simp; (try with_reducible rfl)
                (try simp only [Act.put, List.getElem_toArray, List.getElem_cons_zero, List.getElem_cons_succ, List.setIfInBounds_toArray, List.set_cons_zero, List.set_cons_succ])
                refine wpAnyH_take (i := 14) (v := ?_) rfl (by kernel_rfl) (by kernel_rfl) (by kernel_rfl) (fun _ _ _ h => h) (Or.inl ⟨by kernel_rfl, ?_⟩) (by assumption) ?_
                rotate_left
                · intro w hSw; (try dsimp only at hSw); go_simp; (try with_reducible rfl)
                (try simp only [Act.put, List.getElem_toArray, List.getElem_cons_zero, List.getElem_cons_succ, List.setIfInBounds_toArray, List.set_cons_zero, List.set_cons_succ])
                refine wpAnyH_take (i := 15) (v := ?_) rfl (by kernel_rfl) (by kernel_rfl) (by kernel_rfl) (fun _ _ _ h => h) (Or.inl ⟨by kernel_rfl, ?_⟩) (by assumption) ?_
                rotate_left
                · intro w hSw; (try dsimp only at hSw); go_simp; (try with_reducible rfl)
                (try simp only [Act.put, List.getElem_toArray, List.getElem_cons_zero, List.getElem_cons_succ, List.setIfInBounds_toArray, List.set_cons_zero, List.set_cons_succ])
                refine wpAnyH_take (i := 16) (v := ?_) rfl (by kernel_rfl) (by kernel_rfl) (by kernel_rfl) (fun _ _ _ h => h) (Or.inl ⟨by kernel_rfl, ?_⟩) (by assumption) ?_
                rotate_left
                · intro w hSw; (try dsimp only at hSw); go_simp; (try with_reducible rfl)
                (try simp only [Act.put, List.getElem_toArray, List.getElem_cons_zero, List.getElem_cons_succ, List.setIfInBounds_toArray, List.set_cons_zero, List.set_cons_succ])
                refine wpAnyH_done (by kernel_rfl) ?_ _
                clear hHeld0
                replace k2 := k2.drew
                have c0 := (Kept.refl _).drew.cell c0
                have d1 := (Kept.refl _).drew.cell d1
                go_wp2_with fail
                go_ret
                exact ⟨by rw [HV.out]; rfl, k2⟩
              · have hszI : decide ((1000 : Int) < (x.text.size : Int)) = false := decide_eq_false (by omega)
                have HV := Lib.hid (show nodeE x = 0 by rw [HE.out]; unfold ruleE; simp [hk0, hf, hm, ht4, hy, hn0, hn1, ht7, hsz])
                clear hk0 hf hm ht4 hy hn0 hn1 ht7 hsz
                go_enter Tryz.func34, Tryz.ntmps34
                go_wp2_with fail
                refine wp_region_held_drew (S := (fun W => W.cell? ⟨b, o + 5, none⟩ = some (.slice kad x.kids.length kc) ∧ W.cell? ⟨tb, to + kn * 5 + 4, none⟩ = some (.slice pa nd.kids.length pc) ∧ Kept w W)) (by kernel_rfl) ⟨(Kept.refl w).drew.cell d5, (Kept.refl w).drew.cell c4, (Kept.refl w).drew⟩ (fun hHeld0 => ?_)
                refine wpAnyH_take (i := 0) (v := ?_) rfl (by kernel_rfl) (by kernel_rfl) (by kernel_rfl) (fun _ _ _ h => h) (Or.inl ⟨by kernel_rfl, ?_⟩) (by assumption) ?_
                rotate_left
                · intro w hSw; (try dsimp only at hSw); go_simp; (try with_reducible rfl)
                (try simp only [Act.put, List.getElem_toArray, List.getElem_cons_zero, List.getElem_cons_succ, List.setIfInBounds_toArray, List.set_cons_zero, List.set_cons_succ])
                refine wpAnyH_take (i := 1) (v := ?_) rfl (by kernel_rfl) (by kernel_rfl) (by kernel_rfl) (fun _ _ _ h => h) (Or.inl ⟨by kernel_rfl, ?_⟩) (by assumption) ?_
                rotate_left
                · intro w hSw; (try dsimp only at hSw); go_simp; (try with_reducible rfl)
                (try simp only [Act.put, List.getElem_toArray, List.getElem_cons_zero, List.getElem_cons_succ, List.setIfInBounds_toArray, List.set_cons_zero, List.set_cons_succ])
                refine wpAnyH_take (i := 2) (v := ?_) rfl (by kernel_rfl) (by kernel_rfl) (by kernel_rfl) (fun _ _ _ h => h) (Or.inl ⟨by kernel_rfl, ?_⟩) (by assumption) ?_
                rotate_left
                · intro w hSw; (try dsimp only at hSw); go_simp; (try with_reducible rfl)
                (try simp only [Act.put, List.getElem_toArray, List.getElem_cons_zero, List.getElem_cons_succ, List.setIfInBounds_toArray, List.set_cons_zero, List.set_cons_succ])
                refine wpAnyH_take (i := 3) (v := ?_) rfl (by kernel_rfl) (by kernel_rfl) (by kernel_rfl) (fun _ _ _ h => h) (Or.inl ⟨by kernel_rfl, ?_⟩) (by assumption) ?_
                rotate_left
                · intro w hSw; (try dsimp only at hSw); go_simp; (try with_reducible rfl)
                (try simp only [Act.put, List.getElem_toArray, List.getElem_cons_zero, List.getElem_cons_succ, List.setIfInBounds_toArray, List.set_cons_zero, List.set_cons_succ])
                refine wpAnyH_take (i := 4) (v := ?_) rfl (by kernel_rfl) (by kernel_rfl) (by kernel_rfl) (fun _ _ _ h => h) (Or.inl ⟨by kernel_rfl, ?_⟩) (by assumption) ?_
                rotate_left
                · intro w hSw; (try dsimp only at hSw); go_simp; (try with_reducible rfl)
                (try simp only [Act.put, List.getElem_toArray, List.getElem_cons_zero, List.getElem_cons_succ, List.setIfInBounds_toArray, List.set_cons_zero, List.set_cons_succ])
                refine wpAnyH_take (i := 5) (v := ?_) rfl (by kernel_rfl) (by kernel_rfl) (by kernel_rfl) (fun _ _ _ h => h) (Or.inl ⟨by kernel_rfl, ?_⟩) (by assumption) ?_
                rotate_left
                · intro w hSw; (try dsimp only at hSw); go_simp; (try with_reducible rfl)
                (try simp only [Act.put, List.getElem_toArray, List.getElem_cons_zero, List.getElem_cons_succ, List.setIfInBounds_toArray, List.set_cons_zero, List.set_cons_succ])
                refine wpAnyH_take (i := 6) (v := ?_) rfl (by kernel_rfl) (by kernel_rfl) (by kernel_rfl) (fun _ _ _ h => h) (Or.inl ⟨by kernel_rfl, ?_⟩) (by assumption) ?_
                rotate_left
                · intro w hSw; (try dsimp only at hSw); go_simp; (try with_reducible rfl)
                (try simp only [Act.put, List.getElem_toArray, List.getElem_cons_zero, List.getElem_cons_succ, List.setIfInBounds_toArray, List.set_cons_zero, List.set_cons_succ])
                refine wpAnyH_take (i := 7) (v := ?_) rfl (by kernel_rfl) (by kernel_rfl) (by kernel_rfl) (fun _ _ _ h => h) (Or.inl ⟨by kernel_rfl, ?_⟩) (by assumption) ?_
                rotate_left
                · intro w hSw; (try dsimp only at hSw); go_simp; (try with_reducible rfl)
                (try simp only [Act.put, List.getElem_toArray, List.getElem_cons_zero, List.getElem_cons_succ, List.setIfInBounds_toArray, List.set_cons_zero, List.set_cons_succ])
                refine wpAnyH_ready (rs := [8]) (by kernel_rfl) (by simp) ?_
                refine AllReadyH.cons rfl (fun K hK => ?_) AllReadyH.nil
                go_simp
                go_at_call 52
                refine (HKK.out _ (Kept.refl w).drew).mono ?_
                rintro e w2 ⟨rfl, k2⟩
                have k2 := (Kept.refl w).drew.trans k2
                refine hK.out _ _ ⟨k2.cell d5, k2.cell c4, k2⟩ (fun hHeld1 => ?_)
                clear hK K
                (try simp only [Act.put, List.getElem_toArray, List.getElem_cons_zero, List.getElem_cons_succ, List.setIfInBounds_toArray, List.set_cons_zero, List.set_cons_succ])
                clear hHeld0
                refine wpAnyH_take (i := 9) (v := ?_) rfl (by kernel_rfl) (by kernel_rfl) (by kernel_rfl) (fun _ _ _ h => h) (Or.inl ⟨by kernel_rfl, ?_⟩) (by assumption) ?_
                rotate_left
                · intro w hSw; (try dsimp only at hSw); go_simp; (try with_reducible rfl)
                (try simp only [Act.put, List.getElem_toArray, List.getElem_cons_zero, List.getElem_cons_succ, List.setIfInBounds_toArray, List.set_cons_zero, List.set_cons_succ])
                refine wpAnyH_done (by kernel_rfl) ?_ _
                clear hHeld1
                have d0 := k2.cell d0
                have d1 := k2.cell d1
                have d2 := k2.cell d2
                have d3 := k2.cell d3
                have d4 := k2.cell d4
                have d5 := k2.cell d5
                have c0 := k2.cell c0
                have c1 := k2.cell c1
                have c3 := k2.cell c3
                have c4 := k2.cell c4
                go_wp2_with (first | (go_at_call 53; refine (HFO.out _ k2).mono ?_; rintro e w3 ⟨rfl, k3⟩; have d0 := k3.cell d0; have d1 := k3.cell d1; have d2 := k3.cell d2; have d4 := k3.cell d4; have c0 := k3.cell c0; have c1 := k3.cell c1; have c3 := k3.cell c3; replace k2 := k2.trans k3; clear k3) | (go_at_call 54; refine (HNM.out _ k2).mono ?_; rintro e w3 ⟨rfl, k3⟩; have d0 := k3.cell d0; have d1 := k3.cell d1; have d2 := k3.cell d2; have d4 := k3.cell d4; have c0 := k3.cell c0; have c1 := k3.cell c1; have c3 := k3.cell c3; replace k2 := k2.trans k3; clear k3) | (go_at_call 55; refine (HTY.out _ k2).mono ?_; rintro e w3 ⟨rfl, k3⟩; have d0 := k3.cell d0; have d1 := k3.cell d1; have d2 := k3.cell d2; have d4 := k3.cell d4; have c0 := k3.cell c0; have c1 := k3.cell c1; have c3 := k3.cell c3; replace k2 := k2.trans k3; clear k3))
                refine wp_region_held_drew (S := (fun W => W.cell? ⟨b, o + 4, none⟩ = some (.int .i64 x.n) ∧ W.cell? ⟨tb, to + kn * 5 + 3, none⟩ = some (.int .i64 nd.most) ∧ Kept w W)) (by kernel_rfl) ⟨(Kept.refl _).drew.cell d4, (Kept.refl _).drew.cell c3, k2.drew⟩ (fun hHeld0 => ?_)
                refine wpAnyH_take (i := 0) (v := ?_) rfl (by kernel_rfl) (by kernel_rfl) (by kernel_rfl) (fun _ _ _ h => h) (Or.inl ⟨by kernel_rfl, ?_⟩) (by assumption) ?_
                rotate_left
                · intro w hSw; (try dsimp only at hSw); go_simp; (try with_reducible rfl)
                (try simp only [Act.put, List.getElem_toArray, List.getElem_cons_zero, List.getElem_cons_succ, List.setIfInBounds_toArray, List.set_cons_zero, List.set_cons_succ])
                refine wpAnyH_take (i := 1) (v := ?_) rfl (by kernel_rfl) (by kernel_rfl) (by kernel_rfl) (fun _ _ _ h => h) (Or.inl ⟨by kernel_rfl, ?_⟩) (by assumption) ?_
                rotate_left
                · intro w hSw; (try dsimp only at hSw); go_simp; (try with_reducible rfl)
                (try simp only [Act.put, List.getElem_toArray, List.getElem_cons_zero, List.getElem_cons_succ, List.setIfInBounds_toArray, List.set_cons_zero, List.set_cons_succ])
                refine wpAnyH_take (i := 2) (v := ?_) rfl (by kernel_rfl) (by kernel_rfl) (by kernel_rfl) (fun _ _ _ h => h) (Or.inl ⟨by kernel_rfl, ?_⟩) (by assumption) ?_
                rotate_left
                · intro w hSw; (try dsimp only at hSw); go_simp; (try with_reducible rfl)
                (try simp only [Act.put, List.getElem_toArray, List.getElem_cons_zero, List.getElem_cons_succ, List.setIfInBounds_toArray, List.set_cons_zero, List.set_cons_succ])
                refine wpAnyH_take (i := 3) (v := ?_) rfl (by kernel_rfl) (by kernel_rfl) (by kernel_rfl) (fun _ _ _ h => h) (Or.inl ⟨by kernel_rfl, ?_⟩) (by assumption) ?_
                rotate_left
                · intro w hSw; (try dsimp only at hSw); go_simp; (try with_reducible rfl)
                (try simp only [Act.put, List.getElem_toArray, List.getElem_cons_zero, List.getElem_cons_succ, List.setIfInBounds_toArray, List.set_cons_zero, List.set_cons_succ])
                refine wpAnyH_take (i := 4) (v := ?_) rfl (by kernel_rfl) (by kernel_rfl) (by kernel_rfl) (fun _ _ _ h => h) (Or.inl ⟨by kernel_rfl, ?_⟩) (by assumption) ?_
                rotate_left
                · intro w hSw; (try dsimp only at hSw); go_simp; (try with_reducible rfl)
                (try simp only [Act.put, List.getElem_toArray, List.getElem_cons_zero, List.getElem_cons_succ, List.setIfInBounds_toArray, List.set_cons_zero, List.set_cons_succ])
                refine wpAnyH_take (i := 5) (v := ?_) rfl (by kernel_rfl) (by kernel_rfl) (by kernel_rfl) (fun _ _ _ h => h) (Or.inl ⟨by kernel_rfl, ?_⟩) (by assumption) ?_
                rotate_left
                · intro w hSw; (try dsimp only at hSw); go_simp; (try with_reducible rfl)
                (try simp only [Act.put, List.getElem_toArray, List.getElem_cons_zero, List.getElem_cons_succ, List.setIfInBounds_toArray, List.set_cons_zero, List.set_cons_succ])
                refine wpAnyH_take (i := 6) (v := ?_) rfl (by kernel_rfl) (by kernel_rfl) (by kernel_rfl) (fun _ _ _ h => h) (Or.inl ⟨by kernel_rfl, ?_⟩) (by assumption) ?_
                rotate_left
                · intro w hSw; (try dsimp only at hSw); go_simp; (try with_reducible rfl)
                (try simp only [Act.put, List.getElem_toArray, List.getElem_cons_zero, List.getElem_cons_succ, List.setIfInBounds_toArray, List.set_cons_zero, List.set_cons_succ])
                refine wpAnyH_take (i := 7) (v := ?_) rfl (by kernel_rfl) (by kernel_rfl) (by kernel_rfl) (fun _ _ _ h => h) (Or.inl ⟨by kernel_rfl, ?_⟩) (by assumption) ?_
                rotate_left
                · intro w hSw; (try dsimp only at hSw); go_simp; (try with_reducible rfl)
                (try simp only [Act.put, List.getElem_toArray, List.getElem_cons_zero, List.getElem_cons_succ, List.setIfInBounds_toArray, List.set_cons_zero, List.set_cons_succ])
                refine wpAnyH_take (i := 8) (v := ?_) rfl (by kernel_rfl) (by kernel_rfl) (by kernel_rfl) (fun _ _ _ h => h) (Or.inl ⟨by kernel_rfl, ?_⟩) (by assumption) ?_
                rotate_left
                · intro w hSw; (try dsimp only at hSw); go_simp; (try with_reducible rfl)
                (try simp only [Act.put, List.getElem_toArray, List.getElem_cons_zero, List.getElem_cons_succ, List.setIfInBounds_toArray, List.set_cons_zero, List.set_cons_succ])
                refine wpAnyH_take (i := 9) (v := ?_) rfl (by kernel_rfl) (by kernel_rfl) (by kernel_rfl) (fun _ _ _ h => h) (Or.inl ⟨by kernel_rfl, ?_⟩) (by assumption) ?_
                rotate_left
                · intro w hSw; (try dsimp only at hSw); go_simp; (try with_reducible rfl)
                (try simp only [Act.put, List.getElem_toArray, List.getElem_cons_zero, List.getElem_cons_succ, List.setIfInBounds_toArray, List.set_cons_zero, List.set_cons_succ])
                refine wpAnyH_take (i := 10) (v := ?_) rfl (by kernel_rfl) (by kernel_rfl) (by kernel_rfl) (fun _ _ _ h => h) (Or.inl ⟨by kernel_rfl, ?_⟩) (by assumption) ?_
                rotate_left
                · intro w hSw; (try dsimp only at hSw); go_simp; (try with_reducible rfl)
                (try simp only [Act.put, List.getElem_toArray, List.getElem_cons_zero, List.getElem_cons_succ, List.setIfInBounds_toArray, List.set_cons_zero, List.set_cons_succ])
                refine wpAnyH_take (i := 11) (v := ?_) rfl (by kernel_rfl) (by kernel_rfl) (by kernel_rfl) (fun _ _ _ h => h) (Or.inl ⟨by kernel_rfl, ?_⟩) (by assumption) ?_
                rotate_left
                · intro w hSw; (try dsimp only at hSw); go_simp; (try with_reducible rfl)
                (try simp only [Act.put, List.getElem_toArray, List.getElem_cons_zero, List.getElem_cons_succ, List.setIfInBounds_toArray, List.set_cons_zero, List.set_cons_succ])
                refine wpAnyH_take (i := 12) (v := ?_) rfl (by kernel_rfl) (by kernel_rfl) (by kernel_rfl) (fun _ _ _ h => h) (Or.inl ⟨by kernel_rfl, ?_⟩) (by assumption) ?_
                rotate_left
                · intro w hSw; (try dsimp only at hSw); go_simp; (try with_reducible rfl)
                (try simp only [Act.put, List.getElem_toArray, List.getElem_cons_zero, List.getElem_cons_succ, List.setIfInBounds_toArray, List.set_cons_zero, List.set_cons_succ])
                refine wpAnyH_take (i := 13) (v := ?_) rfl (by kernel_rfl) (by kernel_rfl) (by kernel_rfl) (fun _ _ _ h => h) (Or.inl ⟨by kernel_rfl, ?_⟩) (by assumption) ?_
                rotate_left
                · intro w hSw; (try dsimp only at hSw); go_simp; (try with_reducible rfl)
                (try simp only [Act.put, List.getElem_toArray, List.getElem_cons_zero, List.getElem_cons_succ, List.setIfInBounds_toArray, List.set_cons_zero, List.set_cons_succ])
                refine wpAnyH_take (i := 14) (v := ?_) rfl (by kernel_rfl) (by kernel_rfl) (by kernel_rfl) (fun _ _ _ h => h) (Or.inl ⟨by kernel_rfl, ?_⟩) (by assumption) ?_
                rotate_left
                · intro w hSw; (try dsimp only at hSw); go_simp; (try with_reducible rfl)
                (try simp only [Act.put, List.getElem_toArray, List.getElem_cons_zero, List.getElem_cons_succ, List.setIfInBounds_toArray, List.set_cons_zero, List.set_cons_succ])
                refine wpAnyH_take (i := 15) (v := ?_) rfl (by kernel_rfl) (by kernel_rfl) (by kernel_rfl) (fun _ _ _ h => h) (Or.inl ⟨by kernel_rfl, ?_⟩) (by assumption) ?_
                rotate_left
                · intro w hSw; (try dsimp only at hSw); go_simp; (try with_reducible rfl)
                (try simp only [Act.put, List.getElem_toArray, List.getElem_cons_zero, List.getElem_cons_succ, List.setIfInBounds_toArray, List.set_cons_zero, List.set_cons_succ])
                refine wpAnyH_take (i := 16) (v := ?_) rfl (by kernel_rfl) (by kernel_rfl) (by kernel_rfl) (fun _ _ _ h => h) (Or.inl ⟨by kernel_rfl, ?_⟩) (by assumption) ?_
                rotate_left
                · intro w hSw; (try dsimp only at hSw); go_simp; (try with_reducible rfl)
                (try simp only [Act.put, List.getElem_toArray, List.getElem_cons_zero, List.getElem_cons_succ, List.setIfInBounds_toArray, List.set_cons_zero, List.set_cons_succ])
                refine wpAnyH_done (by kernel_rfl) ?_ _
                clear hHeld0
                replace k2 := k2.drew
                have c0 := (Kept.refl _).drew.cell c0
                have d1 := (Kept.refl _).drew.cell d1
                go_wp2_with fail
                go_ret
                exact ⟨by rw [HV.out]; rfl, k2⟩
            · have htb7 : (nd.text == 7) = false := by simp [ht7]
              have HV := Lib.hid (show nodeE x = 0 by rw [HE.out]; unfold ruleE; simp [hk0, hf, hm, ht4, hy, hn0, hn1, ht7])
              clear hk0 hf hm ht4 hy hn0 hn1 ht7
              go_enter Tryz.func34, Tryz.ntmps34
              go_wp2_with fail
              refine wp_region_held_drew (S := (fun W => W.cell? ⟨b, o + 5, none⟩ = some (.slice kad x.kids.length kc) ∧ W.cell? ⟨tb, to + kn * 5 + 4, none⟩ = some (.slice pa nd.kids.length pc) ∧ Kept w W)) (by kernel_rfl) ⟨(Kept.refl w).drew.cell d5, (Kept.refl w).drew.cell c4, (Kept.refl w).drew⟩ (fun hHeld0 => ?_)
              refine wpAnyH_take (i := 0) (v := ?_) rfl (by kernel_rfl) (by kernel_rfl) (by kernel_rfl) (fun _ _ _ h => h) (Or.inl ⟨by kernel_rfl, ?_⟩) (by assumption) ?_
              rotate_left
              · intro w hSw; (try dsimp only at hSw); go_simp; (try with_reducible rfl)
              (try simp only [Act.put, List.getElem_toArray, List.getElem_cons_zero, List.getElem_cons_succ, List.setIfInBounds_toArray, List.set_cons_zero, List.set_cons_succ])
              refine wpAnyH_take (i := 1) (v := ?_) rfl (by kernel_rfl) (by kernel_rfl) (by kernel_rfl) (fun _ _ _ h => h) (Or.inl ⟨by kernel_rfl, ?_⟩) (by assumption) ?_
              rotate_left
              · intro w hSw; (try dsimp only at hSw); go_simp; (try with_reducible rfl)
              (try simp only [Act.put, List.getElem_toArray, List.getElem_cons_zero, List.getElem_cons_succ, List.setIfInBounds_toArray, List.set_cons_zero, List.set_cons_succ])
              refine wpAnyH_take (i := 2) (v := ?_) rfl (by kernel_rfl) (by kernel_rfl) (by kernel_rfl) (fun _ _ _ h => h) (Or.inl ⟨by kernel_rfl, ?_⟩) (by assumption) ?_
              rotate_left
              · intro w hSw; (try dsimp only at hSw); go_simp; (try with_reducible rfl)
              (try simp only [Act.put, List.getElem_toArray, List.getElem_cons_zero, List.getElem_cons_succ, List.setIfInBounds_toArray, List.set_cons_zero, List.set_cons_succ])
              refine wpAnyH_take (i := 3) (v := ?_) rfl (by kernel_rfl) (by kernel_rfl) (by kernel_rfl) (fun _ _ _ h => h) (Or.inl ⟨by kernel_rfl, ?_⟩) (by assumption) ?_
              rotate_left
              · intro w hSw; (try dsimp only at hSw); go_simp; (try with_reducible rfl)
              (try simp only [Act.put, List.getElem_toArray, List.getElem_cons_zero, List.getElem_cons_succ, List.setIfInBounds_toArray, List.set_cons_zero, List.set_cons_succ])
              refine wpAnyH_take (i := 4) (v := ?_) rfl (by kernel_rfl) (by kernel_rfl) (by kernel_rfl) (fun _ _ _ h => h) (Or.inl ⟨by kernel_rfl, ?_⟩) (by assumption) ?_
              rotate_left
              · intro w hSw; (try dsimp only at hSw); go_simp; (try with_reducible rfl)
              (try simp only [Act.put, List.getElem_toArray, List.getElem_cons_zero, List.getElem_cons_succ, List.setIfInBounds_toArray, List.set_cons_zero, List.set_cons_succ])
              refine wpAnyH_take (i := 5) (v := ?_) rfl (by kernel_rfl) (by kernel_rfl) (by kernel_rfl) (fun _ _ _ h => h) (Or.inl ⟨by kernel_rfl, ?_⟩) (by assumption) ?_
              rotate_left
              · intro w hSw; (try dsimp only at hSw); go_simp; (try with_reducible rfl)
              (try simp only [Act.put, List.getElem_toArray, List.getElem_cons_zero, List.getElem_cons_succ, List.setIfInBounds_toArray, List.set_cons_zero, List.set_cons_succ])
              refine wpAnyH_take (i := 6) (v := ?_) rfl (by kernel_rfl) (by kernel_rfl) (by kernel_rfl) (fun _ _ _ h => h) (Or.inl ⟨by kernel_rfl, ?_⟩) (by assumption) ?_
              rotate_left
              · intro w hSw; (try dsimp only at hSw); go_simp; (try with_reducible rfl)
              (try simp only [Act.put, List.getElem_toArray, List.getElem_cons_zero, List.getElem_cons_succ, List.setIfInBounds_toArray, List.set_cons_zero, List.set_cons_succ])
              refine wpAnyH_take (i := 7) (v := ?_) rfl (by kernel_rfl) (by kernel_rfl) (by kernel_rfl) (fun _ _ _ h => h) (Or.inl ⟨by kernel_rfl, ?_⟩) (by assumption) ?_
              rotate_left
              · intro w hSw; (try dsimp only at hSw); go_simp; (try with_reducible rfl)
              (try simp only [Act.put, List.getElem_toArray, List.getElem_cons_zero, List.getElem_cons_succ, List.setIfInBounds_toArray, List.set_cons_zero, List.set_cons_succ])
              refine wpAnyH_ready (rs := [8]) (by kernel_rfl) (by simp) ?_
              refine AllReadyH.cons rfl (fun K hK => ?_) AllReadyH.nil
              go_simp
              go_at_call 52
              refine (HKK.out _ (Kept.refl w).drew).mono ?_
              rintro e w2 ⟨rfl, k2⟩
              have k2 := (Kept.refl w).drew.trans k2
              refine hK.out _ _ ⟨k2.cell d5, k2.cell c4, k2⟩ (fun hHeld1 => ?_)
              clear hK K
              (try simp only [Act.put, List.getElem_toArray, List.getElem_cons_zero, List.getElem_cons_succ, List.setIfInBounds_toArray, List.set_cons_zero, List.set_cons_succ])
              clear hHeld0
              refine wpAnyH_take (i := 9) (v := ?_) rfl (by kernel_rfl) (by kernel_rfl) (by kernel_rfl) (fun _ _ _ h => h) (Or.inl ⟨by kernel_rfl, ?_⟩) (by assumption) ?_
              rotate_left
              · intro w hSw; (try dsimp only at hSw); go_simp; (try with_reducible rfl)
              (try simp only [Act.put, List.getElem_toArray, List.getElem_cons_zero, List.getElem_cons_succ, List.setIfInBounds_toArray, List.set_cons_zero, List.set_cons_succ])
              refine wpAnyH_done (by kernel_rfl) ?_ _
              clear hHeld1
              have d0 := k2.cell d0
              have d1 := k2.cell d1
              have d2 := k2.cell d2
              have d3 := k2.cell d3
              have d4 := k2.cell d4
              have d5 := k2.cell d5
              have c0 := k2.cell c0
              have c1 := k2.cell c1
              have c3 := k2.cell c3
              have c4 := k2.cell c4
              go_wp2_with (first | (go_at_call 53; refine (HFO.out _ k2).mono ?_; rintro e w3 ⟨rfl, k3⟩; have d0 := k3.cell d0; have d1 := k3.cell d1; have d2 := k3.cell d2; have d4 := k3.cell d4; have c0 := k3.cell c0; have c1 := k3.cell c1; have c3 := k3.cell c3; replace k2 := k2.trans k3; clear k3) | (go_at_call 54; refine (HNM.out _ k2).mono ?_; rintro e w3 ⟨rfl, k3⟩; have d0 := k3.cell d0; have d1 := k3.cell d1; have d2 := k3.cell d2; have d4 := k3.cell d4; have c0 := k3.cell c0; have c1 := k3.cell c1; have c3 := k3.cell c3; replace k2 := k2.trans k3; clear k3) | (go_at_call 55; refine (HTY.out _ k2).mono ?_; rintro e w3 ⟨rfl, k3⟩; have d0 := k3.cell d0; have d1 := k3.cell d1; have d2 := k3.cell d2; have d4 := k3.cell d4; have c0 := k3.cell c0; have c1 := k3.cell c1; have c3 := k3.cell c3; replace k2 := k2.trans k3; clear k3))
              refine wp_region_held_drew (S := (fun W => W.cell? ⟨b, o + 4, none⟩ = some (.int .i64 x.n) ∧ W.cell? ⟨tb, to + kn * 5 + 3, none⟩ = some (.int .i64 nd.most) ∧ Kept w W)) (by kernel_rfl) ⟨(Kept.refl _).drew.cell d4, (Kept.refl _).drew.cell c3, k2.drew⟩ (fun hHeld0 => ?_)
              refine wpAnyH_take (i := 0) (v := ?_) rfl (by kernel_rfl) (by kernel_rfl) (by kernel_rfl) (fun _ _ _ h => h) (Or.inl ⟨by kernel_rfl, ?_⟩) (by assumption) ?_
              rotate_left
              · intro w hSw; (try dsimp only at hSw); go_simp; (try with_reducible rfl)
              (try simp only [Act.put, List.getElem_toArray, List.getElem_cons_zero, List.getElem_cons_succ, List.setIfInBounds_toArray, List.set_cons_zero, List.set_cons_succ])
              refine wpAnyH_take (i := 1) (v := ?_) rfl (by kernel_rfl) (by kernel_rfl) (by kernel_rfl) (fun _ _ _ h => h) (Or.inl ⟨by kernel_rfl, ?_⟩) (by assumption) ?_
              rotate_left
              · intro w hSw; (try dsimp only at hSw); go_simp; (try with_reducible rfl)
              (try simp only [Act.put, List.getElem_toArray, List.getElem_cons_zero, List.getElem_cons_succ, List.setIfInBounds_toArray, List.set_cons_zero, List.set_cons_succ])
              refine wpAnyH_take (i := 2) (v := ?_) rfl (by kernel_rfl) (by kernel_rfl) (by kernel_rfl) (fun _ _ _ h => h) (Or.inl ⟨by kernel_rfl, ?_⟩) (by assumption) ?_
              rotate_left
              · intro w hSw; (try dsimp only at hSw); go_simp; (try with_reducible rfl)
              (try simp only [Act.put, List.getElem_toArray, List.getElem_cons_zero, List.getElem_cons_succ, List.setIfInBounds_toArray, List.set_cons_zero, List.set_cons_succ])
              refine wpAnyH_take (i := 3) (v := ?_) rfl (by kernel_rfl) (by kernel_rfl) (by kernel_rfl) (fun _ _ _ h => h) (Or.inl ⟨by kernel_rfl, ?_⟩) (by assumption) ?_
              rotate_left
              · intro w hSw; (try dsimp only at hSw); go_simp; (try with_reducible rfl)
              (try simp only [Act.put, List.getElem_toArray, List.getElem_cons_zero, List.getElem_cons_succ, List.setIfInBounds_toArray, List.set_cons_zero, List.set_cons_succ])
              refine wpAnyH_take (i := 4) (v := ?_) rfl (by kernel_rfl) (by kernel_rfl) (by kernel_rfl) (fun _ _ _ h => h) (Or.inl ⟨by kernel_rfl, ?_⟩) (by assumption) ?_
              rotate_left
              · intro w hSw; (try dsimp only at hSw); go_simp; (try with_reducible rfl)
              (try simp only [Act.put, List.getElem_toArray, List.getElem_cons_zero, List.getElem_cons_succ, List.setIfInBounds_toArray, List.set_cons_zero, List.set_cons_succ])
              refine wpAnyH_take (i := 5) (v := ?_) rfl (by kernel_rfl) (by kernel_rfl) (by kernel_rfl) (fun _ _ _ h => h) (Or.inl ⟨by kernel_rfl, ?_⟩) (by assumption) ?_
              rotate_left
              · intro w hSw; (try dsimp only at hSw); go_simp; (try with_reducible rfl)
              (try simp only [Act.put, List.getElem_toArray, List.getElem_cons_zero, List.getElem_cons_succ, List.setIfInBounds_toArray, List.set_cons_zero, List.set_cons_succ])
              refine wpAnyH_take (i := 6) (v := ?_) rfl (by kernel_rfl) (by kernel_rfl) (by kernel_rfl) (fun _ _ _ h => h) (Or.inl ⟨by kernel_rfl, ?_⟩) (by assumption) ?_
              rotate_left
              · intro w hSw; (try dsimp only at hSw); go_simp; (try with_reducible rfl)
              (try simp only [Act.put, List.getElem_toArray, List.getElem_cons_zero, List.getElem_cons_succ, List.setIfInBounds_toArray, List.set_cons_zero, List.set_cons_succ])
              refine wpAnyH_take (i := 7) (v := ?_) rfl (by kernel_rfl) (by kernel_rfl) (by kernel_rfl) (fun _ _ _ h => h) (Or.inl ⟨by kernel_rfl, ?_⟩) (by assumption) ?_
              rotate_left
              · intro w hSw; (try dsimp only at hSw); go_simp; (try with_reducible rfl)
              (try simp only [Act.put, List.getElem_toArray, List.getElem_cons_zero, List.getElem_cons_succ, List.setIfInBounds_toArray, List.set_cons_zero, List.set_cons_succ])
              refine wpAnyH_take (i := 8) (v := ?_) rfl (by kernel_rfl) (by kernel_rfl) (by kernel_rfl) (fun _ _ _ h => h) (Or.inl ⟨by kernel_rfl, ?_⟩) (by assumption) ?_
              rotate_left
              · intro w hSw; (try dsimp only at hSw); go_simp; (try with_reducible rfl)
              (try simp only [Act.put, List.getElem_toArray, List.getElem_cons_zero, List.getElem_cons_succ, List.setIfInBounds_toArray, List.set_cons_zero, List.set_cons_succ])
              refine wpAnyH_take (i := 9) (v := ?_) rfl (by kernel_rfl) (by kernel_rfl) (by kernel_rfl) (fun _ _ _ h => h) (Or.inl ⟨by kernel_rfl, ?_⟩) (by assumption) ?_
              rotate_left
              · intro w hSw; (try dsimp only at hSw); go_simp; (try with_reducible rfl)
              (try simp only [Act.put, List.getElem_toArray, List.getElem_cons_zero, List.getElem_cons_succ, List.setIfInBounds_toArray, List.set_cons_zero, List.set_cons_succ])
              refine wpAnyH_take (i := 10) (v := ?_) rfl (by kernel_rfl) (by kernel_rfl) (by kernel_rfl) (fun _ _ _ h => h) (Or.inl ⟨by kernel_rfl, ?_⟩) (by assumption) ?_
              rotate_left
              · intro w hSw; (try dsimp only at hSw); go_simp; (try with_reducible rfl)
              (try simp only [Act.put, List.getElem_toArray, List.getElem_cons_zero, List.getElem_cons_succ, List.setIfInBounds_toArray, List.set_cons_zero, List.set_cons_succ])
              refine wpAnyH_take (i := 11) (v := ?_) rfl (by kernel_rfl) (by kernel_rfl) (by kernel_rfl) (fun _ _ _ h => h) (Or.inl ⟨by kernel_rfl, ?_⟩) (by assumption) ?_
              rotate_left
              · intro w hSw; (try dsimp only at hSw); go_simp; (try with_reducible rfl)
              (try simp only [Act.put, List.getElem_toArray, List.getElem_cons_zero, List.getElem_cons_succ, List.setIfInBounds_toArray, List.set_cons_zero, List.set_cons_succ])
              refine wpAnyH_take (i := 12) (v := ?_) rfl (by kernel_rfl) (by kernel_rfl) (by kernel_rfl) (fun _ _ _ h => h) (Or.inl ⟨by kernel_rfl, ?_⟩) (by assumption) ?_
              rotate_left
              · intro w hSw; (try dsimp only at hSw); go_simp; (try with_reducible rfl)
              (try simp only [Act.put, List.getElem_toArray, List.getElem_cons_zero, List.getElem_cons_succ, List.setIfInBounds_toArray, List.set_cons_zero, List.set_cons_succ])
              refine wpAnyH_take (i := 13) (v := ?_) rfl (by kernel_rfl) (by kernel_rfl) (by kernel_rfl) (fun _ _ _ h => h) (Or.inl ⟨by kernel_rfl, ?_⟩) (by assumption) ?_
              rotate_left
              · intro w hSw; (try dsimp only at hSw); go_simp; (try with_reducible rfl)
              (try simp only [Act.put, List.getElem_toArray, List.getElem_cons_zero, List.getElem_cons_succ, List.setIfInBounds_toArray, List.set_cons_zero, List.set_cons_succ])
              refine wpAnyH_take (i := 14) (v := ?_) rfl (by kernel_rfl) (by kernel_rfl) (by kernel_rfl) (fun _ _ _ h => h) (Or.inl ⟨by kernel_rfl, ?_⟩) (by assumption) ?_
              rotate_left
              · intro w hSw; (try dsimp only at hSw); go_simp; (try with_reducible rfl)
              (try simp only [Act.put, List.getElem_toArray, List.getElem_cons_zero, List.getElem_cons_succ, List.setIfInBounds_toArray, List.set_cons_zero, List.set_cons_succ])
              refine wpAnyH_take (i := 15) (v := ?_) rfl (by kernel_rfl) (by kernel_rfl) (by kernel_rfl) (fun _ _ _ h => h) (Or.inl ⟨by kernel_rfl, ?_⟩) (by assumption) ?_
              rotate_left
              · intro w hSw; (try dsimp only at hSw); go_simp; (try with_reducible rfl)
              (try simp only [Act.put, List.getElem_toArray, List.getElem_cons_zero, List.getElem_cons_succ, List.setIfInBounds_toArray, List.set_cons_zero, List.set_cons_succ])
              refine wpAnyH_take (i := 16) (v := ?_) rfl (by kernel_rfl) (by kernel_rfl) (by kernel_rfl) (fun _ _ _ h => h) (Or.inl ⟨by kernel_rfl, ?_⟩) (by assumption) ?_
              rotate_left
              · intro w hSw; (try dsimp only at hSw); go_simp; (try with_reducible rfl)
              (try simp only [Act.put, List.getElem_toArray, List.getElem_cons_zero, List.getElem_cons_succ, List.setIfInBounds_toArray, List.set_cons_zero, List.set_cons_succ])
              refine wpAnyH_done (by kernel_rfl) ?_ _
              clear hHeld0
              replace k2 := k2.drew
              have c0 := (Kept.refl _).drew.cell c0
              have d1 := (Kept.refl _).drew.cell d1
              go_wp2_with fail
              go_ret
              exact ⟨by rw [HV.out]; rfl, k2⟩
        · have htb4 : (nd.typ == 4) = false := by simp [ht4]
          by_cases hn0 : x.n < 0
          · have hnb0 : decide (x.n < 0) = true := decide_eq_true hn0
            have HV := Lib.hid (show nodeE x = 3 by rw [HE.out]; unfold ruleE; simp [hk0, hf, hm, ht4, hn0])
            clear hk0 hf hm ht4 hn0
            go_enter Tryz.func34, Tryz.ntmps34
            go_wp2_with fail
            refine wp_region_held_drew (S := (fun W => W.cell? ⟨b, o + 5, none⟩ = some (.slice kad x.kids.length kc) ∧ W.cell? ⟨tb, to + kn * 5 + 4, none⟩ = some (.slice pa nd.kids.length pc) ∧ Kept w W)) (by kernel_rfl) ⟨(Kept.refl w).drew.cell d5, (Kept.refl w).drew.cell c4, (Kept.refl w).drew⟩ (fun hHeld0 => ?_)
            refine wpAnyH_take (i := 0) (v := ?_) rfl (by kernel_rfl) (by kernel_rfl) (by kernel_rfl) (fun _ _ _ h => h) (Or.inl ⟨by kernel_rfl, ?_⟩) (by assumption) ?_
            rotate_left
            · intro w hSw; (try dsimp only at hSw); go_simp; (try with_reducible rfl)
            (try simp only [Act.put, List.getElem_toArray, List.getElem_cons_zero, List.getElem_cons_succ, List.setIfInBounds_toArray, List.set_cons_zero, List.set_cons_succ])
            refine wpAnyH_take (i := 1) (v := ?_) rfl (by kernel_rfl) (by kernel_rfl) (by kernel_rfl) (fun _ _ _ h => h) (Or.inl ⟨by kernel_rfl, ?_⟩) (by assumption) ?_
            rotate_left
            · intro w hSw; (try dsimp only at hSw); go_simp; (try with_reducible rfl)
            (try simp only [Act.put, List.getElem_toArray, List.getElem_cons_zero, List.getElem_cons_succ, List.setIfInBounds_toArray, List.set_cons_zero, List.set_cons_succ])
            refine wpAnyH_take (i := 2) (v := ?_) rfl (by kernel_rfl) (by kernel_rfl) (by kernel_rfl) (fun _ _ _ h => h) (Or.inl ⟨by kernel_rfl, ?_⟩) (by assumption) ?_
            rotate_left
            · intro w hSw; (try dsimp only at hSw); go_simp; (try with_reducible rfl)
            (try simp only [Act.put, List.getElem_toArray, List.getElem_cons_zero, List.getElem_cons_succ, List.setIfInBounds_toArray, List.set_cons_zero, List.set_cons_succ])
            refine wpAnyH_take (i := 3) (v := ?_) rfl (by kernel_rfl) (by kernel_rfl) (by kernel_rfl) (fun _ _ _ h => h) (Or.inl ⟨by kernel_rfl, ?_⟩) (by assumption) ?_
            rotate_left
            · intro w hSw; (try dsimp only at hSw); go_simp; (try with_reducible rfl)
            (try simp only [Act.put, List.getElem_toArray, List.getElem_cons_zero, List.getElem_cons_succ, List.setIfInBounds_toArray, List.set_cons_zero, List.set_cons_succ])
            refine wpAnyH_take (i := 4) (v := ?_) rfl (by kernel_rfl) (by kernel_rfl) (by kernel_rfl) (fun _ _ _ h => h) (Or.inl ⟨by kernel_rfl, ?_⟩) (by assumption) ?_
            rotate_left
            · intro w hSw; (try dsimp only at hSw); go_simp; (try with_reducible rfl)
            (try simp only [Act.put, List.getElem_toArray, List.getElem_cons_zero, List.getElem_cons_succ, List.setIfInBounds_toArray, List.set_cons_zero, List.set_cons_succ])
            refine wpAnyH_take (i := 5) (v := ?_) rfl (by kernel_rfl) (by kernel_rfl) (by kernel_rfl) (fun _ _ _ h => h) (Or.inl ⟨by kernel_rfl, ?_⟩) (by assumption) ?_
            rotate_left
            · intro w hSw; (try dsimp only at hSw); go_simp; (try with_reducible rfl)
            (try simp only [Act.put, List.getElem_toArray, List.getElem_cons_zero, List.getElem_cons_succ, List.setIfInBounds_toArray, List.set_cons_zero, List.set_cons_succ])
            refine wpAnyH_take (i := 6) (v := ?_) rfl (by kernel_rfl) (by kernel_rfl) (by kernel_rfl) (fun _ _ _ h => h) (Or.inl ⟨by kernel_rfl, ?_⟩) (by assumption) ?_
            rotate_left
            · intro w hSw; (try dsimp only at hSw); go_simp; (try with_reducible rfl)
            (try simp only [Act.put, List.getElem_toArray, List.getElem_cons_zero, List.getElem_cons_succ, List.setIfInBounds_toArray, List.set_cons_zero, List.set_cons_succ])
            refine wpAnyH_take (i := 7) (v := ?_) rfl (by kernel_rfl) (by kernel_rfl) (by kernel_rfl) (fun _ _ _ h => h) (Or.inl ⟨by kernel_rfl, ?_⟩) (by assumption) ?_
            rotate_left
            · intro w hSw; (try dsimp only at hSw); go_simp; (try with_reducible rfl)
            (try simp only [Act.put, List.getElem_toArray, List.getElem_cons_zero, List.getElem_cons_succ, List.setIfInBounds_toArray, List.set_cons_zero, List.set_cons_succ])
            refine wpAnyH_ready (rs := [8]) (by kernel_rfl) (by simp) ?_
            refine AllReadyH.cons rfl (fun K hK => ?_) AllReadyH.nil
            go_simp
            go_at_call 52
            refine (HKK.out _ (Kept.refl w).drew).mono ?_
            rintro e w2 ⟨rfl, k2⟩
            have k2 := (Kept.refl w).drew.trans k2
            refine hK.out _ _ ⟨k2.cell d5, k2.cell c4, k2⟩ (fun hHeld1 => ?_)
            clear hK K
            (try simp only [Act.put, List.getElem_toArray, List.getElem_cons_zero, List.getElem_cons_succ, List.setIfInBounds_toArray, List.set_cons_zero, List.set_cons_succ])
            clear hHeld0
            refine wpAnyH_take (i := 9) (v := ?_) rfl (by kernel_rfl) (by kernel_rfl) (by kernel_rfl) (fun _ _ _ h => h) (Or.inl ⟨by kernel_rfl, ?_⟩) (by assumption) ?_
            rotate_left
            · intro w hSw; (try dsimp only at hSw); go_simp; (try with_reducible rfl)
            (try simp only [Act.put, List.getElem_toArray, List.getElem_cons_zero, List.getElem_cons_succ, List.setIfInBounds_toArray, List.set_cons_zero, List.set_cons_succ])
            refine wpAnyH_done (by kernel_rfl) ?_ _
            clear hHeld1
            have d0 := k2.cell d0
            have d1 := k2.cell d1
            have d2 := k2.cell d2
            have d3 := k2.cell d3
            have d4 := k2.cell d4
            have d5 := k2.cell d5
            have c0 := k2.cell c0
            have c1 := k2.cell c1
            have c3 := k2.cell c3
            have c4 := k2.cell c4
            go_wp2_with (first | (go_at_call 53; refine (HFO.out _ k2).mono ?_; rintro e w3 ⟨rfl, k3⟩; have d0 := k3.cell d0; have d1 := k3.cell d1; have d2 := k3.cell d2; have d4 := k3.cell d4; have c0 := k3.cell c0; have c1 := k3.cell c1; have c3 := k3.cell c3; replace k2 := k2.trans k3; clear k3) | (go_at_call 54; refine (HNM.out _ k2).mono ?_; rintro e w3 ⟨rfl, k3⟩; have d0 := k3.cell d0; have d1 := k3.cell d1; have d2 := k3.cell d2; have d4 := k3.cell d4; have c0 := k3.cell c0; have c1 := k3.cell c1; have c3 := k3.cell c3; replace k2 := k2.trans k3; clear k3))
            refine wp_region_held_drew (S := (fun W => W.cell? ⟨b, o + 4, none⟩ = some (.int .i64 x.n) ∧ W.cell? ⟨tb, to + kn * 5 + 3, none⟩ = some (.int .i64 nd.most) ∧ Kept w W)) (by kernel_rfl) ⟨(Kept.refl _).drew.cell d4, (Kept.refl _).drew.cell c3, k2.drew⟩ (fun hHeld0 => ?_)
            refine wpAnyH_take (i := 0) (v := ?_) rfl (by kernel_rfl) (by kernel_rfl) (by kernel_rfl) (fun _ _ _ h => h) (Or.inl ⟨by kernel_rfl, ?_⟩) (by assumption) ?_
            rotate_left
            · intro w hSw; (try dsimp only at hSw); go_simp; (try with_reducible rfl)
            (try simp only [Act.put, List.getElem_toArray, List.getElem_cons_zero, List.getElem_cons_succ, List.setIfInBounds_toArray, List.set_cons_zero, List.set_cons_succ])
            refine wpAnyH_take (i := 1) (v := ?_) rfl (by kernel_rfl) (by kernel_rfl) (by kernel_rfl) (fun _ _ _ h => h) (Or.inl ⟨by kernel_rfl, ?_⟩) (by assumption) ?_
            rotate_left
            · intro w hSw; (try dsimp only at hSw); go_simp; (try with_reducible rfl)
            (try simp only [Act.put, List.getElem_toArray, List.getElem_cons_zero, List.getElem_cons_succ, List.setIfInBounds_toArray, List.set_cons_zero, List.set_cons_succ])
            refine wpAnyH_take (i := 2) (v := ?_) rfl (by kernel_rfl) (by kernel_rfl) (by kernel_rfl) (fun _ _ _ h => h) (Or.inl ⟨by kernel_rfl, ?_⟩) (by assumption) ?_
            rotate_left
            · intro w hSw; (try dsimp only at hSw); go_simp; (try with_reducible rfl)
            (try simp only [Act.put, List.getElem_toArray, List.getElem_cons_zero, List.getElem_cons_succ, List.setIfInBounds_toArray, List.set_cons_zero, List.set_cons_succ])
            refine wpAnyH_take (i := 3) (v := ?_) rfl (by kernel_rfl) (by kernel_rfl) (by kernel_rfl) (fun _ _ _ h => h) (Or.inl ⟨by kernel_rfl, ?_⟩) (by assumption) ?_
            rotate_left
            · intro w hSw; (try dsimp only at hSw); go_simp; (try with_reducible rfl)
            (try simp only [Act.put, List.getElem_toArray, List.getElem_cons_zero, List.getElem_cons_succ, List.setIfInBounds_toArray, List.set_cons_zero, List.set_cons_succ])
            refine wpAnyH_take (i := 4) (v := ?_) rfl (by kernel_rfl) (by kernel_rfl) (by kernel_rfl) (fun _ _ _ h => h) (Or.inl ⟨by kernel_rfl, ?_⟩) (by assumption) ?_
            rotate_left
            · intro w hSw; (try dsimp only at hSw); go_simp; (try with_reducible rfl)
            (try simp only [Act.put, List.getElem_toArray, List.getElem_cons_zero, List.getElem_cons_succ, List.setIfInBounds_toArray, List.set_cons_zero, List.set_cons_succ])
            refine wpAnyH_take (i := 5) (v := ?_) rfl (by kernel_rfl) (by kernel_rfl) (by kernel_rfl) (fun _ _ _ h => h) (Or.inl ⟨by kernel_rfl, ?_⟩) (by assumption) ?_
            rotate_left
            · intro w hSw; (try dsimp only at hSw); go_simp; (try with_reducible rfl)
            (try simp only [Act.put, List.getElem_toArray, List.getElem_cons_zero, List.getElem_cons_succ, List.setIfInBounds_toArray, List.set_cons_zero, List.set_cons_succ])
            refine wpAnyH_take (i := 6) (v := undef) rfl (by kernel_rfl) (by kernel_rfl) (by kernel_rfl) (fun _ _ _ h => h) (Or.inr ⟨by kernel_rfl, rfl⟩) (by assumption) ?_
            (try simp only [Act.put, List.getElem_toArray, List.getElem_cons_zero, List.getElem_cons_succ, List.setIfInBounds_toArray, List.set_cons_zero, List.set_cons_succ])
            refine wpAnyH_take (i := 7) (v := undef) rfl (by kernel_rfl) (by kernel_rfl) (by kernel_rfl) (fun _ _ _ h => h) (Or.inr ⟨by kernel_rfl, rfl⟩) (by assumption) ?_
            (try simp only [Act.put, List.getElem_toArray, List.getElem_cons_zero, List.getElem_cons_succ, List.setIfInBounds_toArray, List.set_cons_zero, List.set_cons_succ])
            refine wpAnyH_take (i := 8) (v := undef) rfl (by kernel_rfl) (by kernel_rfl) (by kernel_rfl) (fun _ _ _ h => h) (Or.inr ⟨by kernel_rfl, rfl⟩) (by assumption) ?_
            (try simp only [Act.put, List.getElem_toArray, List.getElem_cons_zero, List.getElem_cons_succ, List.setIfInBounds_toArray, List.set_cons_zero, List.set_cons_succ])
            refine wpAnyH_take (i := 9) (v := undef) rfl (by kernel_rfl) (by kernel_rfl) (by kernel_rfl) (fun _ _ _ h => h) (Or.inr ⟨by kernel_rfl, rfl⟩) (by assumption) ?_
            (try simp only [Act.put, List.getElem_toArray, List.getElem_cons_zero, List.getElem_cons_succ, List.setIfInBounds_toArray, List.set_cons_zero, List.set_cons_succ])
            refine wpAnyH_take (i := 10) (v := undef) rfl (by kernel_rfl) (by kernel_rfl) (by kernel_rfl) (fun _ _ _ h => h) (Or.inr ⟨by kernel_rfl, rfl⟩) (by assumption) ?_
            (try simp only [Act.put, List.getElem_toArray, List.getElem_cons_zero, List.getElem_cons_succ, List.setIfInBounds_toArray, List.set_cons_zero, List.set_cons_succ])
            refine wpAnyH_take (i := 11) (v := undef) rfl (by kernel_rfl) (by kernel_rfl) (by kernel_rfl) (fun _ _ _ h => h) (Or.inr ⟨by kernel_rfl, rfl⟩) (by assumption) ?_
            (try simp only [Act.put, List.getElem_toArray, List.getElem_cons_zero, List.getElem_cons_succ, List.setIfInBounds_toArray, List.set_cons_zero, List.set_cons_succ])
            refine wpAnyH_take (i := 12) (v := undef) rfl (by kernel_rfl) (by kernel_rfl) (by kernel_rfl) (fun _ _ _ h => h) (Or.inr ⟨by kernel_rfl, rfl⟩) (by assumption) ?_
            (try simp only [Act.put, List.getElem_toArray, List.getElem_cons_zero, List.getElem_cons_succ, List.setIfInBounds_toArray, List.set_cons_zero, List.set_cons_succ])
            refine wpAnyH_take (i := 13) (v := undef) rfl (by kernel_rfl) (by kernel_rfl) (by kernel_rfl) (fun _ _ _ h => h) (Or.inr ⟨by kernel_rfl, rfl⟩) (by assumption) ?_
            (try simp only [Act.put, List.getElem_toArray, List.getElem_cons_zero, List.getElem_cons_succ, List.setIfInBounds_toArray, List.set_cons_zero, List.set_cons_succ])
            refine wpAnyH_take (i := 14) (v := undef) rfl (by kernel_rfl) (by kernel_rfl) (by kernel_rfl) (fun _ _ _ h => h) (Or.inr ⟨by kernel_rfl, rfl⟩) (by assumption) ?_
            (try simp only [Act.put, List.getElem_toArray, List.getElem_cons_zero, List.getElem_cons_succ, List.setIfInBounds_toArray, List.set_cons_zero, List.set_cons_succ])
            refine wpAnyH_take (i := 15) (v := ?_) rfl (by kernel_rfl) (by kernel_rfl) (by kernel_rfl) (fun _ _ _ h => h) (Or.inl ⟨by kernel_rfl, ?_⟩) (by assumption) ?_
            rotate_left
            · intro w hSw; (try dsimp only at hSw); go_simp; (try with_reducible rfl)
            (try simp only [Act.put, List.getElem_toArray, List.getElem_cons_zero, List.getElem_cons_succ, List.setIfInBounds_toArray, List.set_cons_zero, List.set_cons_succ])
            refine wpAnyH_take (i := 16) (v := ?_) rfl (by kernel_rfl) (by kernel_rfl) (by kernel_rfl) (fun _ _ _ h => h) (Or.inl ⟨by kernel_rfl, ?_⟩) (by assumption) ?_
            rotate_left
            · intro w hSw; (try dsimp only at hSw); go_simp; (try with_reducible rfl)
            (try simp only [Act.put, List.getElem_toArray, List.getElem_cons_zero, List.getElem_cons_succ, List.setIfInBounds_toArray, List.set_cons_zero, List.set_cons_succ])
            refine wpAnyH_done (by kernel_rfl) ?_ _
            clear hHeld0
            replace k2 := k2.drew
            go_wp2_with fail
            go_ret
            exact ⟨by rw [HV.out]; rfl, k2⟩
          have hnb0 : decide (x.n < 0) = false := decide_eq_false hn0
          by_cases hn1 : nd.most < x.n
          · have hnb1 : decide (nd.most < x.n) = true := decide_eq_true hn1
            have HV := Lib.hid (show nodeE x = 3 by rw [HE.out]; unfold ruleE; simp [hk0, hf, hm, ht4, hn0, hn1])
            clear hk0 hf hm ht4 hn0 hn1
            go_enter Tryz.func34, Tryz.ntmps34
            go_wp2_with fail
            refine wp_region_held_drew (S := (fun W => W.cell? ⟨b, o + 5, none⟩ = some (.slice kad x.kids.length kc) ∧ W.cell? ⟨tb, to + kn * 5 + 4, none⟩ = some (.slice pa nd.kids.length pc) ∧ Kept w W)) (by kernel_rfl) ⟨(Kept.refl w).drew.cell d5, (Kept.refl w).drew.cell c4, (Kept.refl w).drew⟩ (fun hHeld0 => ?_)
            refine wpAnyH_take (i := 0) (v := ?_) rfl (by kernel_rfl) (by kernel_rfl) (by kernel_rfl) (fun _ _ _ h => h) (Or.inl ⟨by kernel_rfl, ?_⟩) (by assumption) ?_
            rotate_left
            · intro w hSw; (try dsimp only at hSw); go_simp; (try with_reducible rfl)
            (try simp only [Act.put, List.getElem_toArray, List.getElem_cons_zero, List.getElem_cons_succ, List.setIfInBounds_toArray, List.set_cons_zero, List.set_cons_succ])
            refine wpAnyH_take (i := 1) (v := ?_) rfl (by kernel_rfl) (by kernel_rfl) (by kernel_rfl) (fun _ _ _ h => h) (Or.inl ⟨by kernel_rfl, ?_⟩) (by assumption) ?_
            rotate_left
            · intro w hSw; (try dsimp only at hSw); go_simp; (try with_reducible rfl)
            (try simp only [Act.put, List.getElem_toArray, List.getElem_cons_zero, List.getElem_cons_succ, List.setIfInBounds_toArray, List.set_cons_zero, List.set_cons_succ])
            refine wpAnyH_take (i := 2) (v := ?_) rfl (by kernel_rfl) (by kernel_rfl) (by kernel_rfl) (fun _ _ _ h => h) (Or.inl ⟨by kernel_rfl, ?_⟩) (by assumption) ?_
            rotate_left
            · intro w hSw; (try dsimp only at hSw); go_simp; (try with_reducible rfl)
            (try simp only [Act.put, List.getElem_toArray, List.getElem_cons_zero, List.getElem_cons_succ, List.setIfInBounds_toArray, List.set_cons_zero, List.set_cons_succ])
            refine wpAnyH_take (i := 3) (v := ?_) rfl (by kernel_rfl) (by kernel_rfl) (by kernel_rfl) (fun _ _ _ h => h) (Or.inl ⟨by kernel_rfl, ?_⟩) (by assumption) ?_
            rotate_left
            · intro w hSw; (try dsimp only at hSw); go_simp; (try with_reducible rfl)
            (try simp only [Act.put, List.getElem_toArray, List.getElem_cons_zero, List.getElem_cons_succ, List.setIfInBounds_toArray, List.set_cons_zero, List.set_cons_succ])
            refine wpAnyH_take (i := 4) (v := ?_) rfl (by kernel_rfl) (by kernel_rfl) (by kernel_rfl) (fun _ _ _ h => h) (Or.inl ⟨by kernel_rfl, ?_⟩) (by assumption) ?_
            rotate_left
            · intro w hSw; (try dsimp only at hSw); go_simp; (try with_reducible rfl)
            (try simp only [Act.put, List.getElem_toArray, List.getElem_cons_zero, List.getElem_cons_succ, List.setIfInBounds_toArray, List.set_cons_zero, List.set_cons_succ])
            refine wpAnyH_take (i := 5) (v := ?_) rfl (by kernel_rfl) (by kernel_rfl) (by kernel_rfl) (fun _ _ _ h => h) (Or.inl ⟨by kernel_rfl, ?_⟩) (by assumption) ?_
            rotate_left
            · intro w hSw; (try dsimp only at hSw); go_simp; (try with_reducible rfl)
            (try simp only [Act.put, List.getElem_toArray, List.getElem_cons_zero, List.getElem_cons_succ, List.setIfInBounds_toArray, List.set_cons_zero, List.set_cons_succ])
            refine wpAnyH_take (i := 6) (v := ?_) rfl (by kernel_rfl) (by kernel_rfl) (by kernel_rfl) (fun _ _ _ h => h) (Or.inl ⟨by kernel_rfl, ?_⟩) (by assumption) ?_
            rotate_left
            · intro w hSw; (try dsimp only at hSw); go_simp; (try with_reducible rfl)
            (try simp only [Act.put, List.getElem_toArray, List.getElem_cons_zero, List.getElem_cons_succ, List.setIfInBounds_toArray, List.set_cons_zero, List.set_cons_succ])
            refine wpAnyH_take (i := 7) (v := ?_) rfl (by kernel_rfl) (by kernel_rfl) (by kernel_rfl) (fun _ _ _ h => h) (Or.inl ⟨by kernel_rfl, ?_⟩) (by assumption) ?_
            rotate_left
            · intro w hSw; (try dsimp only at hSw); go_simp; (try with_reducible rfl)
            (try simp only [Act.put, List.getElem_toArray, List.getElem_cons_zero, List.getElem_cons_succ, List.setIfInBounds_toArray, List.set_cons_zero, List.set_cons_succ])
            refine wpAnyH_ready (rs := [8]) (by kernel_rfl) (by simp) ?_
            refine AllReadyH.cons rfl (fun K hK => ?_) AllReadyH.nil
            go_simp
            go_at_call 52
            refine (HKK.out _ (Kept.refl w).drew).mono ?_
            rintro e w2 ⟨rfl, k2⟩
            have k2 := (Kept.refl w).drew.trans k2
            refine hK.out _ _ ⟨k2.cell d5, k2.cell c4, k2⟩ (fun hHeld1 => ?_)
            clear hK K
            (try simp only [Act.put, List.getElem_toArray, List.getElem_cons_zero, List.getElem_cons_succ, List.setIfInBounds_toArray, List.set_cons_zero, List.set_cons_succ])
            clear hHeld0
            refine wpAnyH_take (i := 9) (v := ?_) rfl (by kernel_rfl) (by kernel_rfl) (by kernel_rfl) (fun _ _ _ h => h) (Or.inl ⟨by kernel_rfl, ?_⟩) (by assumption) ?_
            rotate_left
            · intro w hSw; (try dsimp only at hSw); go_simp; (try with_reducible rfl)
            (try simp only [Act.put, List.getElem_toArray, List.getElem_cons_zero, List.getElem_cons_succ, List.setIfInBounds_toArray, List.set_cons_zero, List.set_cons_succ])
            refine wpAnyH_done (by kernel_rfl) ?_ _
            clear hHeld1
            have d0 := k2.cell d0
            have d1 := k2.cell d1
            have d2 := k2.cell d2
            have d3 := k2.cell d3
            have d4 := k2.cell d4
            have d5 := k2.cell d5
            have c0 := k2.cell c0
            have c1 := k2.cell c1
            have c3 := k2.cell c3
            have c4 := k2.cell c4
            go_wp2_with (first | (go_at_call 53; refine (HFO.out _ k2).mono ?_; rintro e w3 ⟨rfl, k3⟩; have d0 := k3.cell d0; have d1 := k3.cell d1; have d2 := k3.cell d2; have d4 := k3.cell d4; have c0 := k3.cell c0; have c1 := k3.cell c1; have c3 := k3.cell c3; replace k2 := k2.trans k3; clear k3) | (go_at_call 54; refine (HNM.out _ k2).mono ?_; rintro e w3 ⟨rfl, k3⟩; have d0 := k3.cell d0; have d1 := k3.cell d1; have d2 := k3.cell d2; have d4 := k3.cell d4; have c0 := k3.cell c0; have c1 := k3.cell c1; have c3 := k3.cell c3; replace k2 := k2.trans k3; clear k3))
            refine wp_region_held_drew (S := (fun W => W.cell? ⟨b, o + 4, none⟩ = some (.int .i64 x.n) ∧ W.cell? ⟨tb, to + kn * 5 + 3, none⟩ = some (.int .i64 nd.most) ∧ Kept w W)) (by kernel_rfl) ⟨(Kept.refl _).drew.cell d4, (Kept.refl _).drew.cell c3, k2.drew⟩ (fun hHeld0 => ?_)
            refine wpAnyH_take (i := 0) (v := ?_) rfl (by kernel_rfl) (by kernel_rfl) (by kernel_rfl) (fun _ _ _ h => h) (Or.inl ⟨by kernel_rfl, ?_⟩) (by assumption) ?_
            rotate_left
            · intro w hSw; (try dsimp only at hSw); go_simp; (try with_reducible rfl)
            (try simp only [Act.put, List.getElem_toArray, List.getElem_cons_zero, List.getElem_cons_succ, List.setIfInBounds_toArray, List.set_cons_zero, List.set_cons_succ])
            refine wpAnyH_take (i := 1) (v := ?_) rfl (by kernel_rfl) (by kernel_rfl) (by kernel_rfl) (fun _ _ _ h => h) (Or.inl ⟨by kernel_rfl, ?_⟩) (by assumption) ?_
            rotate_left
            · intro w hSw; (try dsimp only at hSw); go_simp; (try with_reducible rfl)
            (try simp only [Act.put, List.getElem_toArray, List.getElem_cons_zero, List.getElem_cons_succ, List.setIfInBounds_toArray, List.set_cons_zero, List.set_cons_succ])
            refine wpAnyH_take (i := 2) (v := ?_) rfl (by kernel_rfl) (by kernel_rfl) (by kernel_rfl) (fun _ _ _ h => h) (Or.inl ⟨by kernel_rfl, ?_⟩) (by assumption) ?_
            rotate_left
            · intro w hSw; (try dsimp only at hSw); go_simp; (try with_reducible rfl)
            (try simp only [Act.put, List.getElem_toArray, List.getElem_cons_zero, List.getElem_cons_succ, List.setIfInBounds_toArray, List.set_cons_zero, List.set_cons_succ])
            refine wpAnyH_take (i := 3) (v := ?_) rfl (by kernel_rfl) (by kernel_rfl) (by kernel_rfl) (fun _ _ _ h => h) (Or.inl ⟨by kernel_rfl, ?_⟩) (by assumption) ?_
            rotate_left
            · intro w hSw; (try dsimp only at hSw); go_simp; (try with_reducible rfl)
            (try simp only [Act.put, List.getElem_toArray, List.getElem_cons_zero, List.getElem_cons_succ, List.setIfInBounds_toArray, List.set_cons_zero, List.set_cons_succ])
            refine wpAnyH_take (i := 4) (v := ?_) rfl (by kernel_rfl) (by kernel_rfl) (by kernel_rfl) (fun _ _ _ h => h) (Or.inl ⟨by kernel_rfl, ?_⟩) (by assumption) ?_
            rotate_left
            · intro w hSw; (try dsimp only at hSw); go_simp; (try with_reducible rfl)
            (try simp only [Act.put, List.getElem_toArray, List.getElem_cons_zero, List.getElem_cons_succ, List.setIfInBounds_toArray, List.set_cons_zero, List.set_cons_succ])
            refine wpAnyH_take (i := 5) (v := ?_) rfl (by kernel_rfl) (by kernel_rfl) (by kernel_rfl) (fun _ _ _ h => h) (Or.inl ⟨by kernel_rfl, ?_⟩) (by assumption) ?_
            rotate_left
            · intro w hSw; (try dsimp only at hSw); go_simp; (try with_reducible rfl)
            (try simp only [Act.put, List.getElem_toArray, List.getElem_cons_zero, List.getElem_cons_succ, List.setIfInBounds_toArray, List.set_cons_zero, List.set_cons_succ])
            refine wpAnyH_take (i := 6) (v := ?_) rfl (by kernel_rfl) (by kernel_rfl) (by kernel_rfl) (fun _ _ _ h => h) (Or.inl ⟨by kernel_rfl, ?_⟩) (by assumption) ?_
            rotate_left
            · intro w hSw; (try dsimp only at hSw); go_simp; (try with_reducible rfl)
            (try simp only [Act.put, List.getElem_toArray, List.getElem_cons_zero, List.getElem_cons_succ, List.setIfInBounds_toArray, List.set_cons_zero, List.set_cons_succ])
            refine wpAnyH_take (i := 7) (v := ?_) rfl (by kernel_rfl) (by kernel_rfl) (by kernel_rfl) (fun _ _ _ h => h) (Or.inl ⟨by kernel_rfl, ?_⟩) (by assumption) ?_
            rotate_left
            · intro w hSw; (try dsimp only at hSw); go_simp; (try with_reducible rfl)
            (try simp only [Act.put, List.getElem_toArray, List.getElem_cons_zero, List.getElem_cons_succ, List.setIfInBounds_toArray, List.set_cons_zero, List.set_cons_succ])
            refine wpAnyH_take (i := 8) (v := ?_) rfl (by kernel_rfl) (by kernel_rfl) (by kernel_rfl) (fun _ _ _ h => h) (Or.inl ⟨by kernel_rfl, ?_⟩) (by assumption) ?_
            rotate_left
            · intro w hSw; (try dsimp only at hSw); go_simp; (try with_reducible rfl)
            (try simp only [Act.put, List.getElem_toArray, List.getElem_cons_zero, List.getElem_cons_succ, List.setIfInBounds_toArray, List.set_cons_zero, List.set_cons_succ])
            refine wpAnyH_take (i := 9) (v := ?_) rfl (by kernel_rfl) (by kernel_rfl) (by kernel_rfl) (fun _ _ _ h => h) (Or.inl ⟨by kernel_rfl, ?_⟩) (by assumption) ?_
            rotate_left
            · intro w hSw; (try dsimp only at hSw); go_simp; (try with_reducible rfl)
            (try simp only [Act.put, List.getElem_toArray, List.getElem_cons_zero, List.getElem_cons_succ, List.setIfInBounds_toArray, List.set_cons_zero, List.set_cons_succ])
            refine wpAnyH_take (i := 10) (v := ?_) rfl (by kernel_rfl) (by kernel_rfl) (by kernel_rfl) (fun _ _ _ h => h) (Or.inl ⟨by kernel_rfl, ?_⟩) (by assumption) ?_
            rotate_left
            · intro w hSw; (try dsimp only at hSw); go_simp; (try with_reducible rfl)
            (try simp only [Act.put, List.getElem_toArray, List.getElem_cons_zero, List.getElem_cons_succ, List.setIfInBounds_toArray, List.set_cons_zero, List.set_cons_succ])
            refine wpAnyH_take (i := 11) (v := ?_) rfl (by kernel_rfl) (by kernel_rfl) (by kernel_rfl) (fun _ _ _ h => h) (Or.inl ⟨by kernel_rfl, ?_⟩) (by assumption) ?_
            rotate_left
            · intro w hSw; (try dsimp only at hSw); go_simp; (try with_reducible rfl)
            (try simp only [Act.put, List.getElem_toArray, List.getElem_cons_zero, List.getElem_cons_succ, List.setIfInBounds_toArray, List.set_cons_zero, List.set_cons_succ])
            refine wpAnyH_take (i := 12) (v := ?_) rfl (by kernel_rfl) (by kernel_rfl) (by kernel_rfl) (fun _ _ _ h => h) (Or.inl ⟨by kernel_rfl, ?_⟩) (by assumption) ?_
            rotate_left
            · intro w hSw; (try dsimp only at hSw); go_simp; (try with_reducible rfl)
            (try simp only [Act.put, List.getElem_toArray, List.getElem_cons_zero, List.getElem_cons_succ, List.setIfInBounds_toArray, List.set_cons_zero, List.set_cons_succ])
            refine wpAnyH_take (i := 13) (v := ?_) rfl (by kernel_rfl) (by kernel_rfl) (by kernel_rfl) (fun _ _ _ h => h) (Or.inl ⟨by kernel_rfl, ?_⟩) (by assumption) ?_
            rotate_left
            · intro w hSw; (try dsimp only at hSw); go_simp; (try with_reducible rfl)
            (try simp only [Act.put, List.getElem_toArray, List.getElem_cons_zero, List.getElem_cons_succ, List.setIfInBounds_toArray, List.set_cons_zero, List.set_cons_succ])
            refine wpAnyH_take (i := 14) (v := ?_) rfl (by kernel_rfl) (by kernel_rfl) (by kernel_rfl) (fun _ _ _ h => h) (Or.inl ⟨by kernel_rfl, ?_⟩) (by assumption) ?_
            rotate_left
            · intro w hSw; (try dsimp only at hSw); go_simp; (try with_reducible rfl)
            (try simp only [Act.put, List.getElem_toArray, List.getElem_cons_zero, List.getElem_cons_succ, List.setIfInBounds_toArray, List.set_cons_zero, List.set_cons_succ])
            refine wpAnyH_take (i := 15) (v := ?_) rfl (by kernel_rfl) (by kernel_rfl) (by kernel_rfl) (fun _ _ _ h => h) (Or.inl ⟨by kernel_rfl, ?_⟩) (by assumption) ?_
            rotate_left
            · intro w hSw; (try dsimp only at hSw); go_simp; (try with_reducible rfl)
            (try simp only [Act.put, List.getElem_toArray, List.getElem_cons_zero, List.getElem_cons_succ, List.setIfInBounds_toArray, List.set_cons_zero, List.set_cons_succ])
            refine wpAnyH_take (i := 16) (v := ?_) rfl (by kernel_rfl) (by kernel_rfl) (by kernel_rfl) (fun _ _ _ h => h) (Or.inl ⟨by kernel_rfl, ?_⟩) (by assumption) ?_
            rotate_left
            · intro w hSw; (try dsimp only at hSw); go_simp; (try with_reducible rfl)
            (try simp only [Act.put, List.getElem_toArray, List.getElem_cons_zero, List.getElem_cons_succ, List.setIfInBounds_toArray, List.set_cons_zero, List.set_cons_succ])
            refine wpAnyH_done (by kernel_rfl) ?_ _
            clear hHeld0
            replace k2 := k2.drew
            go_wp2_with fail
            go_ret
            exact ⟨by rw [HV.out]; rfl, k2⟩
          have hnb1 : decide (nd.most < x.n) = false := decide_eq_false hn1
          by_cases ht7 : nd.text = 7
          · have htb7 : (nd.text == 7) = true := by simp [ht7]
            by_cases hsz : 1000 < x.text.size
            · have hszI : decide ((1000 : Int) < (x.text.size : Int)) = true := decide_eq_true (by omega)
              have HV := Lib.hid (show nodeE x = 4 by rw [HE.out]; unfold ruleE; simp [hk0, hf, hm, ht4, hn0, hn1, ht7, hsz])
              clear hk0 hf hm ht4 hn0 hn1 ht7 hsz
              go_enter Tryz.func34, Tryz.ntmps34
              go_wp2_with fail
              refine wp_region_held_drew (S := (fun W => W.cell? ⟨b, o + 5, none⟩ = some (.slice kad x.kids.length kc) ∧ W.cell? ⟨tb, to + kn * 5 + 4, none⟩ = some (.slice pa nd.kids.length pc) ∧ Kept w W)) (by kernel_rfl) ⟨(Kept.refl w).drew.cell d5, (Kept.refl w).drew.cell c4, (Kept.refl w).drew⟩ (fun hHeld0 => ?_)
              refine wpAnyH_take (i := 0) (v := ?_) rfl (by kernel_rfl) (by kernel_rfl) (by kernel_rfl) (fun _ _ _ h => h) (Or.inl ⟨by kernel_rfl, ?_⟩) (by assumption) ?_
              rotate_left
              · intro w hSw; (try dsimp only at hSw); go_simp; (try with_reducible rfl)
              (try simp only [Act.put, List.getElem_toArray, List.getElem_cons_zero, List.getElem_cons_succ, List.setIfInBounds_toArray, List.set_cons_zero, List.set_cons_succ])
              refine wpAnyH_take (i := 1) (v := ?_) rfl (by kernel_rfl) (by kernel_rfl) (by kernel_rfl) (fun _ _ _ h => h) (Or.inl ⟨by kernel_rfl, ?_⟩) (by assumption) ?_
              rotate_left
              · intro w hSw; (try dsimp only at hSw); go_simp; (try with_reducible rfl)
              (try simp only [Act.put, List.getElem_toArray, List.getElem_cons_zero, List.getElem_cons_succ, List.setIfInBounds_toArray, List.set_cons_zero, List.set_cons_succ])
              refine wpAnyH_take (i := 2) (v := ?_) rfl (by kernel_rfl) (by kernel_rfl) (by kernel_rfl) (fun _ _ _ h => h) (Or.inl ⟨by kernel_rfl, ?_⟩) (by assumption) ?_
              rotate_left
              · intro w hSw; (try dsimp only at hSw); go_simp; (try with_reducible rfl)
              (try simp only [Act.put, List.getElem_toArray, List.getElem_cons_zero, List.getElem_cons_succ, List.setIfInBounds_toArray, List.set_cons_zero, List.set_cons_succ])
              refine wpAnyH_take (i := 3) (v := ?_) rfl (by kernel_rfl) (by kernel_rfl) (by kernel_rfl) (fun _ _ _ h => h) (Or.inl ⟨by kernel_rfl, ?_⟩) (by assumption) ?_
              rotate_left
              · intro w hSw; (try dsimp only at hSw); go_simp; (try with_reducible rfl)
              (try simp only [Act.put, List.getElem_toArray, List.getElem_cons_zero, List.getElem_cons_succ, List.setIfInBounds_toArray, List.set_cons_zero, List.set_cons_succ])
              refine wpAnyH_take (i := 4) (v := ?_) rfl (by kernel_rfl) (by kernel_rfl) (by kernel_rfl) (fun _ _ _ h => h) (Or.inl ⟨by kernel_rfl, ?_⟩) (by assumption) ?_
              rotate_left
              · intro w hSw; (try dsimp only at hSw); go_simp; (try with_reducible rfl)
              (try simp only [Act.put, List.getElem_toArray, List.getElem_cons_zero, List.getElem_cons_succ, List.setIfInBounds_toArray, List.set_cons_zero, List.set_cons_succ])
              refine wpAnyH_take (i := 5) (v := ?_) rfl (by kernel_rfl) (by kernel_rfl) (by kernel_rfl) (fun _ _ _ h => h) (Or.inl ⟨by kernel_rfl, ?_⟩) (by assumption) ?_
              rotate_left
              · intro w hSw; (try dsimp only at hSw); go_simp; (try with_reducible rfl)
              (try simp only [Act.put, List.getElem_toArray, List.getElem_cons_zero, List.getElem_cons_succ, List.setIfInBounds_toArray, List.set_cons_zero, List.set_cons_succ])
              refine wpAnyH_take (i := 6) (v := ?_) rfl (by kernel_rfl) (by kernel_rfl) (by kernel_rfl) (fun _ _ _ h => h) (Or.inl ⟨by kernel_rfl, ?_⟩) (by assumption) ?_
              rotate_left
              · intro w hSw; (try dsimp only at hSw); go_simp; (try with_reducible rfl)
              (try simp only [Act.put, List.getElem_toArray, List.getElem_cons_zero, List.getElem_cons_succ, List.setIfInBounds_toArray, List.set_cons_zero, List.set_cons_succ])
              refine wpAnyH_take (i := 7) (v := ?_) rfl (by kernel_rfl) (by kernel_rfl) (by kernel_rfl) (fun _ _ _ h => h) (Or.inl ⟨by kernel_rfl, ?_⟩) (by assumption) ?_
              rotate_left
              · intro w hSw; (try dsimp only at hSw); go_simp; (try with_reducible rfl)
              (try simp only [Act.put, List.getElem_toArray, List.getElem_cons_zero, List.getElem_cons_succ, List.setIfInBounds_toArray, List.set_cons_zero, List.set_cons_succ])
              refine wpAnyH_ready (rs := [8]) (by kernel_rfl) (by simp) ?_
              refine AllReadyH.cons rfl (fun K hK => ?_) AllReadyH.nil
              go_simp
              go_at_call 52
              refine (HKK.out _ (Kept.refl w).drew).mono ?_
              rintro e w2 ⟨rfl, k2⟩
              have k2 := (Kept.refl w).drew.trans k2
              refine hK.out _ _ ⟨k2.cell d5, k2.cell c4, k2⟩ (fun hHeld1 => ?_)
              clear hK K
              (try simp only [Act.put, List.getElem_toArray, List.getElem_cons_zero, List.getElem_cons_succ, List.setIfInBounds_toArray, List.set_cons_zero, List.set_cons_succ])
              clear hHeld0
              refine wpAnyH_take (i := 9) (v := ?_) rfl (by kernel_rfl) (by kernel_rfl) (by kernel_rfl) (fun _ _ _ h => h) (Or.inl ⟨by kernel_rfl, ?_⟩) (by assumption) ?_
              rotate_left
              · intro w hSw; (try dsimp only at hSw); go_simp; (try with_reducible rfl)
              (try simp only [Act.put, List.getElem_toArray, List.getElem_cons_zero, List.getElem_cons_succ, List.setIfInBounds_toArray, List.set_cons_zero, List.set_cons_succ])
              refine wpAnyH_done (by kernel_rfl) ?_ _
              clear hHeld1
              have d0 := k2.cell d0
              have d1 := k2.cell d1
              have d2 := k2.cell d2
              have d3 := k2.cell d3
              have d4 := k2.cell d4
              have d5 := k2.cell d5
              have c0 := k2.cell c0
              have c1 := k2.cell c1
              have c3 := k2.cell c3
              have c4 := k2.cell c4
              go_wp2_with (first | (go_at_call 53; refine (HFO.out _ k2).mono ?_; rintro e w3 ⟨rfl, k3⟩; have d0 := k3.cell d0; have d1 := k3.cell d1; have d2 := k3.cell d2; have d4 := k3.cell d4; have c0 := k3.cell c0; have c1 := k3.cell c1; have c3 := k3.cell c3; replace k2 := k2.trans k3; clear k3) | (go_at_call 54; refine (HNM.out _ k2).mono ?_; rintro e w3 ⟨rfl, k3⟩; have d0 := k3.cell d0; have d1 := k3.cell d1; have d2 := k3.cell d2; have d4 := k3.cell d4; have c0 := k3.cell c0; have c1 := k3.cell c1; have c3 := k3.cell c3; replace k2 := k2.trans k3; clear k3))
              refine wp_region_held_drew (S := (fun W => W.cell? ⟨b, o + 4, none⟩ = some (.int .i64 x.n) ∧ W.cell? ⟨tb, to + kn * 5 + 3, none⟩ = some (.int .i64 nd.most) ∧ Kept w W)) (by kernel_rfl) ⟨(Kept.refl _).drew.cell d4, (Kept.refl _).drew.cell c3, k2.drew⟩ (fun hHeld0 => ?_)
              refine wpAnyH_take (i := 0) (v := ?_) rfl (by kernel_rfl) (by kernel_rfl) (by kernel_rfl) (fun _ _ _ h => h) (Or.inl ⟨by kernel_rfl, ?_⟩) (by assumption) ?_
              rotate_left
              · intro w hSw; (try dsimp only at hSw); go_simp; (try with_reducible rfl)
              (try simp only [Act.put, List.getElem_toArray, List.getElem_cons_zero, List.getElem_cons_succ, List.setIfInBounds_toArray, List.set_cons_zero, List.set_cons_succ])
              refine wpAnyH_take (i := 1) (v := ?_) rfl (by kernel_rfl) (by kernel_rfl) (by kernel_rfl) (fun _ _ _ h => h) (Or.inl ⟨by kernel_rfl, ?_⟩) (by assumption) ?_
              rotate_left
              · intro w hSw; (try dsimp only at hSw); go_simp; (try with_reducible rfl)
              (try simp only [Act.put, List.getElem_toArray, List.getElem_cons_zero, List.getElem_cons_succ, List.setIfInBounds_toArray, List.set_cons_zero, List.set_cons_succ])
              refine wpAnyH_take (i := 2) (v := ?_) rfl (by kernel_rfl) (by kernel_rfl) (by kernel_rfl) (fun _ _ _ h => h) (Or.inl ⟨by kernel_rfl, ?_⟩) (by assumption) ?_
              rotate_left
              · intro w hSw; (try dsimp only at hSw); go_simp; (try with_reducible rfl)
              (try simp only [Act.put, List.getElem_toArray, List.getElem_cons_zero, List.getElem_cons_succ, List.setIfInBounds_toArray, List.set_cons_zero, List.set_cons_succ])
              refine wpAnyH_take (i := 3) (v := ?_) rfl (by kernel_rfl) (by kernel_rfl) (by kernel_rfl) (fun _ _ _ h => h) (Or.inl ⟨by kernel_rfl, ?_⟩) (by assumption) ?_
              rotate_left
              · intro w hSw; (try dsimp only at hSw); go_simp; (try with_reducible rfl)
              (try simp only [Act.put, List.getElem_toArray, List.getElem_cons_zero, List.getElem_cons_succ, List.setIfInBounds_toArray, List.set_cons_zero, List.set_cons_succ])
              refine wpAnyH_take (i := 4) (v := ?_) rfl (by kernel_rfl) (by kernel_rfl) (by kernel_rfl) (fun _ _ _ h => h) (Or.inl ⟨by kernel_rfl, ?_⟩) (by assumption) ?_
              rotate_left
              · intro w hSw; (try dsimp only at hSw); go_simp; (try with_reducible rfl)
              (try simp only [Act.put, List.getElem_toArray, List.getElem_cons_zero, List.getElem_cons_succ, List.setIfInBounds_toArray, List.set_cons_zero, List.set_cons_succ])
              refine wpAnyH_take (i := 5) (v := ?_) rfl (by kernel_rfl) (by kernel_rfl) (by kernel_rfl) (fun _ _ _ h => h) (Or.inl ⟨by kernel_rfl, ?_⟩) (by assumption) ?_
              rotate_left
              · intro w hSw; (try dsimp only at hSw); go_simp; (try with_reducible rfl)
              (try simp only [Act.put, List.getElem_toArray, List.getElem_cons_zero, List.getElem_cons_succ, List.setIfInBounds_toArray, List.set_cons_zero, List.set_cons_succ])
              refine wpAnyH_take (i := 6) (v := ?_) rfl (by kernel_rfl) (by kernel_rfl) (by kernel_rfl) (fun _ _ _ h => h) (Or.inl ⟨by kernel_rfl, ?_⟩) (by assumption) ?_
              rotate_left
              · intro w hSw; (try dsimp only at hSw); go_simp; (try with_reducible rfl)
              (try simp only [Act.put, List.getElem_toArray, List.getElem_cons_zero, List.getElem_cons_succ, List.setIfInBounds_toArray, List.set_cons_zero, List.set_cons_succ])
              refine wpAnyH_take (i := 7) (v := ?_) rfl (by kernel_rfl) (by kernel_rfl) (by kernel_rfl) (fun _ _ _ h => h) (Or.inl ⟨by kernel_rfl, ?_⟩) (by assumption) ?_
              rotate_left
              · intro w hSw; (try dsimp only at hSw); go_simp; (try with_reducible rfl)
              (try simp only [Act.put, List.getElem_toArray, List.getElem_cons_zero, List.getElem_cons_succ, List.setIfInBounds_toArray, List.set_cons_zero, List.set_cons_succ])
              refine wpAnyH_take (i := 8) (v := ?_) rfl (by kernel_rfl) (by kernel_rfl) (by kernel_rfl) (fun _ _ _ h => h) (Or.inl ⟨by kernel_rfl, ?_⟩) (by assumption) ?_
              rotate_left
              · intro w hSw; (try dsimp only at hSw); go_simp; (try with_reducible rfl)
              (try simp only [Act.put, List.getElem_toArray, List.getElem_cons_zero, List.getElem_cons_succ, List.setIfInBounds_toArray, List.set_cons_zero, List.set_cons_succ])
              refine wpAnyH_take (i := 9) (v := ?_) rfl (by kernel_rfl) (by kernel_rfl) (by kernel_rfl) (fun _ _ _ h => h) (Or.inl ⟨by kernel_rfl, ?_⟩) (by assumption) ?_
              rotate_left
              · intro w hSw; (try dsimp only at hSw); go_simp; (try with_reducible rfl)
              (try simp only [Act.put, List.getElem_toArray, List.getElem_cons_zero, List.getElem_cons_succ, List.setIfInBounds_toArray, List.set_cons_zero, List.set_cons_succ])
              refine wpAnyH_take (i := 10) (v := ?_) rfl (by kernel_rfl) (by kernel_rfl) (by kernel_rfl) (fun _ _ _ h => h) (Or.inl ⟨by kernel_rfl, ?_⟩) (by assumption) ?_
              rotate_left
              · intro w hSw; (try dsimp only at hSw); go_simp; (try with_reducible rfl)
              (try simp only [Act.put, List.getElem_toArray, List.getElem_cons_zero, List.getElem_cons_succ, List.setIfInBounds_toArray, List.set_cons_zero, List.set_cons_succ])
              refine wpAnyH_take (i := 11) (v := ?_) rfl (by kernel_rfl) (by kernel_rfl) (by kernel_rfl) (fun _ _ _ h => h) (Or.inl ⟨by kernel_rfl, ?_⟩) (by assumption) ?_
              rotate_left
              · intro w hSw; (try dsimp only at hSw); go_simp; (try with_reducible rfl)
              (try simp only [Act.put, List.getElem_toArray, List.getElem_cons_zero, List.getElem_cons_succ, List.setIfInBounds_toArray, List.set_cons_zero, List.set_cons_succ])
              refine wpAnyH_take (i := 12) (v := ?_) rfl (by kernel_rfl) (by kernel_rfl) (by kernel_rfl) (fun _ _ _ h => h) (Or.inl ⟨by kernel_rfl, ?_⟩) (by assumption) ?_
              rotate_left
              · intro w hSw; (try dsimp only at hSw); go_simp; (try with_reducible rfl)
              (try simp only [Act.put, List.getElem_toArray, List.getElem_cons_zero, List.getElem_cons_succ, List.setIfInBounds_toArray, List.set_cons_zero, List.set_cons_succ])
              refine wpAnyH_take (i := 13) (v := ?_) rfl (by kernel_rfl) (by kernel_rfl) (by kernel_rfl) (fun _ _ _ h => h) (Or.inl ⟨by kernel_rfl, ?_⟩) (by assumption) ?_
              rotate_left
              · intro w hSw; (try dsimp only at hSw); go_simp; (try with_reducible rfl)
              (try simp only [Act.put, List.getElem_toArray, List.getElem_cons_zero, List.getElem_cons_succ, List.setIfInBounds_toArray, List.set_cons_zero, List.set_cons_succ])
              refine wpAnyH_take (i := 14) (v := ?_) rfl (by kernel_rfl) (by kernel_rfl) (by kernel_rfl) (fun _ _ _ h => h) (Or.inl ⟨by kernel_rfl, ?_⟩) (by assumption) ?_
              rotate_left
              · intro w hSw; (try dsimp only at hSw); go_simp; (try with_reducible rfl)
              (try simp only [Act.put, List.getElem_toArray, List.getElem_cons_zero, List.getElem_cons_succ, List.setIfInBounds_toArray, List.set_cons_zero, List.set_cons_succ])
              refine wpAnyH_take (i := 15) (v := ?_) rfl (by kernel_rfl) (by kernel_rfl) (by kernel_rfl) (fun _ _ _ h => h) (Or.inl ⟨by kernel_rfl, ?_⟩) (by assumption) ?_
              rotate_left
              · intro w hSw; (try dsimp only at hSw); go_simp; (try with_reducible rfl)
              (try simp only [Act.put, List.getElem_toArray, List.getElem_cons_zero, List.getElem_cons_succ, List.setIfInBounds_toArray, List.set_cons_zero, List.set_cons_succ])
              refine wpAnyH_take (i := 16) (v := ?_) rfl (by kernel_rfl) (by kernel_rfl) (by kernel_rfl) (fun _ _ _ h => h) (Or.inl ⟨by kernel_rfl, ?_⟩) (by assumption) ?_
              rotate_left
              · intro w hSw; (try dsimp only at hSw); go_simp; (try with_reducible rfl)
              (try simp only [Act.put, List.getElem_toArray, List.getElem_cons_zero, List.getElem_cons_succ, List.setIfInBounds_toArray, List.set_cons_zero, List.set_cons_succ])
              refine wpAnyH_done (by kernel_rfl) ?_ _
              clear hHeld0
              replace k2 := k2.drew
              have c0 := (Kept.refl _).drew.cell c0
              have d1 := (Kept.refl _).drew.cell d1
              go_wp2_with fail
              go_ret
              exact ⟨by rw [HV.out]; rfl, k2⟩
            · have hszI : decide ((1000 : Int) < (x.text.size : Int)) = false := decide_eq_false (by omega)
              have HV := Lib.hid (show nodeE x = 0 by rw [HE.out]; unfold ruleE; simp [hk0, hf, hm, ht4, hn0, hn1, ht7, hsz])
              clear hk0 hf hm ht4 hn0 hn1 ht7 hsz
              go_enter Tryz.func34, Tryz.ntmps34
              go_wp2_with fail
              refine wp_region_held_drew (S := (fun W => W.cell? ⟨b, o + 5, none⟩ = some (.slice kad x.kids.length kc) ∧ W.cell? ⟨tb, to + kn * 5 + 4, none⟩ = some (.slice pa nd.kids.length pc) ∧ Kept w W)) (by kernel_rfl) ⟨(Kept.refl w).drew.cell d5, (Kept.refl w).drew.cell c4, (Kept.refl w).drew⟩ (fun hHeld0 => ?_)
              refine wpAnyH_take (i := 0) (v := ?_) rfl (by kernel_rfl) (by kernel_rfl) (by kernel_rfl) (fun _ _ _ h => h) (Or.inl ⟨by kernel_rfl, ?_⟩) (by assumption) ?_
              rotate_left
              · intro w hSw; (try dsimp only at hSw); go_simp; (try with_reducible rfl)
              (try simp only [Act.put, List.getElem_toArray, List.getElem_cons_zero, List.getElem_cons_succ, List.setIfInBounds_toArray, List.set_cons_zero, List.set_cons_succ])
              refine wpAnyH_take (i := 1) (v := ?_) rfl (by kernel_rfl) (by kernel_rfl) (by kernel_rfl) (fun _ _ _ h => h) (Or.inl ⟨by kernel_rfl, ?_⟩) (by assumption) ?_
              rotate_left
              · intro w hSw; (try dsimp only at hSw); go_simp; (try with_reducible rfl)
              (try simp only [Act.put, List.getElem_toArray, List.getElem_cons_zero, List.getElem_cons_succ, List.setIfInBounds_toArray, List.set_cons_zero, List.set_cons_succ])
              refine wpAnyH_take (i := 2) (v := ?_) rfl (by kernel_rfl) (by kernel_rfl) (by kernel_rfl) (fun _ _ _ h => h) (Or.inl ⟨by kernel_rfl, ?_⟩) (by assumption) ?_
              rotate_left
              · intro w hSw; (try dsimp only at hSw); go_simp; (try with_reducible rfl)
              (try simp only [Act.put, List.getElem_toArray, List.getElem_cons_zero, List.getElem_cons_succ, List.setIfInBounds_toArray, List.set_cons_zero, List.set_cons_succ])
              refine wpAnyH_take (i := 3) (v := ?_) rfl (by kernel_rfl) (by kernel_rfl) (by kernel_rfl) (fun _ _ _ h => h) (Or.inl ⟨by kernel_rfl, ?_⟩) (by assumption) ?_
              rotate_left
              · intro w hSw; (try dsimp only at hSw); go_simp; (try with_reducible rfl)
              (try simp only [Act.put, List.getElem_toArray, List.getElem_cons_zero, List.getElem_cons_succ, List.setIfInBounds_toArray, List.set_cons_zero, List.set_cons_succ])
              refine wpAnyH_take (i := 4) (v := ?_) rfl (by kernel_rfl) (by kernel_rfl) (by kernel_rfl) (fun _ _ _ h => h) (Or.inl ⟨by kernel_rfl, ?_⟩) (by assumption) ?_
              rotate_left
              · intro w hSw; (try dsimp only at hSw); go_simp; (try with_reducible rfl)
              (try simp only [Act.put, List.getElem_toArray, List.getElem_cons_zero, List.getElem_cons_succ, List.setIfInBounds_toArray, List.set_cons_zero, List.set_cons_succ])
              refine wpAnyH_take (i := 5) (v := ?_) rfl (by kernel_rfl) (by kernel_rfl) (by kernel_rfl) (fun _ _ _ h => h) (Or.inl ⟨by kernel_rfl, ?_⟩) (by assumption) ?_
              rotate_left
              · intro w hSw; (try dsimp only at hSw); go_simp; (try with_reducible rfl)
              (try simp only [Act.put, List.getElem_toArray, List.getElem_cons_zero, List.getElem_cons_succ, List.setIfInBounds_toArray, List.set_cons_zero, List.set_cons_succ])
              refine wpAnyH_take (i := 6) (v := ?_) rfl (by kernel_rfl) (by kernel_rfl) (by kernel_rfl) (fun _ _ _ h => h) (Or.inl ⟨by kernel_rfl, ?_⟩) (by assumption) ?_
              rotate_left
              · intro w hSw; (try dsimp only at hSw); go_simp; (try with_reducible rfl)
              (try simp only [Act.put, List.getElem_toArray, List.getElem_cons_zero, List.getElem_cons_succ, List.setIfInBounds_toArray, List.set_cons_zero, List.set_cons_succ])
              refine wpAnyH_take (i := 7) (v := ?_) rfl (by kernel_rfl) (by kernel_rfl) (by kernel_rfl) (fun _ _ _ h => h) (Or.inl ⟨by kernel_rfl, ?_⟩) (by assumption) ?_
              rotate_left
              · intro w hSw; (try dsimp only at hSw); go_simp; (try with_reducible rfl)
              (try simp only [Act.put, List.getElem_toArray, List.getElem_cons_zero, List.getElem_cons_succ, List.setIfInBounds_toArray, List.set_cons_zero, List.set_cons_succ])
              refine wpAnyH_ready (rs := [8]) (by kernel_rfl) (by simp) ?_
              refine AllReadyH.cons rfl (fun K hK => ?_) AllReadyH.nil
              go_simp
              go_at_call 52
              refine (HKK.out _ (Kept.refl w).drew).mono ?_
              rintro e w2 ⟨rfl, k2⟩
              have k2 := (Kept.refl w).drew.trans k2
              refine hK.out _ _ ⟨k2.cell d5, k2.cell c4, k2⟩ (fun hHeld1 => ?_)
              clear hK K
              (try simp only [Act.put, List.getElem_toArray, List.getElem_cons_zero, List.getElem_cons_succ, List.setIfInBounds_toArray, List.set_cons_zero, List.set_cons_succ])
              clear hHeld0
              refine wpAnyH_take (i := 9) (v := ?_) rfl (by kernel_rfl) (by kernel_rfl) (by kernel_rfl) (fun _ _ _ h => h) (Or.inl ⟨by kernel_rfl, ?_⟩) (by assumption) ?_
              rotate_left
              · intro w hSw; (try dsimp only at hSw); go_simp; (try with_reducible rfl)
              (try simp only [Act.put, List.getElem_toArray, List.getElem_cons_zero, List.getElem_cons_succ, List.setIfInBounds_toArray, List.set_cons_zero, List.set_cons_succ])
              refine wpAnyH_done (by kernel_rfl) ?_ _
              clear hHeld1
              have d0 := k2.cell d0
              have d1 := k2.cell d1
              have d2 := k2.cell d2
              have d3 := k2.cell d3
              have d4 := k2.cell d4
              have d5 := k2.cell d5
              have c0 := k2.cell c0
              have c1 := k2.cell c1
              have c3 := k2.cell c3
              have c4 := k2.cell c4
              go_wp2_with (first | (go_at_call 53; refine (HFO.out _ k2).mono ?_; rintro e w3 ⟨rfl, k3⟩; have d0 := k3.cell d0; have d1 := k3.cell d1; have d2 := k3.cell d2; have d4 := k3.cell d4; have c0 := k3.cell c0; have c1 := k3.cell c1; have c3 := k3.cell c3; replace k2 := k2.trans k3; clear k3) | (go_at_call 54; refine (HNM.out _ k2).mono ?_; rintro e w3 ⟨rfl, k3⟩; have d0 := k3.cell d0; have d1 := k3.cell d1; have d2 := k3.cell d2; have d4 := k3.cell d4; have c0 := k3.cell c0; have c1 := k3.cell c1; have c3 := k3.cell c3; replace k2 := k2.trans k3; clear k3))
              refine wp_region_held_drew (S := (fun W => W.cell? ⟨b, o + 4, none⟩ = some (.int .i64 x.n) ∧ W.cell? ⟨tb, to + kn * 5 + 3, none⟩ = some (.int .i64 nd.most) ∧ Kept w W)) (by kernel_rfl) ⟨(Kept.refl _).drew.cell d4, (Kept.refl _).drew.cell c3, k2.drew⟩ (fun hHeld0 => ?_)
              refine wpAnyH_take (i := 0) (v := ?_) rfl (by kernel_rfl) (by kernel_rfl) (by kernel_rfl) (fun _ _ _ h => h) (Or.inl ⟨by kernel_rfl, ?_⟩) (by assumption) ?_
              rotate_left
              · intro w hSw; (try dsimp only at hSw); go_simp; (try with_reducible rfl)
              (try simp only [Act.put, List.getElem_toArray, List.getElem_cons_zero, List.getElem_cons_succ, List.setIfInBounds_toArray, List.set_cons_zero, List.set_cons_succ])
              refine wpAnyH_take (i := 1) (v := ?_) rfl (by kernel_rfl) (by kernel_rfl) (by kernel_rfl) (fun _ _ _ h => h) (Or.inl ⟨by kernel_rfl, ?_⟩) (by assumption) ?_
              rotate_left
              · intro w hSw; (try dsimp only at hSw); go_simp; (try with_reducible rfl)
              (try simp only [Act.put, List.getElem_toArray, List.getElem_cons_zero, List.getElem_cons_succ, List.setIfInBounds_toArray, List.set_cons_zero, List.set_cons_succ])
              refine wpAnyH_take (i := 2) (v := ?_) rfl (by kernel_rfl) (by kernel_rfl) (by kernel_rfl) (fun _ _ _ h => h) (Or.inl ⟨by kernel_rfl, ?_⟩) (by assumption) ?_
              rotate_left
              · intro w hSw; (try dsimp only at hSw); go_simp; (try with_reducible rfl)
              (try simp only [Act.put, List.getElem_toArray, List.getElem_cons_zero, List.getElem_cons_succ, List.setIfInBounds_toArray, List.set_cons_zero, List.set_cons_succ])
              refine wpAnyH_take (i := 3) (v := ?_) rfl (by kernel_rfl) (by kernel_rfl) (by kernel_rfl) (fun _ _ _ h => h) (Or.inl ⟨by kernel_rfl, ?_⟩) (by assumption) ?_
              rotate_left
              · intro w hSw; (try dsimp only at hSw); go_simp; (try with_reducible rfl)
              (try simp only [Act.put, List.getElem_toArray, List.getElem_cons_zero, List.getElem_cons_succ, List.setIfInBounds_toArray, List.set_cons_zero, List.set_cons_succ])
              refine wpAnyH_take (i := 4) (v := ?_) rfl (by kernel_rfl) (by kernel_rfl) (by kernel_rfl) (fun _ _ _ h => h) (Or.inl ⟨by kernel_rfl, ?_⟩) (by assumption) ?_
              rotate_left
              · intro w hSw; (try dsimp only at hSw); go_simp; (try with_reducible rfl)
              (try simp only [Act.put, List.getElem_toArray, List.getElem_cons_zero, List.getElem_cons_succ, List.setIfInBounds_toArray, List.set_cons_zero, List.set_cons_succ])
              refine wpAnyH_take (i := 5) (v := ?_) rfl (by kernel_rfl) (by kernel_rfl) (by kernel_rfl) (fun _ _ _ h => h) (Or.inl ⟨by kernel_rfl, ?_⟩) (by assumption) ?_
              rotate_left
              · intro w hSw; (try dsimp only at hSw); go_simp; (try with_reducible rfl)
              (try simp only [Act.put, List.getElem_toArray, List.getElem_cons_zero, List.getElem_cons_succ, List.setIfInBounds_toArray, List.set_cons_zero, List.set_cons_succ])
              refine wpAnyH_take (i := 6) (v := ?_) rfl (by kernel_rfl) (by kernel_rfl) (by kernel_rfl) (fun _ _ _ h => h) (Or.inl ⟨by kernel_rfl, ?_⟩) (by assumption) ?_
              rotate_left
              · intro w hSw; (try dsimp only at hSw); go_simp; (try with_reducible rfl)
              (try simp only [Act.put, List.getElem_toArray, List.getElem_cons_zero, List.getElem_cons_succ, List.setIfInBounds_toArray, List.set_cons_zero, List.set_cons_succ])
              refine wpAnyH_take (i := 7) (v := ?_) rfl (by kernel_rfl) (by kernel_rfl) (by kernel_rfl) (fun _ _ _ h => h) (Or.inl ⟨by kernel_rfl, ?_⟩) (by assumption) ?_
              rotate_left
              · intro w hSw; (try dsimp only at hSw); go_simp; (try with_reducible rfl)
              (try simp only [Act.put, List.getElem_toArray, List.getElem_cons_zero, List.getElem_cons_succ, List.setIfInBounds_toArray, List.set_cons_zero, List.set_cons_succ])
              refine wpAnyH_take (i := 8) (v := ?_) rfl (by kernel_rfl) (by kernel_rfl) (by kernel_rfl) (fun _ _ _ h => h) (Or.inl ⟨by kernel_rfl, ?_⟩) (by assumption) ?_
              rotate_left
              · intro w hSw; (try dsimp only at hSw); go_simp; (try with_reducible rfl)
              (try simp only [Act.put, List.getElem_toArray, List.getElem_cons_zero, List.getElem_cons_succ, List.setIfInBounds_toArray, List.set_cons_zero, List.set_cons_succ])
              refine wpAnyH_take (i := 9) (v := ?_) rfl (by kernel_rfl) (by kernel_rfl) (by kernel_rfl) (fun _ _ _ h => h) (Or.inl ⟨by kernel_rfl, ?_⟩) (by assumption) ?_
              rotate_left
              · intro w hSw; (try dsimp only at hSw); go_simp; (try with_reducible rfl)
              (try simp only [Act.put, List.getElem_toArray, List.getElem_cons_zero, List.getElem_cons_succ, List.setIfInBounds_toArray, List.set_cons_zero, List.set_cons_succ])
              refine wpAnyH_take (i := 10) (v := ?_) rfl (by kernel_rfl) (by kernel_rfl) (by kernel_rfl) (fun _ _ _ h => h) (Or.inl ⟨by kernel_rfl, ?_⟩) (by assumption) ?_
              rotate_left
              · intro w hSw; (try dsimp only at hSw); go_simp; (try with_reducible rfl)
              (try simp only [Act.put, List.getElem_toArray, List.getElem_cons_zero, List.getElem_cons_succ, List.setIfInBounds_toArray, List.set_cons_zero, List.set_cons_succ])
              refine wpAnyH_take (i := 11) (v := ?_) rfl (by kernel_rfl) (by kernel_rfl) (by kernel_rfl) (fun _ _ _ h => h) (Or.inl ⟨by kernel_rfl, ?_⟩) (by assumption) ?_
              rotate_left
              · intro w hSw; (try dsimp only at hSw); go_simp; (try with_reducible rfl)
              (try simp only [Act.put, List.getElem_toArray, List.getElem_cons_zero, List.getElem_cons_succ, List.setIfInBounds_toArray, List.set_cons_zero, List.set_cons_succ])
              refine wpAnyH_take (i := 12) (v := ?_) rfl (by kernel_rfl) (by kernel_rfl) (by kernel_rfl) (fun _ _ _ h => h) (Or.inl ⟨by kernel_rfl, ?_⟩) (by assumption) ?_
              rotate_left
              · intro w hSw; (try dsimp only at hSw); go_simp; (try with_reducible rfl)
              (try simp only [Act.put, List.getElem_toArray, List.getElem_cons_zero, List.getElem_cons_succ, List.setIfInBounds_toArray, List.set_cons_zero, List.set_cons_succ])
              refine wpAnyH_take (i := 13) (v := ?_) rfl (by kernel_rfl) (by kernel_rfl) (by kernel_rfl) (fun _ _ _ h => h) (Or.inl ⟨by kernel_rfl, ?_⟩) (by assumption) ?_
              rotate_left
              · intro w hSw; (try dsimp only at hSw); go_simp; (try with_reducible rfl)
              (try simp only [Act.put, List.getElem_toArray, List.getElem_cons_zero, List.getElem_cons_succ, List.setIfInBounds_toArray, List.set_cons_zero, List.set_cons_succ])
              refine wpAnyH_take (i := 14) (v := ?_) rfl (by kernel_rfl) (by kernel_rfl) (by kernel_rfl) (fun _ _ _ h => h) (Or.inl ⟨by kernel_rfl, ?_⟩) (by assumption) ?_
              rotate_left
              · intro w hSw; (try dsimp only at hSw); go_simp; (try with_reducible rfl)
              (try simp only [Act.put, List.getElem_toArray, List.getElem_cons_zero, List.getElem_cons_succ, List.setIfInBounds_toArray, List.set_cons_zero, List.set_cons_succ])
              refine wpAnyH_take (i := 15) (v := ?_) rfl (by kernel_rfl) (by kernel_rfl) (by kernel_rfl) (fun _ _ _ h => h) (Or.inl ⟨by kernel_rfl, ?_⟩) (by assumption) ?_
              rotate_left
              · intro w hSw; (try dsimp only at hSw); go_simp; (try with_reducible rfl)
              (try simp only [Act.put, List.getElem_toArray, List.getElem_cons_zero, List.getElem_cons_succ, List.setIfInBounds_toArray, List.set_cons_zero, List.set_cons_succ])
              refine wpAnyH_take (i := 16) (v := ?_) rfl (by kernel_rfl) (by kernel_rfl) (by kernel_rfl) (fun _ _ _ h => h) (Or.inl ⟨by kernel_rfl, ?_⟩) (by assumption) ?_
              rotate_left
              · intro w hSw; (try dsimp only at hSw); go_simp; (try with_reducible rfl)
              (try simp only [Act.put, List.getElem_toArray, List.getElem_cons_zero, List.getElem_cons_succ, List.setIfInBounds_toArray, List.set_cons_zero, List.set_cons_succ])
              refine wpAnyH_done (by kernel_rfl) ?_ _
              clear hHeld0
              replace k2 := k2.drew
              have c0 := (Kept.refl _).drew.cell c0
              have d1 := (Kept.refl _).drew.cell d1
              go_wp2_with fail
              go_ret
              exact ⟨by rw [HV.out]; rfl, k2⟩
          · have htb7 : (nd.text == 7) = false := by simp [ht7]
            have HV := Lib.hid (show nodeE x = 0 by rw [HE.out]; unfold ruleE; simp [hk0, hf, hm, ht4, hn0, hn1, ht7])
            clear hk0 hf hm ht4 hn0 hn1 ht7
            go_enter Tryz.func34, Tryz.ntmps34
            go_wp2_with fail
            refine wp_region_held_drew (S := (fun W => W.cell? ⟨b, o + 5, none⟩ = some (.slice kad x.kids.length kc) ∧ W.cell? ⟨tb, to + kn * 5 + 4, none⟩ = some (.slice pa nd.kids.length pc) ∧ Kept w W)) (by kernel_rfl) ⟨(Kept.refl w).drew.cell d5, (Kept.refl w).drew.cell c4, (Kept.refl w).drew⟩ (fun hHeld0 => ?_)
            refine wpAnyH_take (i := 0) (v := ?_) rfl (by kernel_rfl) (by kernel_rfl) (by kernel_rfl) (fun _ _ _ h => h) (Or.inl ⟨by kernel_rfl, ?_⟩) (by assumption) ?_
            rotate_left
            · intro w hSw; (try dsimp only at hSw); go_simp; (try with_reducible rfl)
            (try simp only [Act.put, List.getElem_toArray, List.getElem_cons_zero, List.getElem_cons_succ, List.setIfInBounds_toArray, List.set_cons_zero, List.set_cons_succ])
            refine wpAnyH_take (i := 1) (v := ?_) rfl (by kernel_rfl) (by kernel_rfl) (by kernel_rfl) (fun _ _ _ h => h) (Or.inl ⟨by kernel_rfl, ?_⟩) (by assumption) ?_
            rotate_left
            · intro w hSw; (try dsimp only at hSw); go_simp; (try with_reducible rfl)
            (try simp only [Act.put, List.getElem_toArray, List.getElem_cons_zero, List.getElem_cons_succ, List.setIfInBounds_toArray, List.set_cons_zero, List.set_cons_succ])
            refine wpAnyH_take (i := 2) (v := ?_) rfl (by kernel_rfl) (by kernel_rfl) (by kernel_rfl) (fun _ _ _ h => h) (Or.inl ⟨by kernel_rfl, ?_⟩) (by assumption) ?_
            rotate_left
            · intro w hSw; (try dsimp only at hSw); go_simp; (try with_reducible rfl)
            (try simp only [Act.put, List.getElem_toArray, List.getElem_cons_zero, List.getElem_cons_succ, List.setIfInBounds_toArray, List.set_cons_zero, List.set_cons_succ])
            refine wpAnyH_take (i := 3) (v := ?_) rfl (by kernel_rfl) (by kernel_rfl) (by kernel_rfl) (fun _ _ _ h => h) (Or.inl ⟨by kernel_rfl, ?_⟩) (by assumption) ?_
            rotate_left
            · intro w hSw; (try dsimp only at hSw); go_simp; (try with_reducible rfl)
            (try simp only [Act.put, List.getElem_toArray, List.getElem_cons_zero, List.getElem_cons_succ, List.setIfInBounds_toArray, List.set_cons_zero, List.set_cons_succ])
            refine wpAnyH_take (i := 4) (v := ?_) rfl (by kernel_rfl) (by kernel_rfl) (by kernel_rfl) (fun _ _ _ h => h) (Or.inl ⟨by kernel_rfl, ?_⟩) (by assumption) ?_
            rotate_left
            · intro w hSw; (try dsimp only at hSw); go_simp; (try with_reducible rfl)
            (try simp only [Act.put, List.getElem_toArray, List.getElem_cons_zero, List.getElem_cons_succ, List.setIfInBounds_toArray, List.set_cons_zero, List.set_cons_succ])
            refine wpAnyH_take (i := 5) (v := ?_) rfl (by kernel_rfl) (by kernel_rfl) (by kernel_rfl) (fun _ _ _ h => h) (Or.inl ⟨by kernel_rfl, ?_⟩) (by assumption) ?_
            rotate_left
            · intro w hSw; (try dsimp only at hSw); go_simp; (try with_reducible rfl)
            (try simp only [Act.put, List.getElem_toArray, List.getElem_cons_zero, List.getElem_cons_succ, List.setIfInBounds_toArray, List.set_cons_zero, List.set_cons_succ])
            refine wpAnyH_take (i := 6) (v := ?_) rfl (by kernel_rfl) (by kernel_rfl) (by kernel_rfl) (fun _ _ _ h => h) (Or.inl ⟨by kernel_rfl, ?_⟩) (by assumption) ?_
            rotate_left
            · intro w hSw; (try dsimp only at hSw); go_simp; (try with_reducible rfl)
            (try simp only [Act.put, List.getElem_toArray, List.getElem_cons_zero, List.getElem_cons_succ, List.setIfInBounds_toArray, List.set_cons_zero, List.set_cons_succ])
            refine wpAnyH_take (i := 7) (v := ?_) rfl (by kernel_rfl) (by kernel_rfl) (by kernel_rfl) (fun _ _ _ h => h) (Or.inl ⟨by kernel_rfl, ?_⟩) (by assumption) ?_
            rotate_left
            · intro w hSw; (try dsimp only at hSw); go_simp; (try with_reducible rfl)
            (try simp only [Act.put, List.getElem_toArray, List.getElem_cons_zero, List.getElem_cons_succ, List.setIfInBounds_toArray, List.set_cons_zero, List.set_cons_succ])
            refine wpAnyH_ready (rs := [8]) (by kernel_rfl) (by simp) ?_
            refine AllReadyH.cons rfl (fun K hK => ?_) AllReadyH.nil
            go_simp
            go_at_call 52
            refine (HKK.out _ (Kept.refl w).drew).mono ?_
            rintro e w2 ⟨rfl, k2⟩
            have k2 := (Kept.refl w).drew.trans k2
            refine hK.out _ _ ⟨k2.cell d5, k2.cell c4, k2⟩ (fun hHeld1 => ?_)
            clear hK K
            (try simp only [Act.put, List.getElem_toArray, List.getElem_cons_zero, List.getElem_cons_succ, List.setIfInBounds_toArray, List.set_cons_zero, List.set_cons_succ])
            clear hHeld0
            refine wpAnyH_take (i := 9) (v := ?_) rfl (by kernel_rfl) (by kernel_rfl) (by kernel_rfl) (fun _ _ _ h => h) (Or.inl ⟨by kernel_rfl, ?_⟩) (by assumption) ?_
            rotate_left
            · intro w hSw; (try dsimp only at hSw); go_simp; (try with_reducible rfl)
            (try simp only [Act.put, List.getElem_toArray, List.getElem_cons_zero, List.getElem_cons_succ, List.setIfInBounds_toArray, List.set_cons_zero, List.set_cons_succ])
            refine wpAnyH_done (by kernel_rfl) ?_ _
            clear hHeld1
            have d0 := k2.cell d0
            have d1 := k2.cell d1
            have d2 := k2.cell d2
            have d3 := k2.cell d3
            have d4 := k2.cell d4
            have d5 := k2.cell d5
            have c0 := k2.cell c0
            have c1 := k2.cell c1
            have c3 := k2.cell c3
            have c4 := k2.cell c4
            go_wp2_with (first | (go_at_call 53; refine (HFO.out _ k2).mono ?_; rintro e w3 ⟨rfl, k3⟩; have d0 := k3.cell d0; have d1 := k3.cell d1; have d2 := k3.cell d2; have d4 := k3.cell d4; have c0 := k3.cell c0; have c1 := k3.cell c1; have c3 := k3.cell c3; replace k2 := k2.trans k3; clear k3) | (go_at_call 54; refine (HNM.out _ k2).mono ?_; rintro e w3 ⟨rfl, k3⟩; have d0 := k3.cell d0; have d1 := k3.cell d1; have d2 := k3.cell d2; have d4 := k3.cell d4; have c0 := k3.cell c0; have c1 := k3.cell c1; have c3 := k3.cell c3; replace k2 := k2.trans k3; clear k3))
            refine wp_region_held_drew (S := (fun W => W.cell? ⟨b, o + 4, none⟩ = some (.int .i64 x.n) ∧ W.cell? ⟨tb, to + kn * 5 + 3, none⟩ = some (.int .i64 nd.most) ∧ Kept w W)) (by kernel_rfl) ⟨(Kept.refl _).drew.cell d4, (Kept.refl _).drew.cell c3, k2.drew⟩ (fun hHeld0 => ?_)
            refine wpAnyH_take (i := 0) (v := ?_) rfl (by kernel_rfl) (by kernel_rfl) (by kernel_rfl) (fun _ _ _ h => h) (Or.inl ⟨by kernel_rfl, ?_⟩) (by assumption) ?_
            rotate_left
            · intro w hSw; (try dsimp only at hSw); go_simp; (try with_reducible rfl)
            (try simp only [Act.put, List.getElem_toArray, List.getElem_cons_zero, List.getElem_cons_succ, List.setIfInBounds_toArray, List.set_cons_zero, List.set_cons_succ])
            refine wpAnyH_take (i := 1) (v := ?_) rfl (by kernel_rfl) (by kernel_rfl) (by kernel_rfl) (fun _ _ _ h => h) (Or.inl ⟨by kernel_rfl, ?_⟩) (by assumption) ?_
            rotate_left
            · intro w hSw; (try dsimp only at hSw); go_simp; (try with_reducible rfl)
            (try simp only [Act.put, List.getElem_toArray, List.getElem_cons_zero, List.getElem_cons_succ, List.setIfInBounds_toArray, List.set_cons_zero, List.set_cons_succ])
            refine wpAnyH_take (i := 2) (v := ?_) rfl (by kernel_rfl) (by kernel_rfl) (by kernel_rfl) (fun _ _ _ h => h) (Or.inl ⟨by kernel_rfl, ?_⟩) (by assumption) ?_
            rotate_left
            · intro w hSw; (try dsimp only at hSw); go_simp; (try with_reducible rfl)
            (try simp only [Act.put, List.getElem_toArray, List.getElem_cons_zero, List.getElem_cons_succ, List.setIfInBounds_toArray, List.set_cons_zero, List.set_cons_succ])
            refine wpAnyH_take (i := 3) (v := ?_) rfl (by kernel_rfl) (by kernel_rfl) (by kernel_rfl) (fun _ _ _ h => h) (Or.inl ⟨by kernel_rfl, ?_⟩) (by assumption) ?_
            rotate_left
            · intro w hSw; (try dsimp only at hSw); go_simp; (try with_reducible rfl)
            (try simp only [Act.put, List.getElem_toArray, List.getElem_cons_zero, List.getElem_cons_succ, List.setIfInBounds_toArray, List.set_cons_zero, List.set_cons_succ])
            refine wpAnyH_take (i := 4) (v := ?_) rfl (by kernel_rfl) (by kernel_rfl) (by kernel_rfl) (fun _ _ _ h => h) (Or.inl ⟨by kernel_rfl, ?_⟩) (by assumption) ?_
            rotate_left
            · intro w hSw; (try dsimp only at hSw); go_simp; (try with_reducible rfl)
            (try simp only [Act.put, List.getElem_toArray, List.getElem_cons_zero, List.getElem_cons_succ, List.setIfInBounds_toArray, List.set_cons_zero, List.set_cons_succ])
            refine wpAnyH_take (i := 5) (v := ?_) rfl (by kernel_rfl) (by kernel_rfl) (by kernel_rfl) (fun _ _ _ h => h) (Or.inl ⟨by kernel_rfl, ?_⟩) (by assumption) ?_
            rotate_left
            · intro w hSw; (try dsimp only at hSw); go_simp; (try with_reducible rfl)
            (try simp only [Act.put, List.getElem_toArray, List.getElem_cons_zero, List.getElem_cons_succ, List.setIfInBounds_toArray, List.set_cons_zero, List.set_cons_succ])
            refine wpAnyH_take (i := 6) (v := ?_) rfl (by kernel_rfl) (by kernel_rfl) (by kernel_rfl) (fun _ _ _ h => h) (Or.inl ⟨by kernel_rfl, ?_⟩) (by assumption) ?_
            rotate_left
            · intro w hSw; (try dsimp only at hSw); go_simp; (try with_reducible rfl)
            (try simp only [Act.put, List.getElem_toArray, List.getElem_cons_zero, List.getElem_cons_succ, List.setIfInBounds_toArray, List.set_cons_zero, List.set_cons_succ])
            refine wpAnyH_take (i := 7) (v := ?_) rfl (by kernel_rfl) (by kernel_rfl) (by kernel_rfl) (fun _ _ _ h => h) (Or.inl ⟨by kernel_rfl, ?_⟩) (by assumption) ?_
            rotate_left
            · intro w hSw; (try dsimp only at hSw); go_simp; (try with_reducible rfl)
            (try simp only [Act.put, List.getElem_toArray, List.getElem_cons_zero, List.getElem_cons_succ, List.setIfInBounds_toArray, List.set_cons_zero, List.set_cons_succ])
            refine wpAnyH_take (i := 8) (v := ?_) rfl (by kernel_rfl) (by kernel_rfl) (by kernel_rfl) (fun _ _ _ h => h) (Or.inl ⟨by kernel_rfl, ?_⟩) (by assumption) ?_
            rotate_left
            · intro w hSw; (try dsimp only at hSw); go_simp; (try with_reducible rfl)
            (try simp only [Act.put, List.getElem_toArray, List.getElem_cons_zero, List.getElem_cons_succ, List.setIfInBounds_toArray, List.set_cons_zero, List.set_cons_succ])
            refine wpAnyH_take (i := 9) (v := ?_) rfl (by kernel_rfl) (by kernel_rfl) (by kernel_rfl) (fun _ _ _ h => h) (Or.inl ⟨by kernel_rfl, ?_⟩) (by assumption) ?_
            rotate_left
            · intro w hSw; (try dsimp only at hSw); go_simp; (try with_reducible rfl)
            (try simp only [Act.put, List.getElem_toArray, List.getElem_cons_zero, List.getElem_cons_succ, List.setIfInBounds_toArray, List.set_cons_zero, List.set_cons_succ])
            refine wpAnyH_take (i := 10) (v := ?_) rfl (by kernel_rfl) (by kernel_rfl) (by kernel_rfl) (fun _ _ _ h => h) (Or.inl ⟨by kernel_rfl, ?_⟩) (by assumption) ?_
            rotate_left
            · intro w hSw; (try dsimp only at hSw); go_simp; (try with_reducible rfl)
            (try simp only [Act.put, List.getElem_toArray, List.getElem_cons_zero, List.getElem_cons_succ, List.setIfInBounds_toArray, List.set_cons_zero, List.set_cons_succ])
            refine wpAnyH_take (i := 11) (v := ?_) rfl (by kernel_rfl) (by kernel_rfl) (by kernel_rfl) (fun _ _ _ h => h) (Or.inl ⟨by kernel_rfl, ?_⟩) (by assumption) ?_
            rotate_left
            · intro w hSw; (try dsimp only at hSw); go_simp; (try with_reducible rfl)
            (try simp only [Act.put, List.getElem_toArray, List.getElem_cons_zero, List.getElem_cons_succ, List.setIfInBounds_toArray, List.set_cons_zero, List.set_cons_succ])
            refine wpAnyH_take (i := 12) (v := ?_) rfl (by kernel_rfl) (by kernel_rfl) (by kernel_rfl) (fun _ _ _ h => h) (Or.inl ⟨by kernel_rfl, ?_⟩) (by assumption) ?_
            rotate_left
            · intro w hSw; (try dsimp only at hSw); go_simp; (try with_reducible rfl)
            (try simp only [Act.put, List.getElem_toArray, List.getElem_cons_zero, List.getElem_cons_succ, List.setIfInBounds_toArray, List.set_cons_zero, List.set_cons_succ])
            refine wpAnyH_take (i := 13) (v := ?_) rfl (by kernel_rfl) (by kernel_rfl) (by kernel_rfl) (fun _ _ _ h => h) (Or.inl ⟨by kernel_rfl, ?_⟩) (by assumption) ?_
            rotate_left
            · intro w hSw; (try dsimp only at hSw); go_simp; (try with_reducible rfl)
            (try simp only [Act.put, List.getElem_toArray, List.getElem_cons_zero, List.getElem_cons_succ, List.setIfInBounds_toArray, List.set_cons_zero, List.set_cons_succ])
            refine wpAnyH_take (i := 14) (v := ?_) rfl (by kernel_rfl) (by kernel_rfl) (by kernel_rfl) (fun _ _ _ h => h) (Or.inl ⟨by kernel_rfl, ?_⟩) (by assumption) ?_
            rotate_left
            · intro w hSw; (try dsimp only at hSw); go_simp; (try with_reducible rfl)
            (try simp only [Act.put, List.getElem_toArray, List.getElem_cons_zero, List.getElem_cons_succ, List.setIfInBounds_toArray, List.set_cons_zero, List.set_cons_succ])
            refine wpAnyH_take (i := 15) (v := ?_) rfl (by kernel_rfl) (by kernel_rfl) (by kernel_rfl) (fun _ _ _ h => h) (Or.inl ⟨by kernel_rfl, ?_⟩) (by assumption) ?_
            rotate_left
            · intro w hSw; (try dsimp only at hSw); go_simp; (try with_reducible rfl)
            (try simp only [Act.put, List.getElem_toArray, List.getElem_cons_zero, List.getElem_cons_succ, List.setIfInBounds_toArray, List.set_cons_zero, List.set_cons_succ])
            refine wpAnyH_take (i := 16) (v := ?_) rfl (by kernel_rfl) (by kernel_rfl) (by kernel_rfl) (fun _ _ _ h => h) (Or.inl ⟨by kernel_rfl, ?_⟩) (by assumption) ?_
            rotate_left
            · intro w hSw; (try dsimp only at hSw); go_simp; (try with_reducible rfl)
            (try simp only [Act.put, List.getElem_toArray, List.getElem_cons_zero, List.getElem_cons_succ, List.setIfInBounds_toArray, List.set_cons_zero, List.set_cons_succ])
            refine wpAnyH_done (by kernel_rfl) ?_ _
            clear hHeld0
            replace k2 := k2.drew
            have c0 := (Kept.refl _).drew.cell c0
            have d1 := (Kept.refl _).drew.cell d1
            go_wp2_with fail
            go_ret
            exact ⟨by rw [HV.out]; rfl, k2⟩
  · obtain ⟨ev, hev⟩ : ∃ ev, kidsE x.kids nd.kids = ev := ⟨_, rfl⟩
    rw [hev] at hk0 HKK
    have HV := Lib.hid (show nodeE x = ev by rw [HE.out]; unfold ruleE; simp [hev, hk0])
    have hkb : (ev != 0) = true := by simp [hk0]
    clear hev hk0
    go_enter Tryz.func34, Tryz.ntmps34
    go_wp2_with fail
    refine wp_region_held_drew (S := (fun W => W.cell? ⟨b, o + 5, none⟩ = some (.slice kad x.kids.length kc) ∧ W.cell? ⟨tb, to + kn * 5 + 4, none⟩ = some (.slice pa nd.kids.length pc) ∧ Kept w W)) (by kernel_rfl) ⟨(Kept.refl w).drew.cell d5, (Kept.refl w).drew.cell c4, (Kept.refl w).drew⟩ (fun hHeld0 => ?_)
    refine wpAnyH_take (i := 0) (v := ?_) rfl (by kernel_rfl) (by kernel_rfl) (by kernel_rfl) (fun _ _ _ h => h) (Or.inl ⟨by kernel_rfl, ?_⟩) (by assumption) ?_
    rotate_left
    · intro w hSw; (try dsimp only at hSw); go_simp; (try with_reducible rfl)
    (try simp only [Act.put, List.getElem_toArray, List.getElem_cons_zero, List.getElem_cons_succ, List.setIfInBounds_toArray, List.set_cons_zero, List.set_cons_succ])
    refine wpAnyH_take (i := 1) (v := ?_) rfl (by kernel_rfl) (by kernel_rfl) (by kernel_rfl) (fun _ _ _ h => h) (Or.inl ⟨by kernel_rfl, ?_⟩) (by assumption) ?_
    rotate_left
    · intro w hSw; (try dsimp only at hSw); go_simp; (try with_reducible rfl)
    (try simp only [Act.put, List.getElem_toArray, List.getElem_cons_zero, List.getElem_cons_succ, List.setIfInBounds_toArray, List.set_cons_zero, List.set_cons_succ])
    refine wpAnyH_take (i := 2) (v := ?_) rfl (by kernel_rfl) (by kernel_rfl) (by kernel_rfl) (fun _ _ _ h => h) (Or.inl ⟨by kernel_rfl, ?_⟩) (by assumption) ?_
    rotate_left
    · intro w hSw; (try dsimp only at hSw); go_simp; (try with_reducible rfl)
    (try simp only [Act.put, List.getElem_toArray, List.getElem_cons_zero, List.getElem_cons_succ, List.setIfInBounds_toArray, List.set_cons_zero, List.set_cons_succ])
    refine wpAnyH_take (i := 3) (v := ?_) rfl (by kernel_rfl) (by kernel_rfl) (by kernel_rfl) (fun _ _ _ h => h) (Or.inl ⟨by kernel_rfl, ?_⟩) (by assumption) ?_
    rotate_left
    · intro w hSw; (try dsimp only at hSw); go_simp; (try with_reducible rfl)
    (try simp only [Act.put, List.getElem_toArray, List.getElem_cons_zero, List.getElem_cons_succ, List.setIfInBounds_toArray, List.set_cons_zero, List.set_cons_succ])
    refine wpAnyH_take (i := 4) (v := ?_) rfl (by kernel_rfl) (by kernel_rfl) (by kernel_rfl) (fun _ _ _ h => h) (Or.inl ⟨by kernel_rfl, ?_⟩) (by assumption) ?_
    rotate_left
    · intro w hSw; (try dsimp only at hSw); go_simp; (try with_reducible rfl)
    (try simp only [Act.put, List.getElem_toArray, List.getElem_cons_zero, List.getElem_cons_succ, List.setIfInBounds_toArray, List.set_cons_zero, List.set_cons_succ])
    refine wpAnyH_take (i := 5) (v := ?_) rfl (by kernel_rfl) (by kernel_rfl) (by kernel_rfl) (fun _ _ _ h => h) (Or.inl ⟨by kernel_rfl, ?_⟩) (by assumption) ?_
    rotate_left
    · intro w hSw; (try dsimp only at hSw); go_simp; (try with_reducible rfl)
    (try simp only [Act.put, List.getElem_toArray, List.getElem_cons_zero, List.getElem_cons_succ, List.setIfInBounds_toArray, List.set_cons_zero, List.set_cons_succ])
    refine wpAnyH_take (i := 6) (v := ?_) rfl (by kernel_rfl) (by kernel_rfl) (by kernel_rfl) (fun _ _ _ h => h) (Or.inl ⟨by kernel_rfl, ?_⟩) (by assumption) ?_
    rotate_left
    · intro w hSw; (try dsimp only at hSw); go_simp; (try with_reducible rfl)
    (try simp only [Act.put, List.getElem_toArray, List.getElem_cons_zero, List.getElem_cons_succ, List.setIfInBounds_toArray, List.set_cons_zero, List.set_cons_succ])
    refine wpAnyH_take (i := 7) (v := ?_) rfl (by kernel_rfl) (by kernel_rfl) (by kernel_rfl) (fun _ _ _ h => h) (Or.inl ⟨by kernel_rfl, ?_⟩) (by assumption) ?_
    rotate_left
    · intro w hSw; (try dsimp only at hSw); go_simp; (try with_reducible rfl)
    (try simp only [Act.put, List.getElem_toArray, List.getElem_cons_zero, List.getElem_cons_succ, List.setIfInBounds_toArray, List.set_cons_zero, List.set_cons_succ])
    refine wpAnyH_ready (rs := [8]) (by kernel_rfl) (by simp) ?_
    refine AllReadyH.cons rfl (fun K hK => ?_) AllReadyH.nil
    go_simp
    go_at_call 52
    refine (HKK.out _ (Kept.refl w).drew).mono ?_
    rintro e w2 ⟨rfl, k2⟩
    have k2 := (Kept.refl w).drew.trans k2
    refine hK.out _ _ ⟨k2.cell d5, k2.cell c4, k2⟩ (fun hHeld1 => ?_)
    clear hK K
    (try simp only [Act.put, List.getElem_toArray, List.getElem_cons_zero, List.getElem_cons_succ, List.setIfInBounds_toArray, List.set_cons_zero, List.set_cons_succ])
    clear hHeld0
    refine wpAnyH_take (i := 9) (v := ?_) rfl (by kernel_rfl) (by kernel_rfl) (by kernel_rfl) (fun _ _ _ h => h) (Or.inl ⟨by kernel_rfl, ?_⟩) (by assumption) ?_
    rotate_left
    · intro w hSw; (try dsimp only at hSw); go_simp; (try with_reducible rfl)
    (try simp only [Act.put, List.getElem_toArray, List.getElem_cons_zero, List.getElem_cons_succ, List.setIfInBounds_toArray, List.set_cons_zero, List.set_cons_succ])
    refine wpAnyH_done (by kernel_rfl) ?_ _
    clear hHeld1
    have d0 := k2.cell d0
    have d1 := k2.cell d1
    have d2 := k2.cell d2
    have d3 := k2.cell d3
    have d4 := k2.cell d4
    have d5 := k2.cell d5
    have c0 := k2.cell c0
    have c1 := k2.cell c1
    have c3 := k2.cell c3
    have c4 := k2.cell c4
    go_wp2_with fail
    go_ret
    exact ⟨by rw [HV.out]; rfl, k2⟩

end Go.Proofs.YtfkmnpgpfmkjaaaGreatDoor
namespace Go.Proofs.YtfkmnpgpfmkjaaaGreatDoor
open Go.ChangeShapes Go.WideShapes Go.ChangeAt Go.RowKit Go.Shelf
attribute [local go_sem] Oper.semAt_some

/-- The first node, from place k on, that is not well-formed, or is no program at place 0. -/
def chkF : Nat → List (Nat × Nd) → Int × Int
  | _, [] => (0, 0)
  | k, p :: r => if k = 0 ∧ p.2.kind ≠ 1 then (5, 0) else if nodeE p.2 ≠ 0 then (nodeE p.2, (k : Int)) else chkF (k + 1) r
/-- What Check tells. -/
def checkE (x : Nd) : Int × Int := if (sizeE x).1 ≠ 0 then sizeE x else chkF 0 (x.all 0)
/-- None of these is at fault. -/
def goodC (k : Nat) (l : List (Nat × Nd)) : Prop := ∀ i p, l[i]? = some p → ¬ (k + i = 0 ∧ p.2.kind ≠ 1) ∧ nodeE p.2 = 0
theorem chkF_app : ∀ (l : List (Nat × Nd)) (k : Nat) (m : List (Nat × Nd)), goodC k l → chkF k (l ++ m) = chkF (k + l.length) m
  | [], k, m, _ => by simp
  | p :: r, k, m, h => by
    have h0 := h 0 p rfl
    rw [List.cons_append, chkF, if_neg (by simpa using h0.1), if_neg (by simp [h0.2]), chkF_app r (k + 1) m (fun i q hq => by have := h (i + 1) q (by simpa using hq); rw [show k + 1 + i = k + (i + 1) by omega]; exact this), List.length_cons, show k + 1 + r.length = k + (r.length + 1) by omega]
theorem goodC_snoc {l : List (Nat × Nd)} {p : Nat × Nd} (h : goodC 0 l) (h1 : ¬ (l.length = 0 ∧ p.2.kind ≠ 1)) (h2 : nodeE p.2 = 0) : goodC 0 (l ++ [p]) := fun i q hq => by
  rw [List.getElem?_append] at hq
  split at hq
  · exact h i q hq
  · have hi : i - l.length = 0 := by
      have := (List.getElem?_eq_some_iff.1 hq).1
      simp at this; omega
    rw [hi] at hq
    simp at hq
    subst hq
    exact ⟨by rw [Nat.zero_add, show i = l.length by omega]; exact h1, h2⟩
theorem deepF_zero : ∀ (l : List (Nat × Nd)) (k : Nat), (deepF k l).1 = 0 → deepF k l = (0, 0)
  | [], k, _ => rfl
  | p :: r, k, h => by
    rw [deepF] at h ⊢
    split at h
    · cases h
    · rename_i hp; rw [if_neg hp]; exact deepF_zero r (k + 1) h
theorem sizeE_zero {x : Nd} (h : (sizeE x).1 = 0) : sizeE x = (0, 0) := by
  unfold sizeE at h ⊢
  split at h
  · cases h
  · rename_i hp; rw [if_neg hp]; exact deepF_zero _ _ h

def ckI (x : Nd) (wb : World) (fb : Nat) (pre : List ItN) (W : World) (O : Nat → Prop) : Prop := (O = fun k => k = fb) ∧ Kept wb W ∧ itOk x pre ∧ goodC 0 (pre.map plN)
def ckX (x : Nd) (w : World) (rb fb : Nat) (c : Code) (pre : List ItN) (W : World) : Prop :=
  c = .exit 0 ∧ Blk W rb 36 #[.int .i64 0, .int .i64 0] ∧ Blk W fb 36 #[.int .i64 (checkE x).1, .int .i64 (checkE x).2] ∧ Kept w W
theorem ckI.stay {x : Nd} {wb : World} {fb n : Nat} {pre : List ItN} {A B : World} {O : Nat → Prop} (h : ckI x wb fb pre A O) (k : Only (fun k => n ≤ k ∧ ¬ O k) A B) (hn : wb.heap.size ≤ n) : ckI x wb fb pre B O := by
  obtain ⟨h1, h2, h3, h4⟩ := h
  exact ⟨h1, h2.only k rfl (fun k h => by have := h.1; omega), h3, h4⟩
theorem ckX.stay {x : Nd} {w : World} {rb fb : Nat} {c : Code} {n : Nat} {pre : List ItN} {A B : World} (h : ckX x w rb fb c pre A) (k : Only (fun k => n ≤ k ∧ k < n + 2) A B) (hr : rb < n) (hf : fb < n) (hn : w.heap.size ≤ n) : ckX x w rb fb c pre B := by
  obtain ⟨h1, h2, h3, h4⟩ := h
  exact ⟨h1, h2.only k (fun h => by omega), h3.only k (fun h => by omega), h4.only k rfl (fun k h => by omega)⟩

/-- The two stores into a block of a fault. -/
theorem put2_blk {W : World} {g : Nat} {t : TypeId} {a b u v : Value} (h : Blk W g t #[a, b]) : Blk ((W.setCell ⟨g, 0, none⟩ u).setCell ⟨g, 1, none⟩ v) g t #[u, v] := by
  have := (h.put 0 u).put 1 v
  simpa using this
theorem put2_only (W : World) (g : Nat) (u v : Value) : Only (· = g) W ((W.setCell ⟨g, 0, none⟩ u).setCell ⟨g, 1, none⟩ v) := ((Only.refl _ W).put 0 u).put 1 v

/-- A node of a tree has no more kids than the tree has nodes. -/
theorem all_count (x : Nd) : ∀ a, ∀ p ∈ x.all a, p.2.count ≤ x.count := by
  refine Nd.ind (P := fun x => ∀ a, ∀ p ∈ x.all a, p.2.count ≤ x.count) (fun x ih a p hp => ?_) x
  rw [Nd.all_eq] at hp
  rcases List.mem_cons.1 hp with rfl | hp
  · exact Nat.le_refl _
  · have : ∀ (l : List Nd) (a : Nat), (∀ y ∈ l, ∀ a, ∀ p ∈ y.all a, p.2.count ≤ y.count) → ∀ p ∈ Nd.allL l a, p.2.count ≤ Nd.countL l := by
      intro l
      induction l with
      | nil => intro a _ p hp; rw [Nd.allL_nil] at hp; cases hp
      | cons y r ihr =>
        intro a h p hp
        rw [Nd.allL_cons] at hp
        rw [Nd.countL_cons]
        rcases List.mem_append.1 hp with hp | hp
        · have := h y (by simp) a p hp; omega
        · have := ihr a (fun z hz => h z (List.mem_cons_of_mem _ hz)) p hp; omega
    have := this x.kids (a + 1) ih p hp
    rw [Nd.count_eq x]; omega
theorem all_kids (x : Nd) (a : Nat) (y : Nd) (h : y ∈ (x.all a).map (·.2)) : y.kids.length ≤ x.count := by
  obtain ⟨p, hp, rfl⟩ := List.mem_map.1 h
  have h1 := all_count x a p hp
  have h2 := Nd.count_eq p.2
  have h3 := Nd.len_le_countL p.2.kids
  omega

set_option maxHeartbeats 16000000 in
theorem check_c (x : Nd) (ad : Option Addr) (ck : Nat) (w : World) (hT : Tb w) (hok : x.ok1) (hk : KidsAt w (.slice ad x.kids.length ck) x.kids) (hcnt : x.count ≤ 1000000000) :
    Calls Tryz.prog 20 #[ndV x (.slice ad x.kids.length ck)] w fun e w' => e = .returned (.agg #[.int .i64 (checkE x).1, .int .i64 (checkE x).2]) ∧ Kept w w' := by
  obtain ⟨W1, hW1⟩ : ∃ W1, (w.alloc (.cells #[.int .i64 x.kind, .string x.text, .string x.typ, .string x.frm, .int .i64 x.n, .slice ad x.kids.length ck] 25)).alloc (.cells #[.int .i64 0, .int .i64 0] 36) = W1 := ⟨_, rfl⟩
  have k1 : Kept w W1 := by rw [← hW1]; exact ((Kept.refl w).alloc _).alloc _
  have hs1 : W1.heap.size = w.heap.size + 2 := by rw [← hW1]; simp
  have hbx : Blk W1 w.heap.size 25 (ndC x (.slice ad x.kids.length ck)).toArray := by rw [← hW1]; exact (Blk.new _ _ _).alloc _
  have hrb : Blk W1 (w.heap.size + 1) 36 #[.int .i64 0, .int .i64 0] := by rw [← hW1]; exact Blk.at (by simp)
  have HSZ := Lib.hid (size_c x ad ck W1 hok (KidsD.kept hk k1) hcnt)
  have HBX := Lib.hid hbx
  have HRB := Lib.hid hrb
  have HK1 := Lib.hid k1
  have HS1 := Lib.hid hs1
  have HW1 := Lib.hid hW1
  have HOK := Lib.hid hok
  have HC := Lib.hid hcnt
  have HT := Lib.hid hT
  have HKD := Lib.hid hk
  clear hW1 k1 hs1 hbx hrb hok hk hT
  refine (callsIn_wide (n := 3)).1 (callsIn_of_wp_marks Tryz.func20 rfl trivial (wpIn_wide.2 ?_) rfl)
  simp only [Tryz.ntmps20, List.size_toArray, List.length_cons, List.length_nil, Nat.reduceAdd, Nat.reduceSub, Array.replicate_succ, Array.replicate_zero, List.push_toArray, List.append_toArray, List.nil_append, List.cons_append]
  go_wp2_with fail
  go_step3
  go_wp2_with fail
  rw [HW1.out]
  refine HSZ.out.mono ?_
  rintro e w3 ⟨rfl, k3⟩
  clear HSZ HW1
  obtain ⟨se, hse⟩ : ∃ se, (sizeE x).1 = se := ⟨_, rfl⟩
  obtain ⟨sa, hsa⟩ : ∃ sa, (sizeE x).2 = sa := ⟨_, rfl⟩
  have HSE := Lib.hid hse
  have HSA := Lib.hid hsa
  rw [hse, hsa]
  clear hse hsa
  obtain ⟨W4, hW4⟩ : ∃ W4, w3.alloc (.cells #[.int .i64 se, .int .i64 sa] 36) = W4 := ⟨_, rfl⟩
  have k4 : Kept w3 W4 := by rw [← hW4]; exact (Kept.refl w3).alloc _
  have hfb : Blk W4 w3.heap.size 36 #[.int .i64 se, .int .i64 sa] := by rw [← hW4]; exact Blk.new _ _ _
  have hs4 : W4.heap.size = w3.heap.size + 1 := by rw [← hW4]; simp
  have hz3 : w.heap.size + 2 ≤ w3.heap.size := by have := k3.size; have := HS1.out; omega
  have HK4 := Lib.hid (HK1.out.trans (k3.trans k4))
  have HRB4 := Lib.hid (HRB.out.kept (k3.trans k4))
  have HBX4 := Lib.hid (HBX.out.kept (k3.trans k4))
  have HFB := Lib.hid hfb
  have HS4 := Lib.hid hs4
  have HZ3 := Lib.hid hz3
  have HW4 := Lib.hid hW4
  have q0 := hfb.cell 0
  have q1 := hfb.cell 1
  have r0 := HRB4.out.cell 0
  have r1 := HRB4.out.cell 1
  have rf0 := HRB4.out.frozen 0
  have rf1 := HRB4.out.frozen 1
  simp only [List.getElem?_toArray, List.getElem?_cons_succ, List.getElem?_cons_zero] at q0 q1 r0 r1
  clear hW4 k4 k3 hfb hs4 hz3 HRB HBX
  by_cases hse0 : se = 0
  · have hsz0 : sizeE x = (0, 0) := sizeE_zero (by rw [HSE.out, hse0])
    have HCE := Lib.hid (show checkE x = chkF 0 (x.all 0) by unfold checkE; rw [if_neg (by rw [HSE.out, hse0]; simp)])
    obtain rfl : sa = 0 := by rw [← HSA.out, hsz0]
    subst hse0
    have HND := Lib.hid (needs_c W4)
    clear hsz0 HSE HSA
    go_wp2_with fail
    rw [HW4.out]
    refine HND.out.mono ?_
    rintro e w5 ⟨ta, tc, rfl, hnd, k5⟩
    obtain ⟨W6, hW6⟩ : ∃ W6, w5.alloc (.cells #[.slice ta needsT.length tc] 73) = W6 := ⟨_, rfl⟩
    have k6 : Kept w5 W6 := by rw [← hW6]; exact (Kept.refl w5).alloc _
    have htb : Blk W6 w5.heap.size 73 #[.slice ta needsT.length tc] := by rw [← hW6]; exact Blk.new _ _ _
    have hs6 : W6.heap.size = w5.heap.size + 1 := by rw [← hW6]; simp
    have hz5 := k5.size
    obtain ⟨W7, hW7⟩ : ∃ W7, W6.alloc (.cells (ndC x (.slice ad x.kids.length ck)).toArray 25) = W7 := ⟨_, rfl⟩
    have k7 : Kept W6 W7 := by rw [← hW7]; exact (Kept.refl W6).alloc _
    have hs7 : W7.heap.size = w5.heap.size + 2 := by rw [← hW7]; simp [hs6]
    have hbn : Blk W7 W6.heap.size 25 (ndC x (.slice ad x.kids.length ck)).toArray := by rw [← hW7]; exact Blk.new _ _ _
    have hbx6 := HBX4.out.kept (k5.trans k6)
    obtain ⟨g0, g1, g2, g3, g4, g5⟩ : W6.cell? ⟨w.heap.size, 0, none⟩ = some (.int .i64 x.kind) ∧ W6.cell? ⟨w.heap.size, 1, none⟩ = some (.string x.text) ∧ W6.cell? ⟨w.heap.size, 2, none⟩ = some (.string x.typ) ∧ W6.cell? ⟨w.heap.size, 3, none⟩ = some (.string x.frm) ∧ W6.cell? ⟨w.heap.size, 4, none⟩ = some (.int .i64 x.n) ∧ W6.cell? ⟨w.heap.size, 5, none⟩ = some (.slice ad x.kids.length ck) :=
      ⟨hbx6.cell 0, hbx6.cell 1, hbx6.cell 2, hbx6.cell 3, hbx6.cell 4, hbx6.cell 5⟩
    have HN := Lib.hid (nodes_c x ad ck W6)
    rw [hW7] at HN
    have HKB := Lib.hid ((k5.trans k6).trans k7)
    have HKW := Lib.hid (HK4.out.trans HKB.out)
    have HTB := Lib.hid (htb.kept k7)
    have HND7 := Lib.hid (NeedsR.kept hnd (k6.trans k7))
    have HB7 := Lib.hid hbn
    have HSS := Lib.hid (show w.heap.size + 2 ≤ w3.heap.size ∧ W4.heap.size = w3.heap.size + 1 ∧ W4.heap.size ≤ w5.heap.size ∧ W6.heap.size = w5.heap.size + 1 ∧ W7.heap.size = w5.heap.size + 2 from ⟨HZ3.out, HS4.out, hz5, hs6, hs7⟩)
    have HKK := Lib.hid (fun W k => box_kids (W := W) HKD.out k)
    have HI0 := Lib.hid (show ckI x W7 w3.heap.size [] W7 (fun k => k = w3.heap.size) from ⟨rfl, Kept.refl _, ⟨List.nil_prefix, fun i it h => by simp at h⟩, fun i p h => by simp at h⟩)
    have HW6 := Lib.hid hW6
    clear HND hW6 hW7 k5 k6 k7 htb hs6 hs7 hz5 hbn hbx6 hnd q0 q1 r0 r1 rf0 rf1
    go_wp2_with (rw [HW6.out])
    go_step3
    go_wp2_with fail
    refine HN.out.mono ?_
    rintro e w7 ⟨rfl, rfl⟩
    clear HN HW6 g0 g1 g2 g3 g4 g5
    go_wp2_with fail
    refine wpIn_wide.1 (wpIn_rangeFunc_ownO (F := Fence.wide) (n := 3) rfl (by omega) (gf := 49) (lb := #[.pointer (some ⟨W6.heap.size, 0, none⟩)]) rfl trivial (enters_of Tryz.func49 (by kernel_rfl) rfl)
      (encs := encN) (S := itAll x) (Sp := itOk x) (G := itG x w7.heap.size) (b0 := w.heap.size) (fun k => k = w3.heap.size) (fun k hk => by have := HSS.out; omega)
      (fun Wq hkq hsq => nodes1_o (3 - 1) (by omega) x ad ck W6.heap.size w.heap.size w7.heap.size Wq (HB7.out.kept hkq) HOK.out (HKK.out Wq (HKW.out.trans hkq)) (by omega) (by have := HSS.out; omega) HC.out)
      (fun s A B O h k => h.stay k) (fun _ => rfl) (ckI x w7 w3.heap.size) (ckX x w (w.heap.size + 1) w3.heap.size) (fun s A B O h k => h.stay k (by omega)) (fun c s A B h k => h.stay k (by have := HSS.out; omega) (by have := HSS.out; omega) (by have := HSS.out; omega)) HI0.out
      (fun i W => { tmps := #[ndV x (.slice ad x.kids.length ck), .pointer (some ⟨w.heap.size, 0, none⟩), .pointer (some ⟨w.heap.size + 1, 0, none⟩), .pointer (some ⟨w3.heap.size, 0, none⟩), .pointer (some ⟨w5.heap.size, 0, none⟩), .pointer (some ⟨W.heap.size, 0, none⟩), .pointer (some ⟨i.2.1.1, i.2.1.2, none⟩), undef, ndV x (.slice ad x.kids.length ck), .agg #[.int .i64 0, .int .i64 0], .pointer (some ⟨w3.heap.size, 0, none⟩), .int .i64 0, .bool false, undef, .slice ta needsT.length tc, ndV x (.slice ad x.kids.length ck), .func (.func 49) #[] #[.pointer (some ⟨W6.heap.size, 0, none⟩)], .agg #[.int .i64 i.1.1, .int .i64 i.1.2], .pointer (some ⟨i.2.1.1, i.2.1.2, none⟩), undef, undef, undef, undef, undef, undef, undef, undef, undef, undef, undef, undef, undef, undef, undef, undef, undef, undef, undef, undef, undef, undef, undef], defers := [] })
      (fun i W => W.alloc (.cells #[.int .i64 i.1.1, .int .i64 i.1.2] 79)) (fun i W => (Kept.refl W).alloc _) ?assign ?body ?done ?stop)
    case assign =>
      intro lr i W K hK
      gi_wp2
      first | exact hK | simpa using hK
    case body =>
      intro lr pre i W0 W O hlr hl0 hob hOl hI hG hsz
      obtain ⟨hO, hI1, hI2, hI3⟩ := hI
      subst hO
      obtain ⟨D, hnd, hDO, hDl⟩ := hG.2 pre i rfl
      have hb5 : Blk W W0.heap.size 79 #[.int .i64 i.1.1, .int .i64 i.1.2] := (Blk.new W0 _ _).only hob (by omega)
      have hat : i.1.1 = pre.length := hG.1.2 pre.length i (by simp)
      obtain ⟨y, hy⟩ : ∃ y, i.2.2 = y := ⟨_, rfl⟩
      have hpl : pre.length + 1 ≤ x.count ∧ i.2.2 ∈ (x.all 0).map (·.2) := by
        have h1 := hG.1.1.length_le
        rw [List.length_map, Nd.count_all, List.length_append] at h1
        exact ⟨by simpa using h1, List.mem_map.2 ⟨plN i, hG.1.1.subset (by simp), rfl⟩⟩
      have hkl : i.2.2.kids.length ≤ 1000000000000 := by
        have h1 := all_kids x 0 _ hpl.2
        have := HC.out
        omega
      have hall := hG.1.1
      obtain ⟨rest, hrest⟩ := hall
      have hce : checkE x = chkF pre.length ((i.1.2, i.2.2) :: rest) := by
        rw [HCE.out, ← hrest, List.map_append, List.append_assoc, chkF_app _ 0 _ hI3, List.length_map, Nat.zero_add]; rfl
      have HNC := Lib.hid (fun Wz (k : Kept W Wz) => node_c i.2.1.1 i.2.1.2 i.2.2 ta tc Wz (HT.out.kept (HKW.out.trans (hI1.trans k))) (hnd.at.kept k) (NeedsR.kept HND7.out (hI1.trans k)) hkl)
      rw [hat] at hb5
      rw [hy] at HNC hce hnd
      have hgs : ¬ (pre.length = 0 ∧ y.kind ≠ 1) → nodeE y = 0 → goodC 0 ((pre ++ [i]).map plN) := fun h1 h2 => by
        rw [List.map_append, List.map_singleton]
        exact goodC_snoc hI3 (by rw [List.length_map]; show ¬ (pre.length = 0 ∧ i.2.2.kind ≠ 1); rw [hy]; exact h1) (by show nodeE i.2.2 = 0; rw [hy]; exact h2)
      obtain ⟨_, _, ⟨n0, _⟩, _⟩ := hnd.cells
      have t0 := (HTB.out.kept hI1).cell 0
      have p0 := hb5.cell 0
      have p1 := hb5.cell 1
      have f0 := (HFB.out.kept (HKB.out.trans hI1))
      have fz0 := f0.frozen 0
      have fz1 := f0.frozen 1
      have fc0 := f0.cell 0
      have fc1 := f0.cell 1
      simp only [List.getElem?_toArray, List.getElem?_cons_succ, List.getElem?_cons_zero] at t0 p0 p1 fc0 fc1
      have HP5 := Lib.hid hb5
      have HF0 := Lib.hid f0
      have HR0 := Lib.hid (HRB4.out.kept (HKB.out.trans hI1))
      have HII := Lib.hid hI1
      have HOK2 := Lib.hid hG.1
      have HGS := Lib.hid hgs
      have HCC := Lib.hid hce
      have hzz : w3.heap.size < W0.heap.size ∧ w.heap.size + 1 < w3.heap.size ∧ w5.heap.size < W0.heap.size ∧ w3.heap.size < w5.heap.size := by have := HSS.out; omega
      have hz1 : w3.heap.size < W0.heap.size := hzz.1
      clear hI1 hI2 hI3 hG hob HI0 hb5 f0 hgs hce hrest hpl hkl hat hnd hDO hDl
      gi_wp2
      refine ⟨trivial, (callsIn_wide.2 (HNC.out _ (Kept.refl _))).mono ?_⟩
      rintro e w8 ⟨rfl, k8⟩
      have n0 := k8.cell n0
      have p0 := k8.cell p0
      have p1 := k8.cell p1
      have fc0 := k8.cell fc0
      have fc1 := k8.cell fc1
      have fz0 := (HF0.out.kept k8).frozen 0
      have fz1 := (HF0.out.kept k8).frozen 1
      by_cases hg1 : pre.length = 0 ∧ y.kind ≠ 1
      · have hc1 : checkE x = (5, 0) := by rw [HCC.out, chkF, if_pos hg1]
        have hb0 : ((pre.length : Int) == 0) = true := by simp; exact List.length_eq_zero_iff.1 hg1.1
        have hb1 : (y.kind != 1) = true := by simp [hg1.2]
        clear hg1
        have HX := Lib.hid (show ckX x w (w.heap.size + 1) w3.heap.size (.exit 0) (pre ++ [i]) ((w8.setCell ⟨w3.heap.size, 0, none⟩ (.int .i64 5)).setCell ⟨w3.heap.size, 1, none⟩ (.int .i64 0)) from
          ⟨rfl, (HR0.out.kept k8).only (put2_only w8 w3.heap.size _ _) (by omega), by rw [hc1]; exact put2_blk (HF0.out.kept k8), (HKW.out.trans (HII.out.trans k8)).only (put2_only w8 w3.heap.size _ _) rfl (fun k hk => by omega)⟩)
        have HO := Lib.hid (show Only (fun k => (k = w3.heap.size) ∨ W0.heap.size ≤ k) W ((w8.setCell ⟨w3.heap.size, 0, none⟩ (.int .i64 5)).setCell ⟨w3.heap.size, 1, none⟩ (.int .i64 0)) from (Only.of_kept k8).trans ((put2_only w8 w3.heap.size _ _).mono fun k _ h => .inl h))
        clear hzz k8 HNC HGS HCC
        gi_wp2
        exact ⟨HO.out, HX.out⟩
      · by_cases he0 : nodeE y = 0
        · have heb : (nodeE y != 0) = false := by simp [he0]
          by_cases hp0 : pre.length = 0
          · have hk1 : y.kind = 1 := Classical.byContradiction fun h => hg1 ⟨hp0, h⟩
            have hb0 : ((pre.length : Int) == 0) = true := by rw [hp0]; rfl
            have hb1 : (y.kind != 1) = false := by simp [hk1]
            clear hk1 hp0
            have HR := Lib.hid (show ckI x w7 w3.heap.size (pre ++ [i]) w8 (fun k => k = w3.heap.size) from ⟨rfl, HII.out.trans k8, HOK2.out, HGS.out hg1 he0⟩)
            have HO := Lib.hid (show Only (fun k => (k = w3.heap.size) ∨ W0.heap.size ≤ k) W w8 from Only.of_kept k8)
            clear hzz k8 HNC HGS HCC he0 hg1
            gi_wp2
            exact ⟨HO.out, _, fun k hk => .inl hk, HR.out⟩
          · have hb0 : ((pre.length : Int) == 0) = false := by simp; intro h; exact hp0 (by rw [h]; rfl)
            clear hp0
            have HR := Lib.hid (show ckI x w7 w3.heap.size (pre ++ [i]) w8 (fun k => k = w3.heap.size) from ⟨rfl, HII.out.trans k8, HOK2.out, HGS.out hg1 he0⟩)
            have HO := Lib.hid (show Only (fun k => (k = w3.heap.size) ∨ W0.heap.size ≤ k) W w8 from Only.of_kept k8)
            clear hzz k8 HNC HGS HCC he0 hg1
            gi_wp2
            exact ⟨HO.out, _, fun k hk => .inl hk, HR.out⟩
        · have heb : (nodeE y != 0) = true := by simp [he0]
          have hc2 : checkE x = (nodeE y, (pre.length : Int)) := by rw [HCC.out, chkF, if_neg hg1, if_pos he0]
          clear he0
          by_cases hp0 : pre.length = 0
          · have hk1 : y.kind = 1 := Classical.byContradiction fun h => hg1 ⟨hp0, h⟩
            have hb0 : ((pre.length : Int) == 0) = true := by rw [hp0]; rfl
            have hb1 : (y.kind != 1) = false := by simp [hk1]
            clear hk1 hp0
            have HX := Lib.hid (show ckX x w (w.heap.size + 1) w3.heap.size (.exit 0) (pre ++ [i]) ((w8.setCell ⟨w3.heap.size, 0, none⟩ (.int .i64 (nodeE y))).setCell ⟨w3.heap.size, 1, none⟩ (.int .i64 (pre.length : Int))) from
              ⟨rfl, (HR0.out.kept k8).only (put2_only w8 w3.heap.size _ _) (by omega), by rw [hc2]; exact put2_blk (HF0.out.kept k8), (HKW.out.trans (HII.out.trans k8)).only (put2_only w8 w3.heap.size _ _) rfl (fun k hk => by omega)⟩)
            have HO := Lib.hid (show Only (fun k => (k = w3.heap.size) ∨ W0.heap.size ≤ k) W ((w8.setCell ⟨w3.heap.size, 0, none⟩ (.int .i64 (nodeE y))).setCell ⟨w3.heap.size, 1, none⟩ (.int .i64 (pre.length : Int))) from (Only.of_kept k8).trans ((put2_only w8 w3.heap.size _ _).mono fun k _ h => .inl h))
            clear hzz k8 HNC HGS HCC
            gi_wp2
            exact ⟨HO.out, HX.out⟩
          · have hb0 : ((pre.length : Int) == 0) = false := by simp; intro h; exact hp0 (by rw [h]; rfl)
            clear hp0
            have HX := Lib.hid (show ckX x w (w.heap.size + 1) w3.heap.size (.exit 0) (pre ++ [i]) ((w8.setCell ⟨w3.heap.size, 0, none⟩ (.int .i64 (nodeE y))).setCell ⟨w3.heap.size, 1, none⟩ (.int .i64 (pre.length : Int))) from
              ⟨rfl, (HR0.out.kept k8).only (put2_only w8 w3.heap.size _ _) (by omega), by rw [hc2]; exact put2_blk (HF0.out.kept k8), (HKW.out.trans (HII.out.trans k8)).only (put2_only w8 w3.heap.size _ _) rfl (fun k hk => by omega)⟩)
            have HO := Lib.hid (show Only (fun k => (k = w3.heap.size) ∨ W0.heap.size ≤ k) W ((w8.setCell ⟨w3.heap.size, 0, none⟩ (.int .i64 (nodeE y))).setCell ⟨w3.heap.size, 1, none⟩ (.int .i64 (pre.length : Int))) from (Only.of_kept k8).trans ((put2_only w8 w3.heap.size _ _).mono fun k _ h => .inl h))
            clear hzz k8 HNC HGS HCC
            gi_wp2
            exact ⟨HO.out, HX.out⟩
    case done =>
      rintro D xs W O hD hS ⟨hO, hI1, hI2, hI3⟩ hK
      subst hO
      have hce : checkE x = (0, 0) := by
        rw [HCE.out, ← hS.1]
        have := chkF_app (xs.map plN) 0 [] hI3
        rw [List.append_nil] at this
        rw [this]; rfl
      have h1 := HRB4.out.kept (HKB.out.trans hI1)
      have h2 := HFB.out.kept (HKB.out.trans hI1)
      have c0 := h2.cell 0
      have c1 := h2.cell 1
      obtain ⟨f0, f1⟩ := (⟨h1.frozen 0, h1.frozen 1⟩ : W.frozen? ⟨w.heap.size + 1, 0, none⟩ = false ∧ W.frozen? ⟨w.heap.size + 1, 1, none⟩ = false)
      have e0 := h1.cell 0
      have e1 := h1.cell 1
      simp only [List.getElem?_toArray, List.getElem?_cons_succ, List.getElem?_cons_zero] at c0 c1 e0 e1
      have hss := HSS.out
      have ho3 := put2_only W (w.heap.size + 1) (.int .i64 0) (.int .i64 0)
      have hK2 := ho3.same hK (by omega)
      have hd : Only (· = D) ((W.setCell ⟨w.heap.size + 1, 0, none⟩ (.int .i64 0)).setCell ⟨w.heap.size + 1, 1, none⟩ (.int .i64 0)) (((W.setCell ⟨w.heap.size + 1, 0, none⟩ (.int .i64 0)).setCell ⟨w.heap.size + 1, 1, none⟩ (.int .i64 0)).putObj D (.deferred none)) := (Only.refl (· = D) _).putObj (.inl rfl) _
      have HB := Lib.hid ((put2_blk (u := .int .i64 0) (v := .int .i64 0) h1).only hd (by omega))
      have HZ := Lib.hid (((HKW.out.trans hI1).only ho3 rfl (fun k hk => by omega)).only hd rfl (fun k hk => by omega))
      have HK2 := Lib.hid hK2
      have HCV := Lib.hid hce
      clear hI1 hI2 hI3 h1 h2 ho3 hK hK2 hd hD hS hce hss
      go_wp2_with fail
      rw [Exit.noGoto_ret]
      refine ⟨by simp, .inl ⟨_, _, rfl, run_takeDeferred HK2.out, ?_⟩⟩
      exact ⟨_, fault_results (by rfl) _ _ rfl HB.out, by rw [HCV.out], HZ.out⟩
    case stop =>
      rintro D cd pre W hD hpre ⟨rfl, h1, h2, h3⟩ hK
      obtain ⟨ce, hce⟩ : ∃ ce, (checkE x).1 = ce := ⟨_, rfl⟩
      obtain ⟨ca, hca⟩ : ∃ ca, (checkE x).2 = ca := ⟨_, rfl⟩
      rw [hce, hca] at h2
      have c0 := h2.cell 0
      have c1 := h2.cell 1
      obtain ⟨f0, f1⟩ := (⟨h1.frozen 0, h1.frozen 1⟩ : W.frozen? ⟨w.heap.size + 1, 0, none⟩ = false ∧ W.frozen? ⟨w.heap.size + 1, 1, none⟩ = false)
      have e0 := h1.cell 0
      have e1 := h1.cell 1
      simp only [List.getElem?_toArray, List.getElem?_cons_succ, List.getElem?_cons_zero] at c0 c1 e0 e1
      have hss := HSS.out
      have ho3 := put2_only W (w.heap.size + 1) (.int .i64 ce) (.int .i64 ca)
      have hK2 := ho3.same hK (by omega)
      have hd : Only (· = D) ((W.setCell ⟨w.heap.size + 1, 0, none⟩ (.int .i64 ce)).setCell ⟨w.heap.size + 1, 1, none⟩ (.int .i64 ca)) (((W.setCell ⟨w.heap.size + 1, 0, none⟩ (.int .i64 ce)).setCell ⟨w.heap.size + 1, 1, none⟩ (.int .i64 ca)).putObj D (.deferred none)) := (Only.refl (· = D) _).putObj (.inl rfl) _
      have HB := Lib.hid ((put2_blk (u := .int .i64 ce) (v := .int .i64 ca) h1).only hd (by omega))
      have HZ := Lib.hid ((h3.only ho3 rfl (fun k hk => by omega)).only hd rfl (fun k hk => by omega))
      have HK2 := Lib.hid hK2
      have HCV := Lib.hid (And.intro hce hca)
      clear h1 h2 h3 ho3 hK hK2 hd hD hce hca hss
      gi_wp2
      go_wp2_with fail
      rw [Exit.noGoto_ret]
      refine ⟨by simp, .inl ⟨_, _, rfl, run_takeDeferred HK2.out, ?_⟩⟩
      exact ⟨_, fault_results (by rfl) _ _ rfl HB.out, by rw [HCV.out.1, HCV.out.2], HZ.out⟩
  · have HCV := Lib.hid (show checkE x = sizeE x by unfold checkE; rw [if_pos (by rw [HSE.out]; exact hse0)])
    have hsb : (se != 0) = true := by simp [hse0]
    have HB := Lib.hid (put2_blk (u := .int .i64 se) (v := .int .i64 sa) HRB4.out)
    have HZ := Lib.hid (HK4.out.only (put2_only W4 (w.heap.size + 1) (.int .i64 se) (.int .i64 sa)) rfl (fun k hk => by omega))
    clear hse0
    go_wp2_with (rw [HW4.out])
    rw [Exit.noGoto_ret]
    refine ⟨_, fault_results (by rfl) _ _ rfl HB.out, by rw [HCV.out, HSE.out, HSA.out], HZ.out⟩

end Go.Proofs.YtfkmnpgpfmkjaaaGreatDoor
namespace Go.Proofs.YtfkmnpgpfmkjaaaGreatDoor
open Go.ChangeShapes Go.WideShapes Go.ChangeAt Go.RowKit
attribute [local go_sem] Oper.semAt_some
open Ps (O W)

set_option maxHeartbeats 1000000 in
theorem pnext_e {p : PP} {t : Lx.T} {r : List Lx.T} (w : World) (hp : Pst p (t :: r) w) : Calls Tryz.prog 41 #[.pointer (some ⟨p.B, 0, none⟩)] w fun e w' => e = .returned (tAgg t) ∧ Only (· = p.B) w w' := by
  have hlt := hp.hi
  obtain ⟨W0, hW0⟩ : ∃ W0, w.alloc (.cells #[.int .i64 0, .string ⟨#[]⟩, .int .i64 0, .int .i64 0] 48) = W0 := ⟨_, rfl⟩
  have k0 : Kept w W0 := by rw [← hW0]; exact (Kept.refl w).alloc _
  have z0 : W0.heap.size = w.heap.size + 1 := by rw [← hW0]; simp
  have b0 : Blk W0 w.heap.size 48 #[.int .i64 0, .string ⟨#[]⟩, .int .i64 0, .int .i64 0] := by rw [← hW0]; exact Blk.new _ _ _
  obtain ⟨W1, hW1⟩ : ∃ W1, W0.alloc (.cells #[.int .i64 t.kind, .string t.text, .int .i64 t.n, .int .i64 t.pos] 48) = W1 := ⟨_, rfl⟩
  have k1 : Kept W0 W1 := by rw [← hW1]; exact (Kept.refl W0).alloc _
  have b1 : Blk W1 (w.heap.size + 1) 48 #[.int .i64 t.kind, .string t.text, .int .i64 t.n, .int .i64 t.pos] := by rw [← hW1, ← z0]; exact Blk.new _ _ _
  obtain ⟨⟨ad, c, hbw, hrow⟩, hg, hs, hlN⟩ := hp
  have hb := hbw.kept k0
  obtain ⟨b, o, rfl, hn, hnc, hcm, ⟨hbB, hbN⟩, h0, h1, h2, h3⟩ := row_head (toks_only (S := fun _ => False) hrow (Only.of_kept k0) (fun _ _ h => h))
  rw [List.length_cons] at hnc
  by_cases hc : c = 1
  · obtain rfl : r = [] := List.eq_nil_of_length_eq_zero (by omega)
    subst hc
    clear hnc
    obtain ⟨W2, hW2⟩ : ∃ W2, W1.setCell ⟨p.B, 0, none⟩ (.slice (some ⟨b, o, none⟩) 0 0) = W2 := ⟨_, rfl⟩
    have o2 : Only (· = p.B) W1 W2 := by rw [← hW2]; exact (Only.refl _ _).put 0 _
    have B2 : Blk W2 p.B pT (pC (.slice (some ⟨b, o, none⟩) 0 0) p) := by rw [← hW2]; exact (hb.kept k1).put 0 _
    have cB0 := hb.cell 0
    have cB1 := (hb.kept k1).cell 0
    have fB1 := (hb.kept k1).frozen 0
    simp only [pC] at cB0 cB1
    simp at cB0 cB1
    have b2 : Blk W2 (w.heap.size + 1) 48 #[.int .i64 t.kind, .string t.text, .int .i64 t.n, .int .i64 t.pos] := b1.only o2 (by omega)
    have e2 : Blk W2 w.heap.size 48 #[.int .i64 0, .string ⟨#[]⟩, .int .i64 0, .int .i64 0] := (b0.kept k1).only o2 (by omega)
    have x0 := b2.cell 0
    have x1 := b2.cell 1
    have x2 := b2.cell 2
    have x3 := b2.cell 3
    have y0 := e2.cell 0
    have y1 := e2.cell 1
    have y2 := e2.cell 2
    have y3 := e2.cell 3
    have f0 := e2.frozen 0
    have f1 := e2.frozen 1
    have f2 := e2.frozen 2
    have f3 := e2.frozen 3
    simp at x0 x1 x2 x3 y0 y1 y2 y3
    have HP := Lib.hid (fun W' (ho : Only (· = w.heap.size) W2 W') => show Only (· = p.B) w W' from by
      refine ⟨ho.os.trans (o2.os.trans (k1.os.trans k0.os)), ho.output.trans (o2.output.trans (k1.output.trans k0.output)), Nat.le_trans k0.size (Nat.le_trans k1.size (Nat.le_trans o2.size ho.size)), fun k hk hkB => ?_⟩
      have := k0.size
      have := k1.size
      have := o2.size
      exact (ho.block k (by omega) (by omega)).trans ((o2.block k (by omega) hkB).trans ((k1.block k (by omega)).trans (k0.block k hk))))
    have HE2 := Lib.hid e2
    have HW0 := Lib.hid hW0
    have HW1 := Lib.hid hW1
    have HW2 := Lib.hid hW2
    have HB := Lib.hid hlt
    clear hbw hlN hbN k0 b0 k1 b1 hb hrow hg hs hn hcm hbB o2 B2 b2 e2 hW0 hW1 hW2 hlt
    go_enter Tryz.func41, Tryz.ntmps41
    go_wp2_with (first | rw [HW0.out] | rw [HW1.out] | rw [HW2.out])
    exact bodyPost_ret (tok_results (by rfl) _ _ rfl (put4t_blk HE2.out t)) rfl ⟨rfl, HP.out _ (put4t_only W2 w.heap.size t)⟩

  · obtain ⟨W2, hW2⟩ : ∃ W2, W1.setCell ⟨p.B, 0, none⟩ (.slice (some ⟨b, o + 4, none⟩) r.length (c - 1)) = W2 := ⟨_, rfl⟩
    have o2 : Only (· = p.B) W1 W2 := by rw [← hW2]; exact (Only.refl _ _).put 0 _
    have B2 : Blk W2 p.B pT (pC (.slice (some ⟨b, o + 4, none⟩) r.length (c - 1)) p) := by rw [← hW2]; exact (hb.kept k1).put 0 _
    have cB0 := hb.cell 0
    have cB1 := (hb.kept k1).cell 0
    have fB1 := (hb.kept k1).frozen 0
    simp only [pC] at cB0 cB1
    simp at cB0 cB1
    have b2 : Blk W2 (w.heap.size + 1) 48 #[.int .i64 t.kind, .string t.text, .int .i64 t.n, .int .i64 t.pos] := b1.only o2 (by omega)
    have e2 : Blk W2 w.heap.size 48 #[.int .i64 0, .string ⟨#[]⟩, .int .i64 0, .int .i64 0] := (b0.kept k1).only o2 (by omega)
    have x0 := b2.cell 0
    have x1 := b2.cell 1
    have x2 := b2.cell 2
    have x3 := b2.cell 3
    have y0 := e2.cell 0
    have y1 := e2.cell 1
    have y2 := e2.cell 2
    have y3 := e2.cell 3
    have f0 := e2.frozen 0
    have f1 := e2.frozen 1
    have f2 := e2.frozen 2
    have f3 := e2.frozen 3
    simp at x0 x1 x2 x3 y0 y1 y2 y3
    have hc1 : (1 : Int) < (c : Int) := by omega
    have hc2 : ¬ c = 1 := by omega
    have hrlI : (0 : Int) ≤ (r.length : Int) := by omega
    have HP := Lib.hid (fun W' (ho : Only (· = w.heap.size) W2 W') => show Only (· = p.B) w W' from by
      refine ⟨ho.os.trans (o2.os.trans (k1.os.trans k0.os)), ho.output.trans (o2.output.trans (k1.output.trans k0.output)), Nat.le_trans k0.size (Nat.le_trans k1.size (Nat.le_trans o2.size ho.size)), fun k hk hkB => ?_⟩
      have := k0.size
      have := k1.size
      have := o2.size
      exact (ho.block k (by omega) (by omega)).trans ((o2.block k (by omega) hkB).trans ((k1.block k (by omega)).trans (k0.block k hk))))
    have HE2 := Lib.hid e2
    have HW0 := Lib.hid hW0
    have HW1 := Lib.hid hW1
    have HW2 := Lib.hid hW2
    have HB := Lib.hid hlt
    clear hc hbw hlN hbN k0 b0 k1 b1 hb hrow hg hs hn hnc hcm hbB o2 B2 b2 e2 hW0 hW1 hW2 hlt
    go_enter Tryz.func41, Tryz.ntmps41
    go_wp2_with (first | rw [HW0.out] | rw [HW1.out] | rw [HW2.out])
    exact bodyPost_ret (tok_results (by rfl) _ _ rfl (put4t_blk HE2.out t)) rfl ⟨rfl, HP.out _ (put4t_only W2 w.heap.size t)⟩

theorem ptake_e {p : PP} {l : List Lx.T} {X : World} {g : Nat} {ty : TypeId} (hp : Pst p l X) (hg : g = X.heap.size) :
    Calls Tryz.prog 25 #[.pointer (some ⟨p.B, 0, none⟩), .slice (some ⟨g, 0, none⟩) 1 1] (X.alloc (.cells #[.string Ps.theEnd] ty)) (fun e w' =>
      (∃ t r, Ps.take [Ps.theEnd] l = .ok t r ∧ e = .returned (tAgg t) ∧ Only (· = p.B) X w') ∨ (∃ q, Ps.take [Ps.theEnd] l = .bad q ∧ e = .panicked (refV 5 q) ∧ Only (· = p.B) X w')) := by
  subst hg
  obtain ⟨t, r, rfl, htok⟩ := hp.good.cons
  obtain ⟨Y, hY⟩ : ∃ Y, X.alloc (.cells #[.string Ps.theEnd] ty) = Y := ⟨_, rfl⟩
  have ky : Kept X Y := by rw [← hY]; exact (Kept.refl _).alloc _
  have by0 : LvR (fun _ => True) Y (.slice (some ⟨X.heap.size, 0, none⟩) 1 1) [Ps.theEnd] := by rw [← hY]; exact LvR.lit [Ps.theEnd] (Blk.new _ _ _) (short_len (by simp))
  rw [hY]
  obtain ⟨W0, hW0⟩ : ∃ W0, Y.alloc (.cells #[.int .i64 0, .string ⟨#[]⟩, .int .i64 0, .int .i64 0] 48) = W0 := ⟨_, rfl⟩
  have k0 : Kept Y W0 := by rw [← hW0]; exact (Kept.refl Y).alloc _
  have b0 : Blk W0 Y.heap.size 48 #[.int .i64 0, .string ⟨#[]⟩, .int .i64 0, .int .i64 0] := by rw [← hW0]; exact Blk.new _ _ _
  have hlN := (hp.kept ky).lt
  have HI := Lib.hid (is_c (fun _ => True) [Ps.theEnd] _ 1 1 W0 ((hp.kept ky).kept k0) rfl (by0.kept k0))
  have HP0 := Lib.hid ((hp.kept ky).kept k0)
  have HK0 := Lib.hid (ky.trans k0)
  have HB0 := Lib.hid b0
  have HW0 := Lib.hid hW0
  have HYS := Lib.hid (show X.heap.size ≤ Y.heap.size from ky.size)
  cases hm : Ps.mem [Ps.theEnd] (Ps.srt t) with
  | false =>
    rw [hm] at HI
    have HE := Lib.hid (show Ps.take [Ps.theEnd] (t :: r) = .bad t.pos by rw [Ps.take, hm]; rfl)
    clear hp k0 b0 hW0 htok hm hY ky by0
    go_enter Tryz.func25, Tryz.ntmps25
    go_wp2_with (rw [HW0.out])
    refine HI.out.mono ?_
    rintro e w1 ⟨rfl, k1⟩
    have HR := Lib.hid (prefuse_c w1 (HP0.out.kept k1))
    have HK1 := Lib.hid k1
    clear k1
    go_wp2_with fail
    refine HR.out.mono ?_
    rintro e w2 ⟨rfl, k2⟩
    go_wp2_with fail
    exact ⟨rfl, .inr ⟨_, HE.out, rfl, Only.of_kept ((HK0.out.trans HK1.out).trans k2)⟩⟩
  | true =>
    rw [hm] at HI
    have HE := Lib.hid (show Ps.take [Ps.theEnd] (t :: r) = .ok t r by rw [Ps.take, hm]; rfl)
    clear hp k0 b0 hW0 htok hm hY ky by0
    go_enter Tryz.func25, Tryz.ntmps25
    go_wp2_with (rw [HW0.out])
    refine HI.out.mono ?_
    rintro e w1 ⟨rfl, k1⟩
    have HR := Lib.hid (pnext_e w1 (HP0.out.kept k1))
    have HK1 := Lib.hid k1
    clear k1
    go_wp2_with fail
    refine HR.out.mono ?_
    rintro e w2 ⟨rfl, o2⟩
    have b2 := (HB0.out.kept HK1.out).only o2 (by omega)
    have f0 := b2.frozen 0
    have f1 := b2.frozen 1
    have f2 := b2.frozen 2
    have f3 := b2.frozen 3
    have y0 := b2.cell 0
    have y1 := b2.cell 1
    have y2 := b2.cell 2
    have y3 := b2.cell 3
    simp at y0 y1 y2 y3
    have HB2 := Lib.hid b2
    have HO2 := Lib.hid o2
    clear b2 o2
    go_wp2_with fail
    have h1 := put4t_only w2 Y.heap.size t
    have h2 := HYS.out
    refine bodyPost_ret (tok_results (by rfl) _ _ rfl (put4t_blk HB2.out t)) rfl (.inl ⟨t, r, HE.out, rfl, ?_⟩)
    have hO : Only (· = p.B) X w2 := (Only.of_kept (HK0.out.trans HK1.out)).trans HO2.out
    exact hO.past (h1.mono (T := fun k => Y.heap.size ≤ k) fun k _ e => by omega) h2

theorem pcatch_none (g h : Nat) (w : World) :
    CallsD Tryz.prog 22 #[.pointer (some ⟨g, 0, none⟩), .pointer (some ⟨h, 0, none⟩)] .returning w fun e u' w' => e = .returned (.tuple #[]) ∧ u' = .returning ∧ Kept w w' := by
  have hta : ∀ w, (Instr.typeAssert .nilIface 20 53 true).run Tryz.prog w = .ok (.tuple #[.agg #[.int .i64 0, .int .i64 0], .bool false]) w := fun _ => by kernel_rfl
  refine callsD_of_wpS Tryz.func22 rfl fun c₀ cs hu => ?_
  refine wpS_seq ?_
  refine wpS_region ?_
  simp [wpOpsS, go_sem, recoverD, hu, Tryz.ntmps22, Exit.thenS, hta]
  refine wpS_seq ?_
  refine wpS_region ?_
  simp [wpOpsS, go_sem, Exit.thenS]
  refine wpS_cond (t := false) (by simp [Act.eval, Array.replicate]) ?_
  refine wpS_of_wp ?_
  have hk := ((Kept.refl w).alloc (.cells #[.int .i64 0, .int .i64 0] 53))
  refine wp_skip ?_
  exact ⟨rfl, .returning, (by cases c₀; simp_all), .tuple #[], results_none rfl _ _ _, rfl, rfl, hk⟩

set_option maxHeartbeats 4000000 in
theorem pcatch_some (g h : Nat) (e0 a0 : Int) (x0 x1 x2 x3 x4 x5 y0 y1 : Value) (w : World) (hg : Blk w g nT #[x0, x1, x2, x3, x4, x5]) (hh : Blk w h 36 #[y0, y1]) (hne : g ≠ h) :
    CallsD Tryz.prog 22 #[.pointer (some ⟨g, 0, none⟩), .pointer (some ⟨h, 0, none⟩)] (.panicking (refV e0 a0)) w fun e u' w' => e = .returned (.tuple #[]) ∧ settle u' = .returning ∧
      Blk w' g nT pzN ∧ Blk w' h 36 #[.int .i64 e0, .int .i64 a0] ∧ Only (fun k => k = g ∨ k = h) w w' := by
  have hta : ∀ w, (Instr.typeAssert (.iface 53 (.agg #[.int .i64 e0, .int .i64 a0])) 20 53 true).run Tryz.prog w = .ok (.tuple #[.agg #[.int .i64 e0, .int .i64 a0], .bool true]) w := fun _ => by kernel_rfl
  refine callsD_of_wpS Tryz.func22 rfl fun c₀ cs hu => ?_
  refine wpS_seq ?_
  refine wpS_region ?_
  simp [wpOpsS, go_sem, recoverD, hu, Tryz.ntmps22, Exit.thenS, hta]
  refine wpS_seq ?_
  refine wpS_region ?_
  simp [wpOpsS, go_sem, Exit.thenS]
  refine wpS_cond (t := true) (by simp [Act.eval, Array.replicate]) ?_
  refine wpS_of_wp ?_
  obtain ⟨W0, hW0⟩ : ∃ W, w.alloc (.cells #[.int .i64 e0, .int .i64 a0] 53) = W := ⟨_, rfl⟩
  have k0 : Kept w W0 := by rw [← hW0]; exact (Kept.refl _).alloc _
  have b0 : Blk W0 w.heap.size 53 #[.int .i64 e0, .int .i64 a0] := by rw [← hW0]; exact Blk.new _ _ _
  have bg := hg.kept k0
  have bh := hh.kept k0
  have hgl := hg.lt
  have hhl := hh.lt
  rw [hW0]
  obtain ⟨D0, hD0⟩ : ∃ D, W0.drew = D := ⟨_, rfl⟩
  have kd : Kept W0 D0 := by rw [← hD0]; exact (Kept.refl _).drew
  have b1 := b0.kept kd
  have bg1 := bg.kept kd
  have bh1 := bh.kept kd
  have o1 : Only (fun k => k = g ∨ k = h) w D0 := Only.of_kept (k0.trans kd)
  clear hg hh hW0 k0 b0 bg bh kd hu hta
  rw [if_pos rfl]
  simp only [Nat.reduceAdd, Nat.reduceSub, Array.replicate_succ, Array.replicate_zero, List.push_toArray, List.append_toArray, List.nil_append, List.cons_append, List.setIfInBounds_toArray, List.set_cons_zero, List.set_cons_succ]
  refine wp_region_till (S := (fun W => W.cell? ⟨w.heap.size, 0, none⟩ = some (.int .i64 e0) ∧ W.cell? ⟨w.heap.size, 1, none⟩ = some (.int .i64 a0))) 3 (by kernel_rfl) (by rw [hD0]; exact ⟨b1.cell 0, b1.cell 1⟩) (fun hHeld0 => ?_)
  rw [hD0] at hHeld0 ⊢
  refine wpAnyT_take (i := 0) (v := ?_) rfl (by kernel_rfl) (by kernel_rfl) (by kernel_rfl) (fun _ _ _ h => h) (Or.inl ⟨by kernel_rfl, ?_⟩) (by assumption) ?_
  rotate_left
  · intro w hSw; (try dsimp only at hSw); go_simp; (try with_reducible rfl)
  (try simp only [Act.put, List.getElem_toArray, List.getElem_cons_zero, List.getElem_cons_succ, List.setIfInBounds_toArray, List.set_cons_zero, List.set_cons_succ])
  refine wpAnyT_take (i := 1) (v := ?_) rfl (by kernel_rfl) (by kernel_rfl) (by kernel_rfl) (fun _ _ _ h => h) (Or.inl ⟨by kernel_rfl, ?_⟩) (by assumption) ?_
  rotate_left
  · intro w hSw; (try dsimp only at hSw); go_simp; (try with_reducible rfl)
  (try simp only [Act.put, List.getElem_toArray, List.getElem_cons_zero, List.getElem_cons_succ, List.setIfInBounds_toArray, List.set_cons_zero, List.set_cons_succ])
  obtain ⟨_, g0, g1, g2, g3, g4, g5⟩ := nd_six bg1
  have hp2 := put6n_only D0 g (Ps.nd 0 Ps.e0 Ps.e0 0 []) (.slice none 0 0)
  obtain ⟨D1, hD1⟩ : ∃ D, put6n D0 g (Ps.nd 0 Ps.e0 Ps.e0 0 []) (.slice none 0 0) = D := ⟨_, rfl⟩
  have bg2 : Blk D1 g nT pzN := by rw [← hD1]; exact put6n_blk bg1 (Ps.nd 0 Ps.e0 Ps.e0 0 []) (.slice none 0 0)
  rw [hD1] at hp2
  have bh2 := bh1.only hp2 (fun e => hne e.symm)
  have b2 := b1.only hp2 (by omega)
  have o2 : Only (fun k => k = g ∨ k = h) w D1 := o1.trans (hp2.mono fun k _ e => .inl e)
  have HD1 := Lib.hid (show (((((D0.setCell ⟨g, 0, none⟩ (.int .i64 0)).setCell ⟨g, 1, none⟩ (.string ⟨#[]⟩)).setCell ⟨g, 2, none⟩ (.string ⟨#[]⟩)).setCell ⟨g, 3, none⟩ (.string ⟨#[]⟩)).setCell ⟨g, 4, none⟩ (.int .i64 0)).setCell ⟨g, 5, none⟩ (.slice none 0 0) = D1 from hD1)
  refine wpAnyT_ready (rs := [2]) (by kernel_rfl) (by simp) ?_
  refine AllReadyT.cons rfl (fun K hK => ?_) AllReadyT.nil
  go_simp
  rw [HD1.out]
  refine hK.out _ _ ⟨b2.cell 0, b2.cell 1⟩ (fun hHeld1 => ?_)
  clear hK K
  (try simp only [Act.put, List.getElem_toArray, List.getElem_cons_zero, List.getElem_cons_succ, List.setIfInBounds_toArray, List.set_cons_zero, List.set_cons_succ])
  have c0 := bh2.cell 0
  have c1 := bh2.cell 1
  have f0 := bh2.frozen 0
  have f1 := bh2.frozen 1
  have bh3 : Blk ((D1.setCell ⟨h, 0, none⟩ (.int .i64 e0)).setCell ⟨h, 1, none⟩ (.int .i64 a0)) h 36 #[.int .i64 e0, .int .i64 a0] := by
    have := (bh2.put 0 (.int .i64 e0)).put 1 (.int .i64 a0)
    simpa using this
  have o3 : Only (· = h) D1 ((D1.setCell ⟨h, 0, none⟩ (.int .i64 e0)).setCell ⟨h, 1, none⟩ (.int .i64 a0)) := ((Only.refl _ _).put 0 _).put 1 _
  have HB := Lib.hid (And.intro (bg2.only o3 hne) (And.intro bh3 (o2.trans (o3.mono fun k _ e => .inr e))))
  clear hHeld0 hHeld1 bh3 o3 bg2 o2 hD1 hp2 b2 bh2 b1 bg1 bh1 o1
  refine wpAnyT_ready (rs := [3]) (by kernel_rfl) (by simp) ?_
  refine AllReadyT.fin rfl (fun K hK => ?_)
  go_simp
  refine hK.out _ _ ?_
  clear hK K
  (try simp only [Act.put, List.getElem_toArray, List.getElem_cons_zero, List.getElem_cons_succ, List.setIfInBounds_toArray, List.set_cons_zero, List.set_cons_succ])
  refine wpAnyT_done (by kernel_rfl) ?_ _
  exact ⟨rfl, _, rfl, .tuple #[], results_none rfl _ _ _, rfl, rfl, HB.out.1, HB.out.2.1, HB.out.2.2⟩
end Go.Proofs.YtfkmnpgpfmkjaaaGreatDoor
namespace Go.Proofs.YtfkmnpgpfmkjaaaGreatDoor
open Go.ChangeShapes Go.WideShapes Go.ChangeAt Go.RowKit
attribute [local go_sem] Oper.semAt_some
open Ps (O W)

/-- A source's tree, or its first fault. -/
inductive PR where
  | tree (x : Nd)
  | fault (e a : Int)
def parseT (n : Int) (L : List Lx.T × Int × Int) : PR :=
  if L.2.1 = 0 then (match Ps.whole (L.1 ++ [Ps.theEndT n]) with
    | .bad q => .fault 5 q
    | .ok x _ => if (checkE x).1 = 0 then .tree x else .fault (checkE x).1 0)
  else .fault L.2.1 L.2.2
def parseP (l : List UInt8) : PR := parseT (l.length : Int) (Lx.lex l)
def ParsePost (R : PR) (w : World) (e : Ending) (w' : World) : Prop :=
  (∃ x ks v, R = .tree x ∧ e = .returned (.tuple #[ndV x v, .agg #[.int .i64 0, .int .i64 0]]) ∧ x.kids = ks.map (·.1) ∧ KRow w.heap.size w' v ks ∧ x.ok1 ∧ x.count ≤ 30000 ∧ (checkE x).1 = 0 ∧ Kept w w') ∨
  (∃ er ea, R = .fault er ea ∧ er ≠ 0 ∧ e = .returned (.tuple #[.agg #[.int .i64 0, .string ⟨#[]⟩, .string ⟨#[]⟩, .string ⟨#[]⟩, .int .i64 0, .slice none 0 0], .agg #[.int .i64 er, .int .i64 ea]]) ∧ Kept w w')

theorem parse_results {fn : Func} {p q : Tmp} (h : fn.results = #[.cell p nT, .cell q 36]) (tmps : Array Value) (W : World) {g g' : Nat} {e a x0 x1 x2 x3 x4 x5 : Value}
    (hp : tmps.getD p undef = .pointer (some ⟨g, 0, none⟩)) (hq : tmps.getD q undef = .pointer (some ⟨g', 0, none⟩))
    (hg : Blk W g nT #[x0, x1, x2, x3, x4, x5]) (hg' : Blk W g' 36 #[e, a]) :
    (results fn tmps).run Tryz.prog W = .ok (.tuple #[.agg #[x0, x1, x2, x3, x4, x5], .agg #[e, a]]) W := by
  have hp' : tmps[p]?.getD undef = .pointer (some ⟨g, 0, none⟩) := by simpa using hp
  have hq' : tmps[q]?.getD undef = .pointer (some ⟨g', 0, none⟩) := by simpa using hq
  have e2 := run_loadVar_row (P := Tryz.prog) W g' 36 36 #[e, a] (0, 0) _ hg' Tryz.underlying36 (by rfl) (by kernel_rfl)
  have e3 := run_loadVar_row (P := Tryz.prog) W g 25 25 #[x0, x1, x2, x3, x4, x5] (0, 0) _ hg Tryz.underlying25 (by rfl) (by kernel_rfl)
  simp [results, h, hp', hq', asAddr, e2, e3]

set_option maxHeartbeats 8000000 in
theorem parse_c (a : Option Addr) (c : Nat) (l : List UInt8) (w : World) (hs : SrcAt w (.slice a l.length c) l) (hT : Tb w) (hE : Er w) (hS : Sorts w) :
    Calls Tryz.prog 16 #[.slice a l.length c] w (ParsePost (parseP l) w) := by
  obtain ⟨L, hL⟩ : ∃ L, Lx.lex l = L := ⟨_, rfl⟩
  obtain ⟨tk, er, ea⟩ := L
  obtain ⟨R, hR⟩ : ∃ R, parseP l = R := ⟨_, rfl⟩
  have HR := Lib.hid (show parseT (l.length : Int) (tk, er, ea) = R by rw [← hL]; exact hR)
  rw [hR]
  have hmf : ∀ (fn : Fn) (first cap : Array Value) (w : World), (Instr.makeFunc fn first cap).run Tryz.prog w = .ok (.func fn first cap) w := fun _ _ _ _ => rfl
  obtain ⟨W0, hW0⟩ : ∃ W, w.alloc (.cells pzN nT) = W := ⟨_, rfl⟩
  obtain ⟨W1, hW1⟩ : ∃ W, W0.alloc (.cells #[.int .i64 0, .int .i64 0] 36) = W := ⟨_, rfl⟩
  have k0 : Kept w W0 := by rw [← hW0]; exact (Kept.refl _).alloc _
  have k1 : Kept W0 W1 := by rw [← hW1]; exact (Kept.refl _).alloc _
  have z0 : W0.heap.size = w.heap.size + 1 := by rw [← hW0]; simp
  have z1 : W1.heap.size = w.heap.size + 2 := by rw [← hW1]; simp [z0]
  have bg : Blk W1 w.heap.size nT pzN := by rw [← hW1]; exact (show Blk W0 w.heap.size nT pzN by rw [← hW0]; exact Blk.new _ _ _).alloc _
  have bh : Blk W1 (w.heap.size + 1) 36 #[.int .i64 0, .int .i64 0] := by rw [← hW1, ← z0]; exact Blk.new _ _ _
  have k01 := k0.trans k1
  have hsl : 0 < w.heap.size := by obtain ⟨t, fr, h⟩ := hS; exact (Array.getElem?_eq_some_iff.1 h).1
  have hS1 : Sorts W1 := by obtain ⟨t, fr, h⟩ := hS; exact ⟨t, fr, (k01.block _ (Array.getElem?_eq_some_iff.1 h).1).trans h⟩
  have HPO := Lib.hid (parserOf_c a c l tk er ea hL W1 (src_kept hs k01) (hT.kept k01) (hE.kept k01) hS1)
  have HT := Lib.hid hT
  have HK1 := Lib.hid k01
  have HBG := Lib.hid bg
  have HBH := Lib.hid bh
  have HW0 := Lib.hid hW0
  have HW1 := Lib.hid hW1
  have HZ1 := Lib.hid z1
  have HSL := Lib.hid hsl
  clear hs hT hE hS k0 k1 z1 bg bh k01 hS1 hW0 hW1 hL hR hsl
  go_enter_defers Tryz.func16, Tryz.ntmps16
  go_wp2_with (first | rw [HW0.out] | rw [HW1.out])
  refine HPO.out.mono ?_
  rintro e w2 (⟨h0, rfl, k2⟩ | ⟨h0, p, rfl, hf, hP, ⟨hB, hpL⟩, k2⟩)
  · have HC := Lib.hid (pcatch_some w.heap.size (w.heap.size + 1) er ea _ _ _ _ _ _ _ _ w2 (HBG.out.kept k2) (HBH.out.kept k2) (by omega))
    have HK2 := Lib.hid (HK1.out.trans k2)
    have HRF := Lib.hid (show R = .fault er ea by rw [← HR.out, parseT, if_neg h0])
    have H0 := Lib.hid h0
    clear h0 k2
    go_wp2_with fail
    refine leaves_cons (f := 22) (args := #[.pointer (some ⟨w.heap.size, 0, none⟩), .pointer (some ⟨w.heap.size + 1, 0, none⟩)]) (by simp) (by simp [go_sem]) ?_
    refine HC.out.mono ?_
    rintro r u' w3 ⟨rfl, hu, b1, b2, o3⟩
    show Leaves _ _ _ _ _ (settle u') w3
    rw [hu]
    exact ⟨_, parse_results (by rfl) _ _ rfl rfl b1 b2, .inr ⟨_, _, HRF.out, H0.out, rfl, HK2.out.only o3 rfl (fun k hk => by omega)⟩⟩
  have hF := fam_c hf (tk ++ [Ps.theEndT (l.length : Int)]).length
  have HPR := Lib.hid (program_c hF (tk ++ [Ps.theEndT (l.length : Int)]) w2 (by omega) hP)
  have HLN := Lib.hid hP.len
  have HRW := Lib.hid (show R = (match (Ps.program (Ps.run (tk ++ [Ps.theEndT (l.length : Int)]).length) (tk ++ [Ps.theEndT (l.length : Int)])).bind fun n r => (Ps.take [Ps.theEnd] r).bind fun _ _ => .ok n [] with
    | .bad q => .fault 5 q
    | .ok x _ => if (checkE x).1 = 0 then .tree x else .fault (checkE x).1 0) by rw [← HR.out, parseT, if_pos h0]; rfl)
  have HB := Lib.hid (show w.heap.size + 2 ≤ p.B by rw [← HZ1.out]; exact hB)
  have HPL := Lib.hid (show p.L = w.heap.size + 2 by rw [← HZ1.out]; exact hpL)
  have HK2 := Lib.hid k2
  have HPB := Lib.hid hP.lt
  clear h0 hf hP hB hpL k2 hF
  go_wp2_with fail
  refine HPR.out.mono ?_
  rintro e w3 (⟨x3, k3, r3, v3, h1, rfl, hx, hk, h4, h5, hok, h7⟩ | ⟨q, hb, rfl, ho⟩)
  rotate_left
  · have HC := Lib.hid (pcatch_some w.heap.size (w.heap.size + 1) 5 q _ _ _ _ _ _ _ _ w3 ((HBG.out.kept HK2.out).only ho (by have := HB.out; omega)) ((HBH.out.kept HK2.out).only ho (by have := HB.out; omega)) (by omega))
    have HK3 := Lib.hid ((HK1.out.trans HK2.out).only ho rfl (fun k hk => by have := HB.out; omega))
    have HRF := Lib.hid (show R = .fault 5 q by rw [HRW.out, hb]; rfl)
    clear hb ho
    go_wp2_with fail
    refine leaves_cons (f := 22) (args := #[.pointer (some ⟨w.heap.size, 0, none⟩), .pointer (some ⟨w.heap.size + 1, 0, none⟩)]) (by simp) (by simp [go_sem]) ?_
    refine HC.out.mono ?_
    rintro r u' w4 ⟨rfl, hu, b1, b2, o3⟩
    show Leaves _ _ _ _ _ (settle u') w4
    rw [hu]
    exact ⟨_, parse_results (by rfl) _ _ rfl rfl b1 b2, .inr ⟨_, _, HRF.out, by decide, rfl, HK3.out.only o3 rfl (fun k hk => by omega)⟩⟩
  obtain ⟨va3, vc3, rfl⟩ := hk.slice
  have bg3 := (HBG.out.kept HK2.out).only h5 (by have := HB.out; omega)
  have bh3 := (HBH.out.kept HK2.out).only h5 (by have := HB.out; omega)
  obtain ⟨W4, hW4⟩ : ∃ W, put6n w3 w.heap.size x3 (.slice va3 k3.length vc3) = W := ⟨_, rfl⟩
  have o4 : Only (· = w.heap.size) w3 W4 := by rw [← hW4]; exact put6n_only _ _ _ _
  have bg4 : Blk W4 w.heap.size nT (ndA x3 (.slice va3 k3.length vc3)) := by rw [← hW4]; exact put6n_blk bg3 _ _
  have bh4 := bh3.only o4 (by omega)
  have hs2 : w.heap.size + 2 ≤ w2.heap.size := by rw [← HZ1.out]; exact HK2.out.size
  have HP4 := Lib.hid (show Pst p r3 W4 from h4.onlyF o4 (by have := HB.out; omega) (fun b hb e => by
    have h1 := hb.2.2
    have h2 := HPL.out
    have h3 := HSL.out
    rcases h1 with h1 | h1 <;> omega))
  have HKR4 := Lib.hid (show KRow w2.heap.size W4 (.slice va3 k3.length vc3) k3 from hk.only o4 (fun k hk => by omega))
  have HK4 := Lib.hid (((HK1.out.trans HK2.out).only h5 rfl (fun k hk => by have := HB.out; omega)).only o4 rfl (fun k hk => by omega))
  have HE3 := Lib.hid h1
  have HX3 := Lib.hid (And.intro hx hok)
  have HL3 := Lib.hid h7
  have HBG4 := Lib.hid bg4
  have HBH4 := Lib.hid bh4
  have HW4 := Lib.hid (show (((((w3.setCell ⟨w.heap.size, 0, none⟩ (.int .i64 x3.kind)).setCell ⟨w.heap.size, 1, none⟩ (.string x3.text)).setCell ⟨w.heap.size, 2, none⟩ (.string x3.typ)).setCell ⟨w.heap.size, 3, none⟩ (.string x3.frm)).setCell ⟨w.heap.size, 4, none⟩ (.int .i64 x3.n)).setCell ⟨w.heap.size, 5, none⟩ (.slice va3 k3.length vc3) = W4 from hW4)
  obtain ⟨⟨y0, y1, y2, y3, y4, y5⟩, f0, f1, f2, f3, f4, f5⟩ := nd_six bg3
  clear h1 hx hk h4 h5 hok h7 bg3 bh3 o4 bg4 bh4 hW4 hs2
  go_wp2_with (rw [HW4.out])
  clear y0 y1 y2 y3 y4 y5 f0 f1 f2 f3 f4 f5
  refine (ptake_e HP4.out rfl).mono ?_
  rintro e w5 (⟨t5, r5, h1, rfl, ho⟩ | ⟨q, hb, rfl, ho⟩)
  rotate_left
  · have HC := Lib.hid (pcatch_some w.heap.size (w.heap.size + 1) 5 q _ _ _ _ _ _ _ _ w5 (HBG4.out.only ho (by have := HB.out; omega)) (HBH4.out.only ho (by have := HB.out; omega)) (by omega))
    have HK5 := Lib.hid (HK4.out.only ho rfl (fun k hk => by have := HB.out; omega))
    have HRF := Lib.hid (show R = .fault 5 q by rw [HRW.out, HE3.out, Ps.O.bind_ok, hb]; rfl)
    clear hb ho
    go_wp2_with fail
    refine leaves_cons (f := 22) (args := #[.pointer (some ⟨w.heap.size, 0, none⟩), .pointer (some ⟨w.heap.size + 1, 0, none⟩)]) (by simp) (by simp [go_sem]) ?_
    refine HC.out.mono ?_
    rintro r u' w6 ⟨rfl, hu, b1, b2, o3⟩
    show Leaves _ _ _ _ _ (settle u') w6
    rw [hu]
    exact ⟨_, parse_results (by rfl) _ _ rfl rfl b1 b2, .inr ⟨_, _, HRF.out, by decide, rfl, HK5.out.only o3 rfl (fun k hk => by omega)⟩⟩
  have HK5 := Lib.hid (HK4.out.only ho rfl (fun k hk => by have := HB.out; omega))
  have hb5 := HBG4.out.only ho (by have := HB.out; omega)
  have HBH5 := Lib.hid (HBH4.out.only ho (by have := HB.out; omega))
  have HKR5 := Lib.hid (HKR4.out.onB ho (by have := HPB.out; omega))
  have HE5 := Lib.hid h1
  have HT5 := Lib.hid (HT.out.kept HK5.out)
  have HBG5 := Lib.hid hb5
  have HCH := Lib.hid (show Calls Tryz.prog 20 #[ndV x3 (.slice va3 k3.length vc3)] w5 (fun e w' => e = .returned (.agg #[.int .i64 (checkE x3).1, .int .i64 (checkE x3).2]) ∧ Kept w5 w') from by
    have hl : k3.length = x3.kids.length := by rw [HX3.out.1, List.length_map]
    rw [hl]
    refine check_c x3 va3 vc3 w5 HT5.out HX3.out.2 ?_ (by have := HL3.out; have := HLN.out; omega)
    have := HKR5.out.kids.at
    rw [← HX3.out.1, hl] at this
    exact this)
  obtain ⟨⟨y0, y1, y2, y3, y4, y5⟩, f0, f1, f2, f3, f4, f5⟩ := nd_six hb5
  clear h1 ho hb5
  go_wp2_with fail
  clear y0 y1 y2 y3 y4 y5 f0 f1 f2 f3 f4 f5
  refine HCH.out.mono ?_
  rintro e w6 ⟨rfl, k6⟩
  have HK6 := Lib.hid (HK5.out.trans k6)
  have HKR6 := Lib.hid (HKR5.out.kept k6)
  have hb6 := HBG5.out.kept k6
  have HBH6 := Lib.hid (HBH5.out.kept k6)
  have HBG6 := Lib.hid hb6
  clear k6
  obtain ⟨ce, hce⟩ : ∃ ce, (checkE x3).1 = ce := ⟨_, rfl⟩
  obtain ⟨ca, hca⟩ : ∃ ca, (checkE x3).2 = ca := ⟨_, rfl⟩
  rw [hce, hca]
  have HRE := Lib.hid (show R = if (checkE x3).1 = 0 then .tree x3 else .fault (checkE x3).1 0 by rw [HRW.out, HE3.out, Ps.O.bind_ok, HE5.out]; rfl)
  by_cases h0 : ce = 0
  · subst h0
    have HRF := Lib.hid (show R = .tree x3 by rw [HRE.out, if_pos hce])
    have HCE := Lib.hid hce
    clear hca hce
    obtain ⟨V6, hV6⟩ : ∃ V, w6.alloc (.cells #[.int .i64 0, .int .i64 ca] 36) = V := ⟨_, rfl⟩
    have kv : Kept w6 V6 := by rw [← hV6]; exact (Kept.refl _).alloc _
    have bv : Blk V6 w6.heap.size 36 #[.int .i64 0, .int .i64 ca] := by rw [← hV6]; exact Blk.new _ _ _
    have HV6 := Lib.hid hV6
    have v0 := bv.cell 0
    have v1 := bv.cell 1
    obtain ⟨⟨y0, y1, y2, y3, y4, y5⟩, f0, f1, f2, f3, f4, f5⟩ := nd_six (hb6.kept kv)
    have bh6 := HBH6.out.kept kv
    have i0 := bh6.cell 0
    have i1 := bh6.cell 1
    have j0 := bh6.frozen 0
    have j1 := bh6.frozen 1
    have HK7 := Lib.hid (HK6.out.trans kv)
    have HKR7 := Lib.hid (HKR6.out.kept kv)
    have HB7 := Lib.hid (And.intro (hb6.kept kv) bh6)
    clear hV6 kv bv hb6 bh6
    go_wp2_with (rw [HV6.out])
    clear y0 y1 y2 y3 y4 y5 f0 f1 f2 f3 f4 f5 i0 i1 j0 j1 v0 v1
    have hzk := HK2.out.size
    have hz1 := HZ1.out
    have o7 := put6n_only V6 w.heap.size x3 (.slice va3 k3.length vc3)
    have g7 := put6n_blk HB7.out.1 x3 (.slice va3 k3.length vc3)
    have h7 := HB7.out.2.only o7 (by omega)
    obtain ⟨W7, hW7⟩ : ∃ W, put6n V6 w.heap.size x3 (.slice va3 k3.length vc3) = W := ⟨_, rfl⟩
    rw [hW7] at o7 g7 h7
    have o8 : Only (· = w.heap.size + 1) W7 ((W7.setCell ⟨w.heap.size + 1, 0, none⟩ (.int .i64 0)).setCell ⟨w.heap.size + 1, 1, none⟩ (.int .i64 0)) := ((Only.refl _ _).put 0 _).put 1 _
    have h8 : Blk ((W7.setCell ⟨w.heap.size + 1, 0, none⟩ (.int .i64 0)).setCell ⟨w.heap.size + 1, 1, none⟩ (.int .i64 0)) (w.heap.size + 1) 36 #[.int .i64 0, .int .i64 0] := by
      have := (h7.put 0 (.int .i64 0)).put 1 (.int .i64 0)
      simpa using this
    have g8 := g7.only o8 (by omega)
    have kr8 := (HKR7.out.only o7 (fun k hk => by omega)).only o8 (fun k hk => by omega)
    have k8 := (HK7.out.only o7 rfl (fun k hk => by omega)).only o8 rfl (fun k hk => by omega)
    obtain ⟨W8, hW8⟩ : ∃ W, (W7.setCell ⟨w.heap.size + 1, 0, none⟩ (.int .i64 0)).setCell ⟨w.heap.size + 1, 1, none⟩ (.int .i64 0) = W := ⟨_, rfl⟩
    rw [hW8] at h8 g8 kr8 k8
    have HC := Lib.hid (pcatch_none w.heap.size (w.heap.size + 1) W8)
    have HF := Lib.hid (And.intro g8 (And.intro h8 (And.intro kr8 k8)))
    have hL1 := HL3.out
    have hL2 := HLN.out
    have HCNT := Lib.hid (show x3.count ≤ 30000 by omega)
    have HWW := Lib.hid (show (((((((V6.setCell ⟨w.heap.size, 0, none⟩ (.int .i64 x3.kind)).setCell ⟨w.heap.size, 1, none⟩ (.string x3.text)).setCell ⟨w.heap.size, 2, none⟩ (.string x3.typ)).setCell ⟨w.heap.size, 3, none⟩ (.string x3.frm)).setCell ⟨w.heap.size, 4, none⟩ (.int .i64 x3.n)).setCell ⟨w.heap.size, 5, none⟩ (.slice va3 k3.length vc3)).setCell ⟨w.heap.size + 1, 0, none⟩ (.int .i64 0)).setCell ⟨w.heap.size + 1, 1, none⟩ (.int .i64 0) = W8 by rw [← hW8, ← hW7]; rfl)
    have HSZ := Lib.hid (show w.heap.size ≤ w2.heap.size by omega)
    clear o7 g7 h7 hW7 o8 h8 g8 kr8 k8 hW8 hL1 hL2 hzk hz1
    rw [HWW.out]
    refine leaves_cons (f := 22) (args := #[.pointer (some ⟨w.heap.size, 0, none⟩), .pointer (some ⟨w.heap.size + 1, 0, none⟩)]) (by simp) (by simp [go_sem]) ?_
    refine HC.out.mono ?_
    rintro r u' w9 ⟨rfl, rfl, k9⟩
    exact ⟨_, parse_results (by rfl) _ _ rfl rfl (HF.out.1.kept k9) (HF.out.2.1.kept k9), .inl ⟨x3, k3, _, HRF.out, rfl, HX3.out.1, (HF.out.2.2.1.kept k9).lower HSZ.out, HX3.out.2, HCNT.out, HCE.out, HF.out.2.2.2.trans k9⟩⟩
  · have hb1 : (ce == 0) = false := by simpa using h0
    have hb2 : (ce != 0) = true := by simpa using h0
    have HRF := Lib.hid (show R = .fault ce 0 by rw [HRE.out, hce, if_neg h0])
    have H0 := Lib.hid h0
    clear hca hce h0
    obtain ⟨V6, hV6⟩ : ∃ V, w6.alloc (.cells #[.int .i64 ce, .int .i64 ca] 36) = V := ⟨_, rfl⟩
    have kv : Kept w6 V6 := by rw [← hV6]; exact (Kept.refl _).alloc _
    have bv : Blk V6 w6.heap.size 36 #[.int .i64 ce, .int .i64 ca] := by rw [← hV6]; exact Blk.new _ _ _
    have HV6 := Lib.hid hV6
    have v0 := bv.cell 0
    have HC := Lib.hid (pcatch_some w.heap.size (w.heap.size + 1) ce 0 _ _ _ _ _ _ _ _ V6 (hb6.kept kv) (HBH6.out.kept kv) (by omega))
    have HK7 := Lib.hid (HK6.out.trans kv)
    clear hV6 kv bv hb6
    go_wp2_with (rw [HV6.out])
    refine leaves_cons (f := 22) (args := #[.pointer (some ⟨w.heap.size, 0, none⟩), .pointer (some ⟨w.heap.size + 1, 0, none⟩)]) (by simp) (by simp [go_sem]) ?_
    refine HC.out.mono ?_
    rintro r u' w8 ⟨rfl, hu, b1, b2, o3⟩
    show Leaves _ _ _ _ _ (settle u') w8
    rw [hu]
    exact ⟨_, parse_results (by rfl) _ _ rfl rfl b1 b2, .inr ⟨_, _, HRF.out, H0.out, rfl, HK7.out.only o3 rfl (fun k hk => by omega)⟩⟩
end Go.Proofs.YtfkmnpgpfmkjaaaGreatDoor
