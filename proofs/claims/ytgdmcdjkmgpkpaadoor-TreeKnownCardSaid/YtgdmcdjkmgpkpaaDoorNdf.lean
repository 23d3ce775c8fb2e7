/- isFormed: a node has nothing that it should not have. -/
import Derived.Test.YtgdmcdjkmgpkpaaDoorNdb
set_option linter.unusedSimpArgs false
set_option linter.unusedVariables false
set_option maxRecDepth 100000
namespace Go.Proofs.YtgdmcdjkmgpkpaaDoor
open Go.ChangeShapes Go.WideShapes Go.ChangeAt Go.RowKit

/-- Is Text one that a kind may have? -/
def textB (q : Int) (ws tx : ByteArray) (nn : Int) : Bool :=
  if q = 0 then decide (tx = ⟨#[]⟩) else if q = 5 then hasW ws tx else if q = 6 then decide (tx = ⟨#[]⟩) || (decide (nn = 0) && hasW ws tx) else if q = 7 then contsB tx else true
/-- Has a node nothing else? -/
def restB (tp ms : Int) (fr ty : ByteArray) (nn : Int) : Bool := decide (fr = ⟨#[]⟩) && (decide (tp ≠ 0) || decide (ty = ⟨#[]⟩)) && (decide (0 < ms) || decide (nn = 0))
def formedB (x : Ne) (n : Nd) : Bool := textB x.text x.words n.text n.n && restB x.typ x.most n.frm n.typ n.n

set_option maxHeartbeats 16000000 in
theorem formed_c (nb no b o : Nat) (x : Ne) (n : Nd) (w : World) (hT : Tb w) (hn : NeedAt w nb no x) (hwk : wordsOk x.words) (hd : NdAt w b o n) :
    Calls Tryd.prog 44 #[.pointer (some ⟨nb, no, none⟩), .pointer (some ⟨b, o, none⟩)] w fun e w' => e = .returned (.bool (formedB x n)) ∧ Kept w w' := by
  have HH := Lib.hid (hasW_c nb no x n.text w hT hn hwk)
  obtain ⟨ns, c0, c1, _, c3, _⟩ := hn
  obtain ⟨_, _, ⟨_, d1, d2, d3, d4, _⟩, hok, _⟩ := hd.cells
  have HQ := Lib.hid (conts_c n.text w hok.2.2.1)
  clear hok hd hwk hT
  unfold formedB
  generalize x.text = q at *
  generalize x.typ = tp at *
  generalize x.most = ms at *
  generalize x.words = ws at *
  generalize n.text = tx at *
  generalize n.typ = ty at *
  generalize n.frm = fr at *
  generalize n.n = nn at *
  obtain ⟨V, hV⟩ : ∃ V, (textB q ws tx nn && restB tp ms fr ty nn) = V := ⟨_, rfl⟩
  rw [hV]
  by_cases hq0 : q = 0
  · have bq0 : (q == 0) = true := by simp [hq0]
    by_cases he : tx = ⟨#[]⟩
    · have be : (tx.toList == []) = true := by rw [he]; exact emp_yes
      by_cases hf : fr = ⟨#[]⟩
      · have bf : (fr.toList == []) = true := by rw [hf]; exact emp_yes
        by_cases htp : tp = 0
        · have btp : (tp != 0) = false := by simp [htp]
          by_cases hty : ty = ⟨#[]⟩
          · have bty : (ty.toList == []) = true := by rw [hty]; exact emp_yes
            by_cases hm : 0 < ms
            · have bm : decide (0 < ms) = true := by simp [hm]
              have hv : V = true := by rw [← hV]; simp [textB, restB, hq0, he, hf, htp, hty, hm]
              have HV := Lib.hid hv
              clear hv hV hq0 he hf htp hty
              go_enter Tryd.func44, Tryd.ntmps44
              go_wp2_with fail
              go_ret
              exact ⟨by rw [HV.out]; rfl, Kept.refl _⟩
            · have bm : decide (0 < ms) = false := by simp [hm]
              by_cases hz : nn = 0
              · have bz : (nn == 0) = true := by simp [hz]
                have bz' : (nn != 0) = false := by simp [hz]
                have hv : V = true := by rw [← hV]; simp [textB, restB, hq0, he, hf, htp, hty, hm, hz]
                have HV := Lib.hid hv
                clear hv hV hq0 he hf htp hty hz
                go_enter Tryd.func44, Tryd.ntmps44
                go_wp2_with fail
                go_ret
                exact ⟨by rw [HV.out]; rfl, Kept.refl _⟩
              · have bz : (nn == 0) = false := by simp [hz]
                have bz' : (nn != 0) = true := by simp [hz]
                have hv : V = false := by rw [← hV]; simp [textB, restB, hq0, he, hf, htp, hty, hm, hz]
                have HV := Lib.hid hv
                clear hv hV hq0 he hf htp hty hz
                go_enter Tryd.func44, Tryd.ntmps44
                go_wp2_with fail
                go_ret
                exact ⟨by rw [HV.out]; rfl, Kept.refl _⟩
          · have bty : (ty.toList == []) = false := emp_no hty
            have hv : V = false := by rw [← hV]; simp [textB, restB, hq0, he, hf, htp, hty]
            have HV := Lib.hid hv
            clear hv hV hq0 he hf htp hty
            go_enter Tryd.func44, Tryd.ntmps44
            go_wp2_with fail
            go_ret
            exact ⟨by rw [HV.out]; rfl, Kept.refl _⟩
        · have btp : (tp != 0) = true := by simp [htp]
          by_cases hm : 0 < ms
          · have bm : decide (0 < ms) = true := by simp [hm]
            have hv : V = true := by rw [← hV]; simp [textB, restB, hq0, he, hf, htp, hm]
            have HV := Lib.hid hv
            clear hv hV hq0 he hf htp
            go_enter Tryd.func44, Tryd.ntmps44
            go_wp2_with fail
            go_ret
            exact ⟨by rw [HV.out]; rfl, Kept.refl _⟩
          · have bm : decide (0 < ms) = false := by simp [hm]
            by_cases hz : nn = 0
            · have bz : (nn == 0) = true := by simp [hz]
              have bz' : (nn != 0) = false := by simp [hz]
              have hv : V = true := by rw [← hV]; simp [textB, restB, hq0, he, hf, htp, hm, hz]
              have HV := Lib.hid hv
              clear hv hV hq0 he hf htp hz
              go_enter Tryd.func44, Tryd.ntmps44
              go_wp2_with fail
              go_ret
              exact ⟨by rw [HV.out]; rfl, Kept.refl _⟩
            · have bz : (nn == 0) = false := by simp [hz]
              have bz' : (nn != 0) = true := by simp [hz]
              have hv : V = false := by rw [← hV]; simp [textB, restB, hq0, he, hf, htp, hm, hz]
              have HV := Lib.hid hv
              clear hv hV hq0 he hf htp hz
              go_enter Tryd.func44, Tryd.ntmps44
              go_wp2_with fail
              go_ret
              exact ⟨by rw [HV.out]; rfl, Kept.refl _⟩
      · have bf : (fr.toList == []) = false := emp_no hf
        have hv : V = false := by rw [← hV]; simp [textB, restB, hq0, he, hf]
        have HV := Lib.hid hv
        clear hv hV hq0 he hf
        go_enter Tryd.func44, Tryd.ntmps44
        go_wp2_with fail
        go_ret
        exact ⟨by rw [HV.out]; rfl, Kept.refl _⟩
    · have be : (tx.toList == []) = false := emp_no he
      have hv : V = false := by rw [← hV]; simp [textB, restB, hq0, he]
      have HV := Lib.hid hv
      clear hv hV hq0 he
      go_enter Tryd.func44, Tryd.ntmps44
      go_wp2_with fail
      go_ret
      exact ⟨by rw [HV.out]; rfl, Kept.refl _⟩
  · have bq0 : (q == 0) = false := by simp [hq0]
    by_cases hq5 : q = 5
    · have bq5 : (q == 5) = true := by simp [hq5]
      cases hw : hasW ws tx with
      | false =>
        rw [hw] at HH
        have hv : V = false := by rw [← hV]; simp [textB, restB, hq0, hq5, hw]
        have HV := Lib.hid hv
        clear hv hV hq0 hq5
        clear hw
        go_enter Tryd.func44, Tryd.ntmps44
        go_wp2_with (go_at_call 48; refine HH.out.mono ?_; rintro e w' ⟨rfl, k⟩; have c0 := k.cell c0; have c1 := k.cell c1; have c3 := k.cell c3; have d1 := k.cell d1; have d2 := k.cell d2; have d3 := k.cell d3; have d4 := k.cell d4)
        go_ret
        exact ⟨by rw [HV.out]; rfl, k⟩
      | true =>
        rw [hw] at HH
        by_cases hf : fr = ⟨#[]⟩
        · have bf : (fr.toList == []) = true := by rw [hf]; exact emp_yes
          by_cases htp : tp = 0
          · have btp : (tp != 0) = false := by simp [htp]
            by_cases hty : ty = ⟨#[]⟩
            · have bty : (ty.toList == []) = true := by rw [hty]; exact emp_yes
              by_cases hm : 0 < ms
              · have bm : decide (0 < ms) = true := by simp [hm]
                have hv : V = true := by rw [← hV]; simp [textB, restB, hq0, hq5, hw, hf, htp, hty, hm]
                have HV := Lib.hid hv
                clear hv hV hq0 hq5 hf htp hty
                clear hw
                go_enter Tryd.func44, Tryd.ntmps44
                go_wp2_with (go_at_call 48; refine HH.out.mono ?_; rintro e w' ⟨rfl, k⟩; have c0 := k.cell c0; have c1 := k.cell c1; have c3 := k.cell c3; have d1 := k.cell d1; have d2 := k.cell d2; have d3 := k.cell d3; have d4 := k.cell d4)
                go_ret
                exact ⟨by rw [HV.out]; rfl, k⟩
              · have bm : decide (0 < ms) = false := by simp [hm]
                by_cases hz : nn = 0
                · have bz : (nn == 0) = true := by simp [hz]
                  have bz' : (nn != 0) = false := by simp [hz]
                  have hv : V = true := by rw [← hV]; simp [textB, restB, hq0, hq5, hw, hf, htp, hty, hm, hz]
                  have HV := Lib.hid hv
                  clear hv hV hq0 hq5 hf htp hty hz
                  clear hw
                  go_enter Tryd.func44, Tryd.ntmps44
                  go_wp2_with (go_at_call 48; refine HH.out.mono ?_; rintro e w' ⟨rfl, k⟩; have c0 := k.cell c0; have c1 := k.cell c1; have c3 := k.cell c3; have d1 := k.cell d1; have d2 := k.cell d2; have d3 := k.cell d3; have d4 := k.cell d4)
                  go_ret
                  exact ⟨by rw [HV.out]; rfl, k⟩
                · have bz : (nn == 0) = false := by simp [hz]
                  have bz' : (nn != 0) = true := by simp [hz]
                  have hv : V = false := by rw [← hV]; simp [textB, restB, hq0, hq5, hw, hf, htp, hty, hm, hz]
                  have HV := Lib.hid hv
                  clear hv hV hq0 hq5 hf htp hty hz
                  clear hw
                  go_enter Tryd.func44, Tryd.ntmps44
                  go_wp2_with (go_at_call 48; refine HH.out.mono ?_; rintro e w' ⟨rfl, k⟩; have c0 := k.cell c0; have c1 := k.cell c1; have c3 := k.cell c3; have d1 := k.cell d1; have d2 := k.cell d2; have d3 := k.cell d3; have d4 := k.cell d4)
                  go_ret
                  exact ⟨by rw [HV.out]; rfl, k⟩
            · have bty : (ty.toList == []) = false := emp_no hty
              have hv : V = false := by rw [← hV]; simp [textB, restB, hq0, hq5, hw, hf, htp, hty]
              have HV := Lib.hid hv
              clear hv hV hq0 hq5 hf htp hty
              clear hw
              go_enter Tryd.func44, Tryd.ntmps44
              go_wp2_with (go_at_call 48; refine HH.out.mono ?_; rintro e w' ⟨rfl, k⟩; have c0 := k.cell c0; have c1 := k.cell c1; have c3 := k.cell c3; have d1 := k.cell d1; have d2 := k.cell d2; have d3 := k.cell d3; have d4 := k.cell d4)
              go_ret
              exact ⟨by rw [HV.out]; rfl, k⟩
          · have btp : (tp != 0) = true := by simp [htp]
            by_cases hm : 0 < ms
            · have bm : decide (0 < ms) = true := by simp [hm]
              have hv : V = true := by rw [← hV]; simp [textB, restB, hq0, hq5, hw, hf, htp, hm]
              have HV := Lib.hid hv
              clear hv hV hq0 hq5 hf htp
              clear hw
              go_enter Tryd.func44, Tryd.ntmps44
              go_wp2_with (go_at_call 48; refine HH.out.mono ?_; rintro e w' ⟨rfl, k⟩; have c0 := k.cell c0; have c1 := k.cell c1; have c3 := k.cell c3; have d1 := k.cell d1; have d2 := k.cell d2; have d3 := k.cell d3; have d4 := k.cell d4)
              go_ret
              exact ⟨by rw [HV.out]; rfl, k⟩
            · have bm : decide (0 < ms) = false := by simp [hm]
              by_cases hz : nn = 0
              · have bz : (nn == 0) = true := by simp [hz]
                have bz' : (nn != 0) = false := by simp [hz]
                have hv : V = true := by rw [← hV]; simp [textB, restB, hq0, hq5, hw, hf, htp, hm, hz]
                have HV := Lib.hid hv
                clear hv hV hq0 hq5 hf htp hz
                clear hw
                go_enter Tryd.func44, Tryd.ntmps44
                go_wp2_with (go_at_call 48; refine HH.out.mono ?_; rintro e w' ⟨rfl, k⟩; have c0 := k.cell c0; have c1 := k.cell c1; have c3 := k.cell c3; have d1 := k.cell d1; have d2 := k.cell d2; have d3 := k.cell d3; have d4 := k.cell d4)
                go_ret
                exact ⟨by rw [HV.out]; rfl, k⟩
              · have bz : (nn == 0) = false := by simp [hz]
                have bz' : (nn != 0) = true := by simp [hz]
                have hv : V = false := by rw [← hV]; simp [textB, restB, hq0, hq5, hw, hf, htp, hm, hz]
                have HV := Lib.hid hv
                clear hv hV hq0 hq5 hf htp hz
                clear hw
                go_enter Tryd.func44, Tryd.ntmps44
                go_wp2_with (go_at_call 48; refine HH.out.mono ?_; rintro e w' ⟨rfl, k⟩; have c0 := k.cell c0; have c1 := k.cell c1; have c3 := k.cell c3; have d1 := k.cell d1; have d2 := k.cell d2; have d3 := k.cell d3; have d4 := k.cell d4)
                go_ret
                exact ⟨by rw [HV.out]; rfl, k⟩
        · have bf : (fr.toList == []) = false := emp_no hf
          have hv : V = false := by rw [← hV]; simp [textB, restB, hq0, hq5, hw, hf]
          have HV := Lib.hid hv
          clear hv hV hq0 hq5 hf
          clear hw
          go_enter Tryd.func44, Tryd.ntmps44
          go_wp2_with (go_at_call 48; refine HH.out.mono ?_; rintro e w' ⟨rfl, k⟩; have c0 := k.cell c0; have c1 := k.cell c1; have c3 := k.cell c3; have d1 := k.cell d1; have d2 := k.cell d2; have d3 := k.cell d3; have d4 := k.cell d4)
          go_ret
          exact ⟨by rw [HV.out]; rfl, k⟩
    · have bq5 : (q == 5) = false := by simp [hq5]
      by_cases hq6 : q = 6
      · have bq6 : (q == 6) = true := by simp [hq6]
        by_cases he : tx = ⟨#[]⟩
        · have be : (tx.toList == []) = true := by rw [he]; exact emp_yes
          by_cases hf : fr = ⟨#[]⟩
          · have bf : (fr.toList == []) = true := by rw [hf]; exact emp_yes
            by_cases htp : tp = 0
            · have btp : (tp != 0) = false := by simp [htp]
              by_cases hty : ty = ⟨#[]⟩
              · have bty : (ty.toList == []) = true := by rw [hty]; exact emp_yes
                by_cases hm : 0 < ms
                · have bm : decide (0 < ms) = true := by simp [hm]
                  have hv : V = true := by rw [← hV]; simp [textB, restB, hq0, hq5, hq6, he, hf, htp, hty, hm]
                  have HV := Lib.hid hv
                  clear hv hV hq0 hq5 hq6 he hf htp hty
                  go_enter Tryd.func44, Tryd.ntmps44
                  go_wp2_with fail
                  go_ret
                  exact ⟨by rw [HV.out]; rfl, Kept.refl _⟩
                · have bm : decide (0 < ms) = false := by simp [hm]
                  by_cases hz : nn = 0
                  · have bz : (nn == 0) = true := by simp [hz]
                    have bz' : (nn != 0) = false := by simp [hz]
                    have hv : V = true := by rw [← hV]; simp [textB, restB, hq0, hq5, hq6, he, hf, htp, hty, hm, hz]
                    have HV := Lib.hid hv
                    clear hv hV hq0 hq5 hq6 he hf htp hty hz
                    go_enter Tryd.func44, Tryd.ntmps44
                    go_wp2_with fail
                    go_ret
                    exact ⟨by rw [HV.out]; rfl, Kept.refl _⟩
                  · have bz : (nn == 0) = false := by simp [hz]
                    have bz' : (nn != 0) = true := by simp [hz]
                    have hv : V = false := by rw [← hV]; simp [textB, restB, hq0, hq5, hq6, he, hf, htp, hty, hm, hz]
                    have HV := Lib.hid hv
                    clear hv hV hq0 hq5 hq6 he hf htp hty hz
                    go_enter Tryd.func44, Tryd.ntmps44
                    go_wp2_with fail
                    go_ret
                    exact ⟨by rw [HV.out]; rfl, Kept.refl _⟩
              · have bty : (ty.toList == []) = false := emp_no hty
                have hv : V = false := by rw [← hV]; simp [textB, restB, hq0, hq5, hq6, he, hf, htp, hty]
                have HV := Lib.hid hv
                clear hv hV hq0 hq5 hq6 he hf htp hty
                go_enter Tryd.func44, Tryd.ntmps44
                go_wp2_with fail
                go_ret
                exact ⟨by rw [HV.out]; rfl, Kept.refl _⟩
            · have btp : (tp != 0) = true := by simp [htp]
              by_cases hm : 0 < ms
              · have bm : decide (0 < ms) = true := by simp [hm]
                have hv : V = true := by rw [← hV]; simp [textB, restB, hq0, hq5, hq6, he, hf, htp, hm]
                have HV := Lib.hid hv
                clear hv hV hq0 hq5 hq6 he hf htp
                go_enter Tryd.func44, Tryd.ntmps44
                go_wp2_with fail
                go_ret
                exact ⟨by rw [HV.out]; rfl, Kept.refl _⟩
              · have bm : decide (0 < ms) = false := by simp [hm]
                by_cases hz : nn = 0
                · have bz : (nn == 0) = true := by simp [hz]
                  have bz' : (nn != 0) = false := by simp [hz]
                  have hv : V = true := by rw [← hV]; simp [textB, restB, hq0, hq5, hq6, he, hf, htp, hm, hz]
                  have HV := Lib.hid hv
                  clear hv hV hq0 hq5 hq6 he hf htp hz
                  go_enter Tryd.func44, Tryd.ntmps44
                  go_wp2_with fail
                  go_ret
                  exact ⟨by rw [HV.out]; rfl, Kept.refl _⟩
                · have bz : (nn == 0) = false := by simp [hz]
                  have bz' : (nn != 0) = true := by simp [hz]
                  have hv : V = false := by rw [← hV]; simp [textB, restB, hq0, hq5, hq6, he, hf, htp, hm, hz]
                  have HV := Lib.hid hv
                  clear hv hV hq0 hq5 hq6 he hf htp hz
                  go_enter Tryd.func44, Tryd.ntmps44
                  go_wp2_with fail
                  go_ret
                  exact ⟨by rw [HV.out]; rfl, Kept.refl _⟩
          · have bf : (fr.toList == []) = false := emp_no hf
            have hv : V = false := by rw [← hV]; simp [textB, restB, hq0, hq5, hq6, he, hf]
            have HV := Lib.hid hv
            clear hv hV hq0 hq5 hq6 he hf
            go_enter Tryd.func44, Tryd.ntmps44
            go_wp2_with fail
            go_ret
            exact ⟨by rw [HV.out]; rfl, Kept.refl _⟩
        · have be : (tx.toList == []) = false := emp_no he
          by_cases hz : nn = 0
          · have bz : (nn == 0) = true := by simp [hz]
            have bz' : (nn != 0) = false := by simp [hz]
            cases hw : hasW ws tx with
            | false =>
              rw [hw] at HH
              have hv : V = false := by rw [← hV]; simp [textB, restB, hq0, hq5, hq6, he, hz, hw]
              have HV := Lib.hid hv
              clear hv hV hq0 hq5 hq6 he hz
              clear hw
              go_enter Tryd.func44, Tryd.ntmps44
              go_wp2_with (go_at_call 48; refine HH.out.mono ?_; rintro e w' ⟨rfl, k⟩; have c0 := k.cell c0; have c1 := k.cell c1; have c3 := k.cell c3; have d1 := k.cell d1; have d2 := k.cell d2; have d3 := k.cell d3; have d4 := k.cell d4)
              go_ret
              exact ⟨by rw [HV.out]; rfl, k⟩
            | true =>
              rw [hw] at HH
              by_cases hf : fr = ⟨#[]⟩
              · have bf : (fr.toList == []) = true := by rw [hf]; exact emp_yes
                by_cases htp : tp = 0
                · have btp : (tp != 0) = false := by simp [htp]
                  by_cases hty : ty = ⟨#[]⟩
                  · have bty : (ty.toList == []) = true := by rw [hty]; exact emp_yes
                    by_cases hm : 0 < ms
                    · have bm : decide (0 < ms) = true := by simp [hm]
                      have hv : V = true := by rw [← hV]; simp [textB, restB, hq0, hq5, hq6, he, hz, hw, hf, htp, hty, hm]
                      have HV := Lib.hid hv
                      clear hv hV hq0 hq5 hq6 he hz hf htp hty
                      clear hw
                      go_enter Tryd.func44, Tryd.ntmps44
                      go_wp2_with (go_at_call 48; refine HH.out.mono ?_; rintro e w' ⟨rfl, k⟩; have c0 := k.cell c0; have c1 := k.cell c1; have c3 := k.cell c3; have d1 := k.cell d1; have d2 := k.cell d2; have d3 := k.cell d3; have d4 := k.cell d4)
                      go_ret
                      exact ⟨by rw [HV.out]; rfl, k⟩
                    · have bm : decide (0 < ms) = false := by simp [hm]
                      have hv : V = true := by rw [← hV]; simp [textB, restB, hq0, hq5, hq6, he, hz, hw, hf, htp, hty, hm]
                      have HV := Lib.hid hv
                      clear hv hV hq0 hq5 hq6 he hz hf htp hty
                      clear hw
                      go_enter Tryd.func44, Tryd.ntmps44
                      go_wp2_with (go_at_call 48; refine HH.out.mono ?_; rintro e w' ⟨rfl, k⟩; have c0 := k.cell c0; have c1 := k.cell c1; have c3 := k.cell c3; have d1 := k.cell d1; have d2 := k.cell d2; have d3 := k.cell d3; have d4 := k.cell d4)
                      go_ret
                      exact ⟨by rw [HV.out]; rfl, k⟩
                  · have bty : (ty.toList == []) = false := emp_no hty
                    have hv : V = false := by rw [← hV]; simp [textB, restB, hq0, hq5, hq6, he, hz, hw, hf, htp, hty]
                    have HV := Lib.hid hv
                    clear hv hV hq0 hq5 hq6 he hz hf htp hty
                    clear hw
                    go_enter Tryd.func44, Tryd.ntmps44
                    go_wp2_with (go_at_call 48; refine HH.out.mono ?_; rintro e w' ⟨rfl, k⟩; have c0 := k.cell c0; have c1 := k.cell c1; have c3 := k.cell c3; have d1 := k.cell d1; have d2 := k.cell d2; have d3 := k.cell d3; have d4 := k.cell d4)
                    go_ret
                    exact ⟨by rw [HV.out]; rfl, k⟩
                · have btp : (tp != 0) = true := by simp [htp]
                  by_cases hm : 0 < ms
                  · have bm : decide (0 < ms) = true := by simp [hm]
                    have hv : V = true := by rw [← hV]; simp [textB, restB, hq0, hq5, hq6, he, hz, hw, hf, htp, hm]
                    have HV := Lib.hid hv
                    clear hv hV hq0 hq5 hq6 he hz hf htp
                    clear hw
                    go_enter Tryd.func44, Tryd.ntmps44
                    go_wp2_with (go_at_call 48; refine HH.out.mono ?_; rintro e w' ⟨rfl, k⟩; have c0 := k.cell c0; have c1 := k.cell c1; have c3 := k.cell c3; have d1 := k.cell d1; have d2 := k.cell d2; have d3 := k.cell d3; have d4 := k.cell d4)
                    go_ret
                    exact ⟨by rw [HV.out]; rfl, k⟩
                  · have bm : decide (0 < ms) = false := by simp [hm]
                    have hv : V = true := by rw [← hV]; simp [textB, restB, hq0, hq5, hq6, he, hz, hw, hf, htp, hm]
                    have HV := Lib.hid hv
                    clear hv hV hq0 hq5 hq6 he hz hf htp
                    clear hw
                    go_enter Tryd.func44, Tryd.ntmps44
                    go_wp2_with (go_at_call 48; refine HH.out.mono ?_; rintro e w' ⟨rfl, k⟩; have c0 := k.cell c0; have c1 := k.cell c1; have c3 := k.cell c3; have d1 := k.cell d1; have d2 := k.cell d2; have d3 := k.cell d3; have d4 := k.cell d4)
                    go_ret
                    exact ⟨by rw [HV.out]; rfl, k⟩
              · have bf : (fr.toList == []) = false := emp_no hf
                have hv : V = false := by rw [← hV]; simp [textB, restB, hq0, hq5, hq6, he, hz, hw, hf]
                have HV := Lib.hid hv
                clear hv hV hq0 hq5 hq6 he hz hf
                clear hw
                go_enter Tryd.func44, Tryd.ntmps44
                go_wp2_with (go_at_call 48; refine HH.out.mono ?_; rintro e w' ⟨rfl, k⟩; have c0 := k.cell c0; have c1 := k.cell c1; have c3 := k.cell c3; have d1 := k.cell d1; have d2 := k.cell d2; have d3 := k.cell d3; have d4 := k.cell d4)
                go_ret
                exact ⟨by rw [HV.out]; rfl, k⟩
          · have bz : (nn == 0) = false := by simp [hz]
            have bz' : (nn != 0) = true := by simp [hz]
            have hv : V = false := by rw [← hV]; simp [textB, restB, hq0, hq5, hq6, he, hz]
            have HV := Lib.hid hv
            clear hv hV hq0 hq5 hq6 he hz
            go_enter Tryd.func44, Tryd.ntmps44
            go_wp2_with fail
            go_ret
            exact ⟨by rw [HV.out]; rfl, Kept.refl _⟩
      · have bq6 : (q == 6) = false := by simp [hq6]
        by_cases hq7 : q = 7
        · have bq7 : (q == 7) = true := by simp [hq7]
          cases hw : contsB tx with
          | false =>
            rw [hw] at HQ
            have hv : V = false := by rw [← hV]; simp [textB, restB, hq0, hq5, hq6, hq7, hw]
            have HV := Lib.hid hv
            clear hv hV hq0 hq5 hq6 hq7
            clear hw
            go_enter Tryd.func44, Tryd.ntmps44
            go_wp2_with (go_at_call 49; refine HQ.out.mono ?_; rintro e w' ⟨rfl, rfl⟩)
            go_ret
            exact ⟨by rw [HV.out]; rfl, Kept.refl _⟩
          | true =>
            rw [hw] at HQ
            by_cases hf : fr = ⟨#[]⟩
            · have bf : (fr.toList == []) = true := by rw [hf]; exact emp_yes
              by_cases htp : tp = 0
              · have btp : (tp != 0) = false := by simp [htp]
                by_cases hty : ty = ⟨#[]⟩
                · have bty : (ty.toList == []) = true := by rw [hty]; exact emp_yes
                  by_cases hm : 0 < ms
                  · have bm : decide (0 < ms) = true := by simp [hm]
                    have hv : V = true := by rw [← hV]; simp [textB, restB, hq0, hq5, hq6, hq7, hw, hf, htp, hty, hm]
                    have HV := Lib.hid hv
                    clear hv hV hq0 hq5 hq6 hq7 hf htp hty
                    clear hw
                    go_enter Tryd.func44, Tryd.ntmps44
                    go_wp2_with (go_at_call 49; refine HQ.out.mono ?_; rintro e w' ⟨rfl, rfl⟩)
                    go_ret
                    exact ⟨by rw [HV.out]; rfl, Kept.refl _⟩
                  · have bm : decide (0 < ms) = false := by simp [hm]
                    by_cases hz : nn = 0
                    · have bz : (nn == 0) = true := by simp [hz]
                      have bz' : (nn != 0) = false := by simp [hz]
                      have hv : V = true := by rw [← hV]; simp [textB, restB, hq0, hq5, hq6, hq7, hw, hf, htp, hty, hm, hz]
                      have HV := Lib.hid hv
                      clear hv hV hq0 hq5 hq6 hq7 hf htp hty hz
                      clear hw
                      go_enter Tryd.func44, Tryd.ntmps44
                      go_wp2_with (go_at_call 49; refine HQ.out.mono ?_; rintro e w' ⟨rfl, rfl⟩)
                      go_ret
                      exact ⟨by rw [HV.out]; rfl, Kept.refl _⟩
                    · have bz : (nn == 0) = false := by simp [hz]
                      have bz' : (nn != 0) = true := by simp [hz]
                      have hv : V = false := by rw [← hV]; simp [textB, restB, hq0, hq5, hq6, hq7, hw, hf, htp, hty, hm, hz]
                      have HV := Lib.hid hv
                      clear hv hV hq0 hq5 hq6 hq7 hf htp hty hz
                      clear hw
                      go_enter Tryd.func44, Tryd.ntmps44
                      go_wp2_with (go_at_call 49; refine HQ.out.mono ?_; rintro e w' ⟨rfl, rfl⟩)
                      go_ret
                      exact ⟨by rw [HV.out]; rfl, Kept.refl _⟩
                · have bty : (ty.toList == []) = false := emp_no hty
                  have hv : V = false := by rw [← hV]; simp [textB, restB, hq0, hq5, hq6, hq7, hw, hf, htp, hty]
                  have HV := Lib.hid hv
                  clear hv hV hq0 hq5 hq6 hq7 hf htp hty
                  clear hw
                  go_enter Tryd.func44, Tryd.ntmps44
                  go_wp2_with (go_at_call 49; refine HQ.out.mono ?_; rintro e w' ⟨rfl, rfl⟩)
                  go_ret
                  exact ⟨by rw [HV.out]; rfl, Kept.refl _⟩
              · have btp : (tp != 0) = true := by simp [htp]
                by_cases hm : 0 < ms
                · have bm : decide (0 < ms) = true := by simp [hm]
                  have hv : V = true := by rw [← hV]; simp [textB, restB, hq0, hq5, hq6, hq7, hw, hf, htp, hm]
                  have HV := Lib.hid hv
                  clear hv hV hq0 hq5 hq6 hq7 hf htp
                  clear hw
                  go_enter Tryd.func44, Tryd.ntmps44
                  go_wp2_with (go_at_call 49; refine HQ.out.mono ?_; rintro e w' ⟨rfl, rfl⟩)
                  go_ret
                  exact ⟨by rw [HV.out]; rfl, Kept.refl _⟩
                · have bm : decide (0 < ms) = false := by simp [hm]
                  by_cases hz : nn = 0
                  · have bz : (nn == 0) = true := by simp [hz]
                    have bz' : (nn != 0) = false := by simp [hz]
                    have hv : V = true := by rw [← hV]; simp [textB, restB, hq0, hq5, hq6, hq7, hw, hf, htp, hm, hz]
                    have HV := Lib.hid hv
                    clear hv hV hq0 hq5 hq6 hq7 hf htp hz
                    clear hw
                    go_enter Tryd.func44, Tryd.ntmps44
                    go_wp2_with (go_at_call 49; refine HQ.out.mono ?_; rintro e w' ⟨rfl, rfl⟩)
                    go_ret
                    exact ⟨by rw [HV.out]; rfl, Kept.refl _⟩
                  · have bz : (nn == 0) = false := by simp [hz]
                    have bz' : (nn != 0) = true := by simp [hz]
                    have hv : V = false := by rw [← hV]; simp [textB, restB, hq0, hq5, hq6, hq7, hw, hf, htp, hm, hz]
                    have HV := Lib.hid hv
                    clear hv hV hq0 hq5 hq6 hq7 hf htp hz
                    clear hw
                    go_enter Tryd.func44, Tryd.ntmps44
                    go_wp2_with (go_at_call 49; refine HQ.out.mono ?_; rintro e w' ⟨rfl, rfl⟩)
                    go_ret
                    exact ⟨by rw [HV.out]; rfl, Kept.refl _⟩
            · have bf : (fr.toList == []) = false := emp_no hf
              have hv : V = false := by rw [← hV]; simp [textB, restB, hq0, hq5, hq6, hq7, hw, hf]
              have HV := Lib.hid hv
              clear hv hV hq0 hq5 hq6 hq7 hf
              clear hw
              go_enter Tryd.func44, Tryd.ntmps44
              go_wp2_with (go_at_call 49; refine HQ.out.mono ?_; rintro e w' ⟨rfl, rfl⟩)
              go_ret
              exact ⟨by rw [HV.out]; rfl, Kept.refl _⟩
        · have bq7 : (q == 7) = false := by simp [hq7]
          by_cases hf : fr = ⟨#[]⟩
          · have bf : (fr.toList == []) = true := by rw [hf]; exact emp_yes
            by_cases htp : tp = 0
            · have btp : (tp != 0) = false := by simp [htp]
              by_cases hty : ty = ⟨#[]⟩
              · have bty : (ty.toList == []) = true := by rw [hty]; exact emp_yes
                by_cases hm : 0 < ms
                · have bm : decide (0 < ms) = true := by simp [hm]
                  have hv : V = true := by rw [← hV]; simp [textB, restB, hq0, hq5, hq6, hq7, hf, htp, hty, hm]
                  have HV := Lib.hid hv
                  clear hv hV hq0 hq5 hq6 hq7 hf htp hty
                  go_enter Tryd.func44, Tryd.ntmps44
                  go_wp2_with fail
                  go_ret
                  exact ⟨by rw [HV.out]; rfl, Kept.refl _⟩
                · have bm : decide (0 < ms) = false := by simp [hm]
                  by_cases hz : nn = 0
                  · have bz : (nn == 0) = true := by simp [hz]
                    have bz' : (nn != 0) = false := by simp [hz]
                    have hv : V = true := by rw [← hV]; simp [textB, restB, hq0, hq5, hq6, hq7, hf, htp, hty, hm, hz]
                    have HV := Lib.hid hv
                    clear hv hV hq0 hq5 hq6 hq7 hf htp hty hz
                    go_enter Tryd.func44, Tryd.ntmps44
                    go_wp2_with fail
                    go_ret
                    exact ⟨by rw [HV.out]; rfl, Kept.refl _⟩
                  · have bz : (nn == 0) = false := by simp [hz]
                    have bz' : (nn != 0) = true := by simp [hz]
                    have hv : V = false := by rw [← hV]; simp [textB, restB, hq0, hq5, hq6, hq7, hf, htp, hty, hm, hz]
                    have HV := Lib.hid hv
                    clear hv hV hq0 hq5 hq6 hq7 hf htp hty hz
                    go_enter Tryd.func44, Tryd.ntmps44
                    go_wp2_with fail
                    go_ret
                    exact ⟨by rw [HV.out]; rfl, Kept.refl _⟩
              · have bty : (ty.toList == []) = false := emp_no hty
                have hv : V = false := by rw [← hV]; simp [textB, restB, hq0, hq5, hq6, hq7, hf, htp, hty]
                have HV := Lib.hid hv
                clear hv hV hq0 hq5 hq6 hq7 hf htp hty
                go_enter Tryd.func44, Tryd.ntmps44
                go_wp2_with fail
                go_ret
                exact ⟨by rw [HV.out]; rfl, Kept.refl _⟩
            · have btp : (tp != 0) = true := by simp [htp]
              by_cases hm : 0 < ms
              · have bm : decide (0 < ms) = true := by simp [hm]
                have hv : V = true := by rw [← hV]; simp [textB, restB, hq0, hq5, hq6, hq7, hf, htp, hm]
                have HV := Lib.hid hv
                clear hv hV hq0 hq5 hq6 hq7 hf htp
                go_enter Tryd.func44, Tryd.ntmps44
                go_wp2_with fail
                go_ret
                exact ⟨by rw [HV.out]; rfl, Kept.refl _⟩
              · have bm : decide (0 < ms) = false := by simp [hm]
                by_cases hz : nn = 0
                · have bz : (nn == 0) = true := by simp [hz]
                  have bz' : (nn != 0) = false := by simp [hz]
                  have hv : V = true := by rw [← hV]; simp [textB, restB, hq0, hq5, hq6, hq7, hf, htp, hm, hz]
                  have HV := Lib.hid hv
                  clear hv hV hq0 hq5 hq6 hq7 hf htp hz
                  go_enter Tryd.func44, Tryd.ntmps44
                  go_wp2_with fail
                  go_ret
                  exact ⟨by rw [HV.out]; rfl, Kept.refl _⟩
                · have bz : (nn == 0) = false := by simp [hz]
                  have bz' : (nn != 0) = true := by simp [hz]
                  have hv : V = false := by rw [← hV]; simp [textB, restB, hq0, hq5, hq6, hq7, hf, htp, hm, hz]
                  have HV := Lib.hid hv
                  clear hv hV hq0 hq5 hq6 hq7 hf htp hz
                  go_enter Tryd.func44, Tryd.ntmps44
                  go_wp2_with fail
                  go_ret
                  exact ⟨by rw [HV.out]; rfl, Kept.refl _⟩
          · have bf : (fr.toList == []) = false := emp_no hf
            have hv : V = false := by rw [← hV]; simp [textB, restB, hq0, hq5, hq6, hq7, hf]
            have HV := Lib.hid hv
            clear hv hV hq0 hq5 hq6 hq7 hf
            go_enter Tryd.func44, Tryd.ntmps44
            go_wp2_with fail
            go_ret
            exact ⟨by rw [HV.out]; rfl, Kept.refl _⟩

end Go.Proofs.YtgdmcdjkmgpkpaaDoor
