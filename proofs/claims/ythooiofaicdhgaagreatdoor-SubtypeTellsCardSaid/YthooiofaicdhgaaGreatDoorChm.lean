/- The contract of table.checkMembers. -/
import Derived.Test.YthooiofaicdhgaaGreatDoorInh
import Derived.Test.YthooiofaicdhgaaGreatDoorCsg
set_option linter.unusedSimpArgs false
set_option linter.unusedVariables false
set_option maxRecDepth 100000
namespace Go.Proofs.YthooiofaicdhgaaGreatDoor
open Go.ChangeShapes Go.WideShapes Go.ChangeAt Go.RowKit

theorem chkFs_at {t : List Tab.C} {h : Tab.Held} {fs : List Tab.V} {j : Nat} {f : Tab.V} (hf : fs[j]? = some f) : Tab.chkFs t h (fs.drop j) =
    if Tab.chkVar t f = 0 then (if (h f.name).isSome then (8, h) else Tab.chkFs t (h.put f.name (none, false)) (fs.drop (j + 1))) else (Tab.chkVar t f, h) := by
  obtain ⟨hk, rfl⟩ := List.getElem?_eq_some_iff.1 hf
  rw [List.drop_eq_getElem_cons hk]
  rfl
theorem chkMs_at {t : List Tab.C} {h : Tab.Held} {ms : List Tab.M} {j : Nat} {m : Tab.M} (hm : ms[j]? = some m) : Tab.chkMs t h (ms.drop j) =
    if Tab.chkSig t m = 0 then (if Tab.chkM1 h m = 0 then Tab.chkMs t (h.put m.name (some m, true)) (ms.drop (j + 1)) else Tab.chkM1 h m) else Tab.chkSig t m := by
  obtain ⟨hk, rfl⟩ := List.getElem?_eq_some_iff.1 hm
  rw [List.drop_eq_getElem_cons hk]
  rfl
theorem mem_bad {t : List Tab.C} {i : Nat} {e : Int} {h : Tab.Held} (hf : Tab.chkFs t (Tab.inh t (Tab.nth t i).super) (Tab.nth t i).fields = (e, h)) (he : ¬ e = 0) : Tab.chkMembers t i = e := by
  unfold Tab.chkMembers
  rw [hf, if_neg he]
theorem mem_good {t : List Tab.C} {i : Nat} {h : Tab.Held} (hf : Tab.chkFs t (Tab.inh t (Tab.nth t i).super) (Tab.nth t i).fields = (0, h)) : Tab.chkMembers t i = Tab.chkMs t h (Tab.nth t i).methods := by
  unfold Tab.chkMembers
  rw [hf, if_pos rfl]

set_option maxHeartbeats 8000000 in
theorem cmembers_c (t : List Tab.C) (a : Option Addr) (cp : Nat) (i : Nat) (w : World) (hTb : Tb w) (h : TabAt w (.slice a t.length cp) t) (hi : i < t.length) (hS : Small t) :
    Calls Tryz.prog 102 #[.slice a t.length cp, .int .i64 i] w fun e w' => e = .returned (.int .i64 (Tab.chkMembers t i)) ∧ Kept w w' := by
  obtain ⟨av, hav⟩ : ∃ av, av = Tab.chkMembers t i := ⟨_, rfl⟩
  rw [← hav]
  have HAV := Lib.hid hav
  clear hav
  obtain ⟨b, o, rfl, hcl⟩ := Row.cellsC h hi
  obtain ⟨c, hc⟩ : ∃ c, c = Tab.nth t i := ⟨_, rfl⟩
  rw [← hc] at hcl
  have HCE := Lib.hid hc
  obtain ⟨c0, c1, ⟨fu, c2, hf⟩, ⟨mu, c3, hm⟩, hs1, hs2⟩ := hcl
  obtain ⟨fa, fc, rfl, hf1, hf2, hfat⟩ := hf
  obtain ⟨ma, mc, rfl, hm1, hm2, hmat⟩ := hm
  have HFAT := Lib.hid hfat
  have HMAT := Lib.hid hmat
  have HC2 := Lib.hid c2
  have HC3 := Lib.hid c3
  have hiI : (i : Int) < (t.length : Int) := by omega
  have hfl : c.fields.length ≤ 1000 := by rw [hc]; exact hS.fields _ (nth_mem hi)
  have hml : c.methods.length ≤ 1000 := by rw [hc]; exact hS.methods _ (nth_mem hi)
  have HPL := Lib.hid (show ∀ m ∈ c.methods, m.params.length ≤ 1000 by rw [hc]; exact hS.params _ (nth_mem hi))
  have H1 := Lib.hid (inherited_c (some ⟨b, o, none⟩) cp t c.super w h hS)
  have HT := Lib.hid h
  have HTB := Lib.hid hTb
  clear hfat hmat h hTb hc c0 c3
  go_enter Tryz.func102, Tryz.ntmps102
  go_wp2_with fail
  refine H1.out.mono ?_
  rintro e w1 ⟨rfl, ⟨n0, hh0, hn0⟩, k1⟩
  have d2 := k1.cell HC2.out
  have HH0 := Lib.hid hh0
  have HK1 := Lib.hid k1
  clear hh0 k1 H1 c1 c2
  go_wp2_with fail
  clear d2
  go_loopw [31] (fun q wr => ∃ (j n : Nat) (hd : Tab.Held), j ≤ c.fields.length ∧ q = .int .i64 j ∧ HldAt w w.heap.size n hd wr ∧ Kept w wr ∧ n ≤ 2002000 + j ∧ Tab.chkFs t (Tab.inh t c.super) c.fields = Tab.chkFs t hd (c.fields.drop j)) (fun q wr => c.fields.length - (intOf q).toNat)
  case atStart => exact ⟨0, n0, _, Nat.zero_le _, rfl, HH0.out, HK1.out, by omega, rfl⟩
  case round =>
    obtain ⟨j, n, hd, hj, rfl, hh, hk, hn, he⟩ := hrel
    by_cases hlt : j < c.fields.length
    · have hltI : (j : Int) < (c.fields.length : Int) := by omega
      have hx : c.fields[j]? = some c.fields[j] := List.getElem?_eq_getElem hlt
      obtain ⟨ub, uo, e2, hva⟩ := HFAT.out _ _ hx
      rw [chkFs_at hx] at he
      generalize c.fields[j] = x at hx hva he
      subst e2
      obtain ⟨x0, x1, xs⟩ := hva.kept hk
      have HKA := Lib.hid (hk.alloc (.cells #[.string x.name, .string x.typ] 50))
      have HB := Lib.hid (Blk.new wr 50 #[.string x.name, .string x.typ])
      have HV := Lib.hid (cvar_c t (.slice (some ⟨b, o, none⟩) t.length cp) x _ (HTB.out.kept HKA.out) xs (tab_kept HT.out HKA.out))
      have HH := Lib.hid hh
      have HK := Lib.hid hk
      have HE := Lib.hid he
      clear hx hva hh hk he
      by_cases hcv : Tab.chkVar t x = 0
      · rw [hcv] at HV
        rw [hcv, if_pos rfl] at HE
        clear hcv
        go_wp2_with fail
        refine HV.out.mono ?_
        rintro e w3 ⟨rfl, k3⟩
        have hq := (HB.out.kept k3).cell 0
        simp at hq
        have HK3 := Lib.hid (HKA.out.trans k3)
        have hh3 := HH.out.keep (((Kept.refl wr).alloc (.cells #[.string x.name, .string x.typ] 50)).trans k3)
        obtain ⟨v, hlk, hv⟩ := hh3.look x.name xs.1
        have HB3 := Lib.hid (HB.out.kept k3)
        have HH3 := Lib.hid hh3
        clear hh3 k3 HV
        cases hs : hd x.name with
        | some z =>
          rw [hs] at hlk hv
          rw [hs] at HE
          have HG := Lib.hid (show av = 8 by rw [HAV.out]; exact mem_bad (h := hd) (by rw [← HCE.out, HE.out]; rfl) (by decide))
          obtain ⟨p, y, rfl⟩ : ∃ p y, v = .agg #[.pointer p, .bool y] := by
            rcases z with ⟨_ | m, y⟩
            · exact ⟨_, _, hv⟩
            · obtain ⟨k, o, e, _⟩ := hv; exact ⟨_, _, e⟩
          simp only [Option.isSome_some] at hlk
          clear hv hs
          go_wp2_with fail
          go_ret
          exact ⟨by rw [HG.out]; rfl, HK3.out.alloc _⟩
        | none =>
          rw [hs] at hlk hv
          rw [hs] at HE
          simp only [Option.isSome_none] at hlk
          subst hv
          have hh4 := HH3.out.keep ((Kept.refl w3).alloc (.cells #[.pointer none, .bool false] 180))
          obtain ⟨w5, hup, hh5, hO5⟩ := hh4.putF (by unfold maxLen; omega) x.name xs.1 false
          have hq4 := (HB3.out.alloc (.cells #[.pointer none, .bool false] 180)).cell 0
          simp at hq4
          have HG := Lib.hid (show Tab.chkFs t (Tab.inh t c.super) c.fields = Tab.chkFs t (hd.put x.name (none, false)) (c.fields.drop (j + 1)) by rw [HE.out]; rfl)
          have HH5 := Lib.hid hh5
          have HK5 := Lib.hid ((HK3.out.alloc _).onlyS hO5 (fun k e => by omega))
          clear hs hh4 hh5 hO5
          go_wp2_with fail
          go_roundw
          case rel => exact ⟨j + 1, n + 1, _, by omega, by go_num, HH5.out, HK5.out, by omega, HG.out⟩
          case measure => simp [intOf]; omega
      · rw [if_neg hcv] at HE
        have HG := Lib.hid (show av = Tab.chkVar t x by rw [HAV.out]; exact mem_bad (h := hd) (by rw [← HCE.out, HE.out]) hcv)
        generalize Tab.chkVar t x = z at HV HG hcv
        have hzf : (z != 0) = true := by simpa using hcv
        clear hcv HE
        go_wp2_with fail
        refine HV.out.mono ?_
        rintro e w3 ⟨rfl, k3⟩
        go_wp2_with fail
        go_ret
        exact ⟨by rw [HG.out]; rfl, HKA.out.trans k3⟩
    · have hltI : ¬ (j : Int) < (c.fields.length : Int) := by omega
      obtain rfl : j = c.fields.length := by omega
      have HGD := Lib.hid (show av = Tab.chkMs t hd c.methods by
        rw [HAV.out, HCE.out]
        refine mem_good ?_
        rw [← HCE.out, he, List.drop_length]; rfl)
      have d3 := hk.cell HC3.out
      have HH1 := Lib.hid hh
      have HKF := Lib.hid hk
      clear he hh hk hlt
      go_wp2_with fail
      clear d3
      go_loopw [59] (fun q wr => ∃ (j n : Nat) (hx : Tab.Held), j ≤ c.methods.length ∧ q = .int .i64 j ∧ HldAt w w.heap.size n hx wr ∧ Kept w wr ∧ n ≤ 2004000 + j ∧ Tab.chkMs t hd c.methods = Tab.chkMs t hx (c.methods.drop j)) (fun q wr => c.methods.length - (intOf q).toNat)
      case atStart => exact ⟨0, n, hd, Nat.zero_le _, rfl, HH1.out, HKF.out, by omega, rfl⟩
      case round =>
        obtain ⟨j, n2, hx, hj, rfl, hh, hk, hn, he⟩ := hrel
        have d3 := hk.cell HC3.out
        by_cases hlt : j < c.methods.length
        · have hltI : (j : Int) < (c.methods.length : Int) := by omega
          have hm : c.methods[j]? = some c.methods[j] := List.getElem?_eq_getElem hlt
          obtain ⟨ub, uo, e2, hva⟩ := HMAT.out _ _ hm
          rw [chkMs_at hm] at he
          have hpl := HPL.out _ (List.mem_of_getElem? hm)
          generalize c.methods[j] = m at hm hva he hpl
          subst e2
          have HVA := Lib.hid hva
          have HS := Lib.hid (csig_c t (.slice (some ⟨b, o, none⟩) t.length cp) m ub (uo + j * 3) wr (HTB.out.kept hk) (tab_kept HT.out hk) (hva.kept hk) hpl)
          have HMN := Lib.hid hva.2.2.2.1
          have HH := Lib.hid hh
          have HK := Lib.hid hk
          have HE := Lib.hid he
          clear hm hva hh hk he hpl
          by_cases hcs : Tab.chkSig t m = 0
          · rw [hcs] at HS
            rw [hcs, if_pos rfl] at HE
            clear hcs
            go_wp2_with fail
            refine HS.out.mono ?_
            rintro e w3 ⟨rfl, k3⟩
            have HK3 := Lib.hid (HK.out.trans k3)
            have hh3 := HH.out.keep k3
            have m0 := (HVA.out.kept HK3.out).1
            obtain ⟨v, hlk, hv⟩ := hh3.look m.name HMN.out
            have HH3 := Lib.hid hh3
            clear hh3 k3 HS d3
            cases hs : hx m.name with
            | none =>
              rw [hs] at hlk hv
              have HQ := Lib.hid (show Tab.chkM1 hx m = 0 by unfold Tab.chkM1; rw [hs])
              simp only [Option.isSome_none] at hlk
              subst hv
              have hh4 := HH3.out.keep ((Kept.refl w3).alloc (.cells #[.pointer none, .bool false] 180))
              obtain ⟨w5, hup, hh5, hO5⟩ := hh4.putM (by unfold maxLen; omega) m.name HMN.out m true HVA.out
              have m4 := (HVA.out.kept (HK3.out.alloc (.cells #[.pointer none, .bool false] 180))).1
              have HG := Lib.hid (show Tab.chkMs t hd c.methods = Tab.chkMs t (hx.put m.name (some m, true)) (c.methods.drop (j + 1)) by rw [HE.out, if_pos HQ.out])
              have HH5 := Lib.hid hh5
              have HK5 := Lib.hid ((HK3.out.alloc _).onlyS hO5 (fun k e => by omega))
              clear hs hh4 hh5 hO5
              go_wp2_with fail
              go_roundw
              case rel => exact ⟨j + 1, n2 + 1, _, by omega, by go_num, HH5.out, HK5.out, by omega, HG.out⟩
              case measure => simp [intOf]; omega
            | some z =>
              obtain ⟨zo, own⟩ := z
              rw [hs] at hlk hv
              simp only [Option.isSome_some] at hlk
              cases own with
              | true =>
                have HQ := Lib.hid (show av = 8 by
                  have e8 : Tab.chkM1 hx m = 8 := by unfold Tab.chkM1; rw [hs]; rfl
                  rw [HGD.out, HE.out, e8]; rfl)
                obtain ⟨p, rfl⟩ : ∃ p, v = .agg #[.pointer p, .bool true] := by
                  rcases zo with _ | m'
                  · exact ⟨_, hv⟩
                  · obtain ⟨k, o, e, _⟩ := hv; exact ⟨_, e⟩
                have hbq := Blk.new w3 180 #[.pointer p, .bool true]
                have q1 := hbq.cell 1
                simp at q1
                clear hv hs hbq
                go_wp2_with fail
                go_ret
                exact ⟨by rw [HQ.out]; rfl, HK3.out.alloc _⟩
              | false =>
                cases zo with
                | none =>
                  have HQ := Lib.hid (show av = 8 by
                  have e8 : Tab.chkM1 hx m = 8 := by unfold Tab.chkM1; rw [hs]; rfl
                  rw [HGD.out, HE.out, e8]; rfl)
                  have hv' : v = .agg #[.pointer none, .bool false] := hv
                  subst hv'
                  clear hv hs
                  go_wp2_with fail
                  go_ret
                  exact ⟨by rw [HQ.out]; rfl, HK3.out.alloc _⟩
                | some m' =>
                  obtain ⟨kb, ko, hve, hsig⟩ := hv
                  subst hve
                  have HKB := Lib.hid (HK3.out.alloc (.cells #[.pointer (some ⟨kb, ko, none⟩), .bool false] 180))
                  have HTY := Lib.hid (sty_c m' m kb ko ub (uo + j * 3) _ (hsig.kept HKB.out) (HVA.out.kept HKB.out))
                  cases hss : Tab.sameSig m' m with
                  | true =>
                    rw [hss] at HTY
                    have HQ := Lib.hid (show Tab.chkM1 hx m = 0 by unfold Tab.chkM1; rw [hs]; simp [hss])
                    clear hs hss hsig
                    go_wp2_with fail
                    refine HTY.out.mono ?_
                    rintro e w4 ⟨rfl, k4⟩
                    have HK4 := Lib.hid (HKB.out.trans k4)
                    have hh4 := HH3.out.keep (((Kept.refl w3).alloc (.cells #[.pointer (some ⟨kb, ko, none⟩), .bool false] 180)).trans k4)
                    obtain ⟨w5, hup, hh5, hO5⟩ := hh4.putM (by unfold maxLen; omega) m.name HMN.out m true HVA.out
                    have m4 := (HVA.out.kept HK4.out).1
                    have HG := Lib.hid (show Tab.chkMs t hd c.methods = Tab.chkMs t (hx.put m.name (some m, true)) (c.methods.drop (j + 1)) by rw [HE.out, if_pos HQ.out])
                    have HH5 := Lib.hid hh5
                    have HK5 := Lib.hid (HK4.out.onlyS hO5 (fun k e => by omega))
                    clear hh4 hh5 hO5 k4 HTY
                    go_wp2_with fail
                    go_roundw
                    case rel => exact ⟨j + 1, n2 + 1, _, by omega, by go_num, HH5.out, HK5.out, by omega, HG.out⟩
                    case measure => simp [intOf]; omega
                  | false =>
                    rw [hss] at HTY
                    have HQ := Lib.hid (show av = 10 by
                      have e10 : Tab.chkM1 hx m = 10 := by unfold Tab.chkM1; rw [hs]; simp [hss]
                      rw [HGD.out, HE.out, e10]; rfl)
                    clear hs hss hsig
                    go_wp2_with fail
                    refine HTY.out.mono ?_
                    rintro e w4 ⟨rfl, k4⟩
                    go_wp2_with fail
                    go_ret
                    exact ⟨by rw [HQ.out]; rfl, HKB.out.trans k4⟩
          · rw [if_neg hcs] at HE
            have HG := Lib.hid (show av = Tab.chkSig t m by rw [HGD.out, HE.out])
            generalize Tab.chkSig t m = z at HS HG hcs
            have hzf : (z != 0) = true := by simpa using hcs
            clear hcs HE
            go_wp2_with fail
            refine HS.out.mono ?_
            rintro e w3 ⟨rfl, k3⟩
            go_wp2_with fail
            go_ret
            exact ⟨by rw [HG.out]; rfl, HK.out.trans k3⟩
        · have hltI : ¬ (j : Int) < (c.methods.length : Int) := by omega
          obtain rfl : j = c.methods.length := by omega
          have HG := Lib.hid (show av = 0 by rw [HGD.out, he, List.drop_length]; rfl)
          have HK := Lib.hid hk
          clear he hh hk hlt d3
          go_wp2_with fail
          go_ret
          exact ⟨by rw [HG.out]; rfl, HK.out⟩

end Go.Proofs.YthooiofaicdhgaaGreatDoor
