/- The contract of table.checkMembers. The contract of table.checkHead. The contract of table.checkSuper. The contract of table.Check. -/
import Derived.Test.YtjdkegfckkbpeaaGreatDoorQTkk
import Derived.Test.YtjdkegfckkbpeaaGreatDoorQInh
import Derived.Test.YtjdkegfckkbpeaaGreatDoorQCsg
import Derived.Test.YtjdkegfckkbpeaaGreatDoorQz4
set_option linter.unusedSimpArgs false
set_option linter.unusedVariables false
set_option maxRecDepth 100000
namespace Go.Proofs.YtjdkegfckkbpeaaGreatDoor
open Go.ChangeShapes Go.WideShapes Go.ChangeAt Go.RowKit
theorem chkFs_at {t : List Tab.C} {h : Tab.Held} {fs : List Tab.V} {j : Nat} {f : Tab.V} (hf : fs[j]? = some f) : Tab.chkFs t h (fs.drop j) =
  if Tab.chkVar t f = 0 then (if (h f.name).isSome then (8, h) else Tab.chkFs t (h.put f.name (none, false)) (fs.drop (j + 1))) else (Tab.chkVar t f, h) := by
 obtain ⟨hk, rfl⟩ := List.getElem?_eq_some_iff.1 hf
 rw [List.drop_eq_getElem_cons hk]
 rfl
theorem chkMs_at {t : List Tab.C} {h : Tab.Held} {ms : List Tab.M} {j : Nat} {m : Tab.M} (hm : ms[j]? = some m) : Tab.chkMs t h (ms.drop j) =
  if Tab.chkSig t m = 0 then (if Tab.chkM1 h m = 0 then Tab.chkMs t (h.put m.name (some m, true)) (ms.drop (j + 1)) else Tab.chkM1 h m) else Tab.chkSig t m := by
 obtain ⟨hk, rfl⟩ := List.getElem?_eq_some_iff.1 hm
 rw [List.drop_eq_getElem_cons hk]
 rfl
theorem mem_bad {t : List Tab.C} {i : Nat} {e : Int} {h : Tab.Held} (hf : Tab.chkFs t (Tab.inh t (Tab.nth t i).super) (Tab.nth t i).fields = (e, h)) (he : ¬ e = 0) : Tab.chkMembers t i = e := by
 unfold Tab.chkMembers
 rw [hf, if_neg he]
theorem mem_good {t : List Tab.C} {i : Nat} {h : Tab.Held} (hf : Tab.chkFs t (Tab.inh t (Tab.nth t i).super) (Tab.nth t i).fields = (0, h)) : Tab.chkMembers t i = Tab.chkMs t h (Tab.nth t i).methods := by
 unfold Tab.chkMembers
 rw [hf, if_pos rfl]
set_option maxHeartbeats 8000000 in
theorem cmembers_c (t : List Tab.C) (a : Option Addr) (cp : Nat) (i : Nat) (w : World) (hTb : Tb w) (h : TabAt w (.slice a t.length cp) t) (hi : i < t.length) (hS : Small t) :
  Calls Tryz.prog 95 #[.slice a t.length cp, .int .i64 i] w fun e w' => e = .returned (.int .i64 (Tab.chkMembers t i)) ∧ Kept w w' := by
 obtain ⟨av, hav⟩ : ∃ av, av = Tab.chkMembers t i := ⟨_, rfl⟩
 rw [← hav]
 have HAV := Lib.hid hav
 clear hav
 obtain ⟨b, o, rfl, hcl⟩ := Row.cellsC h hi
 obtain ⟨c, hc⟩ : ∃ c, c = Tab.nth t i := ⟨_, rfl⟩
 rw [← hc] at hcl
 have HCE := Lib.hid hc
 obtain ⟨c0, c1, ⟨fu, c2, hf⟩, ⟨mu, c3, hm⟩, hs1, hs2⟩ := hcl
 obtain ⟨fa, fc, rfl, hf1, hf2, hfat⟩ := hf
 obtain ⟨ma, mc, rfl, hm1, hm2, hmat⟩ := hm
 have HFAT := Lib.hid hfat
 have HMAT := Lib.hid hmat
 have HC2 := Lib.hid c2
 have HC3 := Lib.hid c3
 have hiI : (i : Int) < (t.length : Int) := by omega
 have hfl : c.fields.length ≤ 1000 := by rw [hc]; exact hS.fields _ (nth_mem hi)
 have hml : c.methods.length ≤ 1000 := by rw [hc]; exact hS.methods _ (nth_mem hi)
 have HPL := Lib.hid (show ∀ m ∈ c.methods, m.params.length ≤ 1000 by rw [hc]; exact hS.params _ (nth_mem hi))
 have H1 := Lib.hid (inherited_c (some ⟨b, o, none⟩) cp t c.super w h hS)
 have HT := Lib.hid h
 have HTB := Lib.hid hTb
 clear hfat hmat h hTb hc c0 c3
 go_enter Tryz.func95, Tryz.ntmps95
 go_wp2_with fail
 refine H1.out.mono ?_
 rintro e w1 ⟨rfl, ⟨n0, hh0, hn0⟩, k1⟩
 have d2 := k1.cell HC2.out
 have HH0 := Lib.hid hh0
 have HK1 := Lib.hid k1
 clear hh0 k1 H1 c1 c2
 go_wp2_with fail
 clear d2
 go_loopw [31] (fun q wr => ∃ (j n : Nat) (hd : Tab.Held), j ≤ c.fields.length ∧ q = .int .i64 j ∧ HldAt w w.heap.size n hd wr ∧ Kept w wr ∧ n ≤ 2002000 + j ∧ Tab.chkFs t (Tab.inh t c.super) c.fields = Tab.chkFs t hd (c.fields.drop j)) (fun q wr => c.fields.length - (intOf q).toNat)
 case atStart => exact ⟨0, n0, _, Nat.zero_le _, rfl, HH0.out, HK1.out, by omega, rfl⟩
 case round =>
  obtain ⟨j, n, hd, hj, rfl, hh, hk, hn, he⟩ := hrel
  by_cases hlt : j < c.fields.length
  ·have hltI : (j : Int) < (c.fields.length : Int) := by omega
   have hx : c.fields[j]? = some c.fields[j] := List.getElem?_eq_getElem hlt
   obtain ⟨ub, uo, e2, hva⟩ := HFAT.out _ _ hx
   rw [chkFs_at hx] at he
   generalize c.fields[j] = x at hx hva he
   subst e2
   obtain ⟨x0, x1, xs⟩ := hva.kept hk
   have HKA := Lib.hid (hk.alloc (.cells #[.string x.name, .string x.typ] 72))
   have HB := Lib.hid (Blk.new wr 72 #[.string x.name, .string x.typ])
   have HV := Lib.hid (cvar_c t (.slice (some ⟨b, o, none⟩) t.length cp) x _ (HTB.out.kept HKA.out) xs (tab_kept HT.out HKA.out))
   have HH := Lib.hid hh
   have HK := Lib.hid hk
   have HE := Lib.hid he
   clear hx hva hh hk he
   by_cases hcv : Tab.chkVar t x = 0
   ·rw [hcv] at HV
    rw [hcv, if_pos rfl] at HE
    clear hcv
    go_wp2_with fail
    refine HV.out.mono ?_
    rintro e w3 ⟨rfl, k3⟩
    have hq := (HB.out.kept k3).cell 0
    simp at hq
    have HK3 := Lib.hid (HKA.out.trans k3)
    have hh3 := HH.out.keep (((Kept.refl wr).alloc (.cells #[.string x.name, .string x.typ] 72)).trans k3)
    obtain ⟨v, hlk, hv⟩ := hh3.look x.name xs.1
    have HB3 := Lib.hid (HB.out.kept k3)
    have HH3 := Lib.hid hh3
    clear hh3 k3 HV
    cases hs : hd x.name with
    | some z =>
     rw [hs] at hlk hv
     rw [hs] at HE
     have HG := Lib.hid (show av = 8 by rw [HAV.out]; exact mem_bad (h := hd) (by rw [← HCE.out, HE.out]; rfl) (by decide))
     obtain ⟨p, y, rfl⟩ : ∃ p y, v = .agg #[.pointer p, .bool y] := by
      rcases z with ⟨_ | m, y⟩
      ·exact ⟨_, _, hv⟩
      ·obtain ⟨k, o, e, _⟩ := hv; exact ⟨_, _, e⟩
     simp only [Option.isSome_some] at hlk
     clear hv hs
     go_wp2_with fail
     go_ret
     exact ⟨by rw [HG.out]; rfl, HK3.out.alloc _⟩
    | none =>
     rw [hs] at hlk hv
     rw [hs] at HE
     simp only [Option.isSome_none] at hlk
     subst hv
     have hh4 := HH3.out.keep ((Kept.refl w3).alloc (.cells #[.pointer none, .bool false] 185))
     obtain ⟨w5, hup, hh5, hO5⟩ := hh4.putF (by unfold maxLen; omega) x.name xs.1 false
     have hq4 := (HB3.out.alloc (.cells #[.pointer none, .bool false] 185)).cell 0
     simp at hq4
     have HG := Lib.hid (show Tab.chkFs t (Tab.inh t c.super) c.fields = Tab.chkFs t (hd.put x.name (none, false)) (c.fields.drop (j + 1)) by rw [HE.out]; rfl)
     have HH5 := Lib.hid hh5
     have HK5 := Lib.hid ((HK3.out.alloc _).onlyS hO5 (fun k e => by omega))
     clear hs hh4 hh5 hO5
     go_wp2_with fail
     go_roundw
     case rel => exact ⟨j + 1, n + 1, _, by omega, by go_num, HH5.out, HK5.out, by omega, HG.out⟩
     case measure => simp [intOf]; omega
   ·rw [if_neg hcv] at HE
    have HG := Lib.hid (show av = Tab.chkVar t x by rw [HAV.out]; exact mem_bad (h := hd) (by rw [← HCE.out, HE.out]) hcv)
    generalize Tab.chkVar t x = z at HV HG hcv
    have hzf : (z != 0) = true := by simpa using hcv
    clear hcv HE
    go_wp2_with fail
    refine HV.out.mono ?_
    rintro e w3 ⟨rfl, k3⟩
    go_wp2_with fail
    go_ret
    exact ⟨by rw [HG.out]; rfl, HKA.out.trans k3⟩
  ·have hltI : ¬ (j : Int) < (c.fields.length : Int) := by omega
   obtain rfl : j = c.fields.length := by omega
   have HGD := Lib.hid (show av = Tab.chkMs t hd c.methods by
    rw [HAV.out, HCE.out]
    refine mem_good ?_
    rw [← HCE.out, he, List.drop_length]; rfl)
   have d3 := hk.cell HC3.out
   have HH1 := Lib.hid hh
   have HKF := Lib.hid hk
   clear he hh hk hlt
   go_wp2_with fail
   clear d3
   go_loopw [59] (fun q wr => ∃ (j n : Nat) (hx : Tab.Held), j ≤ c.methods.length ∧ q = .int .i64 j ∧ HldAt w w.heap.size n hx wr ∧ Kept w wr ∧ n ≤ 2004000 + j ∧ Tab.chkMs t hd c.methods = Tab.chkMs t hx (c.methods.drop j)) (fun q wr => c.methods.length - (intOf q).toNat)
   case atStart => exact ⟨0, n, hd, Nat.zero_le _, rfl, HH1.out, HKF.out, by omega, rfl⟩
   case round =>
    obtain ⟨j, n2, hx, hj, rfl, hh, hk, hn, he⟩ := hrel
    have d3 := hk.cell HC3.out
    by_cases hlt : j < c.methods.length
    ·have hltI : (j : Int) < (c.methods.length : Int) := by omega
     have hm : c.methods[j]? = some c.methods[j] := List.getElem?_eq_getElem hlt
     obtain ⟨ub, uo, e2, hva⟩ := HMAT.out _ _ hm
     rw [chkMs_at hm] at he
     have hpl := HPL.out _ (List.mem_of_getElem? hm)
     generalize c.methods[j] = m at hm hva he hpl
     subst e2
     have HVA := Lib.hid hva
     have HS := Lib.hid (csig_c t (.slice (some ⟨b, o, none⟩) t.length cp) m ub (uo + j * 3) wr (HTB.out.kept hk) (tab_kept HT.out hk) (hva.kept hk) hpl)
     have HMN := Lib.hid hva.2.2.2.1
     have HH := Lib.hid hh
     have HK := Lib.hid hk
     have HE := Lib.hid he
     clear hm hva hh hk he hpl
     by_cases hcs : Tab.chkSig t m = 0
     ·rw [hcs] at HS
      rw [hcs, if_pos rfl] at HE
      clear hcs
      go_wp2_with fail
      refine HS.out.mono ?_
      rintro e w3 ⟨rfl, k3⟩
      have HK3 := Lib.hid (HK.out.trans k3)
      have hh3 := HH.out.keep k3
      have m0 := (HVA.out.kept HK3.out).1
      obtain ⟨v, hlk, hv⟩ := hh3.look m.name HMN.out
      have HH3 := Lib.hid hh3
      clear hh3 k3 HS d3
      cases hs : hx m.name with
      | none =>
       rw [hs] at hlk hv
       have HQ := Lib.hid (show Tab.chkM1 hx m = 0 by unfold Tab.chkM1; rw [hs])
       simp only [Option.isSome_none] at hlk
       subst hv
       have hh4 := HH3.out.keep ((Kept.refl w3).alloc (.cells #[.pointer none, .bool false] 185))
       obtain ⟨w5, hup, hh5, hO5⟩ := hh4.putM (by unfold maxLen; omega) m.name HMN.out m true HVA.out
       have m4 := (HVA.out.kept (HK3.out.alloc (.cells #[.pointer none, .bool false] 185))).1
       have HG := Lib.hid (show Tab.chkMs t hd c.methods = Tab.chkMs t (hx.put m.name (some m, true)) (c.methods.drop (j + 1)) by rw [HE.out, if_pos HQ.out])
       have HH5 := Lib.hid hh5
       have HK5 := Lib.hid ((HK3.out.alloc _).onlyS hO5 (fun k e => by omega))
       clear hs hh4 hh5 hO5
       go_wp2_with fail
       go_roundw
       case rel => exact ⟨j + 1, n2 + 1, _, by omega, by go_num, HH5.out, HK5.out, by omega, HG.out⟩
       case measure => simp [intOf]; omega
      | some z =>
       obtain ⟨zo, own⟩ := z
       rw [hs] at hlk hv
       simp only [Option.isSome_some] at hlk
       cases own with
       | true =>
        have HQ := Lib.hid (show av = 8 by
         have e8 : Tab.chkM1 hx m = 8 := by unfold Tab.chkM1; rw [hs]; rfl
         rw [HGD.out, HE.out, e8]; rfl)
        obtain ⟨p, rfl⟩ : ∃ p, v = .agg #[.pointer p, .bool true] := by
         rcases zo with _ | m'
         ·exact ⟨_, hv⟩
         ·obtain ⟨k, o, e, _⟩ := hv; exact ⟨_, e⟩
        have hbq := Blk.new w3 185 #[.pointer p, .bool true]
        have q1 := hbq.cell 1
        simp at q1
        clear hv hs hbq
        go_wp2_with fail
        go_ret
        exact ⟨by rw [HQ.out]; rfl, HK3.out.alloc _⟩
       | false =>
        cases zo with
        | none =>
         have HQ := Lib.hid (show av = 8 by
         have e8 : Tab.chkM1 hx m = 8 := by unfold Tab.chkM1; rw [hs]; rfl
         rw [HGD.out, HE.out, e8]; rfl)
         have hv' : v = .agg #[.pointer none, .bool false] := hv
         subst hv'
         clear hv hs
         go_wp2_with fail
         go_ret
         exact ⟨by rw [HQ.out]; rfl, HK3.out.alloc _⟩
        | some m' =>
         obtain ⟨kb, ko, hve, hsig⟩ := hv
         subst hve
         have HKB := Lib.hid (HK3.out.alloc (.cells #[.pointer (some ⟨kb, ko, none⟩), .bool false] 185))
         have HTY := Lib.hid (sty_c m' m kb ko ub (uo + j * 3) _ (hsig.kept HKB.out) (HVA.out.kept HKB.out))
         cases hss : Tab.sameSig m' m with
         | true =>
          rw [hss] at HTY
          have HQ := Lib.hid (show Tab.chkM1 hx m = 0 by unfold Tab.chkM1; rw [hs]; simp [hss])
          clear hs hss hsig
          go_wp2_with fail
          refine HTY.out.mono ?_
          rintro e w4 ⟨rfl, k4⟩
          have HK4 := Lib.hid (HKB.out.trans k4)
          have hh4 := HH3.out.keep (((Kept.refl w3).alloc (.cells #[.pointer (some ⟨kb, ko, none⟩), .bool false] 185)).trans k4)
          obtain ⟨w5, hup, hh5, hO5⟩ := hh4.putM (by unfold maxLen; omega) m.name HMN.out m true HVA.out
          have m4 := (HVA.out.kept HK4.out).1
          have HG := Lib.hid (show Tab.chkMs t hd c.methods = Tab.chkMs t (hx.put m.name (some m, true)) (c.methods.drop (j + 1)) by rw [HE.out, if_pos HQ.out])
          have HH5 := Lib.hid hh5
          have HK5 := Lib.hid (HK4.out.onlyS hO5 (fun k e => by omega))
          clear hh4 hh5 hO5 k4 HTY
          go_wp2_with fail
          go_roundw
          case rel => exact ⟨j + 1, n2 + 1, _, by omega, by go_num, HH5.out, HK5.out, by omega, HG.out⟩
          case measure => simp [intOf]; omega
         | false =>
          rw [hss] at HTY
          have HQ := Lib.hid (show av = 10 by
           have e10 : Tab.chkM1 hx m = 10 := by unfold Tab.chkM1; rw [hs]; simp [hss]
           rw [HGD.out, HE.out, e10]; rfl)
          clear hs hss hsig
          go_wp2_with fail
          refine HTY.out.mono ?_
          rintro e w4 ⟨rfl, k4⟩
          go_wp2_with fail
          go_ret
          exact ⟨by rw [HQ.out]; rfl, HKB.out.trans k4⟩
     ·rw [if_neg hcs] at HE
      have HG := Lib.hid (show av = Tab.chkSig t m by rw [HGD.out, HE.out])
      generalize Tab.chkSig t m = z at HS HG hcs
      have hzf : (z != 0) = true := by simpa using hcs
      clear hcs HE
      go_wp2_with fail
      refine HS.out.mono ?_
      rintro e w3 ⟨rfl, k3⟩
      go_wp2_with fail
      go_ret
      exact ⟨by rw [HG.out]; rfl, HK.out.trans k3⟩
    ·have hltI : ¬ (j : Int) < (c.methods.length : Int) := by omega
     obtain rfl : j = c.methods.length := by omega
     have HG := Lib.hid (show av = 0 by rw [HGD.out, he, List.drop_length]; rfl)
     have HK := Lib.hid hk
     clear he hh hk hlt d3
     go_wp2_with fail
     go_ret
     exact ⟨by rw [HG.out]; rfl, HK.out⟩
end Go.Proofs.YtjdkegfckkbpeaaGreatDoor
namespace Go.Proofs.YtjdkegfckkbpeaaGreatDoor
open Go.ChangeShapes Go.WideShapes Go.ChangeAt Go.RowKit
theorem hd_params {t : List Tab.C} {i : Nat} {c : Tab.C} {m : Tab.M} (h1 : Tab.nth t i = c ∧ Wrd.cls c.name = true) (h2 : Tab.ix Tab.C.name (t.take i) c.name = none) (h3 : ¬ 20 < c.fields.length) (h4 : ¬ 20 < c.methods.length) (hm : m ∈ c.methods) (h8 : 8 < m.params.length) : Tab.chkHead t i = 12 := by
 unfold Tab.chkHead
 rw [h1.1, h1.2, h2, if_pos rfl, if_neg (by simp), if_neg h3, if_neg h4, if_pos (List.any_eq_true.2 ⟨m, hm, decide_eq_true h8⟩)]
theorem hd_ok {t : List Tab.C} {i : Nat} {c : Tab.C} (h1 : Tab.nth t i = c ∧ Wrd.cls c.name = true) (h2 : Tab.ix Tab.C.name (t.take i) c.name = none) (h3 : ¬ 20 < c.fields.length) (h4 : ¬ 20 < c.methods.length) (h8 : ∀ m ∈ c.methods, ¬ 8 < m.params.length) : Tab.chkHead t i = 0 := by
 unfold Tab.chkHead
 rw [h1.1, h1.2, h2, if_pos rfl, if_neg (by simp), if_neg h3, if_neg h4, if_neg]
 intro h
 obtain ⟨m, hm, h⟩ := List.any_eq_true.1 h
 exact h8 m hm (of_decide_eq_true h)
set_option maxHeartbeats 4000000 in
theorem chead_c (t : List Tab.C) (a : Option Addr) (cp : Nat) (i : Nat) (w : World) (h : TabAt w (.slice a t.length cp) t) (hi : i < t.length) (hS : t.length ≤ 1000) :
  Calls Tryz.prog 93 #[.slice a t.length cp, .int .i64 i] w fun e w' => e = .returned (.int .i64 (Tab.chkHead t i)) ∧ Kept w w' := by
 obtain ⟨av, hav⟩ : ∃ av, av = Tab.chkHead t i := ⟨_, rfl⟩
 rw [← hav]
 have HAV := Lib.hid hav
 clear hav
 obtain ⟨b, o, rfl, hcl⟩ := Row.cellsC h hi
 have HCL := Lib.hid hcl
 obtain ⟨c, hc⟩ : ∃ c, Tab.nth t i = c := ⟨_, rfl⟩
 rw [hc] at hcl HCL
 obtain ⟨c0, c1, ⟨fu, c2, hf⟩, ⟨mu, c3, hm⟩, hs1, hs2⟩ := hcl
 obtain ⟨fa, fc, rfl, hf1, hf2, _⟩ := hf
 obtain ⟨ma, mc, rfl, hm1, hm2, hat⟩ := hm
 have HAT := Lib.hid hat
 have hiI : (i : Int) < (t.length : Int) := by omega
 have H1 := Lib.hid (class_c c.name w hs1)
 have hcp : t.length ≤ cp ∧ cp ≤ 9223372036854775807 := by obtain ⟨_, c', e, h1, h2, _⟩ := h; injection e with _ e2 e3; subst e3; exact ⟨h1, h2⟩
 have hic : i ≤ cp := by omega
 have HT := Lib.hid h
 have HCE := Lib.hid hc
 clear hat h hc
 cases hn : Wrd.cls c.name with
 | false =>
  rw [hn] at H1
  have HE := Lib.hid (show av = 5 by rw [HAV.out]; unfold Tab.chkHead; rw [HCE.out, hn]; rfl)
  clear hn
  go_enter Tryz.func93, Tryz.ntmps93
  go_wp2_with fail
  refine H1.out.mono ?_
  rintro e w1 ⟨rfl, k1⟩
  go_wp2_with fail
  go_ret
  exact ⟨by rw [HE.out]; rfl, k1⟩
 | true =>
  rw [hn] at H1
  have HC1 := Lib.hid (⟨HCE.out, hn⟩ : Tab.nth t i = c ∧ Wrd.cls c.name = true)
  clear hn
  go_enter Tryz.func93, Tryz.ntmps93
  go_wp2_with fail
  refine H1.out.mono ?_
  rintro e w1 ⟨rfl, k1⟩
  have HK1 := Lib.hid k1
  have d0 := k1.cell c0
  have d2 := k1.cell c2
  have d3 := k1.cell c3
  have HF := Lib.hid (tfind_c (t.take i) (.slice (some ⟨b, o, none⟩) i cp) c.name w1.drew (Row.take (tab_kept HT.out HK1.out.drew) (by omega)))
  unfold FindPost at HF
  clear k1 H1 c0 c1 c2 c3
  cases hix : Tab.ix Tab.C.name (t.take i) c.name with
  | some j =>
   have HG := Lib.hid (show av = 8 by rw [HAV.out]; unfold Tab.chkHead; rw [HC1.out.1, HC1.out.2, hix]; rfl)
   rw [hix] at HF
   simp only [Tab.num, Option.isSome_some] at HF
   clear hix
   go_wp2_with fail
   refine wp_region_any (by kernel_rfl) ?_
   change wpAny _ _ _ _ _ _ _ (World.drew _)
   refine tkA 0 ?_
   refine tkA 1 ?_
   refine tkA 2 ?_
   refine tkA 3 ?_
   refine tkA 4 ?_
   refine tkA 5 ?_
   refine rdA [6] ?_
   refine aR (fun K hK => ?_) ?_
   ·go_simp
    refine hK _ _ ?_; clear hK K
    refine rdA [7] ?_
    refine aR (fun K hK => ?_) ?_
    ·go_simp
     go_wp2_with fail
     refine HF.out.mono ?_
     rintro e w4 ⟨rfl, rfl⟩
     dsimp only
     refine hK _ _ ?_; clear hK K
     refine tkA 8 ?_
     refine tkA 9 ?_
     refine tkA 10 ?_
     refine tkA 11 ?_
     refine tkA 12 ?_
     refine wpAny_done (by kernel_rfl) ?_ _
     go_wp2_with fail
     go_ret
     exact ⟨by rw [HG.out]; rfl, HK1.out.drew⟩
    exact AllReady.nil
   exact AllReady.nil
  | none =>
   have HC2 := Lib.hid hix
   rw [hix] at HF
   simp only [Tab.num, Option.isSome_none] at HF
   clear hix
   by_cases hfl : 20 < c.fields.length
   ·have hflI : (20 : Int) < (c.fields.length : Int) := by omega
    have HG := Lib.hid (show av = 12 by rw [HAV.out]; unfold Tab.chkHead; rw [HC1.out.1, HC1.out.2, HC2.out, if_pos rfl, if_neg (by simp), if_pos hfl])
    clear hfl
    go_wp2_with fail
    refine wp_region_any (by kernel_rfl) ?_
    change wpAny _ _ _ _ _ _ _ (World.drew _)
    refine tkA 0 ?_
    refine tkA 1 ?_
    refine tkA 2 ?_
    refine tkA 3 ?_
    refine tkA 4 ?_
    refine tkA 5 ?_
    refine rdA [6] ?_
    refine aR (fun K hK => ?_) ?_
    ·go_simp
     refine hK _ _ ?_; clear hK K
     refine rdA [7] ?_
     refine aR (fun K hK => ?_) ?_
     ·go_simp
      go_wp2_with fail
      refine HF.out.mono ?_
      rintro e w4 ⟨rfl, rfl⟩
      dsimp only
      refine hK _ _ ?_; clear hK K
      refine tkA 8 ?_
      refine tkA 9 ?_
      refine tkA 10 ?_
      refine tkA 11 ?_
      refine tkA 12 ?_
      refine wpAny_done (by kernel_rfl) ?_ _
      go_wp2_with fail
      go_ret
      exact ⟨by rw [HG.out]; rfl, HK1.out.drew⟩
     exact AllReady.nil
    exact AllReady.nil
   ·have hflI : ¬ (20 : Int) < (c.fields.length : Int) := by omega
    have HC3 := Lib.hid hfl
    clear hfl
    by_cases hml : 20 < c.methods.length
    ·have hmlI : (20 : Int) < (c.methods.length : Int) := by omega
     have HG := Lib.hid (show av = 12 by rw [HAV.out]; unfold Tab.chkHead; rw [HC1.out.1, HC1.out.2, HC2.out, if_pos rfl, if_neg (by simp), if_neg HC3.out, if_pos hml])
     clear hml
     go_wp2_with fail
     refine wp_region_any (by kernel_rfl) ?_
     change wpAny _ _ _ _ _ _ _ (World.drew _)
     refine tkA 0 ?_
     refine tkA 1 ?_
     refine tkA 2 ?_
     refine tkA 3 ?_
     refine tkA 4 ?_
     refine tkA 5 ?_
     refine rdA [6] ?_
     refine aR (fun K hK => ?_) ?_
     ·go_simp
      refine hK _ _ ?_; clear hK K
      refine rdA [7] ?_
      refine aR (fun K hK => ?_) ?_
      ·go_simp
       go_wp2_with fail
       refine HF.out.mono ?_
       rintro e w4 ⟨rfl, rfl⟩
       dsimp only
       refine hK _ _ ?_; clear hK K
       refine tkA 8 ?_
       refine tkA 9 ?_
       refine tkA 10 ?_
       refine tkA 11 ?_
       refine tkA 12 ?_
       refine wpAny_done (by kernel_rfl) ?_ _
       go_wp2_with fail
       go_ret
       exact ⟨by rw [HG.out]; rfl, HK1.out.drew⟩
      exact AllReady.nil
     exact AllReady.nil
    ·have hmlI : ¬ (20 : Int) < (c.methods.length : Int) := by omega
     have HC4 := Lib.hid hml
     clear hml
     go_wp2_with fail
     refine wp_region_any (by kernel_rfl) ?_
     change wpAny _ _ _ _ _ _ _ (World.drew _)
     refine tkA 0 ?_
     refine tkA 1 ?_
     refine tkA 2 ?_
     refine tkA 3 ?_
     refine tkA 4 ?_
     refine tkA 5 ?_
     refine rdA [6] ?_
     refine aR (fun K hK => ?_) ?_
     ·go_simp
      refine hK _ _ ?_; clear hK K
      refine rdA [7] ?_
      refine aR (fun K hK => ?_) ?_
      ·go_simp
       go_wp2_with fail
       refine HF.out.mono ?_
       rintro e w4 ⟨rfl, rfl⟩
       dsimp only
       refine hK _ _ ?_; clear hK K
       refine tkA 8 ?_
       refine tkA 9 ?_
       refine tkA 10 ?_
       refine tkA 11 ?_
       refine tkA 12 ?_
       refine wpAny_done (by kernel_rfl) ?_ _
       go_wp2_with fail
       go_loopw [50] (fun q wr => ∃ k : Nat, k ≤ c.methods.length ∧ q = .int .i64 k ∧ Kept w wr ∧ ∀ m ∈ c.methods.take k, ¬ 8 < m.params.length) (fun q wr => c.methods.length - (intOf q).toNat)
       case atStart => exact ⟨0, Nat.zero_le _, rfl, HK1.out.drew, by simp⟩
       case round =>
        obtain ⟨k, hk, rfl, hkp, hs⟩ := hrel
        by_cases hlt : k < c.methods.length
        ·have hltI : (k : Int) < (c.methods.length : Int) := by omega
         have hp : c.methods[k]? = some c.methods[k] := List.getElem?_eq_getElem hlt
         obtain ⟨pb, po, e2, hpv⟩ := HAT.out _ _ hp
         generalize c.methods[k] = m at hp hpv
         obtain ⟨p0, ⟨pv, p1, pvr⟩, p2, _⟩ := hpv.kept hkp
         obtain ⟨pva, pvc, rfl, _⟩ := pvr
         subst e2
         have HKA := Lib.hid (hkp.alloc (.cells #[.string m.name, .slice pva m.params.length pvc, .string m.res] 47))
         by_cases h8 : 8 < m.params.length
         ·have h8I : (8 : Int) < (m.params.length : Int) := by omega
          have HG := Lib.hid (hd_params HC1.out HC2.out HC3.out HC4.out (List.mem_of_getElem? hp) h8)
          clear hpv hp hs h8 hkp
          go_wp2_with fail
          go_ret
          exact ⟨by rw [HAV.out, HG.out]; rfl, HKA.out⟩
         ·have h8I : ¬ (8 : Int) < (m.params.length : Int) := by omega
          have HS := Lib.hid (show ∀ m ∈ c.methods.take (k + 1), ¬ 8 < m.params.length by
           intro y hy
           rw [List.take_add_one, hp] at hy
           rcases List.mem_append.1 hy with hy | hy
           ·exact hs y hy
           ·simp at hy; rw [hy]; exact h8)
          clear hpv hp hs h8 hkp
          go_wp2_with fail
          go_roundw
          case rel => exact ⟨k + 1, by omega, by go_num, HKA.out, HS.out⟩
          case measure => simp [intOf]; omega
        ·have hltI : ¬ (k : Int) < (c.methods.length : Int) := by omega
         obtain rfl : k = c.methods.length := by omega
         rw [List.take_length] at hs
         have HG := Lib.hid (hd_ok HC1.out HC2.out HC3.out HC4.out hs)
         have HK := Lib.hid hkp
         clear hs hkp
         go_wp2_with fail
         go_ret
         exact ⟨by rw [HAV.out, HG.out]; rfl, HK.out⟩
      exact AllReady.nil
     exact AllReady.nil
end Go.Proofs.YtjdkegfckkbpeaaGreatDoor
namespace Go.Proofs.YtjdkegfckkbpeaaGreatDoor
open Go.ChangeShapes Go.WideShapes Go.ChangeAt Go.RowKit Go.Shelf
attribute [local go_sem] Oper.semAt_some
/-- The result's cell, and the class's. -/
def CsuC (w : World) (n : Int) (p : Value) (W : World) : Prop :=
 Blk W w.heap.size 28 #[.int .i64 n] ∧ Blk W (w.heap.size + 1) 175 #[p] ∧ Kept w W
theorem csuC_only {w A B : World} {n : Int} {p : Value} {S : Nat → Prop} (h : CsuC w n p A) (ho : Only S A B) (hs : ∀ k, S k → w.heap.size + 2 ≤ k) : CsuC w n p B :=
 ⟨h.1.only ho (fun e => by have := hs _ e; omega), h.2.1.only ho (fun e => by have := hs _ e; omega), h.2.2.onlyS ho (fun k e => by have := hs k e; omega)⟩
theorem csuC_set {w W : World} {n : Int} {p : Value} (h : CsuC w n p W) (m : Int) : CsuC w m p (W.setCell ⟨w.heap.size, 0, none⟩ (.int .i64 m)) ∧ Only (fun k => k = w.heap.size) W (W.setCell ⟨w.heap.size, 0, none⟩ (.int .i64 m)) := by
 have hO : Only (· = w.heap.size) W (W.setCell ⟨w.heap.size, 0, none⟩ (.int .i64 m)) := (Only.refl _ W).put 0 _
 exact ⟨⟨h.1.put 0 _, h.2.1.only hO (by omega), h.2.2.onlyS hO (fun k e => by omega)⟩, hO⟩
theorem CsuC.drew {w W : World} {n : Int} {p : Value} (h : CsuC w n p W) : CsuC w n p W.drew := ⟨h.1, h.2.1, h.2.2.drew⟩
def CsuI (t : List Tab.C) (nm : ByteArray) (w : World) (p : Value) (pre : List Nat) (W : World) : Prop := CsuC w 0 p W ∧ ∀ j ∈ pre, ¬ (Tab.nth t j).name = nm
def CsuX (t : List Tab.C) (nm : ByteArray) (w : World) (p : Value) (c : Code) (pre : List Nat) (W : World) : Prop := c = .ret ∧ CsuC w 9 p W ∧ ∃ j ∈ pre, (Tab.nth t j).name = nm
theorem csu_yes {t : List Tab.C} {i : Nat} (h0 : ¬ (Tab.nth t i).super = ⟨#[]⟩) (h1 : (Tab.ix Tab.C.name t (Tab.nth t i).super).isSome = true) {pre : List Nat} (hp : pre <+: Tab.line t (Tab.nth t i).super) (h : ∃ j ∈ pre, (Tab.nth t j).name = (Tab.nth t i).name) : Tab.chkSuper t i = 9 := by
 unfold Tab.chkSuper
 rw [if_neg h0, if_pos h1, if_pos]
 obtain ⟨j, hj, e⟩ := h
 exact List.any_eq_true.2 ⟨j, hp.subset hj, decide_eq_true e⟩
theorem csu_no {t : List Tab.C} {i : Nat} (h0 : ¬ (Tab.nth t i).super = ⟨#[]⟩) (h1 : (Tab.ix Tab.C.name t (Tab.nth t i).super).isSome = true) (h : ∀ j ∈ Tab.line t (Tab.nth t i).super, ¬ (Tab.nth t j).name = (Tab.nth t i).name) : Tab.chkSuper t i = 0 := by
 unfold Tab.chkSuper
 rw [if_neg h0, if_pos h1, if_neg]
 intro hh
 obtain ⟨j, hj, e⟩ := List.any_eq_true.1 hh
 exact h j hj (of_decide_eq_true e)
theorem csu_keep {t : List Tab.C} {nm : ByteArray} {w W : World} {p : Value} {U : Nat → Prop} {pre : List Nat} {j : Nat} (h : CsuI t nm w p pre W) (hn : ¬ (Tab.nth t j).name = nm) : Only U W W.drew ∧ CsuI t nm w p (pre ++ [j]) W.drew := by
 refine ⟨(Only.refl _ W).drew, h.1.drew, fun k hk => ?_⟩
 rcases List.mem_append.1 hk with hk | hk
 ·exact h.2 k hk
 ·simp at hk; rw [hk]; exact hn
theorem csu_found {t : List Tab.C} {nm : ByteArray} {w W : World} {p : Value} {X : Nat → Prop} {pre : List Nat} {j : Nat} (h : CsuI t nm w p pre W) (hn : (Tab.nth t j).name = nm) : Only (fun k => k = w.heap.size ∨ X k) W (W.drew.setCell ⟨w.heap.size, 0, none⟩ (.int .i64 9)) ∧ CsuX t nm w p .ret (pre ++ [j]) (W.drew.setCell ⟨w.heap.size, 0, none⟩ (.int .i64 9)) := by
 have hE := csuC_set h.1.drew 9
 exact ⟨((Only.refl _ W).drew.trans hE.2).mono fun k _ e => .inl e, rfl, hE.1, j, by simp, hn⟩
set_option maxHeartbeats 4000000 in
theorem csuper_c (t : List Tab.C) (a : Option Addr) (cp : Nat) (i : Nat) (w : World) (h : TabAt w (.slice a t.length cp) t) (hi : i < t.length) (ht : t.length ≤ 1000) :
  Calls Tryz.prog 94 #[.slice a t.length cp, .int .i64 i] w fun e w' => e = .returned (.int .i64 (Tab.chkSuper t i)) ∧ Kept w w' := by
 obtain ⟨av, hav⟩ : ∃ av, av = Tab.chkSuper t i := ⟨_, rfl⟩
 rw [← hav]
 have HAV := Lib.hid hav
 clear hav
 obtain ⟨b, o, rfl, hcl⟩ := Row.cellsC h hi
 have HCL := Lib.hid hcl
 have HT := Lib.hid h
 have hiI : (i : Int) < (t.length : Int) := by omega
 clear h hcl
 refine (callsIn_wide (n := 3)).1 (callsIn_of_wp_marks Tryz.func94 rfl trivial (wpIn_wide.2 ?_) rfl)
 simp only [Tryz.ntmps94, List.size_toArray, List.length_cons, List.length_nil, Nat.reduceAdd, Nat.reduceSub, Array.replicate_succ, Array.replicate_zero, List.push_toArray, List.append_toArray, List.nil_append, List.cons_append]
 have hk0 : Kept w ((w.alloc (.cells #[.int .i64 0] 28)).alloc (.cells #[.pointer (some ⟨b, o + i * 4, none⟩)] 175)) := ((Kept.refl w).alloc _).alloc _
 have hC0 : CsuC w 0 (.pointer (some ⟨b, o + i * 4, none⟩)) ((w.alloc (.cells #[.int .i64 0] 28)).alloc (.cells #[.pointer (some ⟨b, o + i * 4, none⟩)] 175)) := by
  have h2 := Blk.new (w.alloc (.cells #[.int .i64 0] 28)) 175 #[.pointer (some ⟨b, o + i * 4, none⟩)]
  simp only [World.size_alloc] at h2
  exact ⟨(Blk.new w _ _).alloc _, h2, hk0⟩
 have HC0 := Lib.hid hC0
 obtain ⟨d0, d1, _⟩ := HCL.out.kept hk0
 have r0 := hC0.1.cell 0
 have rf := hC0.1.frozen 0
 have r1 := hC0.2.1.cell 0
 simp only [List.getElem?_toArray, List.getElem?_cons_zero] at r0 r1
 clear hk0 hC0
 by_cases hse : (Tab.nth t i).super = ⟨#[]⟩
 ·have HG := Lib.hid (show av = 0 by rw [HAV.out]; unfold Tab.chkSuper; rw [if_pos hse])
  have hst2 : (Tab.nth t i).super = ByteArray.empty := hse
  clear hse
  go_wp2_with fail
  exact ⟨.int .i64 0, by simp [results, Tryz.results94, go_sem, r0], by rw [HG.out], HC0.out.2.2⟩
 ·have HSE := Lib.hid hse
  have hst : ((Tab.nth t i).super.toList == ([] : List UInt8)) = false := by
   have := beq_no hse
   rwa [show (⟨#[]⟩ : ByteArray).toList = [] by rw [ByteArray.toList_eq]] at this
  have hse2 : ¬ (Tab.nth t i).super = ByteArray.empty := hse
  obtain ⟨W1, hW1⟩ : ∃ W1, (w.alloc (.cells #[.int .i64 0] 28)).alloc (.cells #[.pointer (some ⟨b, o + i * 4, none⟩)] 175) = W1 := ⟨_, rfl⟩
  have HS1 := Lib.hid (show W1.heap.size = w.heap.size + 2 by rw [← hW1]; simp)
  obtain ⟨sp, hsp⟩ : ∃ sp, sp = (Tab.nth t i).super := ⟨_, rfl⟩
  have HSP := Lib.hid hsp
  have HF := Lib.hid (tfind_c t (.slice (some ⟨b, o, none⟩) t.length cp) sp W1 (tab_kept HT.out (by rw [← hW1]; exact HC0.out.2.2)))
  unfold FindPost at HF
  rw [hW1] at HC0 d0 d1 r0 rf r1
  rw [← hsp] at hst hse2 d1
  clear hse hsp
  cases hix : Tab.ix Tab.C.name t sp with
  | none =>
   have HG := Lib.hid (show av = 6 by rw [HAV.out]; unfold Tab.chkSuper; rw [if_neg HSE.out, ← HSP.out, hix]; rfl)
   rw [hix] at HF
   simp only [Tab.num, Option.isSome_none] at HF
   have HE := Lib.hid (csuC_set HC0.out 6)
   clear hix
   go_wp2_with fail
   clear hW1
   refine HF.out.mono ?_
   rintro e w2 ⟨rfl, rfl⟩
   go_wp2_with fail
   have q0 := HE.out.1.1.cell 0
   simp only [List.getElem?_toArray, List.getElem?_cons_zero] at q0
   exact ⟨.int .i64 6, by simp [results, Tryz.results94, go_sem, q0], by rw [HG.out], HE.out.1.2.2⟩
  | some k0 =>
   have HIX := Lib.hid (show (Tab.ix Tab.C.name t (Tab.nth t i).super).isSome = true by rw [← HSP.out, hix]; rfl)
   rw [hix] at HF
   simp only [Tab.num, Option.isSome_some] at HF
   clear hix
   go_wp2_with fail
   clear hW1
   refine HF.out.mono ?_
   rintro e w2 ⟨rfl, rfl⟩
   clear HF
   go_wp2_with fail
   refine (line_lineC _ _ t sp _).mono ?_
   rintro e w3 ⟨rfl, hw3⟩
   have HK3 := Lib.hid (show Kept w2 w3 by rw [hw3]; exact ((Kept.refl w2).alloc _).alloc _)
   have HS3 := Lib.hid (show w3.heap.size = w2.heap.size + 2 by rw [hw3]; simp)
   have HB1 := Lib.hid (show Blk w3 w2.heap.size 22 #[.slice (some ⟨b, o, none⟩) t.length cp] by rw [hw3]; exact (Blk.new _ _ _).alloc _)
   have HB2 := Lib.hid (show Blk w3 (w2.heap.size + 1) 9 #[.string sp] by
    rw [hw3]
    have := Blk.new (w2.alloc (.cells #[.slice (some ⟨b, o, none⟩) t.length cp] 22)) 9 #[.string sp]
    simpa using this)
   clear hw3 r0 rf r1 d0 d1 hst hse2
   go_wp2_with fail
   have e1 : w.heap.size + 2 ≤ w2.heap.size := by have := HS1.out; omega
   have e3 : w2.heap.size + 2 ≤ w3.heap.size := by have := HS3.out; omega
   have hI3 : CsuI t (Tab.nth t i).name w (.pointer (some ⟨b, o + i * 4, none⟩)) [] w3 := ⟨csuC_only HC0.out (S := fun _ => False) (Only.of_kept HK3.out) (fun _ h => h.elim), by simp⟩
   refine wpIn_wide.1 (wpIn_range_line (w0 := w) (bt := w2.heap.size) (bn := w2.heap.size + 1) (some ⟨b, o, none⟩) cp t sp (· = w.heap.size) rfl HT.out ht hI3.1.2.2 HB1.out HB2.out (by omega) (by omega) (by omega) (fun k e => by omega) rfl
    (CsuI t (Tab.nth t i).name w (.pointer (some ⟨b, o + i * 4, none⟩))) (CsuX t (Tab.nth t i).name w (.pointer (some ⟨b, o + i * 4, none⟩))) (fun pre A B h ho => ⟨csuC_only h.1 ho (fun k h => by omega), h.2⟩) (fun c pre A B h ho => ⟨h.1, csuC_only h.2.1 ho (fun k h => by omega), h.2.2⟩) hI3
    (fun j => { tmps := #[.slice (some ⟨b, o, none⟩) t.length cp, .int .i64 i, undef, undef, .pointer (some ⟨w.heap.size, 0, none⟩), .pointer (some ⟨w.heap.size + 1, 0, none⟩), .int .i64 k0, .bool true, elC (some ⟨b, o, none⟩) j, .slice (some ⟨b, o, none⟩) t.length cp, .int .i64 i, .pointer (some ⟨b, o + i * 4, none⟩), .pointer (some ⟨b, o + i * 4, none⟩), .pointer (some ⟨b, o + i * 4, none⟩), .pointer (some ⟨b, o + i * 4 + 1, none⟩), .string sp, .bool false, .tuple #[.int .i64 k0, .bool true], .slice (some ⟨b, o, none⟩) t.length cp, .pointer (some ⟨b, o + i * 4, none⟩), .pointer (some ⟨b, o + i * 4, none⟩), .pointer (some ⟨b, o + i * 4 + 1, none⟩), .string sp, .tuple #[.int .i64 k0, .bool true], .int .i64 k0, .bool true, .bool true, .bool false, .slice (some ⟨b, o, none⟩) t.length cp, .pointer (some ⟨b, o + i * 4, none⟩), .pointer (some ⟨b, o + i * 4, none⟩), .pointer (some ⟨b, o + i * 4 + 1, none⟩), .string sp, .func (.func 164) #[] #[.pointer (some ⟨w2.heap.size, 0, none⟩), .pointer (some ⟨w2.heap.size + 1, 0, none⟩)], elC (some ⟨b, o, none⟩) j, undef, undef, undef, undef, undef, undef, undef, undef, undef], defers := [] }) ?assign ?body ?done ?stop)
   case assign =>
    intro l j W K hK
    gi_wp2
    exact hK
   case body =>
    rintro l pre j b2 o2 W hl _ hIW hsize hpre hj e2 hcl2
    injection e2 with e2
    injection e2 with e4 e5
    subst e4 e5
    have HI := Lib.hid hIW
    obtain ⟨x0, _⟩ := hcl2.kept hIW.1.2.2
    obtain ⟨y0, _⟩ := HCL.out.kept hIW.1.2.2
    have q0 := hIW.1.1.cell 0
    have f0 := hIW.1.1.frozen 0
    have q1 := hIW.1.2.1.cell 0
    simp at q0 q1
    simp only [elC, evC, Option.map_some]
    clear hIW hcl2 hpre hI3 e1 e3 hsize hl
    by_cases hx : (Tab.nth t j).name = (Tab.nth t i).name
    ·have HX := Lib.hid hx
     have hb := beq_yes hx
     clear hx
     gi_wp2
     refine wpIn_region_of_any (by kernel_rfl) (by kernel_rfl) (by rintro ⟨_, _, h⟩; exact h) ?_
     ·change wpAny _ _ _ _ _ _ _ (World.drew _)
      refine tkA 0 ?_
      refine tkA 1 ?_
      refine tkA 2 ?_
      refine rdA [3, 4] ?_
      refine aR (fun K hK => ?_) ?_
      ·go_simp
       refine hK _ _ ?_; clear hK K
       refine rdA [4] ?_
       refine aR (fun K hK => ?_) ?_
       ·go_simp
        refine hK _ _ ?_; clear hK K
        refine tkA 5 ?_
        refine tkA 6 ?_
        refine rdA [7] ?_
        refine aR (fun K hK => ?_) ?_
        ·go_simp
         refine hK _ _ ?_; clear hK K
         refine tkA 8 ?_
         refine wpAny_done (by kernel_rfl) ?_ _
         gi_wp2
         exact csu_found HI.out HX.out
        exact AllReady.nil
       exact AllReady.nil
      refine aR (fun K hK => ?_) ?_
      ·go_simp
       refine hK _ _ ?_; clear hK K
       refine tkA 5 ?_
       refine tkA 6 ?_
       refine rdA [3, 7] ?_
       refine aR (fun K hK => ?_) ?_
       ·go_simp
        refine hK _ _ ?_; clear hK K
        refine rdA [7] ?_
        refine aR (fun K hK => ?_) ?_
        ·go_simp
         refine hK _ _ ?_; clear hK K
         refine tkA 8 ?_
         refine wpAny_done (by kernel_rfl) ?_ _
         gi_wp2
         exact csu_found HI.out HX.out
        exact AllReady.nil
       refine aR (fun K hK => ?_) ?_
       ·go_simp
        refine hK _ _ ?_; clear hK K
        refine rdA [3] ?_
        refine aR (fun K hK => ?_) ?_
        ·go_simp
         refine hK _ _ ?_; clear hK K
         refine tkA 8 ?_
         refine wpAny_done (by kernel_rfl) ?_ _
         gi_wp2
         exact csu_found HI.out HX.out
        exact AllReady.nil
       exact AllReady.nil
      exact AllReady.nil
    ·have HX := Lib.hid hx
     have hb := beq_no hx
     clear hx
     gi_wp2
     refine wpIn_region_of_any (by kernel_rfl) (by kernel_rfl) (by rintro ⟨_, _, h⟩; exact h) ?_
     ·change wpAny _ _ _ _ _ _ _ (World.drew _)
      refine tkA 0 ?_
      refine tkA 1 ?_
      refine tkA 2 ?_
      refine rdA [3, 4] ?_
      refine aR (fun K hK => ?_) ?_
      ·go_simp
       refine hK _ _ ?_; clear hK K
       refine rdA [4] ?_
       refine aR (fun K hK => ?_) ?_
       ·go_simp
        refine hK _ _ ?_; clear hK K
        refine tkA 5 ?_
        refine tkA 6 ?_
        refine rdA [7] ?_
        refine aR (fun K hK => ?_) ?_
        ·go_simp
         refine hK _ _ ?_; clear hK K
         refine tkA 8 ?_
         refine wpAny_done (by kernel_rfl) ?_ _
         gi_wp2
         exact csu_keep HI.out HX.out
        exact AllReady.nil
       exact AllReady.nil
      refine aR (fun K hK => ?_) ?_
      ·go_simp
       refine hK _ _ ?_; clear hK K
       refine tkA 5 ?_
       refine tkA 6 ?_
       refine rdA [3, 7] ?_
       refine aR (fun K hK => ?_) ?_
       ·go_simp
        refine hK _ _ ?_; clear hK K
        refine rdA [7] ?_
        refine aR (fun K hK => ?_) ?_
        ·go_simp
         refine hK _ _ ?_; clear hK K
         refine tkA 8 ?_
         refine wpAny_done (by kernel_rfl) ?_ _
         gi_wp2
         exact csu_keep HI.out HX.out
        exact AllReady.nil
       refine aR (fun K hK => ?_) ?_
       ·go_simp
        refine hK _ _ ?_; clear hK K
        refine rdA [3] ?_
        refine aR (fun K hK => ?_) ?_
        ·go_simp
         refine hK _ _ ?_; clear hK K
         refine tkA 8 ?_
         refine wpAny_done (by kernel_rfl) ?_ _
         gi_wp2
         exact csu_keep HI.out HX.out
        exact AllReady.nil
       exact AllReady.nil
      exact AllReady.nil
   case done =>
    rintro D W hD hIW hd
    have HG := Lib.hid (show av = 0 by rw [HAV.out]; exact csu_no HSE.out HIX.out (fun j hj => hIW.2 j (by rw [HSP.out]; exact hj)))
    have hDn : w.heap.size + 4 ≤ D := by omega
    have q0 := hIW.1.1.cell 0
    have f0 := hIW.1.1.frozen 0
    have hE := csuC_set hIW.1 0
    have hd' := hE.2.same hd (by omega)
    have hR := csuC_only hE.1 (Only.putObj (Only.refl (· = D) _) (.inl rfl) (.deferred none)) (fun k h => by omega)
    have HR := Lib.hid hR
    have HE := Lib.hid hd'
    simp at q0
    clear hIW hD hI3 e1 e3 hd' hR hE hDn hd
    go_wp2
    clear q0 f0
    have q0 := HR.out.1.cell 0
    simp only [List.getElem?_toArray, List.getElem?_cons_zero] at q0
    generalize (W.setCell ⟨w.heap.size, 0, none⟩ (Value.int .i64 0)) = Wf at *
    refine ⟨by simp, .inl ⟨_, _, rfl, run_takeDeferred HE.out, ?_⟩⟩
    exact ⟨.int .i64 0, by simp [results, Tryz.results94, go_sem, q0], by rw [HG.out], HR.out.2.2⟩
   case stop =>
    rintro D c2 pre W hD hpre ⟨rfl, h1, h2⟩ hd
    rw [HSP.out] at hpre
    have HG := Lib.hid (show av = 9 by rw [HAV.out]; exact csu_yes HSE.out HIX.out hpre h2)
    have hR := csuC_only h1 (Only.putObj (Only.refl (· = D) W) (.inl rfl) (.deferred none)) (fun k h => by omega)
    have q0 := hR.1.cell 0
    simp only [List.getElem?_toArray, List.getElem?_cons_zero] at q0
    have HR := Lib.hid hR
    clear hR h1 h2 hpre hI3 e1 e3 hD
    gi_wp2
    refine ⟨by simp, .inl ⟨_, _, rfl, run_takeDeferred hd, ?_⟩⟩
    exact ⟨.int .i64 9, by simp [results, Tryz.results94, go_sem, q0], by rw [HG.out], HR.out.2.2⟩
end Go.Proofs.YtjdkegfckkbpeaaGreatDoor
namespace Go.Proofs.YtjdkegfckkbpeaaGreatDoor
open Go.ChangeShapes Go.WideShapes Go.ChangeAt Go.RowKit
/-- The checks, in their order. -/
def RF (t : List Tab.C) : Nat → Nat → Int
 | 0 => Tab.chkHead t
 | 1 => Tab.chkSuper t
 | _ => Tab.chkMembers t
theorem rnd_step (f : Nat → Int) (i n : Nat) : Tab.chkRound f i (n + 1) = if f i = 0 then Tab.chkRound f (i + 1) n else (f i, (i : Int)) := rfl
theorem rnd_zero (f : Nat → Int) : ∀ (n i : Nat), (Tab.chkRound f i n).1 = 0 → Tab.chkRound f i n = (0, 0)
 | 0, _, _ => rfl
 | n + 1, i, h => by
  rw [rnd_step] at h ⊢
  by_cases hz : f i = 0
  ·rw [if_pos hz] at h ⊢; exact rnd_zero f n (i + 1) h
  ·rw [if_neg hz] at h; exact absurd h hz
theorem chk_bad {t : List Tab.C} {k : Nat} {e i : Int} (hl : ¬ 40 < t.length) (hz : ∀ r, r < k → (Tab.chkRound (RF t r) 0 t.length).1 = 0) (hk : Tab.chkRound (RF t k) 0 t.length = (e, i)) (he : ¬ e = 0) (hk3 : k < 3 := by omega) : Tab.check t = (e, i) := by
 unfold Tab.check
 rw [if_neg hl]
 rcases (show k = 0 ∨ k = 1 ∨ k = 2 by omega) with rfl | rfl | rfl
 ·have h0 : Tab.chkRound (Tab.chkHead t) 0 t.length = (e, i) := hk
  rw [h0, if_neg he]
 ·have h0 : (Tab.chkRound (Tab.chkHead t) 0 t.length).1 = 0 := hz 0 (by omega)
  have h1 : Tab.chkRound (Tab.chkSuper t) 0 t.length = (e, i) := hk
  rw [if_pos h0, h1, if_neg he]
 ·have h0 : (Tab.chkRound (Tab.chkHead t) 0 t.length).1 = 0 := hz 0 (by omega)
  have h1 : (Tab.chkRound (Tab.chkSuper t) 0 t.length).1 = 0 := hz 1 (by omega)
  have h2 : Tab.chkRound (Tab.chkMembers t) 0 t.length = (e, i) := hk
  rw [if_pos h0, if_pos h1, h2]
theorem chk_ok {t : List Tab.C} (hl : ¬ 40 < t.length) (hz : ∀ r, r < 3 → (Tab.chkRound (RF t r) 0 t.length).1 = 0) : Tab.check t = (0, 0) := by
 unfold Tab.check
 have h0 : (Tab.chkRound (Tab.chkHead t) 0 t.length).1 = 0 := hz 0 (by omega)
 have h1 : (Tab.chkRound (Tab.chkSuper t) 0 t.length).1 = 0 := hz 1 (by omega)
 have h2 : (Tab.chkRound (Tab.chkMembers t) 0 t.length).1 = 0 := hz 2 (by omega)
 rw [if_neg hl, if_pos h0, if_pos h1]
 exact rnd_zero _ _ _ h2
/-- The result's cells, and the list of the checks. -/
def ChkC (w W : World) : Prop :=
 Blk W w.heap.size 30 #[.int .i64 0, .int .i64 0] ∧ Blk W (w.heap.size + 1) 114 #[.func (.func 93) #[] #[], .func (.func 94) #[] #[], .func (.func 95) #[] #[]] ∧ Kept w W
theorem ChkC.keep {w A B : World} (h : ChkC w A) (k : Kept A B) : ChkC w B := ⟨h.1.kept k, h.2.1.kept k, h.2.2.trans k⟩
theorem ChkC.set {w W : World} (h : ChkC w W) (e i : Int) : Blk ((W.setCell ⟨w.heap.size, 0, none⟩ (.int .i64 e)).setCell ⟨w.heap.size, 1, none⟩ (.int .i64 i)) w.heap.size 30 #[.int .i64 e, .int .i64 i] ∧ Kept w ((W.setCell ⟨w.heap.size, 0, none⟩ (.int .i64 e)).setCell ⟨w.heap.size, 1, none⟩ (.int .i64 i)) :=
 ⟨(h.1.put 0 _).put 1 _, (h.2.2.setCell (by simp) _).setCell (by simp) _⟩
set_option maxHeartbeats 8000000 in
theorem check_c (t : List Tab.C) (a : Option Addr) (cp : Nat) (w : World) (hTb : Tb w) (h : TabAt w (.slice a t.length cp) t) (hS : Small t) :
  Calls Tryz.prog 67 #[.slice a t.length cp] w fun e w' => e = .returned (.agg #[.int .i64 (Tab.check t).1, .int .i64 (Tab.check t).2]) ∧ Kept w w' := by
 obtain ⟨av, hav⟩ : ∃ av, av = Tab.check t := ⟨_, rfl⟩
 rw [← hav]
 have HAV := Lib.hid hav
 clear hav
 have hk0 : Kept w ((w.alloc (.cells #[.int .i64 0, .int .i64 0] 30)).alloc (.cells #[.func (.func 93) #[] #[], .func (.func 94) #[] #[], .func (.func 95) #[] #[]] 114)) := ((Kept.refl w).alloc _).alloc _
 have hb1 := Blk.new w 30 #[.int .i64 0, .int .i64 0]
 have hb2 := Blk.new (w.alloc (.cells #[.int .i64 0, .int .i64 0] 30)) 114 #[.func (.func 93) #[] #[], .func (.func 94) #[] #[], .func (.func 95) #[] #[]]
 simp only [World.size_alloc] at hb2
 have HC0 := Lib.hid (show ChkC w _ from ⟨hb1.alloc (.cells #[.func (.func 93) #[] #[], .func (.func 94) #[] #[], .func (.func 95) #[] #[]] 114), hb2, hk0⟩)
 have HH1 := Lib.hid (fun (i : Nat) (wr : World) (hi : i < t.length) (k : Kept w wr) => chead_c t a cp i wr (tab_kept h k) hi hS.len)
 have HH2 := Lib.hid (fun (i : Nat) (wr : World) (hi : i < t.length) (k : Kept w wr) => csuper_c t a cp i wr (tab_kept h k) hi hS.len)
 have HH3 := Lib.hid (fun (i : Nat) (wr : World) (hi : i < t.length) (k : Kept w wr) => cmembers_c t a cp i wr (hTb.kept k) (tab_kept h k) hi hS)
 have hts := hS.len
 clear h hTb hk0 hb2
 by_cases hl : 40 < t.length
 ·have hlI : (40 : Int) < (t.length : Int) := by omega
  have HG := Lib.hid (show Tab.check t = (12, 40) by unfold Tab.check; rw [if_pos hl])
  have q0 := hb1.cell 0
  have q1 := hb1.cell 1
  have f0 := hb1.frozen 0
  have f1 := hb1.frozen 1
  have HF := Lib.hid (show Blk (((w.alloc (.cells #[.int .i64 0, .int .i64 0] 30)).setCell ⟨w.heap.size, 0, none⟩ (.int .i64 12)).setCell ⟨w.heap.size, 1, none⟩ (.int .i64 40)) w.heap.size 30 #[.int .i64 12, .int .i64 40] from (hb1.put 0 _).put 1 _)
  have HK := Lib.hid (show Kept w (((w.alloc (.cells #[.int .i64 0, .int .i64 0] 30)).setCell ⟨w.heap.size, 0, none⟩ (.int .i64 12)).setCell ⟨w.heap.size, 1, none⟩ (.int .i64 40)) from (((Kept.refl w).alloc _).setCell (by simp) _).setCell (by simp) _)
  clear hl hb1 HF HK
  go_enter Tryz.func67, Tryz.ntmps67
  go_wp2_with fail
  clear q0 q1 f0 f1
  have hb := Blk.new w 30 #[.int .i64 12, .int .i64 40]
  have q0 := hb.cell 0
  have q1 := hb.cell 1
  simp only [List.getElem?_toArray, List.getElem?_cons_zero, List.getElem?_cons_succ] at q0 q1
  exact bodyPost_ret (v := .agg #[.int .i64 12, .int .i64 40]) (by simp [results, Tryz.results67, go_sem, q0, q1]) rfl ⟨by rw [HAV.out, HG.out], (Kept.refl w).alloc _⟩
 ·have hlI : ¬ (40 : Int) < (t.length : Int) := by omega
  have HLN := Lib.hid hl
  clear hl hb1
  go_enter Tryz.func67, Tryz.ntmps67
  go_wp2_with fail
  go_loopw [13] (fun q wr => ∃ k : Nat, k ≤ 3 ∧ q = .int .i64 k ∧ ChkC w wr ∧ ∀ r, r < k → (Tab.chkRound (RF t r) 0 t.length).1 = 0) (fun q wr => 3 - (intOf q).toNat)
  case atStart => exact ⟨0, by omega, rfl, HC0.out, fun r hr => absurd hr (by omega)⟩
  case round =>
   obtain ⟨k, hk, rfl, hcc, hz⟩ := hrel
   have p0 := hcc.2.1.cell 0
   have p1 := hcc.2.1.cell 1
   have p2 := hcc.2.1.cell 2
   have HCC := Lib.hid hcc
   have HZ := Lib.hid hz
   simp at p0 p1 p2
   clear hcc hz
   rcases (show k = 3 ∨ k = 0 ∨ k = 1 ∨ k = 2 by omega) with rfl | rfl | rfl | rfl
   ·have q0 := HCC.out.1.cell 0
    have q1 := HCC.out.1.cell 1
    have f0 := HCC.out.1.frozen 0
    have f1 := HCC.out.1.frozen 1
    have HF := Lib.hid (HCC.out.set 0 0)
    have HG := Lib.hid (chk_ok HLN.out HZ.out)
    simp at q0 q1
    go_wp2_with fail
    clear q0 q1 f0 f1
    have q0 := HF.out.1.cell 0
    have q1 := HF.out.1.cell 1
    simp only [List.getElem?_toArray, List.getElem?_cons_zero, List.getElem?_cons_succ] at q0 q1
    exact bodyPost_ret (v := .agg #[.int .i64 0, .int .i64 0]) (by simp [results, Tryz.results67, go_sem, q0, q1]) rfl ⟨by rw [HAV.out, HG.out], HF.out.2⟩
   ·go_wp2_with fail
    go_loopw [19] (fun q wr => ∃ i : Nat, i ≤ t.length ∧ q = .int .i64 i ∧ ChkC w wr ∧ Tab.chkRound (RF t 0) 0 t.length = Tab.chkRound (RF t 0) i (t.length - i)) (fun q wr => t.length - (intOf q).toNat)
    case atStart => exact ⟨0, Nat.zero_le _, rfl, HCC.out, rfl⟩
    case round =>
     obtain ⟨i, hi, rfl, hcc, he⟩ := hrel
     by_cases hlt : i < t.length
     ·have hltI : (i : Int) < (t.length : Int) := by omega
      have HCL := Lib.hid (HH1.out i wr hlt hcc.2.2)
      have HCD := Lib.hid hcc
      rw [show t.length - i = (t.length - (i + 1)) + 1 by omega] at he
      have HE := Lib.hid (he.trans (rnd_step (RF t 0) i (t.length - (i + 1))))
      clear he hcc
      by_cases hz : RF t 0 i = 0
      ·rw [show Tab.chkHead t i = RF t 0 i from rfl, hz] at HCL
       have HG := Lib.hid (show Tab.chkRound (RF t 0) 0 t.length = Tab.chkRound (RF t 0) (i + 1) (t.length - (i + 1)) by rw [HE.out, if_pos hz])
       clear hz
       go_wp2_with fail
       refine HCL.out.mono ?_
       rintro e w3 ⟨rfl, k3⟩
       go_wp2_with fail
       go_roundw
       case rel => exact ⟨_, _, _, _, _, _, _, _, _, _, _, _, _, _, _, ⟨i + 1, by omega, by go_num, HCD.out.keep k3, HG.out⟩, rfl⟩
       case measure => simp [intOf]; omega
      ·have HG := Lib.hid (show Tab.chkRound (RF t 0) 0 t.length = (RF t 0 i, (i : Int)) by rw [HE.out, if_neg hz])
       have HCK := Lib.hid (chk_bad HLN.out HZ.out HG.out hz)
       rw [show Tab.chkHead t i = RF t 0 i from rfl] at HCL
       generalize RF t 0 i = z at HCL HCK hz
       have hzf : (z != 0) = true := by simpa using hz
       clear hz HG HE
       go_wp2_with fail
       refine HCL.out.mono ?_
       rintro e w3 ⟨rfl, k3⟩
       have hd := HCD.out.keep k3
       have q0 := hd.1.cell 0
       have q1 := hd.1.cell 1
       have f0 := hd.1.frozen 0
       have f1 := hd.1.frozen 1
       have HF := Lib.hid (hd.set z (i : Int))
       simp at q0 q1
       clear hd k3
       go_wp2_with fail
       clear q0 q1 f0 f1
       have q0 := HF.out.1.cell 0
       have q1 := HF.out.1.cell 1
       simp only [List.getElem?_toArray, List.getElem?_cons_zero, List.getElem?_cons_succ] at q0 q1
       exact bodyPost_ret (v := .agg #[.int .i64 z, .int .i64 i]) (by simp [results, Tryz.results67, go_sem, q0, q1]) rfl ⟨by rw [HAV.out, HCK.out], HF.out.2⟩
     ·have hltI : ¬ (i : Int) < (t.length : Int) := by omega
      obtain rfl : i = t.length := by omega
      have HG := Lib.hid (show (Tab.chkRound (RF t 0) 0 t.length).1 = 0 by rw [he, Nat.sub_self]; rfl)
      have HCD := Lib.hid hcc
      clear he hcc hlt
      go_wp2_with fail
      go_roundw
      case rel => exact ⟨0 + 1, by omega, by go_num, HCD.out, fun r hr => by
       rcases Nat.lt_succ_iff_lt_or_eq.1 hr with h | h
       ·exact HZ.out r h
       ·rw [h]; exact HG.out⟩
      case measure => simp [intOf]
   ·go_wp2_with fail
    go_loopw [19] (fun q wr => ∃ i : Nat, i ≤ t.length ∧ q = .int .i64 i ∧ ChkC w wr ∧ Tab.chkRound (RF t 1) 0 t.length = Tab.chkRound (RF t 1) i (t.length - i)) (fun q wr => t.length - (intOf q).toNat)
    case atStart => exact ⟨0, Nat.zero_le _, rfl, HCC.out, rfl⟩
    case round =>
     obtain ⟨i, hi, rfl, hcc, he⟩ := hrel
     by_cases hlt : i < t.length
     ·have hltI : (i : Int) < (t.length : Int) := by omega
      have HCL := Lib.hid (HH2.out i wr hlt hcc.2.2)
      have HCD := Lib.hid hcc
      rw [show t.length - i = (t.length - (i + 1)) + 1 by omega] at he
      have HE := Lib.hid (he.trans (rnd_step (RF t 1) i (t.length - (i + 1))))
      clear he hcc
      by_cases hz : RF t 1 i = 0
      ·rw [show Tab.chkSuper t i = RF t 1 i from rfl, hz] at HCL
       have HG := Lib.hid (show Tab.chkRound (RF t 1) 0 t.length = Tab.chkRound (RF t 1) (i + 1) (t.length - (i + 1)) by rw [HE.out, if_pos hz])
       clear hz
       go_wp2_with fail
       refine HCL.out.mono ?_
       rintro e w3 ⟨rfl, k3⟩
       go_wp2_with fail
       go_roundw
       case rel => exact ⟨_, _, _, _, _, _, _, _, _, _, _, _, _, _, _, ⟨i + 1, by omega, by go_num, HCD.out.keep k3, HG.out⟩, rfl⟩
       case measure => simp [intOf]; omega
      ·have HG := Lib.hid (show Tab.chkRound (RF t 1) 0 t.length = (RF t 1 i, (i : Int)) by rw [HE.out, if_neg hz])
       have HCK := Lib.hid (chk_bad HLN.out HZ.out HG.out hz)
       rw [show Tab.chkSuper t i = RF t 1 i from rfl] at HCL
       generalize RF t 1 i = z at HCL HCK hz
       have hzf : (z != 0) = true := by simpa using hz
       clear hz HG HE
       go_wp2_with fail
       refine HCL.out.mono ?_
       rintro e w3 ⟨rfl, k3⟩
       have hd := HCD.out.keep k3
       have q0 := hd.1.cell 0
       have q1 := hd.1.cell 1
       have f0 := hd.1.frozen 0
       have f1 := hd.1.frozen 1
       have HF := Lib.hid (hd.set z (i : Int))
       simp at q0 q1
       clear hd k3
       go_wp2_with fail
       clear q0 q1 f0 f1
       have q0 := HF.out.1.cell 0
       have q1 := HF.out.1.cell 1
       simp only [List.getElem?_toArray, List.getElem?_cons_zero, List.getElem?_cons_succ] at q0 q1
       exact bodyPost_ret (v := .agg #[.int .i64 z, .int .i64 i]) (by simp [results, Tryz.results67, go_sem, q0, q1]) rfl ⟨by rw [HAV.out, HCK.out], HF.out.2⟩
     ·have hltI : ¬ (i : Int) < (t.length : Int) := by omega
      obtain rfl : i = t.length := by omega
      have HG := Lib.hid (show (Tab.chkRound (RF t 1) 0 t.length).1 = 0 by rw [he, Nat.sub_self]; rfl)
      have HCD := Lib.hid hcc
      clear he hcc hlt
      go_wp2_with fail
      go_roundw
      case rel => exact ⟨1 + 1, by omega, by go_num, HCD.out, fun r hr => by
       rcases Nat.lt_succ_iff_lt_or_eq.1 hr with h | h
       ·exact HZ.out r h
       ·rw [h]; exact HG.out⟩
      case measure => simp [intOf]
   ·go_wp2_with fail
    go_loopw [19] (fun q wr => ∃ i : Nat, i ≤ t.length ∧ q = .int .i64 i ∧ ChkC w wr ∧ Tab.chkRound (RF t 2) 0 t.length = Tab.chkRound (RF t 2) i (t.length - i)) (fun q wr => t.length - (intOf q).toNat)
    case atStart => exact ⟨0, Nat.zero_le _, rfl, HCC.out, rfl⟩
    case round =>
     obtain ⟨i, hi, rfl, hcc, he⟩ := hrel
     by_cases hlt : i < t.length
     ·have hltI : (i : Int) < (t.length : Int) := by omega
      have HCL := Lib.hid (HH3.out i wr hlt hcc.2.2)
      have HCD := Lib.hid hcc
      rw [show t.length - i = (t.length - (i + 1)) + 1 by omega] at he
      have HE := Lib.hid (he.trans (rnd_step (RF t 2) i (t.length - (i + 1))))
      clear he hcc
      by_cases hz : RF t 2 i = 0
      ·rw [show Tab.chkMembers t i = RF t 2 i from rfl, hz] at HCL
       have HG := Lib.hid (show Tab.chkRound (RF t 2) 0 t.length = Tab.chkRound (RF t 2) (i + 1) (t.length - (i + 1)) by rw [HE.out, if_pos hz])
       clear hz
       go_wp2_with fail
       refine HCL.out.mono ?_
       rintro e w3 ⟨rfl, k3⟩
       go_wp2_with fail
       go_roundw
       case rel => exact ⟨_, _, _, _, _, _, _, _, _, _, _, _, _, _, _, ⟨i + 1, by omega, by go_num, HCD.out.keep k3, HG.out⟩, rfl⟩
       case measure => simp [intOf]; omega
      ·have HG := Lib.hid (show Tab.chkRound (RF t 2) 0 t.length = (RF t 2 i, (i : Int)) by rw [HE.out, if_neg hz])
       have HCK := Lib.hid (chk_bad HLN.out HZ.out HG.out hz)
       rw [show Tab.chkMembers t i = RF t 2 i from rfl] at HCL
       generalize RF t 2 i = z at HCL HCK hz
       have hzf : (z != 0) = true := by simpa using hz
       clear hz HG HE
       go_wp2_with fail
       refine HCL.out.mono ?_
       rintro e w3 ⟨rfl, k3⟩
       have hd := HCD.out.keep k3
       have q0 := hd.1.cell 0
       have q1 := hd.1.cell 1
       have f0 := hd.1.frozen 0
       have f1 := hd.1.frozen 1
       have HF := Lib.hid (hd.set z (i : Int))
       simp at q0 q1
       clear hd k3
       go_wp2_with fail
       clear q0 q1 f0 f1
       have q0 := HF.out.1.cell 0
       have q1 := HF.out.1.cell 1
       simp only [List.getElem?_toArray, List.getElem?_cons_zero, List.getElem?_cons_succ] at q0 q1
       exact bodyPost_ret (v := .agg #[.int .i64 z, .int .i64 i]) (by simp [results, Tryz.results67, go_sem, q0, q1]) rfl ⟨by rw [HAV.out, HCK.out], HF.out.2⟩
     ·have hltI : ¬ (i : Int) < (t.length : Int) := by omega
      obtain rfl : i = t.length := by omega
      have HG := Lib.hid (show (Tab.chkRound (RF t 2) 0 t.length).1 = 0 by rw [he, Nat.sub_self]; rfl)
      have HCD := Lib.hid hcc
      clear he hcc hlt
      go_wp2_with fail
      go_roundw
      case rel => exact ⟨2 + 1, by omega, by go_num, HCD.out, fun r hr => by
       rcases Nat.lt_succ_iff_lt_or_eq.1 hr with h | h
       ·exact HZ.out r h
       ·rw [h]; exact HG.out⟩
      case measure => simp [intOf]
end Go.Proofs.YtjdkegfckkbpeaaGreatDoor
