/- The document's own answers about tables (chaperonref05): lined, named. -/
import Derived.Test.YtjdkegfckkbpeaaGreatDoorQz20
set_option linter.unusedSimpArgs false
set_option linter.unusedVariables false
set_option maxRecDepth 100000
namespace Go.Proofs.YtjdkegfckkbpeaaGreatDoor
open Go.ChangeShapes Go.WideShapes Go.ChangeAt Go.RowKit
theorem inL_supers (t : List Tab.C) (s nm : ByteArray) : inL (Tab.supers t s) nm = (Tab.line t s).any fun j => decide ((Tab.nth t j).name = nm) := by
 unfold inL Tab.supers
 rw [List.any_map]
 rfl
set_option maxHeartbeats 4000000 in
theorem rlined_c (t : List Tab.C) (a : Option Addr) (cp : Nat) (i : Nat) (w : World) (h : TabAt w (.slice a t.length cp) t) (ht : t.length ≤ 1000) (hil : i < t.length) :
  Calls Tryz.prog 75 #[.slice a t.length cp, .int .i64 i] w fun e w' => e = .returned (.int .i64 (Tab.chkSuper t i)) ∧ Kept w w' := by
 have HFI := Lib.hid (fun (x : ByteArray) (W : World) (k : Kept w W) => rfind_c t (.slice a t.length cp) x W (tab_kept h k))
 have HSU := Lib.hid (fun (x : ByteArray) (W : World) (k : Kept w W) => rsupers_c t a cp x W (tab_kept h k) ht)
 unfold FindPost at HFI
 obtain ⟨b, o, rfl, hcl⟩ := Row.cellsC h hil
 have hcp : i ≤ cp := by obtain ⟨_, c', e, h1, h2, _⟩ := h; injection e with _ _ e3; subst e3; omega
 have hilI : (i : Int) < (t.length : Int) := by omega
 have HCK := Lib.hid (show Tab.chkSuper t i = if (Tab.nth t i).super = ⟨#[]⟩ then 0 else if (Tab.ix Tab.C.name t (Tab.nth t i).super).isSome then (if inL (Tab.supers t (Tab.nth t i).super) (Tab.nth t i).name = true then 9 else 0) else 6 by unfold Tab.chkSuper; rw [inL_supers])
 generalize Tab.chkSuper t i = ans at HCK ⊢
 generalize Tab.nth t i = c at hcl HCK
 obtain ⟨c0, c1, ⟨fv, c2, hf⟩, ⟨mv, c3, hm⟩, _⟩ := hcl
 obtain ⟨fa, fc, rfl, _⟩ := hf
 obtain ⟨ma, mc, rfl, _⟩ := hm
 generalize c.fields.length = fn at c2
 generalize c.methods.length = mn at c3
 generalize c.name = nm at c0 HCK
 generalize c.super = sp at c1 HCK
 have HB := Lib.hid (Blk.new w 44 #[.string nm, .string sp, .slice fa fn fc, .slice ma mn mc])
 have HK1 := Lib.hid ((Kept.refl w).alloc (.cells #[.string nm, .string sp, .slice fa fn fc, .slice ma mn mc] 44))
 have r0 : (w.alloc (.cells #[.string nm, .string sp, .slice fa fn fc, .slice ma mn mc] 44)).cell? ⟨w.heap.size, 0, none⟩ = some (.string nm) := HB.out.cell 0
 have r1 : (w.alloc (.cells #[.string nm, .string sp, .slice fa fn fc, .slice ma mn mc] 44)).cell? ⟨w.heap.size, 1, none⟩ = some (.string sp) := HB.out.cell 1
 have HF := Lib.hid (HFI.out sp _ HK1.out)
 have hem : (⟨#[]⟩ : ByteArray).toList = [] := by kernel_rfl
 clear h
 by_cases hs : sp = ⟨#[]⟩
 ·obtain rfl : ans = 0 := by rw [HCK.out, if_pos hs]
  have hq : (sp.toList == ([] : List UInt8)) = true := by have := beq_yes hs; rwa [hem] at this
  clear hs hem
  go_enter Tryz.func75, Tryz.ntmps75
  go_wp2_with fail
  go_ret
  exact ⟨rfl, HK1.out⟩
 ·have hq : (sp.toList == ([] : List UInt8)) = false := by have := beq_no hs; rwa [hem] at this
  have HC2 := Lib.hid (show ans = _ by rw [HCK.out, if_neg hs])
  clear hs hem
  cases hat : Tab.ix Tab.C.name t sp with
  | none =>
   obtain rfl : ans = 6 := by rw [HC2.out, hat]; rfl
   rw [hat] at HF
   simp only [Option.isSome_none] at HF
   clear hat
   go_enter Tryz.func75, Tryz.ntmps75
   go_wp2_with fail
   refine HF.out.mono ?_
   rintro e w1 ⟨rfl, rfl⟩
   go_wp2_with fail
   go_ret
   exact ⟨rfl, HK1.out⟩
  | some k =>
   rw [hat] at HF
   have HC3 := Lib.hid (show ans = if inL (Tab.supers t sp) nm = true then 9 else 0 by rw [HC2.out, hat]; rfl)
   simp only [Option.isSome_some] at HF
   generalize Tab.num (some k) = kk at HF
   clear hat
   go_enter Tryz.func75, Tryz.ntmps75
   go_wp2_with fail
   refine HF.out.mono ?_
   rintro e w1 ⟨rfl, hw1⟩
   subst hw1
   have HSS := Lib.hid (HSU.out sp _ HK1.out.drew)
   go_wp2_with fail
   go_region_with (first | (go_at_call 65; refine HSS.out.mono ?_; rintro e w2 ⟨v2, rfl, hr2, k2⟩; have HIN := Lib.hid (rin_c _ _ nm w2 (owns_txt hr2)); have HK2 := Lib.hid (HK1.out.drew.trans k2); have q0 : w2.cell? ⟨w.heap.size, 0, none⟩ = some (.string nm) := (HB.out.drew.kept k2).cell 0; obtain ⟨va2, vc2, rfl⟩ := owns_slice_n hr2; clear hr2 k2) | (go_at_call 91; refine HIN.out.mono ?_; rintro e w3 ⟨rfl, rfl⟩))
   all_goals
    cases hin : inL (Tab.supers t sp) nm with
    | true =>
     obtain rfl : ans = 9 := by rw [HC3.out, hin]; rfl
     go_wp2_with fail
     go_ret
     exact ⟨rfl, HK2.out⟩
    | false =>
     obtain rfl : ans = 0 := by rw [HC3.out, hin]; rfl
     go_wp2_with fail
     go_ret
     exact ⟨rfl, HK2.out⟩
theorem ix_first {t : List Tab.C} {i : Nat} (hil : i < t.length) : ∃ f, f ≤ i ∧ Tab.ix Tab.C.name t (Tab.nth t i).name = some f ∧ (Tab.ix Tab.C.name (t.take i) (Tab.nth t i).name).isSome = decide (f < i) := by
 have hi := Tab.of_nth hil
 cases h : Tab.ix Tab.C.name (t.take i) (Tab.nth t i).name with
 | none =>
  have hno := Tab.ix_isNone.1 h
  exact ⟨i, Nat.le_refl i, Tab.ix_some hi rfl hno, by simp⟩
 | some f =>
  obtain ⟨hf, hn⟩ := Tab.ix_lt h
  have hfi : f < i := by simp at hf; omega
  have hft : f < t.length := by omega
  have e : t[f]? = some (t.take i)[f] := by rw [List.getElem_take]; exact List.getElem?_eq_getElem hft
  refine ⟨f, Nat.le_of_lt hfi, Tab.ix_some e hn ?_, by simp [hfi]⟩
  intro y hy
  unfold Tab.ix at h
  rw [List.findIdx?_eq_some_iff_getElem] at h
  obtain ⟨_, _, h3⟩ := h
  obtain ⟨j, hj, rfl⟩ := List.getElem_of_mem hy
  have hjf : j < f := by simp at hj; omega
  have := h3 j hjf
  rw [List.getElem_take] at this ⊢
  simpa using this
set_option maxHeartbeats 4000000 in
theorem rnamed_c (t : List Tab.C) (a : Option Addr) (cp : Nat) (i : Nat) (w : World) (h : TabAt w (.slice a t.length cp) t) (ht : t.length ≤ 1000) (hil : i < t.length) :
  Calls Tryz.prog 74 #[.slice a t.length cp, .int .i64 i] w fun e w' => e = .returned (.int .i64 (Tab.chkHead t i)) ∧ Kept w w' := by
 have HFI := Lib.hid (fun (x : ByteArray) (W : World) (k : Kept w W) => rfind_c t (.slice a t.length cp) x W (tab_kept h k))
 unfold FindPost at HFI
 obtain ⟨f, hfi, hfx, hft⟩ := ix_first hil
 obtain ⟨b, o, rfl, hcl⟩ := Row.cellsC h hil
 have hcp : i ≤ cp := by obtain ⟨_, c', e, h1, h2, _⟩ := h; injection e with _ _ e3; subst e3; omega
 have hilI : (i : Int) < (t.length : Int) := by omega
 have hck : Tab.chkHead t i = if Wrd.cls (Tab.nth t i).name then (if f < i then 8 else if 20 < (Tab.nth t i).fields.length then 12 else if 20 < (Tab.nth t i).methods.length then 12 else if (Tab.nth t i).methods.any (fun m => decide (8 < m.params.length)) then 12 else 0) else 5 := by
  unfold Tab.chkHead
  rw [hft]
  simp only [decide_eq_true_eq]
 have HCK := Lib.hid hck
 generalize Tab.chkHead t i = ans at HCK ⊢
 generalize Tab.nth t i = c at hcl HCK hfx
 clear hft hck
 obtain ⟨c0, c1, ⟨fv, c2, hf⟩, ⟨mv, c3, hm⟩, z1, _⟩ := hcl
 have HCL := Lib.hid (fun (W : World) => classR_c c.name W (by unfold maxLen at z1; omega))
 obtain ⟨fa, fc, rfl, f1, f2, _⟩ := hf
 obtain ⟨ma, mc, rfl, m1, m2, m3⟩ := hm
 have HM := Lib.hid m3
 unfold maxLen at f2 m2
 generalize c.fields.length = fn at c2 HCK f1
 obtain ⟨l, hl⟩ : ∃ l, c.methods = l := ⟨_, rfl⟩
 rw [hl] at c3 HCK m1 HM
 generalize c.name = nm at c0 HCK HCL hfx
 have HF := Lib.hid (HFI.out nm _ ((Kept.refl w).alloc (.cells #[.string nm, .string c.super, .slice fa fn fc, .slice ma l.length mc] 44)))
 generalize c.super = sp at c1 HF
 rw [hfx] at HF
 simp only [Option.isSome_some, Tab.num] at HF
 have HB := Lib.hid (Blk.new w 44 #[.string nm, .string sp, .slice fa fn fc, .slice ma l.length mc])
 have HK1 := Lib.hid ((Kept.refl w).alloc (.cells #[.string nm, .string sp, .slice fa fn fc, .slice ma l.length mc] 44))
 have r0 : (w.alloc (.cells #[.string nm, .string sp, .slice fa fn fc, .slice ma l.length mc] 44)).cell? ⟨w.heap.size, 0, none⟩ = some (.string nm) := HB.out.cell 0
 have r2 : (w.alloc (.cells #[.string nm, .string sp, .slice fa fn fc, .slice ma l.length mc] 44)).cell? ⟨w.heap.size, 2, none⟩ = some (.slice fa fn fc) := HB.out.cell 2
 have r3 : (w.alloc (.cells #[.string nm, .string sp, .slice fa fn fc, .slice ma l.length mc] 44)).cell? ⟨w.heap.size, 3, none⟩ = some (.slice ma l.length mc) := HB.out.cell 3
 clear m3 hl h hfx
 cases hc : Wrd.cls nm with
 | false =>
  obtain rfl : ans = 5 := by rw [HCK.out, hc]; rfl
  rw [hc] at HCL
  clear hc
  go_enter Tryz.func74, Tryz.ntmps74
  go_wp2_with fail
  refine HF.out.mono ?_
  rintro e w1 ⟨rfl, hw1⟩
  subst hw1
  go_wp2_with fail
  refine (HCL.out _).mono ?_
  rintro e w2 ⟨rfl, rfl⟩
  go_wp2_with fail
  go_ret
  exact ⟨rfl, HK1.out⟩
 | true =>
  have HC2 := Lib.hid (show ans = if f < i then 8 else if 20 < fn then 12 else if 20 < l.length then 12 else if l.any (fun m => decide (8 < m.params.length)) = true then 12 else 0 by rw [HCK.out, hc]; rfl)
  rw [hc] at HCL
  clear hc
  by_cases hlf : f < i
  ·have hlfI : (f : Int) < (i : Int) := by omega
   obtain rfl : ans = 8 := by rw [HC2.out, if_pos hlf]
   go_enter Tryz.func74, Tryz.ntmps74
   go_wp2_with fail
   refine HF.out.mono ?_
   rintro e w1 ⟨rfl, hw1⟩
   subst hw1
   go_wp2_with fail
   refine (HCL.out _).mono ?_
   rintro e w2 ⟨rfl, rfl⟩
   go_wp2_with fail
   go_ret
   exact ⟨rfl, HK1.out⟩
  ·have hlfI : ¬ (f : Int) < (i : Int) := by omega
   have HC3 := Lib.hid (show ans = _ by rw [HC2.out, if_neg hlf])
   by_cases h20 : 20 < fn
   ·have h20I : (20 : Int) < (fn : Int) := by omega
    obtain rfl : ans = 12 := by rw [HC3.out, if_pos h20]
    go_enter Tryz.func74, Tryz.ntmps74
    go_wp2_with fail
    refine HF.out.mono ?_
    rintro e w1 ⟨rfl, hw1⟩
    subst hw1
    go_wp2_with fail
    refine (HCL.out _).mono ?_
    rintro e w2 ⟨rfl, rfl⟩
    go_wp2_with fail
    go_ret
    exact ⟨rfl, HK1.out⟩
   ·have h20I : ¬ (20 : Int) < (fn : Int) := by omega
    have HC4 := Lib.hid (show ans = _ by rw [HC3.out, if_neg h20])
    by_cases h21 : 20 < l.length
    ·have h21I : (20 : Int) < (l.length : Int) := by omega
     obtain rfl : ans = 12 := by rw [HC4.out, if_pos h21]
     go_enter Tryz.func74, Tryz.ntmps74
     go_wp2_with fail
     refine HF.out.mono ?_
     rintro e w1 ⟨rfl, hw1⟩
     subst hw1
     go_wp2_with fail
     refine (HCL.out _).mono ?_
     rintro e w2 ⟨rfl, rfl⟩
     go_wp2_with fail
     go_ret
     exact ⟨rfl, HK1.out⟩
    ·have h21I : ¬ (20 : Int) < (l.length : Int) := by omega
     have HC5 := Lib.hid (show ans = _ by rw [HC4.out, if_neg h21])
     go_enter Tryz.func74, Tryz.ntmps74
     go_wp2_with fail
     refine HF.out.mono ?_
     rintro e w1 ⟨rfl, hw1⟩
     subst hw1
     go_wp2_with fail
     refine (HCL.out _).mono ?_
     rintro e w2 ⟨rfl, rfl⟩
     go_wp2_with fail
     go_loopw [8] (fun q wr => ∃ j : Nat, q = .int .i64 j ∧ j ≤ l.length ∧ (l.take j).any (fun m => decide (8 < m.params.length)) = false ∧ wr = w.alloc (.cells #[.string nm, .string sp, .slice fa fn fc, .slice ma l.length mc] 44)) (fun q wr => l.length - (intOf q).toNat)
     case atStart => exact ⟨0, rfl, Nat.zero_le _, rfl, rfl⟩
     case round =>
      obtain ⟨j, rfl, hj, hno, rfl⟩ := hrel
      have HNO := Lib.hid hno
      clear hno
      by_cases hlt : j < l.length
      ·have hltI : (j : Int) < (l.length : Int) := by omega
       have hx : l[j]? = some l[j] := List.getElem?_eq_getElem hlt
       obtain ⟨mb, mo, rfl, hs⟩ := HM.out _ _ hx
       generalize l[j] = m at hx hs
       obtain ⟨_, ⟨pv, s1, hp⟩, _⟩ := hs.kept HK1.out
       obtain ⟨pa, pc, rfl, p1, p2, _⟩ := hp
       have HX := Lib.hid hx
       have hjm : j ≤ mc := by omega
       clear hx hs
       by_cases h8 : 8 < m.params.length
       ·have h8I : (8 : Int) < (m.params.length : Int) := by omega
        obtain rfl : ans = 12 := by
         rw [HC5.out, if_pos]
         rw [List.any_eq_true]
         exact ⟨m, List.mem_of_getElem? HX.out, decide_eq_true h8⟩
        go_wp2_with fail
        go_ret
        exact ⟨rfl, HK1.out⟩
       ·have h8I : ¬ (8 : Int) < (m.params.length : Int) := by omega
        have HNX := Lib.hid (show (l.take (j + 1)).any (fun m => decide (8 < m.params.length)) = false by
         rw [List.take_add_one, HX.out, List.any_append, HNO.out]
         simp
         omega)
        go_wp2_with fail
        go_roundw
        case rel => exact ⟨j + 1, by go_num, by omega, HNX.out, by first | trivial | rfl⟩
        case measure => simp [intOf]; omega
      ·have hltI : ¬ (j : Int) < (l.length : Int) := by omega
       obtain rfl : j = l.length := by omega
       obtain rfl : ans = 0 := by
        have := HNO.out
        rw [List.take_length] at this
        rw [HC5.out, this]
        rfl
       go_wp2_with fail
       go_ret
       exact ⟨rfl, HK1.out⟩
end Go.Proofs.YtjdkegfckkbpeaaGreatDoor
