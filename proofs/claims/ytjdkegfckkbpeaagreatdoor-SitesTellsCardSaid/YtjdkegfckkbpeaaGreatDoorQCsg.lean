/- Contracts of table's checks of a type and of a variable. Contracts of slices.EqualFunc at variables and of table.sameTypes. The contract of table.sameTypes. The contract of table.checkSig. -/
import Derived.Test.YtjdkegfckkbpeaaGreatDoorQTkk
import Derived.Test.YtjdkegfckkbpeaaGreatDoorQz2
import Derived.Test.YtjdkegfckkbpeaaGreatDoorQNam
import Derived.Deep.RegionWith
import Derived.BigQuiet
set_option linter.unusedSimpArgs false
set_option linter.unusedVariables false
set_option maxRecDepth 100000
namespace Go.Proofs.YtjdkegfckkbpeaaGreatDoor
open Go.ChangeShapes Go.WideShapes Go.ChangeAt Go.RowKit
theorem ctype_v (v : Int) (l : List Tab.C) (u : Value) (s : ByteArray) (w : World) (hT : Tb w) (hs : s.size ≤ maxLen) (h : TabAt w u l) (hv : Tab.chkType l s = v) :
  Calls Tryz.prog 166 #[u, .string s] w fun e w' => e = .returned (.int .i64 v) ∧ Kept w w' := by
 have H1 := Lib.hid (kindw_c s w hT hs)
 have H2 := Lib.hid (fun w' (k : Kept w w') => tfind_c l u s w' (tab_kept h k))
 unfold FindPost at H2
 obtain ⟨ua, uc, rfl, _⟩ := h
 unfold Tab.chkType at hv
 rcases Tab.kind_cases s with hk | hk | hk | hk <;> rw [hk] at H1 hv
 ·rw [if_pos rfl] at hv
  subst hv
  clear hk
  go_enter Tryz.func166, Tryz.ntmps166
  go_wp2_with fail
  refine H1.out.mono ?_
  rintro e w1 ⟨rfl, k1⟩
  go_wp2_with fail
  go_ret
  exact ⟨rfl, k1⟩
 ·rw [if_neg (by decide), if_neg (by decide)] at hv
  subst hv
  clear hk
  go_enter Tryz.func166, Tryz.ntmps166
  go_wp2_with fail
  refine H1.out.mono ?_
  rintro e w1 ⟨rfl, k1⟩
  go_wp2_with fail
  go_ret
  exact ⟨rfl, k1⟩
 ·rw [if_neg (by decide), if_neg (by decide)] at hv
  subst hv
  clear hk
  go_enter Tryz.func166, Tryz.ntmps166
  go_wp2_with fail
  refine H1.out.mono ?_
  rintro e w1 ⟨rfl, k1⟩
  go_wp2_with fail
  go_ret
  exact ⟨rfl, k1⟩
 ·rw [if_neg (by decide), if_pos rfl] at hv
  clear hk
  cases hf : Tab.ix Tab.C.name l s with
  | none =>
   rw [hf] at H2 hv
   simp only [Tab.num, Option.isSome_none] at H2 hv
   rw [if_neg (by decide)] at hv
   subst hv
   clear hf
   go_enter Tryz.func166, Tryz.ntmps166
   go_wp2_with fail
   refine H1.out.mono ?_
   rintro e w1 ⟨rfl, k1⟩
   go_wp2_with fail
   refine (H2.out _ k1).mono ?_
   rintro e w2 ⟨rfl, rfl⟩
   go_wp2_with fail
   go_ret
   exact ⟨rfl, k1⟩
  | some k =>
   rw [hf] at H2 hv
   simp only [Tab.num, Option.isSome_some] at H2 hv
   rw [if_pos trivial] at hv
   subst hv
   clear hf
   go_enter Tryz.func166, Tryz.ntmps166
   go_wp2_with fail
   refine H1.out.mono ?_
   rintro e w1 ⟨rfl, k1⟩
   go_wp2_with fail
   refine (H2.out _ k1).mono ?_
   rintro e w2 ⟨rfl, rfl⟩
   go_wp2_with fail
   go_ret
   exact ⟨rfl, k1⟩
theorem ctype_c (l : List Tab.C) (u : Value) (s : ByteArray) (w : World) (hT : Tb w) (hs : s.size ≤ maxLen) (h : TabAt w u l) :
  Calls Tryz.prog 166 #[u, .string s] w fun e w' => e = .returned (.int .i64 (Tab.chkType l s)) ∧ Kept w w' := ctype_v _ l u s w hT hs h rfl
theorem cvar_c (l : List Tab.C) (u : Value) (x : Tab.V) (w : World) (hT : Tb w) (hx : x.name.size ≤ maxLen ∧ x.typ.size ≤ maxLen) (h : TabAt w u l) :
  Calls Tryz.prog 134 #[u, .agg #[.string x.name, .string x.typ]] w fun e w' => e = .returned (.int .i64 (Tab.chkVar l x)) ∧ Kept w w' := by
 have HK0 := Lib.hid (show Kept w (w.alloc (.cells #[.string x.name, .string x.typ] 72)) from (Kept.refl w).alloc _)
 have H1 := Lib.hid (name_c x.name _ (hT.kept HK0.out) hx.1)
 have H2 := Lib.hid (fun w' (k : Kept w w') => ctype_c l u x.typ w' (hT.kept k) hx.2 (tab_kept h k))
 have HB := Lib.hid (Blk.new w 72 #[.string x.name, .string x.typ])
 obtain ⟨ua, uc, rfl, _⟩ := h
 unfold Tab.chkVar
 cases hn : Wrd.name x.name with
 | false =>
  rw [hn] at H1
  rw [if_neg (by decide)]
  clear hn
  go_enter Tryz.func134, Tryz.ntmps134
  go_wp2_with fail
  refine H1.out.mono ?_
  rintro e w1 ⟨rfl, k1⟩
  go_wp2_with fail
  go_ret
  exact ⟨rfl, HK0.out.trans k1⟩
 | true =>
  rw [hn] at H1
  rw [if_pos rfl]
  clear hn
  generalize Tab.chkType l x.typ = v at H2
  go_enter Tryz.func134, Tryz.ntmps134
  go_wp2_with fail
  refine H1.out.mono ?_
  rintro e w1 ⟨rfl, k1⟩
  have hb := (HB.out.kept k1).cell 1
  simp at hb
  go_wp2_with fail
  refine (H2.out _ (HK0.out.trans k1)).mono ?_
  rintro e w2 ⟨rfl, k2⟩
  go_wp2_with fail
  go_ret
  exact ⟨rfl, (HK0.out.trans k1).trans k2⟩
end Go.Proofs.YtjdkegfckkbpeaaGreatDoor
namespace Go.Proofs.YtjdkegfckkbpeaaGreatDoor
open Go.ChangeShapes Go.WideShapes Go.ChangeAt Go.RowKit
theorem sty1_v (a b : Tab.V) (v : Bool) (w : World) (hv : decide (a.typ = b.typ) = v) :
  Calls Tryz.prog 168 #[.agg #[.string a.name, .string a.typ], .agg #[.string b.name, .string b.typ]] w fun e w' => e = .returned (.bool v) ∧ Kept w w' := by
 have HK := Lib.hid (((Kept.refl w).alloc (.cells #[.string a.name, .string a.typ] 72)).alloc (.cells #[.string b.name, .string b.typ] 72))
 have hb : (a.typ.toList == b.typ.toList) = v := by
  rw [← hv]
  by_cases h : a.typ = b.typ
  ·rw [beq_yes h, decide_eq_true h]
  ·rw [beq_no h, decide_eq_false h]
 clear hv
 go_enter Tryz.func168, Tryz.ntmps168
 go_wp2_with fail
 go_ret
 exact ⟨by first | rfl | rw [hb], HK.out⟩
theorem same_take {l m : List Tab.V} {k : Nat} (h : l.length = m.length) (hk : k < l.length) {x y : Tab.V} (hx : l[k]? = some x) (hy : m[k]? = some y) (ht : ∀ z ∈ (l.zip m).take k, z.1.typ = z.2.typ) (he : x.typ = y.typ) : ∀ z ∈ (l.zip m).take (k + 1), z.1.typ = z.2.typ := by
 intro z hz
 rw [List.take_add_one, (List.getElem?_zip_eq_some (z := (x, y))).2 ⟨hx, hy⟩] at hz
 rcases List.mem_append.1 hz with hz | hz
 ·exact ht z hz
 ·simp at hz; rw [hz]; exact he
theorem same_yes {l m : List Tab.V} (h : l.length = m.length) (ht : ∀ z ∈ l.zip m, z.1.typ = z.2.typ) : Tab.sameTys l m = true := by
 unfold Tab.sameTys
 rw [Bool.and_eq_true, List.all_eq_true]
 exact ⟨decide_eq_true h, fun z hz => decide_eq_true (ht z hz)⟩
theorem same_no {l m : List Tab.V} {k : Nat} {x y : Tab.V} (hx : l[k]? = some x) (hy : m[k]? = some y) (he : ¬ x.typ = y.typ) : Tab.sameTys l m = false := by
 unfold Tab.sameTys
 rw [Bool.and_eq_false_iff]
 refine .inr ?_
 rw [List.all_eq_false]
 exact ⟨(x, y), List.mem_of_getElem? ((List.getElem?_zip_eq_some (z := (x, y))).2 ⟨hx, hy⟩), by simpa using he⟩
set_option maxHeartbeats 2000000 in
theorem eqf_c (l m : List Tab.V) (u v : Value) (w : World) (hu : Row 2 VarAt w u l) (hv : Row 2 VarAt w v m) :
  Calls Tryz.prog 169 #[u, v, .func (.func 168) #[] #[]] w fun e w' => e = .returned (.bool (Tab.sameTys l m)) ∧ Kept w w' := by
 obtain ⟨a, c, rfl, ha1, ha2, hat⟩ := hu
 obtain ⟨b, d, rfl, hb1, hb2, hbt⟩ := hv
 unfold maxLen at ha2 hb2
 by_cases hl : l.length = m.length
 ·have hlI : (l.length : Int) = (m.length : Int) := by omega
  have HL := Lib.hid hl
  have HAT := Lib.hid hat
  have HBT := Lib.hid hbt
  have hne : ((l.length : Int) != (m.length : Int)) = false := by rw [hlI]; simp
  rw [← hl] at hb1 ⊢
  clear hlI hat hbt hne hl
  go_enter Tryz.func169, Tryz.ntmps169
  go_wp2_with fail
  go_loopw [17] (fun q wr => ∃ k : Nat, k ≤ l.length ∧ q = .int .i64 k ∧ Kept w wr ∧ ∀ z ∈ (l.zip m).take k, z.1.typ = z.2.typ) (fun q wr => l.length - (intOf q).toNat)
  case atStart => exact ⟨0, Nat.zero_le _, rfl, Kept.refl _, by simp⟩
  case round =>
   obtain ⟨k, hk, rfl, hkp, hs⟩ := hrel
   by_cases hlt : k < l.length
   ·have hltI : (k : Int) < (l.length : Int) := by omega
    have hx : l[k]? = some l[k] := List.getElem?_eq_getElem hlt
    have hlt' : k < m.length := by have := HL.out; omega
    have hy : m[k]? = some m[k] := List.getElem?_eq_getElem hlt'
    obtain ⟨ab, ao, rfl, hax⟩ := HAT.out _ _ hx
    obtain ⟨bb, bo, rfl, hbx⟩ := HBT.out _ _ hy
    generalize l[k] = x at hx hax
    generalize m[k] = y at hy hbx
    obtain ⟨x0, x1, _⟩ := hax.kept hkp
    have hk1 := hkp.alloc (.cells #[.string x.name, .string x.typ] 72)
    obtain ⟨y0, y1, _⟩ := hbx.kept hk1
    have HB1 := Lib.hid (Blk.new wr 72 #[.string x.name, .string x.typ])
    have HK := Lib.hid (hk1.alloc (.cells #[.string y.name, .string y.typ] 72))
    have q := (Blk.new wr 72 #[.string x.name, .string x.typ]).alloc (.cells #[.string y.name, .string y.typ] 72)
    have q0 := q.cell 0
    have q1 := q.cell 1
    simp at q0 q1
    clear hax hbx hk1 q hkp
    by_cases he : x.typ = y.typ
    ·have HS := Lib.hid (same_take HL.out hlt hx hy hs he)
     have HC := Lib.hid (fun w => sty1_v x y true w (decide_eq_true he))
     clear he hs hx hy hlt'
     go_wp2_with fail
     refine (HC.out _).mono ?_
     rintro e w3 ⟨rfl, k3⟩
     go_wp2_with fail
     go_roundw
     case rel => exact ⟨k + 1, by omega, by go_num, HK.out.trans k3, HS.out⟩
     case measure => simp [intOf]; omega
    ·have HS := Lib.hid (same_no hx hy he)
     have HC := Lib.hid (fun w => sty1_v x y false w (decide_eq_false he))
     clear he hs hx hy hlt'
     go_wp2_with fail
     refine (HC.out _).mono ?_
     rintro e w3 ⟨rfl, k3⟩
     go_wp2_with fail
     go_ret
     exact ⟨by rw [HS.out]; rfl, HK.out.trans k3⟩
   ·have hltI : ¬ (k : Int) < (l.length : Int) := by omega
    have hkl : k = l.length := by omega
    have HS := Lib.hid (same_yes HL.out (by
     have h2 : (l.zip m).take k = l.zip m := List.take_of_length_le (by rw [List.length_zip]; have := HL.out; omega)
     rw [h2] at hs
     exact hs))
    clear hs hkl
    go_wp2_with fail
    go_ret
    exact ⟨by rw [HS.out]; rfl, hkp⟩
 ·have hlI : ¬ (l.length : Int) = (m.length : Int) := by omega
  have hne : ((l.length : Int) != (m.length : Int)) = true := by simpa using hlI
  have HF := Lib.hid (show Tab.sameTys l m = false by unfold Tab.sameTys; rw [decide_eq_false hl]; rfl)
  clear hl hat hbt
  go_enter Tryz.func169, Tryz.ntmps169
  go_wp2_with fail
  go_ret
  exact ⟨by rw [HF.out]; rfl, Kept.refl _⟩
end Go.Proofs.YtjdkegfckkbpeaaGreatDoor
namespace Go.Proofs.YtjdkegfckkbpeaaGreatDoor
open Go.ChangeShapes Go.WideShapes Go.ChangeAt Go.RowKit
set_option maxHeartbeats 2000000 in
theorem sty_c (a b : Tab.M) (ab ao bb bo : Nat) (w : World) (ha : SigAt w ab ao a) (hb : SigAt w bb bo b) :
  Calls Tryz.prog 136 #[.pointer (some ⟨ab, ao, none⟩), .pointer (some ⟨bb, bo, none⟩)] w fun e w' => e = .returned (.bool (Tab.sameSig a b)) ∧ Kept w w' := by
 obtain ⟨_, ⟨u, a1, hu⟩, a2, _⟩ := ha
 obtain ⟨_, ⟨v, b1, hv⟩, b2, _⟩ := hb
 have HE := Lib.hid (eqf_c a.params b.params u v w.drew (vars_kept hu (Kept.refl w).drew) (vars_kept hv (Kept.refl w).drew))
 obtain ⟨ua, un, uc, rfl⟩ : ∃ a n c, u = .slice a n c := by obtain ⟨a, c, e, _⟩ := hu; exact ⟨_, _, _, e⟩
 obtain ⟨va, vn, vc, rfl⟩ : ∃ a n c, v = .slice a n c := by obtain ⟨a, c, e, _⟩ := hv; exact ⟨_, _, _, e⟩
 clear hu hv
 unfold Tab.sameSig
 by_cases hr : a.res = b.res
 ·have hx := beq_yes hr
  rw [decide_eq_true hr, Bool.true_and]
  generalize Tab.sameTys a.params b.params = y at HE
  clear hr
  go_enter Tryz.func136, Tryz.ntmps136
  go_wp2_with fail
  refine wp_region_any (by kernel_rfl) ?_
  change wpAny _ _ _ _ _ _ _ (World.drew _)
  refine tkV 0 (.pointer (some ⟨ab, ao, none⟩)) ?_
  refine tkV 1 (.pointer (some ⟨ab, ao, none⟩)) ?_
  refine tkV 2 (.pointer (some ⟨ab, ao + 2, none⟩)) ?_
  refine tkV 4 (.pointer (some ⟨bb, bo, none⟩)) ?_
  refine tkV 5 (.pointer (some ⟨bb, bo, none⟩)) ?_
  refine tkV 6 (.pointer (some ⟨bb, bo + 2, none⟩)) ?_
  refine rdA [3, 7] ?_
  refine aR (fun K hK => ?_) ?_
  ·go_simp
   refine hK _ _ ?_; clear hK K
   refine rdA [7] ?_
   refine aR (fun K hK => ?_) ?_
   ·go_simp
    refine hK _ _ ?_; clear hK K
    refine tkW 8 (.bool true) ?_
    refine tkV 9 (.bool true) ?_
    refine tkV 10 (.pointer (some ⟨ab, ao, none⟩)) ?_
    refine tkV 11 (.pointer (some ⟨ab, ao, none⟩)) ?_
    refine tkV 12 (.pointer (some ⟨ab, ao + 1, none⟩)) ?_
    refine tkV 14 (.pointer (some ⟨bb, bo, none⟩)) ?_
    refine tkV 15 (.pointer (some ⟨bb, bo, none⟩)) ?_
    refine tkV 16 (.pointer (some ⟨bb, bo + 1, none⟩)) ?_
    refine tkV 18 (.func (.func 168) #[] #[]) ?_
    refine rdA [13, 17] ?_
    refine aR (fun K hK => ?_) ?_
    ·go_simp
     refine hK _ _ ?_; clear hK K
     refine rdA [17] ?_
     refine aR (fun K hK => ?_) ?_
     ·go_simp
      refine hK _ _ ?_; clear hK K
      refine rdA [19] ?_
      refine aR (fun K hK => ?_) ?_
      ·go_simp
       go_wp2_with fail
       refine HE.out.mono ?_
       rintro e w1 ⟨rfl, k1⟩
       dsimp only
       refine hK _ _ ?_; clear hK K
       refine tkV 20 (.bool y) ?_
       refine tkV 21 (.bool y) ?_
       refine wpAny_done (by kernel_rfl) ?_ _
       go_wp2_with fail
       go_ret
       exact ⟨by kernel_rfl, (Kept.refl w).drew.trans k1⟩
      exact AllReady.nil
     exact AllReady.nil
    refine aR (fun K hK => ?_) ?_
    ·go_simp
     refine hK _ _ ?_; clear hK K
     refine rdA [13] ?_
     refine aR (fun K hK => ?_) ?_
     ·go_simp
      refine hK _ _ ?_; clear hK K
      refine rdA [19] ?_
      refine aR (fun K hK => ?_) ?_
      ·go_simp
       go_wp2_with fail
       refine HE.out.mono ?_
       rintro e w1 ⟨rfl, k1⟩
       dsimp only
       refine hK _ _ ?_; clear hK K
       refine tkV 20 (.bool y) ?_
       refine tkV 21 (.bool y) ?_
       refine wpAny_done (by kernel_rfl) ?_ _
       go_wp2_with fail
       go_ret
       exact ⟨by kernel_rfl, (Kept.refl w).drew.trans k1⟩
      exact AllReady.nil
     exact AllReady.nil
    exact AllReady.nil
   exact AllReady.nil
  refine aR (fun K hK => ?_) ?_
  ·go_simp
   refine hK _ _ ?_; clear hK K
   refine rdA [3] ?_
   refine aR (fun K hK => ?_) ?_
   ·go_simp
    refine hK _ _ ?_; clear hK K
    refine tkW 8 (.bool true) ?_
    refine tkV 9 (.bool true) ?_
    refine tkV 10 (.pointer (some ⟨ab, ao, none⟩)) ?_
    refine tkV 11 (.pointer (some ⟨ab, ao, none⟩)) ?_
    refine tkV 12 (.pointer (some ⟨ab, ao + 1, none⟩)) ?_
    refine tkV 14 (.pointer (some ⟨bb, bo, none⟩)) ?_
    refine tkV 15 (.pointer (some ⟨bb, bo, none⟩)) ?_
    refine tkV 16 (.pointer (some ⟨bb, bo + 1, none⟩)) ?_
    refine tkV 18 (.func (.func 168) #[] #[]) ?_
    refine rdA [13, 17] ?_
    refine aR (fun K hK => ?_) ?_
    ·go_simp
     refine hK _ _ ?_; clear hK K
     refine rdA [17] ?_
     refine aR (fun K hK => ?_) ?_
     ·go_simp
      refine hK _ _ ?_; clear hK K
      refine rdA [19] ?_
      refine aR (fun K hK => ?_) ?_
      ·go_simp
       go_wp2_with fail
       refine HE.out.mono ?_
       rintro e w1 ⟨rfl, k1⟩
       dsimp only
       refine hK _ _ ?_; clear hK K
       refine tkV 20 (.bool y) ?_
       refine tkV 21 (.bool y) ?_
       refine wpAny_done (by kernel_rfl) ?_ _
       go_wp2_with fail
       go_ret
       exact ⟨by kernel_rfl, (Kept.refl w).drew.trans k1⟩
      exact AllReady.nil
     exact AllReady.nil
    refine aR (fun K hK => ?_) ?_
    ·go_simp
     refine hK _ _ ?_; clear hK K
     refine rdA [13] ?_
     refine aR (fun K hK => ?_) ?_
     ·go_simp
      refine hK _ _ ?_; clear hK K
      refine rdA [19] ?_
      refine aR (fun K hK => ?_) ?_
      ·go_simp
       go_wp2_with fail
       refine HE.out.mono ?_
       rintro e w1 ⟨rfl, k1⟩
       dsimp only
       refine hK _ _ ?_; clear hK K
       refine tkV 20 (.bool y) ?_
       refine tkV 21 (.bool y) ?_
       refine wpAny_done (by kernel_rfl) ?_ _
       go_wp2_with fail
       go_ret
       exact ⟨by kernel_rfl, (Kept.refl w).drew.trans k1⟩
      exact AllReady.nil
     exact AllReady.nil
    exact AllReady.nil
   exact AllReady.nil
  exact AllReady.nil
 ·have hx := beq_no hr
  rw [decide_eq_false hr, Bool.false_and]
  clear hr HE
  go_enter Tryz.func136, Tryz.ntmps136
  go_wp2_with fail
  refine wp_region_any (by kernel_rfl) ?_
  change wpAny _ _ _ _ _ _ _ (World.drew _)
  refine tkV 0 (.pointer (some ⟨ab, ao, none⟩)) ?_
  refine tkV 1 (.pointer (some ⟨ab, ao, none⟩)) ?_
  refine tkV 2 (.pointer (some ⟨ab, ao + 2, none⟩)) ?_
  refine tkV 4 (.pointer (some ⟨bb, bo, none⟩)) ?_
  refine tkV 5 (.pointer (some ⟨bb, bo, none⟩)) ?_
  refine tkV 6 (.pointer (some ⟨bb, bo + 2, none⟩)) ?_
  refine rdA [3, 7] ?_
  refine aR (fun K hK => ?_) ?_
  ·go_simp
   refine hK _ _ ?_; clear hK K
   refine rdA [7] ?_
   refine aR (fun K hK => ?_) ?_
   ·go_simp
    refine hK _ _ ?_; clear hK K
    refine tkW 8 (.bool false) ?_
    refine tkV 9 (.bool false) ?_
    refine skA 10 ?_
    refine skA 11 ?_
    refine skA 12 ?_
    refine skA 13 ?_
    refine skA 14 ?_
    refine skA 15 ?_
    refine skA 16 ?_
    refine skA 17 ?_
    refine skA 18 ?_
    refine skA 19 ?_
    refine tkV 20 (.bool false) ?_
    refine tkV 21 (.bool false) ?_
    refine wpAny_done (by kernel_rfl) ?_ _
    go_wp2_with fail
    go_ret
    exact ⟨by kernel_rfl, (Kept.refl w).drew⟩
   exact AllReady.nil
  refine aR (fun K hK => ?_) ?_
  ·go_simp
   refine hK _ _ ?_; clear hK K
   refine rdA [3] ?_
   refine aR (fun K hK => ?_) ?_
   ·go_simp
    refine hK _ _ ?_; clear hK K
    refine tkW 8 (.bool false) ?_
    refine tkV 9 (.bool false) ?_
    refine skA 10 ?_
    refine skA 11 ?_
    refine skA 12 ?_
    refine skA 13 ?_
    refine skA 14 ?_
    refine skA 15 ?_
    refine skA 16 ?_
    refine skA 17 ?_
    refine skA 18 ?_
    refine skA 19 ?_
    refine tkV 20 (.bool false) ?_
    refine tkV 21 (.bool false) ?_
    refine wpAny_done (by kernel_rfl) ?_ _
    go_wp2_with fail
    go_ret
    exact ⟨by kernel_rfl, (Kept.refl w).drew⟩
   exact AllReady.nil
  exact AllReady.nil
end Go.Proofs.YtjdkegfckkbpeaaGreatDoor
namespace Go.Proofs.YtjdkegfckkbpeaaGreatDoor
open Go.ChangeShapes Go.WideShapes Go.ChangeAt Go.RowKit
theorem chkPs_at {t : List Tab.C} {ps : List Tab.V} {k : Nat} {p : Tab.V} (hp : ps[k]? = some p) : Tab.chkPs t (ps.take k) (ps.drop k) =
  if Tab.chkVar t p = 0 then (if (Tab.ix Tab.V.name (ps.take k) p.name).isSome then 8 else Tab.chkPs t (ps.take (k + 1)) (ps.drop (k + 1))) else Tab.chkVar t p := by
 obtain ⟨hk, rfl⟩ := List.getElem?_eq_some_iff.1 hp
 rw [List.drop_eq_getElem_cons hk, List.take_succ_eq_append_getElem hk]
 rfl
set_option maxHeartbeats 4000000 in
theorem csig_c (l : List Tab.C) (u : Value) (m : Tab.M) (b o : Nat) (w : World) (hT : Tb w) (h : TabAt w u l) (hm : SigAt w b o m) (hpl : m.params.length ≤ 1000) :
  Calls Tryz.prog 135 #[u, .pointer (some ⟨b, o, none⟩)] w fun e w' => e = .returned (.int .i64 (Tab.chkSig l m)) ∧ Kept w w' := by
 have HT := Lib.hid hT
 have HH := Lib.hid h
 have HM := Lib.hid hm
 obtain ⟨ua, uc, rfl, _⟩ := h
 obtain ⟨m0, ⟨v, m1, hv⟩, m2, hs1, hs2⟩ := hm
 have HV := Lib.hid hv
 obtain ⟨va, vc, rfl, _, _, hat⟩ := hv
 have HAT := Lib.hid hat
 have H1 := Lib.hid (name_c m.name w hT hs1)
 have H2 := Lib.hid (fun w' (k : Kept w w') => ctype_c l (.slice ua l.length uc) m.res w' (hT.kept k) hs2 (tab_kept HH.out k))
 clear hat hT
 obtain ⟨av, hav⟩ : ∃ av, av = Tab.chkSig l m := ⟨_, rfl⟩
 rw [← hav]
 have HAV := Lib.hid hav
 clear hav
 cases hn : Wrd.name m.name with
 | false =>
  rw [hn] at H1
  have HE := Lib.hid (show av = 5 by rw [HAV.out]; unfold Tab.chkSig; rw [hn]; rfl)
  clear hn
  go_enter Tryz.func135, Tryz.ntmps135
  go_wp2_with fail
  refine H1.out.mono ?_
  rintro e w1 ⟨rfl, k1⟩
  go_wp2_with fail
  go_ret
  exact ⟨by rw [HE.out]; rfl, k1⟩
 | true =>
  rw [hn] at H1
  have HE := Lib.hid (show av = if Tab.chkPs l [] m.params = 0 then Tab.chkType l m.res else Tab.chkPs l [] m.params by rw [HAV.out]; unfold Tab.chkSig; rw [hn]; rfl)
  clear hn
  go_enter Tryz.func135, Tryz.ntmps135
  go_wp2_with fail
  refine H1.out.mono ?_
  rintro e w1 ⟨rfl, k1⟩
  have c1 := k1.cell m1
  have HK1 := Lib.hid k1
  clear k1
  go_wp2_with fail
  clear c1
  go_loopw [21] (fun q wr => ∃ k : Nat, k ≤ m.params.length ∧ q = .int .i64 k ∧ Kept w wr ∧ Tab.chkPs l [] m.params = Tab.chkPs l (m.params.take k) (m.params.drop k)) (fun q wr => m.params.length - (intOf q).toNat)
  case atStart => exact ⟨0, Nat.zero_le _, rfl, HK1.out, rfl⟩
  case round =>
   obtain ⟨k, hk, rfl, hkp, hs⟩ := hrel
   have c2 := hkp.cell m2
   have c1 := hkp.cell m1
   have c0 := hkp.cell m0
   by_cases hlt : k < m.params.length
   ·have hltI : (k : Int) < (m.params.length : Int) := by omega
    have hp : m.params[k]? = some m.params[k] := List.getElem?_eq_getElem hlt
    obtain ⟨pb, po, e2, hpv⟩ := HAT.out _ _ hp
    generalize m.params[k] = p at hp hpv
    subst e2
    rw [chkPs_at hp] at hs
    obtain ⟨p0, p1, hps⟩ := hpv.kept hkp
    have HS := Lib.hid hs
    have HP := Lib.hid hp
    have HKA := Lib.hid (hkp.alloc (.cells #[.string p.name, .string p.typ] 72))
    have HB := Lib.hid (Blk.new wr 72 #[.string p.name, .string p.typ])
    have H3 := Lib.hid (cvar_c l (.slice ua l.length uc) p _ (HT.out.kept HKA.out) hps (tab_kept HH.out HKA.out))
    have HKR := Lib.hid hkp
    clear hs hp hpv hkp
    by_cases hcv : Tab.chkVar l p = 0
    ·rw [hcv] at H3
     have HC := Lib.hid hcv
     clear hcv
     go_wp2_with fail
     refine H3.out.mono ?_
     rintro e w3 ⟨rfl, k3⟩
     have hq := (HB.out.kept k3).cell 0
     simp at hq
     have HK3 := Lib.hid (HKA.out.trans k3)
     have d1 := HK3.out.cell m1
     have hkv : k ≤ vc := by obtain ⟨_, c', e, h1, _⟩ := HV.out; injection e with _ e2 e3; omega
     have HF := Lib.hid (tfindVar_c (m.params.take k) (.slice (some ⟨pb, po, none⟩) k vc) p.name w3.drew (Row.take (vars_kept HV.out HK3.out.drew) (by omega)))
     unfold FindPost at HF
     clear k3 H3
     cases hix : Tab.ix Tab.V.name (m.params.take k) p.name with
     | some j =>
      have HG := Lib.hid (show Tab.chkPs l [] m.params = 8 by rw [HS.out, HC.out, hix]; rfl)
      rw [hix] at HF
      simp only [Tab.num, Option.isSome_some] at HF
      clear hix
      go_wp2_with fail
      refine wp_region_any (by kernel_rfl) ?_
      change wpAny _ _ _ _ _ _ _ (World.drew _)
      refine tkA 0 ?_
      refine tkA 1 ?_
      refine tkA 2 ?_
      refine tkA 4 ?_
      refine tkA 6 ?_
      refine rdA [3, 7] ?_
      refine aR (fun K hK => ?_) ?_
      ·go_simp
       refine hK _ _ ?_; clear hK K
       refine tkA 5 ?_
       refine rdA [7] ?_
       refine aR (fun K hK => ?_) ?_
       ·go_simp
        refine hK _ _ ?_; clear hK K
        refine rdA [8] ?_
        refine aR (fun K hK => ?_) ?_
        ·go_simp
         go_wp2_with fail
         refine HF.out.mono ?_
         rintro e w4 ⟨rfl, rfl⟩
         dsimp only
         refine hK _ _ ?_; clear hK K
         refine tkA 9 ?_
         refine tkA 10 ?_
         refine tkA 11 ?_
         refine tkA 12 ?_
         refine tkA 13 ?_
         refine wpAny_done (by kernel_rfl) ?_ _
         go_wp2_with fail
         go_ret
         exact ⟨by rw [HE.out, HG.out]; rfl, HK3.out.drew⟩
        exact AllReady.nil
       exact AllReady.nil
      refine aR (fun K hK => ?_) ?_
      ·go_simp
       refine hK _ _ ?_; clear hK K
       refine rdA [3] ?_
       refine aR (fun K hK => ?_) ?_
       ·go_simp
        refine hK _ _ ?_; clear hK K
        refine tkA 5 ?_
        refine rdA [8] ?_
        refine aR (fun K hK => ?_) ?_
        ·go_simp
         go_wp2_with fail
         refine HF.out.mono ?_
         rintro e w4 ⟨rfl, rfl⟩
         dsimp only
         refine hK _ _ ?_; clear hK K
         refine tkA 9 ?_
         refine tkA 10 ?_
         refine tkA 11 ?_
         refine tkA 12 ?_
         refine tkA 13 ?_
         refine wpAny_done (by kernel_rfl) ?_ _
         go_wp2_with fail
         go_ret
         exact ⟨by rw [HE.out, HG.out]; rfl, HK3.out.drew⟩
        exact AllReady.nil
       exact AllReady.nil
      exact AllReady.nil
     | none =>
      have HG := Lib.hid (show Tab.chkPs l [] m.params = Tab.chkPs l (m.params.take (k + 1)) (m.params.drop (k + 1)) by rw [HS.out, HC.out, hix]; rfl)
      rw [hix] at HF
      simp only [Tab.num, Option.isSome_none] at HF
      clear hix
      go_wp2_with fail
      refine wp_region_any (by kernel_rfl) ?_
      change wpAny _ _ _ _ _ _ _ (World.drew _)
      refine tkA 0 ?_
      refine tkA 1 ?_
      refine tkA 2 ?_
      refine tkA 4 ?_
      refine tkA 6 ?_
      refine rdA [3, 7] ?_
      refine aR (fun K hK => ?_) ?_
      ·go_simp
       refine hK _ _ ?_; clear hK K
       refine tkA 5 ?_
       refine rdA [7] ?_
       refine aR (fun K hK => ?_) ?_
       ·go_simp
        refine hK _ _ ?_; clear hK K
        refine rdA [8] ?_
        refine aR (fun K hK => ?_) ?_
        ·go_simp
         go_wp2_with fail
         refine HF.out.mono ?_
         rintro e w4 ⟨rfl, rfl⟩
         dsimp only
         refine hK _ _ ?_; clear hK K
         refine tkA 9 ?_
         refine tkA 10 ?_
         refine tkA 11 ?_
         refine tkA 12 ?_
         refine tkA 13 ?_
         refine wpAny_done (by kernel_rfl) ?_ _
         go_wp2_with fail
         go_roundw
         case rel => exact ⟨k + 1, by omega, by go_num, HK3.out.drew, HG.out⟩
         case measure => simp [intOf]; omega
        exact AllReady.nil
       exact AllReady.nil
      refine aR (fun K hK => ?_) ?_
      ·go_simp
       refine hK _ _ ?_; clear hK K
       refine rdA [3] ?_
       refine aR (fun K hK => ?_) ?_
       ·go_simp
        refine hK _ _ ?_; clear hK K
        refine tkA 5 ?_
        refine rdA [8] ?_
        refine aR (fun K hK => ?_) ?_
        ·go_simp
         go_wp2_with fail
         refine HF.out.mono ?_
         rintro e w4 ⟨rfl, rfl⟩
         dsimp only
         refine hK _ _ ?_; clear hK K
         refine tkA 9 ?_
         refine tkA 10 ?_
         refine tkA 11 ?_
         refine tkA 12 ?_
         refine tkA 13 ?_
         refine wpAny_done (by kernel_rfl) ?_ _
         go_wp2_with fail
         go_roundw
         case rel => exact ⟨k + 1, by omega, by go_num, HK3.out.drew, HG.out⟩
         case measure => simp [intOf]; omega
        exact AllReady.nil
       exact AllReady.nil
      exact AllReady.nil
    ·have HG := Lib.hid (show Tab.chkPs l [] m.params = Tab.chkVar l p by rw [HS.out, if_neg hcv])
     have HN := Lib.hid hcv
     generalize Tab.chkVar l p = z at H3 HG hcv HN
     have hzf : (z != 0) = true := by simpa using hcv
     clear hcv
     go_wp2_with fail
     refine H3.out.mono ?_
     rintro e w3 ⟨rfl, k3⟩
     go_wp2_with fail
     go_ret
     exact ⟨by rw [HE.out, HG.out, if_neg HN.out]; rfl, HKA.out.trans k3⟩
   ·have hltI : ¬ (k : Int) < (m.params.length : Int) := by omega
    obtain rfl : k = m.params.length := by omega
    have HG := Lib.hid (show Tab.chkPs l [] m.params = 0 by rw [hs, List.drop_length, List.take_length]; rfl)
    have HK := Lib.hid hkp
    clear hs hlt hkp
    have HZ := Lib.hid (show av = Tab.chkType l m.res by rw [HE.out, if_pos HG.out])
    generalize Tab.chkType l m.res = z at H2 HZ
    go_wp2_with fail
    refine (H2.out _ HK.out).mono ?_
    rintro e w3 ⟨rfl, k3⟩
    go_wp2_with fail
    go_ret
    exact ⟨by rw [HZ.out]; rfl, HK.out.trans k3⟩
end Go.Proofs.YtjdkegfckkbpeaaGreatDoor
