/- Contracts of table's checks of a type and of a variable. -/
import Derived.Test.YtnjgagbblkjjeaaGreatDoorTck
import Derived.Test.YtnjgagbblkjjeaaGreatDoorTbf
import Derived.Test.YtnjgagbblkjjeaaGreatDoorNam
set_option linter.unusedSimpArgs false
set_option linter.unusedVariables false
set_option maxRecDepth 100000
namespace Go.Proofs.YtnjgagbblkjjeaaGreatDoor
open Go.ChangeShapes Go.WideShapes Go.ChangeAt Go.RowKit

theorem ctype_v (v : Int) (l : List Tab.C) (u : Value) (s : ByteArray) (w : World) (hT : Tb w) (hs : s.size ≤ maxLen) (h : TabAt w u l) (hv : Tab.chkType l s = v) :
    Calls Tryz.prog 160 #[u, .string s] w fun e w' => e = .returned (.int .i64 v) ∧ Kept w w' := by
  have H1 := Lib.hid (kindw_c s w hT hs)
  have H2 := Lib.hid (fun w' (k : Kept w w') => tfind_c l u s w' (tab_kept h k))
  unfold FindPost at H2
  obtain ⟨ua, uc, rfl, _⟩ := h
  unfold Tab.chkType at hv
  rcases Tab.kind_cases s with hk | hk | hk | hk <;> rw [hk] at H1 hv
  · rw [if_pos rfl] at hv
    subst hv
    clear hk
    go_enter Tryz.func160, Tryz.ntmps160
    go_wp2_with fail
    refine H1.out.mono ?_
    rintro e w1 ⟨rfl, k1⟩
    go_wp2_with fail
    go_ret
    exact ⟨rfl, k1⟩
  · rw [if_neg (by decide), if_neg (by decide)] at hv
    subst hv
    clear hk
    go_enter Tryz.func160, Tryz.ntmps160
    go_wp2_with fail
    refine H1.out.mono ?_
    rintro e w1 ⟨rfl, k1⟩
    go_wp2_with fail
    go_ret
    exact ⟨rfl, k1⟩
  · rw [if_neg (by decide), if_neg (by decide)] at hv
    subst hv
    clear hk
    go_enter Tryz.func160, Tryz.ntmps160
    go_wp2_with fail
    refine H1.out.mono ?_
    rintro e w1 ⟨rfl, k1⟩
    go_wp2_with fail
    go_ret
    exact ⟨rfl, k1⟩
  · rw [if_neg (by decide), if_pos rfl] at hv
    clear hk
    cases hf : Tab.ix Tab.C.name l s with
    | none =>
      rw [hf] at H2 hv
      simp only [Tab.num, Option.isSome_none] at H2 hv
      rw [if_neg (by decide)] at hv
      subst hv
      clear hf
      go_enter Tryz.func160, Tryz.ntmps160
      go_wp2_with fail
      refine H1.out.mono ?_
      rintro e w1 ⟨rfl, k1⟩
      go_wp2_with fail
      refine (H2.out _ k1).mono ?_
      rintro e w2 ⟨rfl, rfl⟩
      go_wp2_with fail
      go_ret
      exact ⟨rfl, k1⟩
    | some k =>
      rw [hf] at H2 hv
      simp only [Tab.num, Option.isSome_some] at H2 hv
      rw [if_pos trivial] at hv
      subst hv
      clear hf
      go_enter Tryz.func160, Tryz.ntmps160
      go_wp2_with fail
      refine H1.out.mono ?_
      rintro e w1 ⟨rfl, k1⟩
      go_wp2_with fail
      refine (H2.out _ k1).mono ?_
      rintro e w2 ⟨rfl, rfl⟩
      go_wp2_with fail
      go_ret
      exact ⟨rfl, k1⟩

theorem ctype_c (l : List Tab.C) (u : Value) (s : ByteArray) (w : World) (hT : Tb w) (hs : s.size ≤ maxLen) (h : TabAt w u l) :
    Calls Tryz.prog 160 #[u, .string s] w fun e w' => e = .returned (.int .i64 (Tab.chkType l s)) ∧ Kept w w' := ctype_v _ l u s w hT hs h rfl

theorem cvar_c (l : List Tab.C) (u : Value) (x : Tab.V) (w : World) (hT : Tb w) (hx : x.name.size ≤ maxLen ∧ x.typ.size ≤ maxLen) (h : TabAt w u l) :
    Calls Tryz.prog 126 #[u, .agg #[.string x.name, .string x.typ]] w fun e w' => e = .returned (.int .i64 (Tab.chkVar l x)) ∧ Kept w w' := by
  have HK0 := Lib.hid (show Kept w (w.alloc (.cells #[.string x.name, .string x.typ] 50)) from (Kept.refl w).alloc _)
  have H1 := Lib.hid (name_c x.name _ (hT.kept HK0.out) hx.1)
  have H2 := Lib.hid (fun w' (k : Kept w w') => ctype_c l u x.typ w' (hT.kept k) hx.2 (tab_kept h k))
  have HB := Lib.hid (Blk.new w 50 #[.string x.name, .string x.typ])
  obtain ⟨ua, uc, rfl, _⟩ := h
  unfold Tab.chkVar
  cases hn : Wrd.name x.name with
  | false =>
    rw [hn] at H1
    rw [if_neg (by decide)]
    clear hn
    go_enter Tryz.func126, Tryz.ntmps126
    go_wp2_with fail
    refine H1.out.mono ?_
    rintro e w1 ⟨rfl, k1⟩
    go_wp2_with fail
    go_ret
    exact ⟨rfl, HK0.out.trans k1⟩
  | true =>
    rw [hn] at H1
    rw [if_pos rfl]
    clear hn
    generalize Tab.chkType l x.typ = v at H2
    go_enter Tryz.func126, Tryz.ntmps126
    go_wp2_with fail
    refine H1.out.mono ?_
    rintro e w1 ⟨rfl, k1⟩
    have hb := (HB.out.kept k1).cell 1
    simp at hb
    go_wp2_with fail
    refine (H2.out _ (HK0.out.trans k1)).mono ?_
    rintro e w2 ⟨rfl, k2⟩
    go_wp2_with fail
    go_ret
    exact ⟨rfl, (HK0.out.trans k1).trans k2⟩

end Go.Proofs.YtnjgagbblkjjeaaGreatDoor
