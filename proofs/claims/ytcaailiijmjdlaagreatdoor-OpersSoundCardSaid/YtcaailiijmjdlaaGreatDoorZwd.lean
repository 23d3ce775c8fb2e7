/- Show, in the code and in the document's answers. -/
import Derived.Test.YtcaailiijmjdlaaGreatDoorZvb
import Derived.Test.YtcaailiijmjdlaaGreatDoorItx
import Derived.Test.YtcaailiijmjdlaaGreatDoorIrd
import Derived.Test.YtcaailiijmjdlaaGreatDoorTxt
set_option linter.unusedSimpArgs false
set_option linter.unusedVariables false
set_option maxRecDepth 100000

namespace Go.Proofs.YtcaailiijmjdlaaGreatDoor.Zp

open Flo

def showV (a : V) : ByteArray :=
  if a.tag = 1 then ⟨(Dec.txt a.n).toArray⟩ else if a.tag = 2 then ⟨(Hex.lowd 16 (cn a.bits)).toArray⟩ else if a.tag = 3 then (if a.n = 1 then ⟨#[116, 114, 117, 101]⟩ else ⟨#[102, 97, 108, 115, 101]⟩) else
  if a.tag = 4 then a.s else if a.tag = 7 then a.s else if a.tag = 5 then ⟨#[40, 41]⟩ else if a.tag = 6 then ⟨#[110, 117, 108, 108]⟩ else ⟨#[]⟩

end Go.Proofs.YtcaailiijmjdlaaGreatDoor.Zp

namespace Go.Proofs.YtcaailiijmjdlaaGreatDoor

open Go.ChangeShapes Go.WideShapes Go.ChangeAt Go.RowKit Flo

attribute [local go_sem] Oper.semAt_some

open Zp (V showV)

set_option maxHeartbeats 4000000 in
theorem zshow_c (a : V) (ha : V.ok a) (pa : Option Addr) (la ca : Nat) (w : World) (hTb : Tab w) : Calls Tryz.prog 27 #[a.v (.slice pa la ca)] w fun e w' => e = .returned (.string (showV a)) ∧ Kept w w' := by
  obtain ⟨⟨h1, h2⟩, hb, _⟩ := ha
  obtain ⟨ta, n, bt, s⟩ := a
  obtain ⟨W1, hW1⟩ : ∃ W, w.alloc (.cells #[.int .i64 ta, .int .i64 n, .int .u64 (bt : Int), .string s, .slice pa la ca] vT) = W := ⟨_, rfl⟩
  obtain ⟨k1, b1, _⟩ := vnew hW1
  have HTB := Lib.hid (show Tab W1 from k1.cell hTb)
  clear hTb
  have H1 := Lib.hid (itextR_c n h1 h2 W1)
  have H2 := Lib.hid (textR_c bt hb W1 HTB.out)
  obtain ⟨⟨x0, x1, x2, x3, _⟩, _⟩ := blk5 b1
  have HK := Lib.hid k1
  have HW1 := Lib.hid hW1
  clear hW1 k1 b1 h1 h2 hb
  by_cases t1 : ta = 1
  · subst t1
    go_enter Tryz.func27, Tryz.ntmps27
    go_wp2_with (rw [HW1.out])
    refine H1.out.mono ?_
    rintro e w2 ⟨rfl, k2⟩
    have HK2 := Lib.hid (HK.out.trans k2)
    clear k2
    go_wp2_with fail
    go_ret
    exact ⟨rfl, HK2.out⟩
  by_cases t2 : ta = 2
  · subst t2
    go_enter Tryz.func27, Tryz.ntmps27
    go_wp2_with (rw [HW1.out])
    refine H2.out.mono ?_
    rintro e w2 ⟨rfl, k2⟩
    have HK2 := Lib.hid (HK.out.trans k2)
    clear k2
    go_wp2_with fail
    go_ret
    exact ⟨rfl, HK2.out⟩
  by_cases t3 : ta = 3
  · subst t3
    by_cases hn : n = 1
    · subst hn
      go_enter Tryz.func27, Tryz.ntmps27
      go_wp2_with (rw [HW1.out])
      go_ret
      exact ⟨rfl, HK.out⟩
    · have HS := Lib.hid (show showV ⟨3, n, bt, s⟩ = ⟨#[102, 97, 108, 115, 101]⟩ from if_neg hn)
      have c1 : (n == 1) = false := by simpa using hn
      rw [HS.out]
      clear hn
      go_enter Tryz.func27, Tryz.ntmps27
      go_wp2_with (rw [HW1.out])
      go_ret
      exact ⟨rfl, HK.out⟩
  by_cases t4 : ta = 4
  · subst t4
    go_enter Tryz.func27, Tryz.ntmps27
    go_wp2_with (rw [HW1.out])
    go_ret
    exact ⟨rfl, HK.out⟩
  by_cases t7 : ta = 7
  · subst t7
    go_enter Tryz.func27, Tryz.ntmps27
    go_wp2_with (rw [HW1.out])
    go_ret
    exact ⟨rfl, HK.out⟩
  by_cases t5 : ta = 5
  · subst t5
    go_enter Tryz.func27, Tryz.ntmps27
    go_wp2_with (rw [HW1.out])
    go_ret
    exact ⟨rfl, HK.out⟩
  by_cases t6 : ta = 6
  · subst t6
    go_enter Tryz.func27, Tryz.ntmps27
    go_wp2_with (rw [HW1.out])
    go_ret
    exact ⟨rfl, HK.out⟩
  have HS := Lib.hid (show showV ⟨ta, n, bt, s⟩ = ⟨#[]⟩ by unfold showV; rw [if_neg t1, if_neg t2, if_neg t3, if_neg t4, if_neg t7, if_neg t5, if_neg t6])
  have c1 : (ta == 1) = false := by simpa using t1
  have c2 : (ta == 2) = false := by simpa using t2
  have c3 : (ta == 3) = false := by simpa using t3
  have c4 : (ta == 4) = false := by simpa using t4
  have c5 : (ta == 5) = false := by simpa using t5
  have c6 : (ta == 6) = false := by simpa using t6
  have c7 : (ta == 7) = false := by simpa using t7
  rw [HS.out]
  clear t1 t2 t3 t4 t5 t6 t7
  go_enter Tryz.func27, Tryz.ntmps27
  go_wp2_with (rw [HW1.out])
  go_ret
  exact ⟨rfl, HK.out⟩

set_option maxHeartbeats 4000000 in
theorem rshow_c (a : V) (ha : V.ok a) (pa : Option Addr) (la ca : Nat) (w : World) : Calls Tryz.prog 28 #[a.v (.slice pa la ca)] w fun e w' => e = .returned (.string (showV a)) ∧ Kept w w' := by
  obtain ⟨⟨h1, h2⟩, hb, _⟩ := ha
  obtain ⟨ta, n, bt, s⟩ := a
  obtain ⟨W1, hW1⟩ : ∃ W, w.alloc (.cells #[.int .i64 ta, .int .i64 n, .int .u64 (bt : Int), .string s, .slice pa la ca] vT) = W := ⟨_, rfl⟩
  obtain ⟨k1, b1, _⟩ := vnew hW1
  have H1 := Lib.hid (itextS_c n h1 h2 W1)
  have H2 := Lib.hid (textS_c bt hb W1)
  obtain ⟨⟨x0, x1, x2, x3, _⟩, _⟩ := blk5 b1
  have HK := Lib.hid k1
  have HW1 := Lib.hid hW1
  clear hW1 k1 b1 h1 h2 hb
  by_cases t1 : ta = 1
  · subst t1
    go_enter Tryz.func28, Tryz.ntmps28
    go_wp2_with (rw [HW1.out])
    refine H1.out.mono ?_
    rintro e w2 ⟨rfl, k2⟩
    have HK2 := Lib.hid (HK.out.trans k2)
    clear k2
    go_wp2_with fail
    go_ret
    exact ⟨rfl, HK2.out⟩
  by_cases t2 : ta = 2
  · subst t2
    go_enter Tryz.func28, Tryz.ntmps28
    go_wp2_with (rw [HW1.out])
    refine H2.out.mono ?_
    rintro e w2 ⟨rfl, k2⟩
    have HK2 := Lib.hid (HK.out.trans k2)
    clear k2
    go_wp2_with fail
    go_ret
    exact ⟨rfl, HK2.out⟩
  by_cases t3 : ta = 3
  · subst t3
    by_cases hn : n = 1
    · subst hn
      go_enter Tryz.func28, Tryz.ntmps28
      go_wp2_with (rw [HW1.out])
      go_ret
      exact ⟨rfl, HK.out⟩
    · have HS := Lib.hid (show showV ⟨3, n, bt, s⟩ = ⟨#[102, 97, 108, 115, 101]⟩ from if_neg hn)
      have c1 : (n == 1) = false := by simpa using hn
      rw [HS.out]
      clear hn
      go_enter Tryz.func28, Tryz.ntmps28
      go_wp2_with (rw [HW1.out])
      go_ret
      exact ⟨rfl, HK.out⟩
  by_cases t4 : ta = 4
  · subst t4
    go_enter Tryz.func28, Tryz.ntmps28
    go_wp2_with (rw [HW1.out])
    go_ret
    exact ⟨rfl, HK.out⟩
  by_cases t7 : ta = 7
  · subst t7
    go_enter Tryz.func28, Tryz.ntmps28
    go_wp2_with (rw [HW1.out])
    go_ret
    exact ⟨rfl, HK.out⟩
  by_cases t5 : ta = 5
  · subst t5
    go_enter Tryz.func28, Tryz.ntmps28
    go_wp2_with (rw [HW1.out])
    go_ret
    exact ⟨rfl, HK.out⟩
  by_cases t6 : ta = 6
  · subst t6
    go_enter Tryz.func28, Tryz.ntmps28
    go_wp2_with (rw [HW1.out])
    go_ret
    exact ⟨rfl, HK.out⟩
  have HS := Lib.hid (show showV ⟨ta, n, bt, s⟩ = ⟨#[]⟩ by unfold showV; rw [if_neg t1, if_neg t2, if_neg t3, if_neg t4, if_neg t7, if_neg t5, if_neg t6])
  have c1 : (ta == 1) = false := by simpa using t1
  have c2 : (ta == 2) = false := by simpa using t2
  have c3 : (ta == 3) = false := by simpa using t3
  have c4 : (ta == 4) = false := by simpa using t4
  have c5 : (ta == 5) = false := by simpa using t5
  have c6 : (ta == 6) = false := by simpa using t6
  have c7 : (ta == 7) = false := by simpa using t7
  rw [HS.out]
  clear t1 t2 t3 t4 t5 t6 t7
  go_enter Tryz.func28, Tryz.ntmps28
  go_wp2_with (rw [HW1.out])
  go_ret
  exact ⟨rfl, HK.out⟩

end Go.Proofs.YtcaailiijmjdlaaGreatDoor
