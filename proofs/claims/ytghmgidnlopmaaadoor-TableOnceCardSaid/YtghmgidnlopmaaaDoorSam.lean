/- The laws' comparisons of lists, where both are the same; and a table's fault held against one. -/
import Derived.Test.YtghmgidnlopmaaaDoorTbf
import Derived.Test.YtghmgidnlopmaaaDoorBlk
import Derived.BigQuiet
set_option linter.unusedSimpArgs false
set_option linter.unusedVariables false
set_option maxRecDepth 100000
namespace Go.Proofs.YtghmgidnlopmaaaDoor
open Go.ChangeShapes Go.WideShapes Go.ChangeAt Go.RowKit

def TxtR (w : World) (b o : Nat) (x : ByteArray) : Prop := w.cell? ⟨b, o, none⟩ = some (.string x)
def MemR2 (w : World) (b o : Nat) (x : ByteArray × Int) : Prop := w.cell? ⟨b, o, none⟩ = some (.string x.1) ∧ w.cell? ⟨b, o + 1, none⟩ = some (.int .i64 x.2)

set_option maxHeartbeats 2000000 in
theorem sameTexts_y (l : List ByteArray) (u v : Value) (w : World) (hu : Row 1 TxtR w u l) (hv : Row 1 TxtR w v l) :
    Calls Tryd.prog 31 #[u, v] w fun e w' => e = .returned (.bool true) ∧ Kept w w' := by
  obtain ⟨a, c, rfl, ha1, ha2, hat⟩ := hu
  obtain ⟨b, d, rfl, hb1, hb2, hbt⟩ := hv
  unfold maxLen at ha2 hb2
  have HAT := Lib.hid hat
  have HBT := Lib.hid hbt
  clear hat hbt
  go_enter Tryd.func31, Tryd.ntmps31
  go_wp2_with fail
  go_loopw [5, 6] (fun p q wr => ∃ j : Nat, p = .bool true ∧ j ≤ l.length ∧ q = .int .i64 j ∧ Kept w wr) (fun p q wr => l.length - (intOf q).toNat)
  case atStart => exact ⟨0, rfl, Nat.zero_le _, rfl, Kept.refl _⟩
  case round =>
    obtain ⟨j, rfl, hj, rfl, hkp⟩ := hrel
    by_cases hlt : j < l.length
    · have hltI : (j : Int) < (l.length : Int) := by omega
      have hx : l[j]? = some l[j] := List.getElem?_eq_getElem hlt
      obtain ⟨ab, ao, rfl, hax⟩ := HAT.out _ _ hx
      obtain ⟨bb, bo, rfl, hbx⟩ := HBT.out _ _ hx
      generalize l[j] = x at hx hax hbx
      have x0 : wr.cell? ⟨ab, ao + j, none⟩ = some (.string x) := by simpa [TxtR] using hkp.cell hax
      have y0 : wr.cell? ⟨bb, bo + j, none⟩ = some (.string x) := by simpa [TxtR] using hkp.cell hbx
      have HK := Lib.hid hkp
      clear hx hax hbx hkp
      go_wp2_with fail
      go_region
      all_goals
        go_wp2_with fail
        go_roundw
        case rel => exact ⟨j + 1, rfl, by omega, by go_num, HK.out.drew⟩
        case measure => simp [intOf]; omega
    · have hltI : ¬ (j : Int) < (l.length : Int) := by omega
      go_wp2_with fail
      go_ret
      exact ⟨rfl, hkp⟩

set_option maxHeartbeats 2000000 in
theorem sameVars_y (l : List Tab.V) (u v : Value) (w : World) (hu : Row 2 VarAt w u l) (hv : Row 2 VarAt w v l) :
    Calls Tryd.prog 11 #[u, v] w fun e w' => e = .returned (.bool true) ∧ Kept w w' := by
  obtain ⟨a, c, rfl, ha1, ha2, hat⟩ := hu
  obtain ⟨b, d, rfl, hb1, hb2, hbt⟩ := hv
  unfold maxLen at ha2 hb2
  have HAT := Lib.hid hat
  have HBT := Lib.hid hbt
  clear hat hbt
  go_enter Tryd.func11, Tryd.ntmps11
  go_wp2_with fail
  go_loopw [5, 6] (fun p q wr => ∃ j : Nat, p = .bool true ∧ j ≤ l.length ∧ q = .int .i64 j ∧ Kept w wr) (fun p q wr => l.length - (intOf q).toNat)
  case atStart => exact ⟨0, rfl, Nat.zero_le _, rfl, Kept.refl _⟩
  case round =>
    obtain ⟨j, rfl, hj, rfl, hkp⟩ := hrel
    by_cases hlt : j < l.length
    · have hltI : (j : Int) < (l.length : Int) := by omega
      have hx : l[j]? = some l[j] := List.getElem?_eq_getElem hlt
      obtain ⟨ab, ao, rfl, hax⟩ := HAT.out _ _ hx
      obtain ⟨bb, bo, rfl, hbx⟩ := HBT.out _ _ hx
      generalize l[j] = x at hx hax hbx
      obtain ⟨x0, x1, _⟩ := hax.kept hkp
      obtain ⟨y0, y1, _⟩ := hbx.kept hkp
      have HK := Lib.hid hkp
      clear hx hax hbx hkp
      go_wp2_with fail
      go_region
      all_goals
        go_wp2_with fail
        go_roundw
        case rel => exact ⟨j + 1, rfl, by omega, by go_num, HK.out.drew⟩
        case measure => simp [intOf]; omega
    · have hltI : ¬ (j : Int) < (l.length : Int) := by omega
      go_wp2_with fail
      go_ret
      exact ⟨rfl, hkp⟩

set_option maxHeartbeats 2000000 in
theorem sameMembers_y (l : List (ByteArray × Int)) (u v : Value) (w : World) (hu : Row 2 MemR2 w u l) (hv : Row 2 MemR2 w v l) :
    Calls Tryd.prog 13 #[u, v] w fun e w' => e = .returned (.bool true) ∧ Kept w w' := by
  obtain ⟨a, c, rfl, ha1, ha2, hat⟩ := hu
  obtain ⟨b, d, rfl, hb1, hb2, hbt⟩ := hv
  unfold maxLen at ha2 hb2
  have HAT := Lib.hid hat
  have HBT := Lib.hid hbt
  clear hat hbt
  go_enter Tryd.func13, Tryd.ntmps13
  go_wp2_with fail
  go_loopw [5, 6] (fun p q wr => ∃ j : Nat, p = .bool true ∧ j ≤ l.length ∧ q = .int .i64 j ∧ Kept w wr) (fun p q wr => l.length - (intOf q).toNat)
  case atStart => exact ⟨0, rfl, Nat.zero_le _, rfl, Kept.refl _⟩
  case round =>
    obtain ⟨j, rfl, hj, rfl, hkp⟩ := hrel
    by_cases hlt : j < l.length
    · have hltI : (j : Int) < (l.length : Int) := by omega
      have hx : l[j]? = some l[j] := List.getElem?_eq_getElem hlt
      obtain ⟨ab, ao, rfl, hax⟩ := HAT.out _ _ hx
      obtain ⟨bb, bo, rfl, hbx⟩ := HBT.out _ _ hx
      generalize l[j] = x at hx hax hbx
      obtain ⟨x0, x1⟩ := (⟨hkp.cell hax.1, hkp.cell hax.2⟩ : MemR2 wr ab (ao + j * 2) x)
      obtain ⟨y0, y1⟩ := (⟨hkp.cell hbx.1, hkp.cell hbx.2⟩ : MemR2 wr bb (bo + j * 2) x)
      have HK := Lib.hid hkp
      clear hx hax hbx hkp
      go_wp2_with fail
      go_region
      all_goals
        go_wp2_with fail
        go_roundw
        case rel => exact ⟨j + 1, rfl, by omega, by go_num, HK.out.drew⟩
        case measure => simp [intOf]; omega
    · have hltI : ¬ (j : Int) < (l.length : Int) := by omega
      go_wp2_with fail
      go_ret
      exact ⟨rfl, hkp⟩

end Go.Proofs.YtghmgidnlopmaaaDoor
