/- Chains in memory: whether two are the same, a copy of one, one written over, whether one is longer than is gone through; a layer's letter. -/
import Derived.Test.YtdceafncncgfbaaDoorChm
import Derived.Laws.StructEq
import Derived.Deep.RegionLaw
import Derived.Deep.RegionWith
import Derived.StillTactics
import Derived.Handy
import Derived.Deep.QuietTactic
import Derived.BigQuiet
import Derived.Shelf.Abstract
set_option linter.unusedSimpArgs false
set_option linter.unusedVariables false
set_option maxRecDepth 100000
namespace Go.Proofs.YtdceafncncgfbaaDoor
open Go.ChangeShapes Go.WideShapes Go.ChangeAt Go.RowKit

theorem take_same {α : Type} {l m : List α} {j : Nat} {x : α} (h : l.take j = m.take j) (hl : l[j]? = some x) (hm : m[j]? = some x) : l.take (j + 1) = m.take (j + 1) := by
  rw [List.take_add_one, List.take_add_one, hl, hm, h]

theorem neqLB (a b : Bool) (s t : ByteArray) (m n : Int) (w : World) : (binOp .neq 35 (.agg #[.bool a, .string s, .int .i64 m]) (.agg #[.bool b, .string t, .int .i64 n])).run Tryd.prog w = .ok (.bool (!decide ((⟨a, s, m⟩ : Ly) = ⟨b, t, n⟩))) w := by
  have hf : Tryd.prog.fieldsOf 35 = #[{ name := "Out", type := 4, offset := 0, embedded := false, tag := "", pkgPath := "", byteOffset := 0 }, { name := "Class", type := 9, offset := 1, embedded := false, tag := "", pkgPath := "", byteOffset := 8 }, { name := "Label", type := 3, offset := 2, embedded := false, tag := "", pkgPath := "", byteOffset := 24 }] := by kernel_rfl
  have hp : Tryd.prog.stoodInHeld 35 = false := by kernel_rfl
  have h0 : (part 4 #[.bool a, .string s, .int .i64 m] 0).run Tryd.prog w = .ok (.bool a) w := by kernel_rfl
  have h1 : (part 9 #[.bool a, .string s, .int .i64 m] 1).run Tryd.prog w = .ok (.string s) w := by kernel_rfl
  have h2 : (part 3 #[.bool a, .string s, .int .i64 m] 2).run Tryd.prog w = .ok (.int .i64 m) w := by kernel_rfl
  have g0 : (part 4 #[.bool b, .string t, .int .i64 n] 0).run Tryd.prog w = .ok (.bool b) w := by kernel_rfl
  have g1 : (part 9 #[.bool b, .string t, .int .i64 n] 1).run Tryd.prog w = .ok (.string t) w := by kernel_rfl
  have g2 : (part 3 #[.bool b, .string t, .int .i64 n] 2).run Tryd.prog w = .ok (.int .i64 n) w := by kernel_rfl
  have e0 := fun d => run_equalIn_bool' (P := Tryd.prog) w d 4 a b Tryd.underlying4
  have e1 := fun d => run_equalIn_string (P := Tryd.prog) w d 9 s t Tryd.underlying9
  have e2 := fun d => run_equalIn_int (P := Tryd.prog) w d 3 .i64 .i64 m n Tryd.underlying3
  have hs : (s.toList == t.toList) = decide (s = t) := by
    by_cases e : s = t
    · subst e; simp
    · rw [decide_eq_false e]
      refine beq_eq_false_iff_ne.2 (fun h => e ?_)
      rw [ByteArray.toList_eq, ByteArray.toList_eq] at h
      exact ByteArray.ext (Array.toList_inj.1 h)
  rw [run_neq_struct, show (10000 : Nat) = 9998 + 1 + 1 from rfl, run_equalIn_struct w _ _ _ _ (by rw [hf]; exact Tryd.underlying35) hp, hf]
  simp only [Op.eqFields, Sem.run_bind, Sem.run_ite, h0, h1, h2, g0, g1, g2, e0, e1, e2, Result.andThen_ok, hs]
  have hd : decide ((⟨a, s, m⟩ : Ly) = ⟨b, t, n⟩) = (a == b && (decide (s = t) && m == n)) := by
    by_cases ha : a = b <;> by_cases h2 : s = t <;> by_cases h3 : m = n <;> simp [ha, h2, h3]
  rw [hd]
  cases ha : (a == b) <;> cases h2 : decide (s = t) <;> cases h3 : (m == n) <;> simp [Op.eqFields, Result.andThen]

theorem neqL_yes (x : Ly) (w : World) : (binOp .neq 35 (.agg #[.bool x.out, .string x.cls, .int .i64 x.lab]) (.agg #[.bool x.out, .string x.cls, .int .i64 x.lab])).run Tryd.prog w = .ok (.bool false) w := by
  rw [neqLB]; simp
theorem neqL_no {x y : Ly} (h : ¬ x = y) (w : World) : (binOp .neq 35 (.agg #[.bool x.out, .string x.cls, .int .i64 x.lab]) (.agg #[.bool y.out, .string y.cls, .int .i64 y.lab])).run Tryd.prog w = .ok (.bool true) w := by
  rw [neqLB]
  have : decide ((⟨x.out, x.cls, x.lab⟩ : Ly) = ⟨y.out, y.cls, y.lab⟩) = false := decide_eq_false h
  rw [this]; rfl

set_option maxHeartbeats 4000000 in
theorem sameL_c (l m : List Ly) (u v : Value) (w : World) (hu : LysAt w u l) (hv : LysAt w v m) :
    Calls Tryd.prog 35 #[u, v] w fun e w' => e = .returned (.bool (decide (l = m))) ∧ Kept w w' := by
  obtain ⟨a, c, rfl, ha1, ha2, hat⟩ := hu
  obtain ⟨b, d, rfl, hb1, hb2, hbt⟩ := hv
  unfold maxLen at ha2 hb2
  have HAT := Lib.hid hat
  have HBT := Lib.hid hbt
  clear hat hbt
  by_cases hlen : l.length = m.length
  · have hlI : (l.length : Int) = (m.length : Int) := by omega
    have HLEN := Lib.hid hlen
    rw [← hlen] at hb1 ⊢
    clear hlI hlen
    obtain ⟨ans, hans⟩ : ∃ z, z = decide (l = m) := ⟨_, rfl⟩
    rw [← hans]
    have HA := Lib.hid hans
    clear hans
    go_enter Tryd.func35, Tryd.ntmps35
    go_wp2_with fail
    go_loopw [5] (fun q wr => ∃ j : Nat, j ≤ l.length ∧ q = .int .i64 j ∧ Hid (l.take j = m.take j) ∧ Kept w wr) (fun q wr => l.length - (intOf q).toNat)
    case atStart => exact ⟨0, Nat.zero_le _, rfl, Lib.hid (by simp), Kept.refl _⟩
    case round =>
      obtain ⟨j, hj, rfl, HT, hkp⟩ := hrel
      by_cases hlt : j < l.length
      · have hltI : (j : Int) < (l.length : Int) := by omega
        have hx : l[j]? = some l[j] := List.getElem?_eq_getElem hlt
        have hy : m[j]? = some (m[j]'(by rw [← HLEN.out]; exact hlt)) := List.getElem?_eq_getElem (by rw [← HLEN.out]; exact hlt)
        obtain ⟨ab, ao, rfl, hax⟩ := HAT.out _ _ hx
        obtain ⟨bb, bo, rfl, hbx⟩ := HBT.out _ _ hy
        obtain ⟨x, hxe⟩ : ∃ x, x = l[j] := ⟨_, rfl⟩
        obtain ⟨y, hye⟩ : ∃ y, y = m[j]'(by rw [← HLEN.out]; exact hlt) := ⟨_, rfl⟩
        rw [← hxe] at hx hax
        rw [← hye] at hy hbx
        have x0 := hkp.cell hax.1
        have x1 := hkp.cell hax.2.1
        have x2 := hkp.cell hax.2.2.1
        have y0 := hkp.cell hbx.1
        have y1 := hkp.cell hbx.2.1
        have y2 := hkp.cell hbx.2.2.1
        have HK := Lib.hid hkp
        have HX := Lib.hid hx
        have HY := Lib.hid hy
        clear hx hy hax hbx hkp hxe hye
        by_cases hxy : x = y
        · subst hxy
          have HS := Lib.hid (take_same HT.out HX.out HY.out)
          have hq := neqL_yes x
          go_wp2_with fail
          go_region
          all_goals
            go_wp2_with fail
            go_roundw
            case rel => exact ⟨j + 1, by omega, by go_num, HS, HK.out.drew⟩
            case measure => simp [intOf]; omega
        · obtain rfl : ans = false := by
            rw [HA.out]
            refine decide_eq_false (fun e => hxy ?_)
            have h1 := HX.out
            rw [e, HY.out] at h1
            exact (Option.some.inj h1).symm
          have hq := neqL_no hxy
          clear hxy HX HY
          go_wp2_with fail
          go_region
          all_goals
            go_wp2_with fail
            go_ret
            exact ⟨rfl, HK.out.drew⟩
      · have hltI : ¬ (j : Int) < (l.length : Int) := by omega
        obtain rfl : j = l.length := by omega
        obtain rfl : ans = true := by
          rw [HA.out]
          have := HT.out
          rw [List.take_length, HLEN.out, List.take_length] at this
          exact decide_eq_true this
        go_wp2_with fail
        go_ret
        exact ⟨rfl, hkp⟩
  · have hlI : ¬ (l.length : Int) = (m.length : Int) := by omega
    rw [decide_eq_false (fun e : l = m => hlen (by rw [e]))]
    go_enter Tryd.func35, Tryd.ntmps35
    go_wp2_with fail
    go_ret
    exact ⟨rfl, Kept.refl _⟩

theorem lwrap (n : Int) (h : 0 ≤ n) (h2 : n < 9223372036854775807) : wrap64 n = n := by unfold wrap64; omega

/-- What 'long' tells of a chain that is not. -/
def ShortL (l : List Ly) : Prop := l.length ≤ 30 ∧ ∀ x ∈ l, x.cls.size ≤ 60

def LongAns (l : List Ly) (e : Ending) : Prop := ∃ b : Bool, e = .returned (.bool b) ∧ (b = false → ShortL l)
theorem LongAns.yes {l : List Ly} : LongAns l (.returned (.bool true)) := ⟨true, rfl, fun h => by cases h⟩
theorem LongAns.no {l : List Ly} (h : ShortL l) : LongAns l (.returned (.bool false)) := ⟨false, rfl, fun _ => h⟩

/-- A block of layers, whatever they are, of at least n. -/
def RowOfL (w : World) (g n : Nat) : Prop := ∃ cur, w.heap[g]? = some (.cells cur 35 (0, 0)) ∧ n * 3 ≤ cur.size
theorem RowOfL.cell {w : World} {g n k : Nat} (h : RowOfL w g n) (hk : k < n * 3) : ∃ v, w.cell? ⟨g, k, none⟩ = some v := by
  obtain ⟨cur, h1, h2⟩ := h
  exact ⟨cur[k]'(by omega), by rw [cell_of_row w g k cur _ _ h1]; exact Array.getElem?_eq_getElem (by omega)⟩
theorem RowOfL.frozen {w : World} {g n k : Nat} (h : RowOfL w g n) : w.frozen? ⟨g, k, none⟩ = false := by
  obtain ⟨cur, h1, h2⟩ := h
  exact (show Blk w g 35 cur from h1).frozen k
theorem RowOfL.put {w : World} {g n k : Nat} (h : RowOfL w g n) (u : Value) : RowOfL (w.setCell ⟨g, k, none⟩ u) g n := by
  obtain ⟨cur, h1, h2⟩ := h
  exact ⟨_, (show Blk w g 35 cur from h1).put k u, by simpa using h2⟩
theorem owns_rowL {w : World} {base n : Nat} {v : Value} {xs : List Value} (h : w.ownsRow base 35 3 v n xs) : (v = .slice none 0 0 ∧ n = 0) ∨ ∃ g c, v = .slice (some ⟨g, 0, none⟩) n c ∧ base ≤ g ∧ RowOfL w g n ∧ n ≤ maxLen := by
  rcases h.2 with ⟨rfl, h0⟩ | ⟨g, cap, cur, rfl, hb, hg, hnc, hcm, hsz, _⟩
  · exact .inl ⟨rfl, h0⟩
  · exact .inr ⟨g, cap, rfl, hb, ⟨cur, hg, by rw [hsz]; exact Nat.mul_le_mul_right 3 hnc⟩, by omega⟩

theorem letterOf_c (x : Ly) (w : World) :
    Calls Tryd.prog 78 #[.agg #[.bool x.out, .string x.cls, .int .i64 x.lab]] w fun e w' => e = .returned (lv (ky x)) ∧ Kept w w' := by
  go_enter Tryd.func78, Tryd.ntmps78
  go_wp2_with fail
  refine bodyPost_ret (v := lv (ky x)) (by simp [results, Tryd.results78, go_sem, ky]) rfl ⟨rfl, ?_⟩
  first
    | exact ((Kept.refl w).alloc _).alloc _
    | exact (((Kept.refl w).alloc _).alloc _).setCell (by simp) _
    | exact ((((Kept.refl w).alloc _).alloc _).setCell (by simp) _).setCell (by simp) _

end Go.Proofs.YtdceafncncgfbaaDoor
