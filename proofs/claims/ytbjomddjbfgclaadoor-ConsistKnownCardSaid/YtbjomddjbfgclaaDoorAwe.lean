/- The chapter's table, as the laws make it. The laws' comparisons of lists, where both are the same; and a table's fault held against one. The law's helpers: a table's fault held against one, and some of the chapter's examples. -/
import Derived.Test.YtbjomddjbfgclaaDoorChk
import Derived.Test.YtbjomddjbfgclaaDoorTbf
import Derived.Test.YtbjomddjbfgclaaDoorBlk
import Derived.BigQuiet
import Derived.Test.YtbjomddjbfgclaaDoorSup
set_option linter.unusedSimpArgs false
set_option linter.unusedVariables false
set_option maxRecDepth 100000
namespace Go.Proofs.YtbjomddjbfgclaaDoor
open Go.ChangeShapes Go.WideShapes Go.ChangeAt Go.RowKit

abbrev tx (l : List UInt8) : ByteArray := ⟨l.toArray⟩

/-- The chapter's table, but for the name of B's field and the type of its method's parameter. -/
def twoT (fy pt : ByteArray) : List Tab.C :=
  [⟨tx [65], tx [], [⟨tx [120], tx [105, 110, 116]⟩], [⟨tx [109], [⟨tx [97], tx [63]⟩], tx [105, 110, 116]⟩]⟩,
   ⟨tx [66], tx [65], [⟨fy, tx [65]⟩], [⟨tx [109], [⟨tx [98], pt⟩], tx [105, 110, 116]⟩, ⟨tx [110], [], tx [66]⟩]⟩]

/-- Its blocks, from b on. -/
structure TwoM (b : Nat) (fy pt : ByteArray) (W : World) : Prop where
  m0 : Blk W b 35 #[.string (tx [120]), .string (tx [105, 110, 116])]
  m1 : Blk W (b + 1) 35 #[.string (tx [97]), .string (tx [63])]
  m2 : Blk W (b + 1 + 1) 26 #[.string (tx [109]), .slice (some ⟨b + 1, 0, none⟩) 1 1, .string (tx [105, 110, 116])]
  m4 : Blk W (b + 1 + 1 + 1 + 1) 35 #[.string fy, .string (tx [65])]
  m5 : Blk W (b + 1 + 1 + 1 + 1 + 1) 35 #[.string (tx [98]), .string pt]
  m6 : Blk W (b + 1 + 1 + 1 + 1 + 1 + 1) 26 #[.string (tx [109]), .slice (some ⟨b + 1 + 1 + 1 + 1 + 1, 0, none⟩) 1 1, .string (tx [105, 110, 116]), .string (tx [110]), .slice none 0 0, .string (tx [66])]
  m8 : Blk W (b + 1 + 1 + 1 + 1 + 1 + 1 + 1 + 1) 45 #[.string (tx [65]), .string (tx []), .slice (some ⟨b, 0, none⟩) 1 1, .slice (some ⟨b + 1 + 1, 0, none⟩) 1 1, .string (tx [66]), .string (tx [65]), .slice (some ⟨b + 1 + 1 + 1 + 1, 0, none⟩) 1 1, .slice (some ⟨b + 1 + 1 + 1 + 1 + 1 + 1, 0, none⟩) 2 2]

theorem TwoM.keep {b : Nat} {fy pt : ByteArray} {W W' : World} (h : TwoM b fy pt W) (k : Kept W W') : TwoM b fy pt W' :=
  ⟨h.m0.kept k, h.m1.kept k, h.m2.kept k, h.m4.kept k, h.m5.kept k, h.m6.kept k, h.m8.kept k⟩
theorem TwoM.only {b : Nat} {fy pt : ByteArray} {W W' : World} {S : Nat → Prop} (h : TwoM b fy pt W) (k : Only S W W') (hs : ∀ k, S k → k < b ∨ b + 8 < k) : TwoM b fy pt W' :=
  ⟨h.m0.only k (fun e => by have := hs _ e; omega), h.m1.only k (fun e => by have := hs _ e; omega), h.m2.only k (fun e => by have := hs _ e; omega), h.m4.only k (fun e => by have := hs _ e; omega), h.m5.only k (fun e => by have := hs _ e; omega), h.m6.only k (fun e => by have := hs _ e; omega), h.m8.only k (fun e => by have := hs _ e; omega)⟩
theorem TwoM.setT {b : Nat} {fy pt : ByteArray} {W : World} (h : TwoM b fy pt W) (p' : ByteArray) : TwoM b fy p' (W.setCell ⟨b + 1 + 1 + 1 + 1 + 1, 1, none⟩ (.string p')) := by
  have k : Only (· = b + 1 + 1 + 1 + 1 + 1) W (W.setCell ⟨b + 1 + 1 + 1 + 1 + 1, 1, none⟩ (.string p')) := (Only.refl _ W).put 1 _
  exact ⟨h.m0.only k (by omega), h.m1.only k (by omega), h.m2.only k (by omega), h.m4.only k (by omega), h.m5.put 1 _, h.m6.only k (by omega), h.m8.only k (by omega)⟩
theorem TwoM.setF {b : Nat} {fy pt : ByteArray} {W : World} (h : TwoM b fy pt W) (f' : ByteArray) : TwoM b f' pt (W.setCell ⟨b + 1 + 1 + 1 + 1, 0, none⟩ (.string f')) := by
  have k : Only (· = b + 1 + 1 + 1 + 1) W (W.setCell ⟨b + 1 + 1 + 1 + 1, 0, none⟩ (.string f')) := (Only.refl _ W).put 0 _
  exact ⟨h.m0.only k (by omega), h.m1.only k (by omega), h.m2.only k (by omega), h.m4.put 0 _, h.m5.only k (by omega), h.m6.only k (by omega), h.m8.only k (by omega)⟩

theorem row_one {α : Type} {k : Nat} {R : World → Nat → Nat → α → Prop} {w : World} {g : Nat} {x : α} (h : R w g 0 x) : Row k R w (.slice (some ⟨g, 0, none⟩) 1 1) [x] :=
  ⟨_, 1, rfl, Nat.le_refl _, by decide, fun i y hy => by
    match i, hy with
    | 0, hy => cases hy; exact ⟨g, 0, rfl, by simpa using h⟩⟩
theorem row_two {α : Type} {k : Nat} {R : World → Nat → Nat → α → Prop} {w : World} {g : Nat} {x y : α} (h : R w g 0 x) (h2 : R w g k y) : Row k R w (.slice (some ⟨g, 0, none⟩) 2 2) [x, y] :=
  ⟨_, 2, rfl, Nat.le_refl _, by decide, fun i z hz => by
    match i, hz with
    | 0, hz => cases hz; exact ⟨g, 0, rfl, by simpa using h⟩
    | 1, hz => cases hz; exact ⟨g, 0, rfl, by simpa using h2⟩⟩

theorem sz (l : List UInt8) (h : l.length ≤ 100) : (tx l).size ≤ maxLen := by
  show l.toArray.size ≤ maxLen
  unfold maxLen
  simp
  omega

theorem TwoM.tab {b : Nat} {fy pt : ByteArray} {W : World} (h : TwoM b fy pt W) (h1 : fy.size ≤ 100) (h2 : pt.size ≤ 100) : TabAt W (.slice (some ⟨b + 1 + 1 + 1 + 1 + 1 + 1 + 1 + 1, 0, none⟩) 2 2) (twoT fy pt) := by
  have e1 : fy.size ≤ maxLen := by unfold maxLen; omega
  have e2 : pt.size ≤ maxLen := by unfold maxLen; omega
  refine row_two ⟨h.m8.cell 0, h.m8.cell 1, ⟨_, h.m8.cell 2, row_one ⟨h.m0.cell 0, h.m0.cell 1, sz _ (by decide), sz _ (by decide)⟩⟩, ⟨_, h.m8.cell 3, row_one ⟨h.m2.cell 0, ⟨_, h.m2.cell 1, row_one ⟨h.m1.cell 0, h.m1.cell 1, sz _ (by decide), sz _ (by decide)⟩⟩, h.m2.cell 2, sz _ (by decide), sz _ (by decide)⟩⟩, sz _ (by decide), sz _ (by decide)⟩
    ⟨h.m8.cell 4, h.m8.cell 5, ⟨_, h.m8.cell 6, row_one ⟨h.m4.cell 0, h.m4.cell 1, e1, sz _ (by decide)⟩⟩, ⟨_, h.m8.cell 7, row_two ⟨h.m6.cell 0, ⟨_, h.m6.cell 1, row_one ⟨h.m5.cell 0, h.m5.cell 1, sz _ (by decide), e2⟩⟩, h.m6.cell 2, sz _ (by decide), sz _ (by decide)⟩ ⟨h.m6.cell 3, ⟨_, h.m6.cell 4, Row.nil⟩, h.m6.cell 5, sz _ (by decide), sz _ (by decide)⟩⟩, sz _ (by decide), sz _ (by decide)⟩

theorem two_small (fy pt : ByteArray) : Small (twoT fy pt) := by
  refine ⟨by simp [twoT], ?_, ?_, ?_⟩ <;> simp [twoT]

set_option maxHeartbeats 2000000 in
theorem two_c (w : World) : Calls Tryd.prog 11 #[] w fun e w' => e = .returned (.slice (some ⟨w.heap.size + 1 + 1 + 1 + 1 + 1 + 1 + 1 + 1, 0, none⟩) 2 2) ∧ TwoM w.heap.size (tx [121]) (tx [63]) w' ∧ Kept w w' ∧ w.heap.size + 9 ≤ w'.heap.size := by
  go_enter Tryd.func11, Tryd.ntmps11
  go_wp2_with fail
  go_ret
  refine ⟨rfl, ?_, ?_, by simp⟩
  · have n0 := Blk.new (w) 35 #[.string (tx [120]), .string (tx [105, 110, 116])]
    have n1 := Blk.new ((w).alloc (.cells #[.string (tx [120]), .string (tx [105, 110, 116])] 35)) 35 #[.string (tx [97]), .string (tx [63])]
    have n2 := Blk.new (((w).alloc (.cells #[.string (tx [120]), .string (tx [105, 110, 116])] 35)).alloc (.cells #[.string (tx [97]), .string (tx [63])] 35)) 26 #[.string (tx [109]), .slice (some ⟨w.heap.size + 1, 0, none⟩) 1 1, .string (tx [105, 110, 116])]
    have n3 := Blk.new ((((w).alloc (.cells #[.string (tx [120]), .string (tx [105, 110, 116])] 35)).alloc (.cells #[.string (tx [97]), .string (tx [63])] 35)).alloc (.cells #[.string (tx [109]), .slice (some ⟨w.heap.size + 1, 0, none⟩) 1 1, .string (tx [105, 110, 116])] 26)) 45 #[.string (tx [65]), .string (tx []), .slice (some ⟨w.heap.size, 0, none⟩) 1 1, .slice (some ⟨w.heap.size + 1 + 1, 0, none⟩) 1 1]
    have n4 := Blk.new (((((w).alloc (.cells #[.string (tx [120]), .string (tx [105, 110, 116])] 35)).alloc (.cells #[.string (tx [97]), .string (tx [63])] 35)).alloc (.cells #[.string (tx [109]), .slice (some ⟨w.heap.size + 1, 0, none⟩) 1 1, .string (tx [105, 110, 116])] 26)).alloc (.cells #[.string (tx [65]), .string (tx []), .slice (some ⟨w.heap.size, 0, none⟩) 1 1, .slice (some ⟨w.heap.size + 1 + 1, 0, none⟩) 1 1] 45)) 35 #[.string (tx [121]), .string (tx [65])]
    have n5 := Blk.new ((((((w).alloc (.cells #[.string (tx [120]), .string (tx [105, 110, 116])] 35)).alloc (.cells #[.string (tx [97]), .string (tx [63])] 35)).alloc (.cells #[.string (tx [109]), .slice (some ⟨w.heap.size + 1, 0, none⟩) 1 1, .string (tx [105, 110, 116])] 26)).alloc (.cells #[.string (tx [65]), .string (tx []), .slice (some ⟨w.heap.size, 0, none⟩) 1 1, .slice (some ⟨w.heap.size + 1 + 1, 0, none⟩) 1 1] 45)).alloc (.cells #[.string (tx [121]), .string (tx [65])] 35)) 35 #[.string (tx [98]), .string (tx [63])]
    have n6 := Blk.new (((((((w).alloc (.cells #[.string (tx [120]), .string (tx [105, 110, 116])] 35)).alloc (.cells #[.string (tx [97]), .string (tx [63])] 35)).alloc (.cells #[.string (tx [109]), .slice (some ⟨w.heap.size + 1, 0, none⟩) 1 1, .string (tx [105, 110, 116])] 26)).alloc (.cells #[.string (tx [65]), .string (tx []), .slice (some ⟨w.heap.size, 0, none⟩) 1 1, .slice (some ⟨w.heap.size + 1 + 1, 0, none⟩) 1 1] 45)).alloc (.cells #[.string (tx [121]), .string (tx [65])] 35)).alloc (.cells #[.string (tx [98]), .string (tx [63])] 35)) 26 #[.string (tx [109]), .slice (some ⟨w.heap.size + 1 + 1 + 1 + 1 + 1, 0, none⟩) 1 1, .string (tx [105, 110, 116]), .string (tx [110]), .slice none 0 0, .string (tx [66])]
    have n7 := Blk.new ((((((((w).alloc (.cells #[.string (tx [120]), .string (tx [105, 110, 116])] 35)).alloc (.cells #[.string (tx [97]), .string (tx [63])] 35)).alloc (.cells #[.string (tx [109]), .slice (some ⟨w.heap.size + 1, 0, none⟩) 1 1, .string (tx [105, 110, 116])] 26)).alloc (.cells #[.string (tx [65]), .string (tx []), .slice (some ⟨w.heap.size, 0, none⟩) 1 1, .slice (some ⟨w.heap.size + 1 + 1, 0, none⟩) 1 1] 45)).alloc (.cells #[.string (tx [121]), .string (tx [65])] 35)).alloc (.cells #[.string (tx [98]), .string (tx [63])] 35)).alloc (.cells #[.string (tx [109]), .slice (some ⟨w.heap.size + 1 + 1 + 1 + 1 + 1, 0, none⟩) 1 1, .string (tx [105, 110, 116]), .string (tx [110]), .slice none 0 0, .string (tx [66])] 26)) 45 #[.string (tx [66]), .string (tx [65]), .slice (some ⟨w.heap.size + 1 + 1 + 1 + 1, 0, none⟩) 1 1, .slice (some ⟨w.heap.size + 1 + 1 + 1 + 1 + 1 + 1, 0, none⟩) 2 2]
    have n8 := Blk.new (((((((((w).alloc (.cells #[.string (tx [120]), .string (tx [105, 110, 116])] 35)).alloc (.cells #[.string (tx [97]), .string (tx [63])] 35)).alloc (.cells #[.string (tx [109]), .slice (some ⟨w.heap.size + 1, 0, none⟩) 1 1, .string (tx [105, 110, 116])] 26)).alloc (.cells #[.string (tx [65]), .string (tx []), .slice (some ⟨w.heap.size, 0, none⟩) 1 1, .slice (some ⟨w.heap.size + 1 + 1, 0, none⟩) 1 1] 45)).alloc (.cells #[.string (tx [121]), .string (tx [65])] 35)).alloc (.cells #[.string (tx [98]), .string (tx [63])] 35)).alloc (.cells #[.string (tx [109]), .slice (some ⟨w.heap.size + 1 + 1 + 1 + 1 + 1, 0, none⟩) 1 1, .string (tx [105, 110, 116]), .string (tx [110]), .slice none 0 0, .string (tx [66])] 26)).alloc (.cells #[.string (tx [66]), .string (tx [65]), .slice (some ⟨w.heap.size + 1 + 1 + 1 + 1, 0, none⟩) 1 1, .slice (some ⟨w.heap.size + 1 + 1 + 1 + 1 + 1 + 1, 0, none⟩) 2 2] 45)) 45 #[.string (tx [65]), .string (tx []), .slice (some ⟨w.heap.size, 0, none⟩) 1 1, .slice (some ⟨w.heap.size + 1 + 1, 0, none⟩) 1 1, .string (tx [66]), .string (tx [65]), .slice (some ⟨w.heap.size + 1 + 1 + 1 + 1, 0, none⟩) 1 1, .slice (some ⟨w.heap.size + 1 + 1 + 1 + 1 + 1 + 1, 0, none⟩) 2 2]
    simp only [World.size_alloc] at n1 n2 n3 n4 n5 n6 n7 n8
    exact ⟨((((((((n0.alloc _).alloc _).alloc _).alloc _).alloc _).alloc _).alloc _).alloc _), (((((((n1.alloc _).alloc _).alloc _).alloc _).alloc _).alloc _).alloc _), ((((((n2.alloc _).alloc _).alloc _).alloc _).alloc _).alloc _), ((((n4.alloc _).alloc _).alloc _).alloc _), (((n5.alloc _).alloc _).alloc _), ((n6.alloc _).alloc _), n8⟩
  · exact ((((((((((Kept.refl w).alloc _).alloc _).alloc _).alloc _).alloc _).alloc _).alloc _).alloc _).alloc _)

end Go.Proofs.YtbjomddjbfgclaaDoor

namespace Go.Proofs.YtbjomddjbfgclaaDoor
open Go.ChangeShapes Go.WideShapes Go.ChangeAt Go.RowKit

def TxtR (w : World) (b o : Nat) (x : ByteArray) : Prop := w.cell? ⟨b, o, none⟩ = some (.string x)
def MemR2 (w : World) (b o : Nat) (x : ByteArray × Int) : Prop := w.cell? ⟨b, o, none⟩ = some (.string x.1) ∧ w.cell? ⟨b, o + 1, none⟩ = some (.int .i64 x.2)

set_option maxHeartbeats 2000000 in
theorem sameTexts_y (l : List ByteArray) (u v : Value) (w : World) (hu : Row 1 TxtR w u l) (hv : Row 1 TxtR w v l) :
    Calls Tryd.prog 31 #[u, v] w fun e w' => e = .returned (.bool true) ∧ Kept w w' := by
  obtain ⟨a, c, rfl, ha1, ha2, hat⟩ := hu
  obtain ⟨b, d, rfl, hb1, hb2, hbt⟩ := hv
  unfold maxLen at ha2 hb2
  have HAT := Lib.hid hat
  have HBT := Lib.hid hbt
  clear hat hbt
  go_enter Tryd.func31, Tryd.ntmps31
  go_wp2_with fail
  go_loopw [5, 6] (fun p q wr => ∃ j : Nat, p = .bool true ∧ j ≤ l.length ∧ q = .int .i64 j ∧ Kept w wr) (fun p q wr => l.length - (intOf q).toNat)
  case atStart => exact ⟨0, rfl, Nat.zero_le _, rfl, Kept.refl _⟩
  case round =>
    obtain ⟨j, rfl, hj, rfl, hkp⟩ := hrel
    by_cases hlt : j < l.length
    · have hltI : (j : Int) < (l.length : Int) := by omega
      have hx : l[j]? = some l[j] := List.getElem?_eq_getElem hlt
      obtain ⟨ab, ao, rfl, hax⟩ := HAT.out _ _ hx
      obtain ⟨bb, bo, rfl, hbx⟩ := HBT.out _ _ hx
      generalize l[j] = x at hx hax hbx
      have x0 : wr.cell? ⟨ab, ao + j, none⟩ = some (.string x) := by simpa [TxtR] using hkp.cell hax
      have y0 : wr.cell? ⟨bb, bo + j, none⟩ = some (.string x) := by simpa [TxtR] using hkp.cell hbx
      have HK := Lib.hid hkp
      clear hx hax hbx hkp
      go_wp2_with fail
      go_region
      all_goals
        go_wp2_with fail
        go_roundw
        case rel => exact ⟨j + 1, rfl, by omega, by go_num, HK.out.drew⟩
        case measure => simp [intOf]; omega
    · have hltI : ¬ (j : Int) < (l.length : Int) := by omega
      go_wp2_with fail
      go_ret
      exact ⟨rfl, hkp⟩

set_option maxHeartbeats 2000000 in
theorem sameVars_y (l : List Tab.V) (u v : Value) (w : World) (hu : Row 2 VarAt w u l) (hv : Row 2 VarAt w v l) :
    Calls Tryd.prog 16 #[u, v] w fun e w' => e = .returned (.bool true) ∧ Kept w w' := by
  obtain ⟨a, c, rfl, ha1, ha2, hat⟩ := hu
  obtain ⟨b, d, rfl, hb1, hb2, hbt⟩ := hv
  unfold maxLen at ha2 hb2
  have HAT := Lib.hid hat
  have HBT := Lib.hid hbt
  clear hat hbt
  go_enter Tryd.func16, Tryd.ntmps16
  go_wp2_with fail
  go_loopw [5, 6] (fun p q wr => ∃ j : Nat, p = .bool true ∧ j ≤ l.length ∧ q = .int .i64 j ∧ Kept w wr) (fun p q wr => l.length - (intOf q).toNat)
  case atStart => exact ⟨0, rfl, Nat.zero_le _, rfl, Kept.refl _⟩
  case round =>
    obtain ⟨j, rfl, hj, rfl, hkp⟩ := hrel
    by_cases hlt : j < l.length
    · have hltI : (j : Int) < (l.length : Int) := by omega
      have hx : l[j]? = some l[j] := List.getElem?_eq_getElem hlt
      obtain ⟨ab, ao, rfl, hax⟩ := HAT.out _ _ hx
      obtain ⟨bb, bo, rfl, hbx⟩ := HBT.out _ _ hx
      generalize l[j] = x at hx hax hbx
      obtain ⟨x0, x1, _⟩ := hax.kept hkp
      obtain ⟨y0, y1, _⟩ := hbx.kept hkp
      have HK := Lib.hid hkp
      clear hx hax hbx hkp
      go_wp2_with fail
      go_region
      all_goals
        go_wp2_with fail
        go_roundw
        case rel => exact ⟨j + 1, rfl, by omega, by go_num, HK.out.drew⟩
        case measure => simp [intOf]; omega
    · have hltI : ¬ (j : Int) < (l.length : Int) := by omega
      go_wp2_with fail
      go_ret
      exact ⟨rfl, hkp⟩

set_option maxHeartbeats 2000000 in
theorem sameMembers_y (l : List (ByteArray × Int)) (u v : Value) (w : World) (hu : Row 2 MemR2 w u l) (hv : Row 2 MemR2 w v l) :
    Calls Tryd.prog 18 #[u, v] w fun e w' => e = .returned (.bool true) ∧ Kept w w' := by
  obtain ⟨a, c, rfl, ha1, ha2, hat⟩ := hu
  obtain ⟨b, d, rfl, hb1, hb2, hbt⟩ := hv
  unfold maxLen at ha2 hb2
  have HAT := Lib.hid hat
  have HBT := Lib.hid hbt
  clear hat hbt
  go_enter Tryd.func18, Tryd.ntmps18
  go_wp2_with fail
  go_loopw [5, 6] (fun p q wr => ∃ j : Nat, p = .bool true ∧ j ≤ l.length ∧ q = .int .i64 j ∧ Kept w wr) (fun p q wr => l.length - (intOf q).toNat)
  case atStart => exact ⟨0, rfl, Nat.zero_le _, rfl, Kept.refl _⟩
  case round =>
    obtain ⟨j, rfl, hj, rfl, hkp⟩ := hrel
    by_cases hlt : j < l.length
    · have hltI : (j : Int) < (l.length : Int) := by omega
      have hx : l[j]? = some l[j] := List.getElem?_eq_getElem hlt
      obtain ⟨ab, ao, rfl, hax⟩ := HAT.out _ _ hx
      obtain ⟨bb, bo, rfl, hbx⟩ := HBT.out _ _ hx
      generalize l[j] = x at hx hax hbx
      obtain ⟨x0, x1⟩ := (⟨hkp.cell hax.1, hkp.cell hax.2⟩ : MemR2 wr ab (ao + j * 2) x)
      obtain ⟨y0, y1⟩ := (⟨hkp.cell hbx.1, hkp.cell hbx.2⟩ : MemR2 wr bb (bo + j * 2) x)
      have HK := Lib.hid hkp
      clear hx hax hbx hkp
      go_wp2_with fail
      go_region
      all_goals
        go_wp2_with fail
        go_roundw
        case rel => exact ⟨j + 1, rfl, by omega, by go_num, HK.out.drew⟩
        case measure => simp [intOf]; omega
    · have hltI : ¬ (j : Int) < (l.length : Int) := by omega
      go_wp2_with fail
      go_ret
      exact ⟨rfl, hkp⟩

end Go.Proofs.YtbjomddjbfgclaaDoor

namespace Go.Proofs.YtbjomddjbfgclaaDoor
open Go.ChangeShapes Go.WideShapes Go.ChangeAt Go.RowKit

theorem faulty_y (t : List Tab.C) (v : Value) (e i : Int) (w : World) (hT : Tb w) (h : TabAt w v t) (hS : Small t) (hc : Tab.check t = (e, i)) :
    Calls Tryd.prog 20 #[.int .i64 e, .int .i64 i, v] w fun r w' => r = .returned (.bool true) ∧ Kept w w' := by
  obtain ⟨a, c, rfl, h1, h2, h3⟩ := id h
  have H := Lib.hid (check_c t a c w hT h hS)
  rw [hc] at H
  clear h h1 h2 h3 hT hc
  go_enter Tryd.func20, Tryd.ntmps20
  go_wp2_with fail
  refine H.out.mono ?_
  rintro r w1 ⟨rfl, k1⟩
  go_wp2_with fail
  go_ret
  exact ⟨by first | rfl | simp, k1⟩

/-- A class without fields and methods. -/
abbrev lone (n s : ByteArray) : Tab.C := ⟨n, s, [], []⟩
theorem tab_one {W : World} {g : Nat} {n s : ByteArray} (h : Blk W g 45 #[.string n, .string s, .slice none 0 0, .slice none 0 0]) (h1 : n.size ≤ maxLen) (h2 : s.size ≤ maxLen) : TabAt W (.slice (some ⟨g, 0, none⟩) 1 1) [lone n s] :=
  row_one ⟨h.cell 0, h.cell 1, ⟨_, h.cell 2, Row.nil⟩, ⟨_, h.cell 3, Row.nil⟩, h1, h2⟩
theorem small_lones (l : List (ByteArray × ByteArray)) (h : l.length ≤ 1000) : Small (l.map fun x => lone x.1 x.2) := by
  refine ⟨by simpa using h, ?_, ?_, ?_⟩ <;> (intro c hc; obtain ⟨x, _, rfl⟩ := List.mem_map.1 hc; simp)

theorem ck_two : Tab.check (twoT (tx [121]) (tx [63])) = (0, 0) := by kernel_rfl
theorem ck_cycle : Tab.check [lone (tx [65]) (tx [65])] = (9, 0) := by kernel_rfl
theorem sup_two : Tab.supers (twoT (tx [121]) (tx [63])) (tx [66]) = [tx [66], tx [65]] := by kernel_rfl

set_option maxHeartbeats 2000000 in
theorem awake_c (w : World) (hT : Tb w) : Calls Tryd.prog 21 #[] w fun e w' => e = .returned (.bool true) ∧ Kept w w' := by
  have HT := Lib.hid hT
  clear hT
  go_enter Tryd.func21, Tryd.ntmps21
  go_wp2_with fail
  refine (two_c w).mono ?_
  rintro e w1 ⟨rfl, hm, k1, _⟩
  have HM1 := Lib.hid hm
  have HK1 := Lib.hid k1
  clear hm k1
  go_wp2_with fail
  refine (faulty_y _ _ 0 0 w1 (HT.out.kept HK1.out) (HM1.out.tab (by decide) (by decide)) (two_small _ _) ck_two).mono ?_
  rintro e w2 ⟨rfl, k2⟩
  have HK2 := Lib.hid (HK1.out.trans k2)
  clear k2
  go_wp2_with fail
  refine (two_c w2).mono ?_
  rintro e w3 ⟨rfl, hm, k3, _⟩
  have HM3 := Lib.hid hm
  have HK3 := Lib.hid (HK2.out.trans k3)
  clear hm k3
  go_wp2_with fail
  refine (supers_b _ _ _ (tx [66]) w3 (HM3.out.tab (by decide) (by decide)) (two_small _ _).len).mono ?_
  rintro e w4 ⟨v, rfl, hr, k4⟩
  rw [sup_two] at hr
  have HR4 := Lib.hid hr
  have HK4 := Lib.hid (HK3.out.trans k4)
  obtain ⟨va, vc, rfl, _⟩ := hr
  clear k4
  have hkA : Kept w4 (w4.alloc (.cells #[.string (tx [66]), .string (tx [65])] 9)) := (Kept.refl w4).alloc _
  have HB4 := Lib.hid (Blk.new w4 9 #[.string (tx [66]), .string (tx [65])])
  have HS4 := Lib.hid (sameTexts_y [tx [66], tx [65]] _ (.slice (some ⟨w4.heap.size, 0, none⟩) 2 2) _ (HR4.out.mono fun b o x r => hkA.cell r) (row_two (R := TxtR) (HB4.out.cell 0) (HB4.out.cell 1)))
  have HKA := Lib.hid (HK4.out.trans hkA)
  clear hkA
  go_wp2_with fail
  refine HS4.out.mono ?_
  rintro e w5 ⟨rfl, k5⟩
  have HK5 := Lib.hid (HKA.out.trans k5)
  clear k5
  have hkB : Kept w5 (w5.alloc (.cells #[.string (tx [65]), .string (tx [65]), .slice none 0 0, .slice none 0 0] 45)) := (Kept.refl w5).alloc _
  have HF5 := Lib.hid (faulty_y [lone (tx [65]) (tx [65])] (.slice (some ⟨w5.heap.size, 0, none⟩) 1 1) 9 0 _ (HT.out.kept (HK5.out.trans hkB)) (tab_one (Blk.new w5 _ _) (sz _ (by decide)) (sz _ (by decide))) (small_lones [(tx [65], tx [65])] (by decide)) ck_cycle)
  have HKB := Lib.hid (HK5.out.trans hkB)
  clear hkB
  go_wp2_with fail
  refine HF5.out.mono ?_
  rintro e w6 ⟨rfl, k6⟩
  go_wp2_with fail
  go_ret
  exact ⟨rfl, HKB.out.trans k6⟩

end Go.Proofs.YtbjomddjbfgclaaDoor
