/- The chapter's table, as the laws make it. The laws' comparisons of lists, where both are the same; and a table's fault held against one. The law's helpers: a table's fault held against one, and some of the chapter's examples. The chapter's examples are answered as it says. -/
import Derived.Test.YthooiofaicdhgaaGreatDoorChk
import Derived.Test.YthooiofaicdhgaaGreatDoorTbf
import Derived.Test.YthooiofaicdhgaaGreatDoorBlk
import Derived.BigQuiet
import Derived.Test.YthooiofaicdhgaaGreatDoorSup
import Derived.Test.YthooiofaicdhgaaGreatDoorAri
import Derived.Test.YthooiofaicdhgaaGreatDoorMem
set_option linter.unusedSimpArgs false
set_option linter.unusedVariables false
set_option maxRecDepth 100000
namespace Go.Proofs.YthooiofaicdhgaaGreatDoor
open Go.ChangeShapes Go.WideShapes Go.ChangeAt Go.RowKit

abbrev tx (l : List UInt8) : ByteArray := ⟨l.toArray⟩

/-- The chapter's table, but for the name of B's field and the type of its method's parameter. -/
def twoT (fy pt : ByteArray) : List Tab.C :=
  [⟨tx [65], tx [], [⟨tx [120], tx [105, 110, 116]⟩], [⟨tx [109], [⟨tx [97], tx [63]⟩], tx [105, 110, 116]⟩]⟩,
   ⟨tx [66], tx [65], [⟨fy, tx [65]⟩], [⟨tx [109], [⟨tx [98], pt⟩], tx [105, 110, 116]⟩, ⟨tx [110], [], tx [66]⟩]⟩]

/-- Its blocks, from b on. -/
structure TwoM (b : Nat) (fy pt : ByteArray) (W : World) : Prop where
  m0 : Blk W b 50 #[.string (tx [120]), .string (tx [105, 110, 116])]
  m1 : Blk W (b + 1) 50 #[.string (tx [97]), .string (tx [63])]
  m2 : Blk W (b + 1 + 1) 53 #[.string (tx [109]), .slice (some ⟨b + 1, 0, none⟩) 1 1, .string (tx [105, 110, 116])]
  m4 : Blk W (b + 1 + 1 + 1 + 1) 50 #[.string fy, .string (tx [65])]
  m5 : Blk W (b + 1 + 1 + 1 + 1 + 1) 50 #[.string (tx [98]), .string pt]
  m6 : Blk W (b + 1 + 1 + 1 + 1 + 1 + 1) 53 #[.string (tx [109]), .slice (some ⟨b + 1 + 1 + 1 + 1 + 1, 0, none⟩) 1 1, .string (tx [105, 110, 116]), .string (tx [110]), .slice none 0 0, .string (tx [66])]
  m8 : Blk W (b + 1 + 1 + 1 + 1 + 1 + 1 + 1 + 1) 46 #[.string (tx [65]), .string (tx []), .slice (some ⟨b, 0, none⟩) 1 1, .slice (some ⟨b + 1 + 1, 0, none⟩) 1 1, .string (tx [66]), .string (tx [65]), .slice (some ⟨b + 1 + 1 + 1 + 1, 0, none⟩) 1 1, .slice (some ⟨b + 1 + 1 + 1 + 1 + 1 + 1, 0, none⟩) 2 2]

theorem TwoM.keep {b : Nat} {fy pt : ByteArray} {W W' : World} (h : TwoM b fy pt W) (k : Kept W W') : TwoM b fy pt W' :=
  ⟨h.m0.kept k, h.m1.kept k, h.m2.kept k, h.m4.kept k, h.m5.kept k, h.m6.kept k, h.m8.kept k⟩
theorem TwoM.only {b : Nat} {fy pt : ByteArray} {W W' : World} {S : Nat → Prop} (h : TwoM b fy pt W) (k : Only S W W') (hs : ∀ k, S k → k < b ∨ b + 8 < k) : TwoM b fy pt W' :=
  ⟨h.m0.only k (fun e => by have := hs _ e; omega), h.m1.only k (fun e => by have := hs _ e; omega), h.m2.only k (fun e => by have := hs _ e; omega), h.m4.only k (fun e => by have := hs _ e; omega), h.m5.only k (fun e => by have := hs _ e; omega), h.m6.only k (fun e => by have := hs _ e; omega), h.m8.only k (fun e => by have := hs _ e; omega)⟩
theorem TwoM.setT {b : Nat} {fy pt : ByteArray} {W : World} (h : TwoM b fy pt W) (p' : ByteArray) : TwoM b fy p' (W.setCell ⟨b + 1 + 1 + 1 + 1 + 1, 1, none⟩ (.string p')) := by
  have k : Only (· = b + 1 + 1 + 1 + 1 + 1) W (W.setCell ⟨b + 1 + 1 + 1 + 1 + 1, 1, none⟩ (.string p')) := (Only.refl _ W).put 1 _
  exact ⟨h.m0.only k (by omega), h.m1.only k (by omega), h.m2.only k (by omega), h.m4.only k (by omega), h.m5.put 1 _, h.m6.only k (by omega), h.m8.only k (by omega)⟩
theorem TwoM.setF {b : Nat} {fy pt : ByteArray} {W : World} (h : TwoM b fy pt W) (f' : ByteArray) : TwoM b f' pt (W.setCell ⟨b + 1 + 1 + 1 + 1, 0, none⟩ (.string f')) := by
  have k : Only (· = b + 1 + 1 + 1 + 1) W (W.setCell ⟨b + 1 + 1 + 1 + 1, 0, none⟩ (.string f')) := (Only.refl _ W).put 0 _
  exact ⟨h.m0.only k (by omega), h.m1.only k (by omega), h.m2.only k (by omega), h.m4.put 0 _, h.m5.only k (by omega), h.m6.only k (by omega), h.m8.only k (by omega)⟩

theorem row_one {α : Type} {k : Nat} {R : World → Nat → Nat → α → Prop} {w : World} {g : Nat} {x : α} (h : R w g 0 x) : Row k R w (.slice (some ⟨g, 0, none⟩) 1 1) [x] :=
  ⟨_, 1, rfl, Nat.le_refl _, by decide, fun i y hy => by
    match i, hy with
    | 0, hy => cases hy; exact ⟨g, 0, rfl, by simpa using h⟩⟩
theorem row_two {α : Type} {k : Nat} {R : World → Nat → Nat → α → Prop} {w : World} {g : Nat} {x y : α} (h : R w g 0 x) (h2 : R w g k y) : Row k R w (.slice (some ⟨g, 0, none⟩) 2 2) [x, y] :=
  ⟨_, 2, rfl, Nat.le_refl _, by decide, fun i z hz => by
    match i, hz with
    | 0, hz => cases hz; exact ⟨g, 0, rfl, by simpa using h⟩
    | 1, hz => cases hz; exact ⟨g, 0, rfl, by simpa using h2⟩⟩

theorem sz (l : List UInt8) (h : l.length ≤ 100) : (tx l).size ≤ maxLen := by
  show l.toArray.size ≤ maxLen
  unfold maxLen
  simp
  omega

theorem TwoM.tab {b : Nat} {fy pt : ByteArray} {W : World} (h : TwoM b fy pt W) (h1 : fy.size ≤ 100) (h2 : pt.size ≤ 100) : TabAt W (.slice (some ⟨b + 1 + 1 + 1 + 1 + 1 + 1 + 1 + 1, 0, none⟩) 2 2) (twoT fy pt) := by
  have e1 : fy.size ≤ maxLen := by unfold maxLen; omega
  have e2 : pt.size ≤ maxLen := by unfold maxLen; omega
  refine row_two ⟨h.m8.cell 0, h.m8.cell 1, ⟨_, h.m8.cell 2, row_one ⟨h.m0.cell 0, h.m0.cell 1, sz _ (by decide), sz _ (by decide)⟩⟩, ⟨_, h.m8.cell 3, row_one ⟨h.m2.cell 0, ⟨_, h.m2.cell 1, row_one ⟨h.m1.cell 0, h.m1.cell 1, sz _ (by decide), sz _ (by decide)⟩⟩, h.m2.cell 2, sz _ (by decide), sz _ (by decide)⟩⟩, sz _ (by decide), sz _ (by decide)⟩
    ⟨h.m8.cell 4, h.m8.cell 5, ⟨_, h.m8.cell 6, row_one ⟨h.m4.cell 0, h.m4.cell 1, e1, sz _ (by decide)⟩⟩, ⟨_, h.m8.cell 7, row_two ⟨h.m6.cell 0, ⟨_, h.m6.cell 1, row_one ⟨h.m5.cell 0, h.m5.cell 1, sz _ (by decide), e2⟩⟩, h.m6.cell 2, sz _ (by decide), sz _ (by decide)⟩ ⟨h.m6.cell 3, ⟨_, h.m6.cell 4, Row.nil⟩, h.m6.cell 5, sz _ (by decide), sz _ (by decide)⟩⟩, sz _ (by decide), sz _ (by decide)⟩

theorem two_small (fy pt : ByteArray) : Small (twoT fy pt) := by
  refine ⟨by simp [twoT], ?_, ?_, ?_⟩ <;> simp [twoT]

end Go.Proofs.YthooiofaicdhgaaGreatDoor

namespace Go.Proofs.YthooiofaicdhgaaGreatDoor
open Go.ChangeShapes Go.WideShapes Go.ChangeAt Go.RowKit

def TxtR (w : World) (b o : Nat) (x : ByteArray) : Prop := w.cell? ⟨b, o, none⟩ = some (.string x)
def MemR2 (w : World) (b o : Nat) (x : ByteArray × Int) : Prop := w.cell? ⟨b, o, none⟩ = some (.string x.1) ∧ w.cell? ⟨b, o + 1, none⟩ = some (.int .i64 x.2)

set_option maxHeartbeats 2000000 in
theorem sameTexts_y (l : List ByteArray) (u v : Value) (w : World) (hu : Row 1 TxtR w u l) (hv : Row 1 TxtR w v l) :
    Calls Tryz.prog 23 #[u, v] w fun e w' => e = .returned (.bool true) ∧ Kept w w' := by
  obtain ⟨a, c, rfl, ha1, ha2, hat⟩ := hu
  obtain ⟨b, d, rfl, hb1, hb2, hbt⟩ := hv
  unfold maxLen at ha2 hb2
  have HAT := Lib.hid hat
  have HBT := Lib.hid hbt
  clear hat hbt
  go_enter Tryz.func23, Tryz.ntmps23
  go_wp2_with fail
  go_loopw [5, 6] (fun p q wr => ∃ j : Nat, p = .bool true ∧ j ≤ l.length ∧ q = .int .i64 j ∧ Kept w wr) (fun p q wr => l.length - (intOf q).toNat)
  case atStart => exact ⟨0, rfl, Nat.zero_le _, rfl, Kept.refl _⟩
  case round =>
    obtain ⟨j, rfl, hj, rfl, hkp⟩ := hrel
    by_cases hlt : j < l.length
    · have hltI : (j : Int) < (l.length : Int) := by omega
      have hx : l[j]? = some l[j] := List.getElem?_eq_getElem hlt
      obtain ⟨ab, ao, rfl, hax⟩ := HAT.out _ _ hx
      obtain ⟨bb, bo, rfl, hbx⟩ := HBT.out _ _ hx
      generalize l[j] = x at hx hax hbx
      have x0 : wr.cell? ⟨ab, ao + j, none⟩ = some (.string x) := by simpa [TxtR] using hkp.cell hax
      have y0 : wr.cell? ⟨bb, bo + j, none⟩ = some (.string x) := by simpa [TxtR] using hkp.cell hbx
      have HK := Lib.hid hkp
      clear hx hax hbx hkp
      go_wp2_with fail
      go_region
      all_goals
        go_wp2_with fail
        go_roundw
        case rel => exact ⟨j + 1, rfl, by omega, by go_num, HK.out.drew⟩
        case measure => simp [intOf]; omega
    · have hltI : ¬ (j : Int) < (l.length : Int) := by omega
      go_wp2_with fail
      go_ret
      exact ⟨rfl, hkp⟩

set_option maxHeartbeats 2000000 in
theorem sameVars_y (l : List Tab.V) (u v : Value) (w : World) (hu : Row 2 VarAt w u l) (hv : Row 2 VarAt w v l) :
    Calls Tryz.prog 133 #[u, v] w fun e w' => e = .returned (.bool true) ∧ Kept w w' := by
  obtain ⟨a, c, rfl, ha1, ha2, hat⟩ := hu
  obtain ⟨b, d, rfl, hb1, hb2, hbt⟩ := hv
  unfold maxLen at ha2 hb2
  have HAT := Lib.hid hat
  have HBT := Lib.hid hbt
  clear hat hbt
  go_enter Tryz.func133, Tryz.ntmps133
  go_wp2_with fail
  go_loopw [5, 6] (fun p q wr => ∃ j : Nat, p = .bool true ∧ j ≤ l.length ∧ q = .int .i64 j ∧ Kept w wr) (fun p q wr => l.length - (intOf q).toNat)
  case atStart => exact ⟨0, rfl, Nat.zero_le _, rfl, Kept.refl _⟩
  case round =>
    obtain ⟨j, rfl, hj, rfl, hkp⟩ := hrel
    by_cases hlt : j < l.length
    · have hltI : (j : Int) < (l.length : Int) := by omega
      have hx : l[j]? = some l[j] := List.getElem?_eq_getElem hlt
      obtain ⟨ab, ao, rfl, hax⟩ := HAT.out _ _ hx
      obtain ⟨bb, bo, rfl, hbx⟩ := HBT.out _ _ hx
      generalize l[j] = x at hx hax hbx
      obtain ⟨x0, x1, _⟩ := hax.kept hkp
      obtain ⟨y0, y1, _⟩ := hbx.kept hkp
      have HK := Lib.hid hkp
      clear hx hax hbx hkp
      go_wp2_with fail
      go_region
      all_goals
        go_wp2_with fail
        go_roundw
        case rel => exact ⟨j + 1, rfl, by omega, by go_num, HK.out.drew⟩
        case measure => simp [intOf]; omega
    · have hltI : ¬ (j : Int) < (l.length : Int) := by omega
      go_wp2_with fail
      go_ret
      exact ⟨rfl, hkp⟩

end Go.Proofs.YthooiofaicdhgaaGreatDoor

namespace Go.Proofs.YthooiofaicdhgaaGreatDoor
open Go.ChangeShapes Go.WideShapes Go.ChangeAt Go.RowKit

/-- A class without fields and methods. -/
abbrev lone (n s : ByteArray) : Tab.C := ⟨n, s, [], []⟩
theorem tab_one {W : World} {g : Nat} {n s : ByteArray} (h : Blk W g 46 #[.string n, .string s, .slice none 0 0, .slice none 0 0]) (h1 : n.size ≤ maxLen) (h2 : s.size ≤ maxLen) : TabAt W (.slice (some ⟨g, 0, none⟩) 1 1) [lone n s] :=
  row_one ⟨h.cell 0, h.cell 1, ⟨_, h.cell 2, Row.nil⟩, ⟨_, h.cell 3, Row.nil⟩, h1, h2⟩
theorem small_lones (l : List (ByteArray × ByteArray)) (h : l.length ≤ 1000) : Small (l.map fun x => lone x.1 x.2) := by
  refine ⟨by simpa using h, ?_, ?_, ?_⟩ <;> (intro c hc; obtain ⟨x, _, rfl⟩ := List.mem_map.1 hc; simp)

theorem ck_two : Tab.check (twoT (tx [121]) (tx [63])) = (0, 0) := by kernel_rfl
theorem ck_cycle : Tab.check [lone (tx [65]) (tx [65])] = (9, 0) := by kernel_rfl
theorem sup_two : Tab.supers (twoT (tx [121]) (tx [63])) (tx [66]) = [tx [66], tx [65]] := by kernel_rfl

end Go.Proofs.YthooiofaicdhgaaGreatDoor

namespace Go.Proofs.YthooiofaicdhgaaGreatDoor
open Go.ChangeShapes Go.WideShapes Go.ChangeAt Go.RowKit

abbrev T0 : List Tab.C := twoT (tx [121]) (tx [63])
theorem ck_mth : Tab.method T0 (tx [66]) (tx [109]) = some (⟨tx [109], [⟨tx [98], tx [63]⟩], tx [105, 110, 116]⟩, tx [66]) := by kernel_rfl
theorem ck_fld1 : Tab.field T0 (tx [66]) (tx [120]) = some (tx [105, 110, 116]) := by kernel_rfl
theorem ck_fld2 : Tab.field T0 (tx [65]) (tx [121]) = some (tx [65]) ∨ Tab.field T0 (tx [65]) (tx [121]) = none := by right; kernel_rfl
theorem ck_fld3 : Tab.field T0 (tx [65]) (tx [121]) = none := by kernel_rfl
theorem ck_ari : Tab.arity T0 (tx [66]) (tx [110]) = some 0 := by kernel_rfl
theorem ck_find : Tab.ix Tab.C.name T0 (tx [67]) = none := by kernel_rfl
theorem ck_flds : Tab.fields T0 (tx [66]) = [⟨tx [120], tx [105, 110, 116]⟩, ⟨tx [121], tx [65]⟩] := by kernel_rfl
theorem ck_mems : Tab.members T0 (tx [66]) = [(tx [120], -1), (tx [121], -1), (tx [109], 1), (tx [110], 0)] := by kernel_rfl
theorem ck_double : Tab.check [lone (tx [65]) (tx []), lone (tx [65]) (tx [])] = (8, 1) := by kernel_rfl
theorem ck_form : Tab.check [lone (tx [97]) (tx [])] = (5, 0) := by kernel_rfl
theorem ck_name1 : Tab.check [lone (tx [65]) (tx [67])] = (6, 0) := by kernel_rfl
theorem ck_name2 : Tab.check [⟨tx [65], tx [], [⟨tx [120], tx [67]⟩], []⟩] = (6, 0) := by kernel_rfl
theorem ck_over : Tab.check (twoT (tx [121]) (tx [105, 110, 116])) = (10, 1) := by kernel_rfl
theorem ck_dbl : Tab.check (twoT (tx [120]) (tx [63])) = (8, 1) := by kernel_rfl

theorem mem_row {w : World} {base : Nat} {v : Value} {l : List (ByteArray × Int)} (h : w.ownsRow base 169 2 v l.length (l.flatMap bCells)) : Row 2 MemR2 w v l := by
  rcases h.2 with ⟨rfl, h0⟩ | ⟨g, cap, cur, rfl, hg1, hg2, hg3, hg4, hg5, hg6⟩
  · obtain rfl : l = [] := List.eq_nil_of_length_eq_zero h0
    exact Row.nil
  · refine ⟨_, cap, rfl, hg3, hg4, fun i x hx => ⟨g, 0, rfl, ?_⟩⟩
    have c0 := h.cells (g := g) rfl _ _ (flat_at bCells bCells_len l i 0 x hx (by omega))
    have c1 := h.cells (g := g) rfl _ _ (flat_at bCells bCells_len l i 1 x hx (by omega))
    rw [addr_plain] at c0 c1
    exact ⟨by simpa using c0, by simpa [Nat.add_assoc] using c1⟩

theorem row_four {α : Type} {k : Nat} {R : World → Nat → Nat → α → Prop} {w : World} {g : Nat} {x y z u : α} (h : R w g 0 x) (h2 : R w g k y) (h3 : R w g (2 * k) z) (h4 : R w g (3 * k) u) : Row k R w (.slice (some ⟨g, 0, none⟩) 4 4) [x, y, z, u] :=
  ⟨_, 4, rfl, Nat.le_refl _, by decide, fun i a ha => by
    match i, ha with
    | 0, ha => cases ha; exact ⟨g, 0, rfl, by simpa using h⟩
    | 1, ha => cases ha; exact ⟨g, 0, rfl, by simpa using h2⟩
    | 2, ha => cases ha; exact ⟨g, 0, rfl, by simpa using h3⟩
    | 3, ha => cases ha; exact ⟨g, 0, rfl, by simpa using h4⟩⟩

end Go.Proofs.YthooiofaicdhgaaGreatDoor
