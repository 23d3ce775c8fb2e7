/- The chapter's table, as the laws make it. -/
import Derived.Test.YtghmgidnlopmaaaDoorChk
set_option linter.unusedSimpArgs false
set_option linter.unusedVariables false
set_option maxRecDepth 100000
namespace Go.Proofs.YtghmgidnlopmaaaDoor
open Go.ChangeShapes Go.WideShapes Go.ChangeAt Go.RowKit

abbrev tx (l : List UInt8) : ByteArray := ⟨l.toArray⟩

/-- The chapter's table, but for the name of B's field and the type of its method's parameter. -/
def twoT (fy pt : ByteArray) : List Tab.C :=
  [⟨tx [65], tx [], [⟨tx [120], tx [105, 110, 116]⟩], [⟨tx [109], [⟨tx [97], tx [63]⟩], tx [105, 110, 116]⟩]⟩,
   ⟨tx [66], tx [65], [⟨fy, tx [65]⟩], [⟨tx [109], [⟨tx [98], pt⟩], tx [105, 110, 116]⟩, ⟨tx [110], [], tx [66]⟩]⟩]

/-- Its blocks, from b on. -/
structure TwoM (b : Nat) (fy pt : ByteArray) (W : World) : Prop where
  m0 : Blk W b 35 #[.string (tx [120]), .string (tx [105, 110, 116])]
  m1 : Blk W (b + 1) 35 #[.string (tx [97]), .string (tx [63])]
  m2 : Blk W (b + 1 + 1) 26 #[.string (tx [109]), .slice (some ⟨b + 1, 0, none⟩) 1 1, .string (tx [105, 110, 116])]
  m4 : Blk W (b + 1 + 1 + 1 + 1) 35 #[.string fy, .string (tx [65])]
  m5 : Blk W (b + 1 + 1 + 1 + 1 + 1) 35 #[.string (tx [98]), .string pt]
  m6 : Blk W (b + 1 + 1 + 1 + 1 + 1 + 1) 26 #[.string (tx [109]), .slice (some ⟨b + 1 + 1 + 1 + 1 + 1, 0, none⟩) 1 1, .string (tx [105, 110, 116]), .string (tx [110]), .slice none 0 0, .string (tx [66])]
  m8 : Blk W (b + 1 + 1 + 1 + 1 + 1 + 1 + 1 + 1) 45 #[.string (tx [65]), .string (tx []), .slice (some ⟨b, 0, none⟩) 1 1, .slice (some ⟨b + 1 + 1, 0, none⟩) 1 1, .string (tx [66]), .string (tx [65]), .slice (some ⟨b + 1 + 1 + 1 + 1, 0, none⟩) 1 1, .slice (some ⟨b + 1 + 1 + 1 + 1 + 1 + 1, 0, none⟩) 2 2]

theorem TwoM.keep {b : Nat} {fy pt : ByteArray} {W W' : World} (h : TwoM b fy pt W) (k : Kept W W') : TwoM b fy pt W' :=
  ⟨h.m0.kept k, h.m1.kept k, h.m2.kept k, h.m4.kept k, h.m5.kept k, h.m6.kept k, h.m8.kept k⟩
theorem TwoM.only {b : Nat} {fy pt : ByteArray} {W W' : World} {S : Nat → Prop} (h : TwoM b fy pt W) (k : Only S W W') (hs : ∀ k, S k → k < b ∨ b + 8 < k) : TwoM b fy pt W' :=
  ⟨h.m0.only k (fun e => by have := hs _ e; omega), h.m1.only k (fun e => by have := hs _ e; omega), h.m2.only k (fun e => by have := hs _ e; omega), h.m4.only k (fun e => by have := hs _ e; omega), h.m5.only k (fun e => by have := hs _ e; omega), h.m6.only k (fun e => by have := hs _ e; omega), h.m8.only k (fun e => by have := hs _ e; omega)⟩
theorem TwoM.setT {b : Nat} {fy pt : ByteArray} {W : World} (h : TwoM b fy pt W) (p' : ByteArray) : TwoM b fy p' (W.setCell ⟨b + 1 + 1 + 1 + 1 + 1, 1, none⟩ (.string p')) := by
  have k : Only (· = b + 1 + 1 + 1 + 1 + 1) W (W.setCell ⟨b + 1 + 1 + 1 + 1 + 1, 1, none⟩ (.string p')) := (Only.refl _ W).put 1 _
  exact ⟨h.m0.only k (by omega), h.m1.only k (by omega), h.m2.only k (by omega), h.m4.only k (by omega), h.m5.put 1 _, h.m6.only k (by omega), h.m8.only k (by omega)⟩
theorem TwoM.setF {b : Nat} {fy pt : ByteArray} {W : World} (h : TwoM b fy pt W) (f' : ByteArray) : TwoM b f' pt (W.setCell ⟨b + 1 + 1 + 1 + 1, 0, none⟩ (.string f')) := by
  have k : Only (· = b + 1 + 1 + 1 + 1) W (W.setCell ⟨b + 1 + 1 + 1 + 1, 0, none⟩ (.string f')) := (Only.refl _ W).put 0 _
  exact ⟨h.m0.only k (by omega), h.m1.only k (by omega), h.m2.only k (by omega), h.m4.put 0 _, h.m5.only k (by omega), h.m6.only k (by omega), h.m8.only k (by omega)⟩

theorem row_one {α : Type} {k : Nat} {R : World → Nat → Nat → α → Prop} {w : World} {g : Nat} {x : α} (h : R w g 0 x) : Row k R w (.slice (some ⟨g, 0, none⟩) 1 1) [x] :=
  ⟨_, 1, rfl, Nat.le_refl _, by decide, fun i y hy => by
    match i, hy with
    | 0, hy => cases hy; exact ⟨g, 0, rfl, by simpa using h⟩⟩
theorem row_two {α : Type} {k : Nat} {R : World → Nat → Nat → α → Prop} {w : World} {g : Nat} {x y : α} (h : R w g 0 x) (h2 : R w g k y) : Row k R w (.slice (some ⟨g, 0, none⟩) 2 2) [x, y] :=
  ⟨_, 2, rfl, Nat.le_refl _, by decide, fun i z hz => by
    match i, hz with
    | 0, hz => cases hz; exact ⟨g, 0, rfl, by simpa using h⟩
    | 1, hz => cases hz; exact ⟨g, 0, rfl, by simpa using h2⟩⟩

theorem sz (l : List UInt8) (h : l.length ≤ 100) : (tx l).size ≤ maxLen := by
  show l.toArray.size ≤ maxLen
  unfold maxLen
  simp
  omega

theorem TwoM.tab {b : Nat} {fy pt : ByteArray} {W : World} (h : TwoM b fy pt W) (h1 : fy.size ≤ 100) (h2 : pt.size ≤ 100) : TabAt W (.slice (some ⟨b + 1 + 1 + 1 + 1 + 1 + 1 + 1 + 1, 0, none⟩) 2 2) (twoT fy pt) := by
  have e1 : fy.size ≤ maxLen := by unfold maxLen; omega
  have e2 : pt.size ≤ maxLen := by unfold maxLen; omega
  refine row_two ⟨h.m8.cell 0, h.m8.cell 1, ⟨_, h.m8.cell 2, row_one ⟨h.m0.cell 0, h.m0.cell 1, sz _ (by decide), sz _ (by decide)⟩⟩, ⟨_, h.m8.cell 3, row_one ⟨h.m2.cell 0, ⟨_, h.m2.cell 1, row_one ⟨h.m1.cell 0, h.m1.cell 1, sz _ (by decide), sz _ (by decide)⟩⟩, h.m2.cell 2, sz _ (by decide), sz _ (by decide)⟩⟩, sz _ (by decide), sz _ (by decide)⟩
    ⟨h.m8.cell 4, h.m8.cell 5, ⟨_, h.m8.cell 6, row_one ⟨h.m4.cell 0, h.m4.cell 1, e1, sz _ (by decide)⟩⟩, ⟨_, h.m8.cell 7, row_two ⟨h.m6.cell 0, ⟨_, h.m6.cell 1, row_one ⟨h.m5.cell 0, h.m5.cell 1, sz _ (by decide), e2⟩⟩, h.m6.cell 2, sz _ (by decide), sz _ (by decide)⟩ ⟨h.m6.cell 3, ⟨_, h.m6.cell 4, Row.nil⟩, h.m6.cell 5, sz _ (by decide), sz _ (by decide)⟩⟩, sz _ (by decide), sz _ (by decide)⟩

theorem two_small (fy pt : ByteArray) : Small (twoT fy pt) := by
  refine ⟨by simp [twoT], ?_, ?_, ?_⟩ <;> simp [twoT]

set_option maxHeartbeats 2000000 in
theorem two_c (w : World) : Calls Tryd.prog 6 #[] w fun e w' => e = .returned (.slice (some ⟨w.heap.size + 1 + 1 + 1 + 1 + 1 + 1 + 1 + 1, 0, none⟩) 2 2) ∧ TwoM w.heap.size (tx [121]) (tx [63]) w' ∧ Kept w w' ∧ w.heap.size + 9 ≤ w'.heap.size := by
  go_enter Tryd.func6, Tryd.ntmps6
  go_wp2_with fail
  go_ret
  refine ⟨rfl, ?_, ?_, by simp⟩
  · have n0 := Blk.new (w) 35 #[.string (tx [120]), .string (tx [105, 110, 116])]
    have n1 := Blk.new ((w).alloc (.cells #[.string (tx [120]), .string (tx [105, 110, 116])] 35)) 35 #[.string (tx [97]), .string (tx [63])]
    have n2 := Blk.new (((w).alloc (.cells #[.string (tx [120]), .string (tx [105, 110, 116])] 35)).alloc (.cells #[.string (tx [97]), .string (tx [63])] 35)) 26 #[.string (tx [109]), .slice (some ⟨w.heap.size + 1, 0, none⟩) 1 1, .string (tx [105, 110, 116])]
    have n3 := Blk.new ((((w).alloc (.cells #[.string (tx [120]), .string (tx [105, 110, 116])] 35)).alloc (.cells #[.string (tx [97]), .string (tx [63])] 35)).alloc (.cells #[.string (tx [109]), .slice (some ⟨w.heap.size + 1, 0, none⟩) 1 1, .string (tx [105, 110, 116])] 26)) 45 #[.string (tx [65]), .string (tx []), .slice (some ⟨w.heap.size, 0, none⟩) 1 1, .slice (some ⟨w.heap.size + 1 + 1, 0, none⟩) 1 1]
    have n4 := Blk.new (((((w).alloc (.cells #[.string (tx [120]), .string (tx [105, 110, 116])] 35)).alloc (.cells #[.string (tx [97]), .string (tx [63])] 35)).alloc (.cells #[.string (tx [109]), .slice (some ⟨w.heap.size + 1, 0, none⟩) 1 1, .string (tx [105, 110, 116])] 26)).alloc (.cells #[.string (tx [65]), .string (tx []), .slice (some ⟨w.heap.size, 0, none⟩) 1 1, .slice (some ⟨w.heap.size + 1 + 1, 0, none⟩) 1 1] 45)) 35 #[.string (tx [121]), .string (tx [65])]
    have n5 := Blk.new ((((((w).alloc (.cells #[.string (tx [120]), .string (tx [105, 110, 116])] 35)).alloc (.cells #[.string (tx [97]), .string (tx [63])] 35)).alloc (.cells #[.string (tx [109]), .slice (some ⟨w.heap.size + 1, 0, none⟩) 1 1, .string (tx [105, 110, 116])] 26)).alloc (.cells #[.string (tx [65]), .string (tx []), .slice (some ⟨w.heap.size, 0, none⟩) 1 1, .slice (some ⟨w.heap.size + 1 + 1, 0, none⟩) 1 1] 45)).alloc (.cells #[.string (tx [121]), .string (tx [65])] 35)) 35 #[.string (tx [98]), .string (tx [63])]
    have n6 := Blk.new (((((((w).alloc (.cells #[.string (tx [120]), .string (tx [105, 110, 116])] 35)).alloc (.cells #[.string (tx [97]), .string (tx [63])] 35)).alloc (.cells #[.string (tx [109]), .slice (some ⟨w.heap.size + 1, 0, none⟩) 1 1, .string (tx [105, 110, 116])] 26)).alloc (.cells #[.string (tx [65]), .string (tx []), .slice (some ⟨w.heap.size, 0, none⟩) 1 1, .slice (some ⟨w.heap.size + 1 + 1, 0, none⟩) 1 1] 45)).alloc (.cells #[.string (tx [121]), .string (tx [65])] 35)).alloc (.cells #[.string (tx [98]), .string (tx [63])] 35)) 26 #[.string (tx [109]), .slice (some ⟨w.heap.size + 1 + 1 + 1 + 1 + 1, 0, none⟩) 1 1, .string (tx [105, 110, 116]), .string (tx [110]), .slice none 0 0, .string (tx [66])]
    have n7 := Blk.new ((((((((w).alloc (.cells #[.string (tx [120]), .string (tx [105, 110, 116])] 35)).alloc (.cells #[.string (tx [97]), .string (tx [63])] 35)).alloc (.cells #[.string (tx [109]), .slice (some ⟨w.heap.size + 1, 0, none⟩) 1 1, .string (tx [105, 110, 116])] 26)).alloc (.cells #[.string (tx [65]), .string (tx []), .slice (some ⟨w.heap.size, 0, none⟩) 1 1, .slice (some ⟨w.heap.size + 1 + 1, 0, none⟩) 1 1] 45)).alloc (.cells #[.string (tx [121]), .string (tx [65])] 35)).alloc (.cells #[.string (tx [98]), .string (tx [63])] 35)).alloc (.cells #[.string (tx [109]), .slice (some ⟨w.heap.size + 1 + 1 + 1 + 1 + 1, 0, none⟩) 1 1, .string (tx [105, 110, 116]), .string (tx [110]), .slice none 0 0, .string (tx [66])] 26)) 45 #[.string (tx [66]), .string (tx [65]), .slice (some ⟨w.heap.size + 1 + 1 + 1 + 1, 0, none⟩) 1 1, .slice (some ⟨w.heap.size + 1 + 1 + 1 + 1 + 1 + 1, 0, none⟩) 2 2]
    have n8 := Blk.new (((((((((w).alloc (.cells #[.string (tx [120]), .string (tx [105, 110, 116])] 35)).alloc (.cells #[.string (tx [97]), .string (tx [63])] 35)).alloc (.cells #[.string (tx [109]), .slice (some ⟨w.heap.size + 1, 0, none⟩) 1 1, .string (tx [105, 110, 116])] 26)).alloc (.cells #[.string (tx [65]), .string (tx []), .slice (some ⟨w.heap.size, 0, none⟩) 1 1, .slice (some ⟨w.heap.size + 1 + 1, 0, none⟩) 1 1] 45)).alloc (.cells #[.string (tx [121]), .string (tx [65])] 35)).alloc (.cells #[.string (tx [98]), .string (tx [63])] 35)).alloc (.cells #[.string (tx [109]), .slice (some ⟨w.heap.size + 1 + 1 + 1 + 1 + 1, 0, none⟩) 1 1, .string (tx [105, 110, 116]), .string (tx [110]), .slice none 0 0, .string (tx [66])] 26)).alloc (.cells #[.string (tx [66]), .string (tx [65]), .slice (some ⟨w.heap.size + 1 + 1 + 1 + 1, 0, none⟩) 1 1, .slice (some ⟨w.heap.size + 1 + 1 + 1 + 1 + 1 + 1, 0, none⟩) 2 2] 45)) 45 #[.string (tx [65]), .string (tx []), .slice (some ⟨w.heap.size, 0, none⟩) 1 1, .slice (some ⟨w.heap.size + 1 + 1, 0, none⟩) 1 1, .string (tx [66]), .string (tx [65]), .slice (some ⟨w.heap.size + 1 + 1 + 1 + 1, 0, none⟩) 1 1, .slice (some ⟨w.heap.size + 1 + 1 + 1 + 1 + 1 + 1, 0, none⟩) 2 2]
    simp only [World.size_alloc] at n1 n2 n3 n4 n5 n6 n7 n8
    exact ⟨((((((((n0.alloc _).alloc _).alloc _).alloc _).alloc _).alloc _).alloc _).alloc _), (((((((n1.alloc _).alloc _).alloc _).alloc _).alloc _).alloc _).alloc _), ((((((n2.alloc _).alloc _).alloc _).alloc _).alloc _).alloc _), ((((n4.alloc _).alloc _).alloc _).alloc _), (((n5.alloc _).alloc _).alloc _), ((n6.alloc _).alloc _), n8⟩
  · exact ((((((((((Kept.refl w).alloc _).alloc _).alloc _).alloc _).alloc _).alloc _).alloc _).alloc _).alloc _)

end Go.Proofs.YtghmgidnlopmaaaDoor
