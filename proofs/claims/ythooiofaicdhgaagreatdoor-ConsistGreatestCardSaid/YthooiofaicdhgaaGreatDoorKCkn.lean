/- The chapter's table of consist, made by the law's own helpers. The chapter's examples of consist are answered as it says. -/
import Derived.Test.YthooiofaicdhgaaGreatDoorKCgg
import Derived.Test.YthooiofaicdhgaaGreatDoorKKwn
set_option linter.unusedSimpArgs false
set_option linter.unusedVariables false
set_option maxRecDepth 100000
namespace Go.Proofs.YthooiofaicdhgaaGreatDoor
open Go.ChangeShapes Go.WideShapes Go.ChangeAt Go.RowKit
/-- What method answers: a method of one parameter. -/
def MthOut (nm p r : ByteArray) (w : World) (e : Ending) (w' : World) : Prop :=
 e = .returned (.agg #[.string nm, .slice (some ⟨w.heap.size + 2, 0, none⟩) 1 1, .string r]) ∧ Blk w' (w.heap.size + 2) 50 #[.string (tx [97]), .string p] ∧ Kept w w'
theorem mth_c (nm p r : ByteArray) (w : World) (hp : ¬ p = ⟨#[]⟩) : Calls Tryz.prog 135 #[.string nm, .string p, .string r] w (MthOut nm p r w) := by
 have b1 : (p.toList == []) = false := lit_no hp
 go_enter Tryz.func135, Tryz.ntmps135
 go_wp2_with fail
 refine bodyPost_ret (v := .agg #[.string nm, .slice (some ⟨w.heap.size + 2, 0, none⟩) 1 1, .string r]) (by simp [results, Tryz.results135, go_sem]) rfl ⟨rfl, ?_, (((Kept.refl w).alloc _).alloc _).alloc _⟩
 have h := Blk.new ((w.alloc (.cells #[.string nm, .slice (some ⟨w.heap.size + 1 + 1, 0, none⟩) 1 1, .string r] 53)).alloc (.cells #[.string nm, .slice (some ⟨w.heap.size + 1 + 1, 0, none⟩) 1 1, .string r] 53)) 50 #[.string (tx [97]), .string p]
 rw [World.size_alloc, World.size_alloc] at h
 exact h
/-- The chapter's table. -/
abbrev vv (n t : List UInt8) : Tab.V := ⟨tx n, tx t⟩
abbrev mm (p r : List UInt8) : Tab.M := ⟨tx [109], [vv [97] p], tx r⟩
abbrev T7 : List Tab.C := [⟨tx [65], tx [], [], [mm [105, 110, 116] [63]]⟩, ⟨tx [66], tx [], [], [mm [63] [105, 110, 116]]⟩, ⟨tx [67], tx [], [], [mm [115, 116, 114] [105, 110, 116]]⟩, ⟨tx [68], tx [], [vv [120] [65]], [mm [105, 110, 116] [105, 110, 116]]⟩,
 ⟨tx [69], tx [], [vv [110, 101, 120, 116] [69], vv [120] [63]], []⟩, ⟨tx [70], tx [], [vv [110, 101, 120, 116] [70], vv [120] [105, 110, 116]], []⟩]
theorem t7_small : Small T7 := ⟨by decide, by decide, by decide, by decide⟩
theorem row_six {α : Type} {k : Nat} {R : World → Nat → Nat → α → Prop} {w : World} {g : Nat} {x y z u v q : α} (h : R w g 0 x) (h2 : R w g k y) (h3 : R w g (2 * k) z) (h4 : R w g (3 * k) u) (h5 : R w g (4 * k) v) (h6 : R w g (5 * k) q) : Row k R w (.slice (some ⟨g, 0, none⟩) 6 6) [x, y, z, u, v, q] :=
 ⟨_, 6, rfl, Nat.le_refl _, by decide, fun i a ha => by
  match i, ha with
  | 0, ha => cases ha; exact ⟨g, 0, rfl, by simpa using h⟩
  | 1, ha => cases ha; exact ⟨g, 0, rfl, by simpa using h2⟩
  | 2, ha => cases ha; exact ⟨g, 0, rfl, by simpa using h3⟩
  | 3, ha => cases ha; exact ⟨g, 0, rfl, by simpa using h4⟩
  | 4, ha => cases ha; exact ⟨g, 0, rfl, by simpa using h5⟩
  | 5, ha => cases ha; exact ⟨g, 0, rfl, by simpa using h6⟩⟩
theorem var_at {W : World} {g : Nat} {cs : Array Value} (h : Blk W g 50 cs) (o : Nat) (n s : List UInt8) (h0 : cs[o]? = some (.string (tx n))) (h1 : cs[o + 1]? = some (.string (tx s))) (hn : n.length ≤ 100) (hs : s.length ≤ 100) : VarAt W g o (vv n s) :=
 ⟨(h.cell o).trans h0, (h.cell (o + 1)).trans h1, sz _ hn, sz _ hs⟩
theorem mrow {W : World} {pb sb : Nat} {p r : List UInt8} (hp : Blk W pb 50 #[.string (tx [97]), .string (tx p)]) (hs : Blk W sb 53 #[.string (tx [109]), .slice (some ⟨pb, 0, none⟩) 1 1, .string (tx r)]) (h1 : p.length ≤ 100) (h2 : r.length ≤ 100) :
  Row 3 SigAt W (.slice (some ⟨sb, 0, none⟩) 1 1) [mm p r] :=
 row_one ⟨hs.cell 0, ⟨_, hs.cell 1, row_one (var_at hp 0 _ _ rfl rfl (by decide) h1)⟩, hs.cell 2, sz _ (by decide), sz _ h2⟩
theorem cls_at {W : World} {g : Nat} {cs : Array Value} {fv mv : Value} {fs : List Tab.V} {ms : List Tab.M} (h : Blk W g 46 cs) (o : Nat) (n : List UInt8) (h0 : cs[o]? = some (.string (tx n))) (h1 : cs[o + 1]? = some (.string (tx []))) (h2 : cs[o + 2]? = some fv) (h3 : cs[o + 3]? = some mv)
  (hf : Row 2 VarAt W fv fs) (hm : Row 3 SigAt W mv ms) (hn : n.length ≤ 100) : ClsAt W g o ⟨tx n, tx [], fs, ms⟩ :=
 ⟨(h.cell o).trans h0, (h.cell (o + 1)).trans h1, ⟨_, (h.cell (o + 2)).trans h2, hf⟩, ⟨_, (h.cell (o + 3)).trans h3, hm⟩, sz _ hn, sz _ (by decide)⟩
/-- What six answers. -/
def SixOut (w : World) (e : Ending) (w' : World) : Prop := ∃ g, e = .returned (.slice (some ⟨g, 0, none⟩) 6 6) ∧ TabAt w' (.slice (some ⟨g, 0, none⟩) 6 6) T7 ∧ Kept w w'
set_option maxHeartbeats 4000000 in
theorem six_c (w : World) : Calls Tryz.prog 85 #[] w (SixOut w) := by
 go_enter Tryz.func85, Tryz.ntmps85
 go_wp2_with fail
 refine (mth_c (tx [109]) (tx [105, 110, 116]) (tx [63]) _ (by decide)).mono ?_
 rintro e w1 ⟨rfl, b1, k1⟩
 have B1 := Lib.hid b1
 have K1 := Lib.hid k1
 clear b1 k1
 go_wp2_with fail
 refine (mth_c (tx [109]) (tx [63]) (tx [105, 110, 116]) _ (by decide)).mono ?_
 rintro e w2 ⟨rfl, b2, k2⟩
 have B2 := Lib.hid b2
 have K2 := Lib.hid k2
 clear b2 k2
 go_wp2_with fail
 refine (mth_c (tx [109]) (tx [115, 116, 114]) (tx [105, 110, 116]) _ (by decide)).mono ?_
 rintro e w3 ⟨rfl, b3, k3⟩
 have B3 := Lib.hid b3
 have K3 := Lib.hid k3
 clear b3 k3
 go_wp2_with fail
 refine (mth_c (tx [109]) (tx [105, 110, 116]) (tx [105, 110, 116]) _ (by decide)).mono ?_
 rintro e w4 ⟨rfl, b4, k4⟩
 have B4 := Lib.hid b4
 have K4 := Lib.hid k4
 clear b4 k4
 go_wp2_with fail
 go_ret
 have c1 : Kept w1 (w1.alloc (.cells #[.string (tx [109]), .slice (some ⟨w.heap.size + 2, 0, none⟩) 1 1, .string (tx [63])] 53)) := (Kept.refl w1).alloc _
 have c2 : Kept w2 (w2.alloc (.cells #[.string (tx [109]), .slice (some ⟨w1.heap.size + 1 + 2, 0, none⟩) 1 1, .string (tx [105, 110, 116])] 53)) := (Kept.refl w2).alloc _
 have c3 : Kept w3 ((w3.alloc (.cells #[.string (tx [109]), .slice (some ⟨w2.heap.size + 1 + 2, 0, none⟩) 1 1, .string (tx [105, 110, 116])] 53)).alloc (.cells #[.string (tx [120]), .string (tx [65])] 50)) := ((Kept.refl w3).alloc _).alloc _
 have c4 : Kept w4 ((((w4.alloc (.cells #[.string (tx [109]), .slice (some ⟨w3.heap.size + 1 + 1 + 2, 0, none⟩) 1 1, .string (tx [105, 110, 116])] 53)).alloc (.cells #[.string (tx [110, 101, 120, 116]), .string (tx [69]), .string (tx [120]), .string (tx [63])] 50)).alloc (.cells #[.string (tx [110, 101, 120, 116]), .string (tx [70]), .string (tx [120]), .string (tx [105, 110, 116])] 50)).alloc (.cells #[.string (tx [65]), .string (tx []), .slice none 0 0, .slice (some ⟨w1.heap.size, 0, none⟩) 1 1, .string (tx [66]), .string (tx []), .slice none 0 0, .slice (some ⟨w2.heap.size, 0, none⟩) 1 1, .string (tx [67]), .string (tx []), .slice none 0 0, .slice (some ⟨w3.heap.size, 0, none⟩) 1 1, .string (tx [68]), .string (tx []), .slice (some ⟨w3.heap.size + 1, 0, none⟩) 1 1, .slice (some ⟨w4.heap.size, 0, none⟩) 1 1, .string (tx [69]), .string (tx []), .slice (some ⟨w4.heap.size + 1, 0, none⟩) 2 2, .slice none 0 0, .string (tx [70]), .string (tx []), .slice (some ⟨w4.heap.size + 1 + 1, 0, none⟩) 2 2, .slice none 0 0] 46)) := ((((Kept.refl w4).alloc _).alloc _).alloc _).alloc _
 have k3 : Kept w3 ((((w4.alloc (.cells #[.string (tx [109]), .slice (some ⟨w3.heap.size + 1 + 1 + 2, 0, none⟩) 1 1, .string (tx [105, 110, 116])] 53)).alloc (.cells #[.string (tx [110, 101, 120, 116]), .string (tx [69]), .string (tx [120]), .string (tx [63])] 50)).alloc (.cells #[.string (tx [110, 101, 120, 116]), .string (tx [70]), .string (tx [120]), .string (tx [105, 110, 116])] 50)).alloc (.cells #[.string (tx [65]), .string (tx []), .slice none 0 0, .slice (some ⟨w1.heap.size, 0, none⟩) 1 1, .string (tx [66]), .string (tx []), .slice none 0 0, .slice (some ⟨w2.heap.size, 0, none⟩) 1 1, .string (tx [67]), .string (tx []), .slice none 0 0, .slice (some ⟨w3.heap.size, 0, none⟩) 1 1, .string (tx [68]), .string (tx []), .slice (some ⟨w3.heap.size + 1, 0, none⟩) 1 1, .slice (some ⟨w4.heap.size, 0, none⟩) 1 1, .string (tx [69]), .string (tx []), .slice (some ⟨w4.heap.size + 1, 0, none⟩) 2 2, .slice none 0 0, .string (tx [70]), .string (tx []), .slice (some ⟨w4.heap.size + 1 + 1, 0, none⟩) 2 2, .slice none 0 0] 46)) := (c3.trans K4.out).trans c4
 have k2 : Kept w2 ((((w4.alloc (.cells #[.string (tx [109]), .slice (some ⟨w3.heap.size + 1 + 1 + 2, 0, none⟩) 1 1, .string (tx [105, 110, 116])] 53)).alloc (.cells #[.string (tx [110, 101, 120, 116]), .string (tx [69]), .string (tx [120]), .string (tx [63])] 50)).alloc (.cells #[.string (tx [110, 101, 120, 116]), .string (tx [70]), .string (tx [120]), .string (tx [105, 110, 116])] 50)).alloc (.cells #[.string (tx [65]), .string (tx []), .slice none 0 0, .slice (some ⟨w1.heap.size, 0, none⟩) 1 1, .string (tx [66]), .string (tx []), .slice none 0 0, .slice (some ⟨w2.heap.size, 0, none⟩) 1 1, .string (tx [67]), .string (tx []), .slice none 0 0, .slice (some ⟨w3.heap.size, 0, none⟩) 1 1, .string (tx [68]), .string (tx []), .slice (some ⟨w3.heap.size + 1, 0, none⟩) 1 1, .slice (some ⟨w4.heap.size, 0, none⟩) 1 1, .string (tx [69]), .string (tx []), .slice (some ⟨w4.heap.size + 1, 0, none⟩) 2 2, .slice none 0 0, .string (tx [70]), .string (tx []), .slice (some ⟨w4.heap.size + 1 + 1, 0, none⟩) 2 2, .slice none 0 0] 46)) := (c2.trans K3.out).trans k3
 have k1 : Kept w1 ((((w4.alloc (.cells #[.string (tx [109]), .slice (some ⟨w3.heap.size + 1 + 1 + 2, 0, none⟩) 1 1, .string (tx [105, 110, 116])] 53)).alloc (.cells #[.string (tx [110, 101, 120, 116]), .string (tx [69]), .string (tx [120]), .string (tx [63])] 50)).alloc (.cells #[.string (tx [110, 101, 120, 116]), .string (tx [70]), .string (tx [120]), .string (tx [105, 110, 116])] 50)).alloc (.cells #[.string (tx [65]), .string (tx []), .slice none 0 0, .slice (some ⟨w1.heap.size, 0, none⟩) 1 1, .string (tx [66]), .string (tx []), .slice none 0 0, .slice (some ⟨w2.heap.size, 0, none⟩) 1 1, .string (tx [67]), .string (tx []), .slice none 0 0, .slice (some ⟨w3.heap.size, 0, none⟩) 1 1, .string (tx [68]), .string (tx []), .slice (some ⟨w3.heap.size + 1, 0, none⟩) 1 1, .slice (some ⟨w4.heap.size, 0, none⟩) 1 1, .string (tx [69]), .string (tx []), .slice (some ⟨w4.heap.size + 1, 0, none⟩) 2 2, .slice none 0 0, .string (tx [70]), .string (tx []), .slice (some ⟨w4.heap.size + 1 + 1, 0, none⟩) 2 2, .slice none 0 0] 46)) := (c1.trans K2.out).trans k2
 have pA := B1.out.kept k1
 have pB := B2.out.kept k2
 have pC := B3.out.kept k3
 have pD := B4.out.kept c4
 rw [World.size_alloc] at pB pC
 rw [World.size_alloc, World.size_alloc] at pD
 have sA := (Blk.new w1 53 #[.string (tx [109]), .slice (some ⟨w.heap.size + 2, 0, none⟩) 1 1, .string (tx [63])]).kept (K2.out.trans k2)
 have sB := (Blk.new w2 53 #[.string (tx [109]), .slice (some ⟨w1.heap.size + 1 + 2, 0, none⟩) 1 1, .string (tx [105, 110, 116])]).kept (K3.out.trans k3)
 have sC := ((Blk.new w3 53 #[.string (tx [109]), .slice (some ⟨w2.heap.size + 1 + 2, 0, none⟩) 1 1, .string (tx [105, 110, 116])]).alloc (.cells #[.string (tx [120]), .string (tx [65])] 50)).kept (K4.out.trans c4)
 have vD := (Blk.new (w3.alloc (.cells #[.string (tx [109]), .slice (some ⟨w2.heap.size + 1 + 2, 0, none⟩) 1 1, .string (tx [105, 110, 116])] 53)) 50 #[.string (tx [120]), .string (tx [65])]).kept (K4.out.trans c4)
 rw [World.size_alloc] at vD
 have sD : Blk ((((w4.alloc (.cells #[.string (tx [109]), .slice (some ⟨w3.heap.size + 1 + 1 + 2, 0, none⟩) 1 1, .string (tx [105, 110, 116])] 53)).alloc (.cells #[.string (tx [110, 101, 120, 116]), .string (tx [69]), .string (tx [120]), .string (tx [63])] 50)).alloc (.cells #[.string (tx [110, 101, 120, 116]), .string (tx [70]), .string (tx [120]), .string (tx [105, 110, 116])] 50)).alloc (.cells #[.string (tx [65]), .string (tx []), .slice none 0 0, .slice (some ⟨w1.heap.size, 0, none⟩) 1 1, .string (tx [66]), .string (tx []), .slice none 0 0, .slice (some ⟨w2.heap.size, 0, none⟩) 1 1, .string (tx [67]), .string (tx []), .slice none 0 0, .slice (some ⟨w3.heap.size, 0, none⟩) 1 1, .string (tx [68]), .string (tx []), .slice (some ⟨w3.heap.size + 1, 0, none⟩) 1 1, .slice (some ⟨w4.heap.size, 0, none⟩) 1 1, .string (tx [69]), .string (tx []), .slice (some ⟨w4.heap.size + 1, 0, none⟩) 2 2, .slice none 0 0, .string (tx [70]), .string (tx []), .slice (some ⟨w4.heap.size + 1 + 1, 0, none⟩) 2 2, .slice none 0 0] 46)) w4.heap.size 53 _ := (((Blk.new w4 53 #[.string (tx [109]), .slice (some ⟨w3.heap.size + 1 + 1 + 2, 0, none⟩) 1 1, .string (tx [105, 110, 116])]).alloc (.cells #[.string (tx [110, 101, 120, 116]), .string (tx [69]), .string (tx [120]), .string (tx [63])] 50)).alloc (.cells #[.string (tx [110, 101, 120, 116]), .string (tx [70]), .string (tx [120]), .string (tx [105, 110, 116])] 50)).alloc (.cells #[.string (tx [65]), .string (tx []), .slice none 0 0, .slice (some ⟨w1.heap.size, 0, none⟩) 1 1, .string (tx [66]), .string (tx []), .slice none 0 0, .slice (some ⟨w2.heap.size, 0, none⟩) 1 1, .string (tx [67]), .string (tx []), .slice none 0 0, .slice (some ⟨w3.heap.size, 0, none⟩) 1 1, .string (tx [68]), .string (tx []), .slice (some ⟨w3.heap.size + 1, 0, none⟩) 1 1, .slice (some ⟨w4.heap.size, 0, none⟩) 1 1, .string (tx [69]), .string (tx []), .slice (some ⟨w4.heap.size + 1, 0, none⟩) 2 2, .slice none 0 0, .string (tx [70]), .string (tx []), .slice (some ⟨w4.heap.size + 1 + 1, 0, none⟩) 2 2, .slice none 0 0] 46)
 have vE : Blk ((((w4.alloc (.cells #[.string (tx [109]), .slice (some ⟨w3.heap.size + 1 + 1 + 2, 0, none⟩) 1 1, .string (tx [105, 110, 116])] 53)).alloc (.cells #[.string (tx [110, 101, 120, 116]), .string (tx [69]), .string (tx [120]), .string (tx [63])] 50)).alloc (.cells #[.string (tx [110, 101, 120, 116]), .string (tx [70]), .string (tx [120]), .string (tx [105, 110, 116])] 50)).alloc (.cells #[.string (tx [65]), .string (tx []), .slice none 0 0, .slice (some ⟨w1.heap.size, 0, none⟩) 1 1, .string (tx [66]), .string (tx []), .slice none 0 0, .slice (some ⟨w2.heap.size, 0, none⟩) 1 1, .string (tx [67]), .string (tx []), .slice none 0 0, .slice (some ⟨w3.heap.size, 0, none⟩) 1 1, .string (tx [68]), .string (tx []), .slice (some ⟨w3.heap.size + 1, 0, none⟩) 1 1, .slice (some ⟨w4.heap.size, 0, none⟩) 1 1, .string (tx [69]), .string (tx []), .slice (some ⟨w4.heap.size + 1, 0, none⟩) 2 2, .slice none 0 0, .string (tx [70]), .string (tx []), .slice (some ⟨w4.heap.size + 1 + 1, 0, none⟩) 2 2, .slice none 0 0] 46)) _ 50 _ := ((Blk.new (w4.alloc (.cells #[.string (tx [109]), .slice (some ⟨w3.heap.size + 1 + 1 + 2, 0, none⟩) 1 1, .string (tx [105, 110, 116])] 53)) 50 #[.string (tx [110, 101, 120, 116]), .string (tx [69]), .string (tx [120]), .string (tx [63])]).alloc (.cells #[.string (tx [110, 101, 120, 116]), .string (tx [70]), .string (tx [120]), .string (tx [105, 110, 116])] 50)).alloc (.cells #[.string (tx [65]), .string (tx []), .slice none 0 0, .slice (some ⟨w1.heap.size, 0, none⟩) 1 1, .string (tx [66]), .string (tx []), .slice none 0 0, .slice (some ⟨w2.heap.size, 0, none⟩) 1 1, .string (tx [67]), .string (tx []), .slice none 0 0, .slice (some ⟨w3.heap.size, 0, none⟩) 1 1, .string (tx [68]), .string (tx []), .slice (some ⟨w3.heap.size + 1, 0, none⟩) 1 1, .slice (some ⟨w4.heap.size, 0, none⟩) 1 1, .string (tx [69]), .string (tx []), .slice (some ⟨w4.heap.size + 1, 0, none⟩) 2 2, .slice none 0 0, .string (tx [70]), .string (tx []), .slice (some ⟨w4.heap.size + 1 + 1, 0, none⟩) 2 2, .slice none 0 0] 46)
 rw [World.size_alloc] at vE
 have vF : Blk ((((w4.alloc (.cells #[.string (tx [109]), .slice (some ⟨w3.heap.size + 1 + 1 + 2, 0, none⟩) 1 1, .string (tx [105, 110, 116])] 53)).alloc (.cells #[.string (tx [110, 101, 120, 116]), .string (tx [69]), .string (tx [120]), .string (tx [63])] 50)).alloc (.cells #[.string (tx [110, 101, 120, 116]), .string (tx [70]), .string (tx [120]), .string (tx [105, 110, 116])] 50)).alloc (.cells #[.string (tx [65]), .string (tx []), .slice none 0 0, .slice (some ⟨w1.heap.size, 0, none⟩) 1 1, .string (tx [66]), .string (tx []), .slice none 0 0, .slice (some ⟨w2.heap.size, 0, none⟩) 1 1, .string (tx [67]), .string (tx []), .slice none 0 0, .slice (some ⟨w3.heap.size, 0, none⟩) 1 1, .string (tx [68]), .string (tx []), .slice (some ⟨w3.heap.size + 1, 0, none⟩) 1 1, .slice (some ⟨w4.heap.size, 0, none⟩) 1 1, .string (tx [69]), .string (tx []), .slice (some ⟨w4.heap.size + 1, 0, none⟩) 2 2, .slice none 0 0, .string (tx [70]), .string (tx []), .slice (some ⟨w4.heap.size + 1 + 1, 0, none⟩) 2 2, .slice none 0 0] 46)) _ 50 _ := (Blk.new ((w4.alloc (.cells #[.string (tx [109]), .slice (some ⟨w3.heap.size + 1 + 1 + 2, 0, none⟩) 1 1, .string (tx [105, 110, 116])] 53)).alloc (.cells #[.string (tx [110, 101, 120, 116]), .string (tx [69]), .string (tx [120]), .string (tx [63])] 50)) 50 #[.string (tx [110, 101, 120, 116]), .string (tx [70]), .string (tx [120]), .string (tx [105, 110, 116])]).alloc (.cells #[.string (tx [65]), .string (tx []), .slice none 0 0, .slice (some ⟨w1.heap.size, 0, none⟩) 1 1, .string (tx [66]), .string (tx []), .slice none 0 0, .slice (some ⟨w2.heap.size, 0, none⟩) 1 1, .string (tx [67]), .string (tx []), .slice none 0 0, .slice (some ⟨w3.heap.size, 0, none⟩) 1 1, .string (tx [68]), .string (tx []), .slice (some ⟨w3.heap.size + 1, 0, none⟩) 1 1, .slice (some ⟨w4.heap.size, 0, none⟩) 1 1, .string (tx [69]), .string (tx []), .slice (some ⟨w4.heap.size + 1, 0, none⟩) 2 2, .slice none 0 0, .string (tx [70]), .string (tx []), .slice (some ⟨w4.heap.size + 1 + 1, 0, none⟩) 2 2, .slice none 0 0] 46)
 rw [World.size_alloc, World.size_alloc] at vF
 have hC : Blk ((((w4.alloc (.cells #[.string (tx [109]), .slice (some ⟨w3.heap.size + 1 + 1 + 2, 0, none⟩) 1 1, .string (tx [105, 110, 116])] 53)).alloc (.cells #[.string (tx [110, 101, 120, 116]), .string (tx [69]), .string (tx [120]), .string (tx [63])] 50)).alloc (.cells #[.string (tx [110, 101, 120, 116]), .string (tx [70]), .string (tx [120]), .string (tx [105, 110, 116])] 50)).alloc (.cells #[.string (tx [65]), .string (tx []), .slice none 0 0, .slice (some ⟨w1.heap.size, 0, none⟩) 1 1, .string (tx [66]), .string (tx []), .slice none 0 0, .slice (some ⟨w2.heap.size, 0, none⟩) 1 1, .string (tx [67]), .string (tx []), .slice none 0 0, .slice (some ⟨w3.heap.size, 0, none⟩) 1 1, .string (tx [68]), .string (tx []), .slice (some ⟨w3.heap.size + 1, 0, none⟩) 1 1, .slice (some ⟨w4.heap.size, 0, none⟩) 1 1, .string (tx [69]), .string (tx []), .slice (some ⟨w4.heap.size + 1, 0, none⟩) 2 2, .slice none 0 0, .string (tx [70]), .string (tx []), .slice (some ⟨w4.heap.size + 1 + 1, 0, none⟩) 2 2, .slice none 0 0] 46)) _ 46 _ := Blk.new (((w4.alloc (.cells #[.string (tx [109]), .slice (some ⟨w3.heap.size + 1 + 1 + 2, 0, none⟩) 1 1, .string (tx [105, 110, 116])] 53)).alloc (.cells #[.string (tx [110, 101, 120, 116]), .string (tx [69]), .string (tx [120]), .string (tx [63])] 50)).alloc (.cells #[.string (tx [110, 101, 120, 116]), .string (tx [70]), .string (tx [120]), .string (tx [105, 110, 116])] 50)) 46 #[.string (tx [65]), .string (tx []), .slice none 0 0, .slice (some ⟨w1.heap.size, 0, none⟩) 1 1, .string (tx [66]), .string (tx []), .slice none 0 0, .slice (some ⟨w2.heap.size, 0, none⟩) 1 1, .string (tx [67]), .string (tx []), .slice none 0 0, .slice (some ⟨w3.heap.size, 0, none⟩) 1 1, .string (tx [68]), .string (tx []), .slice (some ⟨w3.heap.size + 1, 0, none⟩) 1 1, .slice (some ⟨w4.heap.size, 0, none⟩) 1 1, .string (tx [69]), .string (tx []), .slice (some ⟨w4.heap.size + 1, 0, none⟩) 2 2, .slice none 0 0, .string (tx [70]), .string (tx []), .slice (some ⟨w4.heap.size + 1 + 1, 0, none⟩) 2 2, .slice none 0 0]
 rw [World.size_alloc, World.size_alloc, World.size_alloc] at hC
 refine ⟨w4.heap.size + 1 + 1 + 1, rfl, ?_, K1.out.trans k1⟩
 exact row_six
  (cls_at hC 0 _ rfl rfl rfl rfl Row.nil (mrow pA sA (by decide) (by decide)) (by decide))
  (cls_at hC 4 _ rfl rfl rfl rfl Row.nil (mrow pB sB (by decide) (by decide)) (by decide))
  (cls_at hC 8 _ rfl rfl rfl rfl Row.nil (mrow pC sC (by decide) (by decide)) (by decide))
  (cls_at hC 12 _ rfl rfl rfl rfl (row_one (var_at vD 0 _ _ rfl rfl (by decide) (by decide))) (mrow pD sD (by decide) (by decide)) (by decide))
  (cls_at hC 16 _ rfl rfl rfl rfl (row_two (var_at vE 0 _ _ rfl rfl (by decide) (by decide)) (var_at vE 2 _ _ rfl rfl (by decide) (by decide))) Row.nil (by decide))
  (cls_at hC 20 _ rfl rfl rfl rfl (row_two (var_at vF 0 _ _ rfl rfl (by decide) (by decide)) (var_at vF 2 _ _ rfl rfl (by decide) (by decide))) Row.nil (by decide))
end Go.Proofs.YthooiofaicdhgaaGreatDoor
namespace Go.Proofs.YthooiofaicdhgaaGreatDoor
open Go.ChangeShapes Go.WideShapes Go.ChangeAt Go.RowKit
theorem ck7_0 : Tab.goes T7 (tx [65]) (tx [66]) = true := by kernel_rfl
theorem ck7_1 : Tab.goes T7 (tx [65]) (tx [67]) = false := by kernel_rfl
theorem ck7_2 : Tab.goes T7 (tx [69]) (tx [70]) = true := by kernel_rfl
theorem ck7_3 : Tab.goes T7 (tx [63]) (tx [65]) = true := by kernel_rfl
theorem ck7_4 : Tab.goes T7 (tx [105, 110, 116]) (tx [114, 101, 97, 108]) = false := by kernel_rfl
theorem ck7_5 : Tab.has T7 (tx [68]) (tx [65]) = true := by kernel_rfl
theorem ck7_6 : Tab.has T7 (tx [65]) (tx [68]) = false := by kernel_rfl
theorem ck7_7 : Tab.goes T7 (tx [66]) (tx [65]) = true := by kernel_rfl
theorem ck7_8 : Tab.goes T7 (tx [66]) (tx [67]) = true := by kernel_rfl
theorem ck7_9 : Tab.goes T7 (tx [68]) (tx [66]) = true := by kernel_rfl
theorem ck7_10 : Tab.goes T7 (tx [66]) (tx [68]) = false := by kernel_rfl
theorem ck7_11 : Tab.goes T7 (tx [70]) (tx [69]) = true := by kernel_rfl
theorem ck7_12 : Tab.goes T7 (tx [69]) (tx [65]) = false := by kernel_rfl
theorem ck7_13 : Tab.goes T7 (tx [105, 110, 116]) (tx [63]) = true := by kernel_rfl
theorem ck7_14 : Tab.goes T7 (tx [90]) (tx [63]) = false := by kernel_rfl
theorem ck7_15 : Tab.has T7 (tx [65]) (tx [63]) = false := by kernel_rfl
theorem ck7_16 : Tab.has T7 (tx [69]) (tx [70]) = true := by kernel_rfl
theorem goes7_c (s u : List UInt8) (b : Bool) (hb : Tab.goes T7 (tx s) (tx u) = b) (hs : s.length ≤ 100) (hu : u.length ≤ 100) (w : World) (hTb : Tb w) :
  Calls Tryz.prog 84 #[.string (tx s), .string (tx u)] w fun e w' => e = .returned (.bool b) ∧ Kept w w' := by
 have HG := Lib.hid (fun g W (kw : Kept w W) (h : TabAt W (.slice (some ⟨g, 0, none⟩) 6 6) T7) => goes_cc T7 (some ⟨g, 0, none⟩) 6 (tx s) (tx u) W (hTb.kept kw) h t7_small (sz _ hs) (sz _ hu))
 rw [hb] at HG
 clear hb hTb
 go_enter Tryz.func84, Tryz.ntmps84
 go_wp2_with fail
 refine (six_c w).mono ?_
 rintro e w1 ⟨g, rfl, hm, k1⟩
 have HM := Lib.hid hm
 have HK := Lib.hid k1
 clear hm k1
 go_wp2_with fail
 refine (HG.out g w1 HK.out HM.out).mono ?_
 rintro e w2 ⟨rfl, k2⟩
 have HK2 := Lib.hid (HK.out.trans k2)
 clear k2
 go_wp2_with fail
 go_ret
 exact ⟨rfl, HK2.out⟩
theorem has7_c (s u : List UInt8) (b : Bool) (hb : Tab.has T7 (tx s) (tx u) = b) (g : Nat) (w : World) (hTb : Tb w) (h : TabAt w (.slice (some ⟨g, 0, none⟩) 6 6) T7) :
  Calls Tryz.prog 30 #[.slice (some ⟨g, 0, none⟩) 6 6, .string (tx s), .string (tx u)] w fun e w' => e = .returned (.bool b) ∧ Kept w w' := by
 have := has_cc T7 (some ⟨g, 0, none⟩) 6 (tx s) (tx u) w hTb h t7_small
 rw [hb] at this
 exact this
set_option maxHeartbeats 8000000 in
theorem awake7_c (w : World) (hT : Tb w) : Calls Tryz.prog 29 #[] w fun e w' => e = .returned (.bool true) ∧ Kept w w' := by
 have HT := Lib.hid hT
 have HL0 := Lib.hid (Kept.refl w)
 clear hT
 go_enter Tryz.func29, Tryz.ntmps29
 have HC := Lib.hid (fun W hW => goes7_c [65] [66] true ck7_0 (by decide) (by decide) W hW)
 go_wp2_with fail
 refine (HC.out _ (HT.out.kept HL0.out)).mono ?_
 rintro e w1 ⟨rfl, kk⟩
 have HL1 := Lib.hid (HL0.out.trans kk)
 clear kk HC
 have HC := Lib.hid (fun W hW => goes7_c [65] [67] false ck7_1 (by decide) (by decide) W hW)
 go_wp2_with fail
 refine (HC.out _ (HT.out.kept HL1.out)).mono ?_
 rintro e w2 ⟨rfl, kk⟩
 have HL2 := Lib.hid (HL1.out.trans kk)
 clear kk HC
 have HC := Lib.hid (fun W hW => goes7_c [69] [70] true ck7_2 (by decide) (by decide) W hW)
 go_wp2_with fail
 refine (HC.out _ (HT.out.kept HL2.out)).mono ?_
 rintro e w3 ⟨rfl, kk⟩
 have HL3 := Lib.hid (HL2.out.trans kk)
 clear kk HC
 have HC := Lib.hid (fun W hW => goes7_c [63] [65] true ck7_3 (by decide) (by decide) W hW)
 go_wp2_with fail
 refine (HC.out _ (HT.out.kept HL3.out)).mono ?_
 rintro e w4 ⟨rfl, kk⟩
 have HL4 := Lib.hid (HL3.out.trans kk)
 clear kk HC
 have HC := Lib.hid (fun W hW => goes7_c [105, 110, 116] [114, 101, 97, 108] false ck7_4 (by decide) (by decide) W hW)
 go_wp2_with fail
 refine (HC.out _ (HT.out.kept HL4.out)).mono ?_
 rintro e w5 ⟨rfl, kk⟩
 have HL5 := Lib.hid (HL4.out.trans kk)
 clear kk HC
 go_wp2_with fail
 refine (six_c _).mono ?_
 rintro e v5 ⟨g5, rfl, hm, kk⟩
 have HM := Lib.hid hm
 have HL6 := Lib.hid (HL5.out.trans kk)
 clear kk hm
 have HC := Lib.hid (has7_c [68] [65] true ck7_5 g5 v5 (HT.out.kept HL6.out) HM.out)
 go_wp2_with fail
 refine HC.out.mono ?_
 rintro e w7 ⟨rfl, kk⟩
 have HL7 := Lib.hid (HL6.out.trans kk)
 clear kk HC HM
 go_wp2_with fail
 refine (six_c _).mono ?_
 rintro e v7 ⟨g7, rfl, hm, kk⟩
 have HM := Lib.hid hm
 have HL8 := Lib.hid (HL7.out.trans kk)
 clear kk hm
 have HC := Lib.hid (has7_c [65] [68] false ck7_6 g7 v7 (HT.out.kept HL8.out) HM.out)
 go_wp2_with fail
 refine HC.out.mono ?_
 rintro e w9 ⟨rfl, kk⟩
 have HL9 := Lib.hid (HL8.out.trans kk)
 clear kk HC HM
 go_wp2_with fail
 go_ret
 exact ⟨by first | rfl | simp, HL9.out⟩
set_option maxHeartbeats 8000000 in
theorem known7_c (w : World) (hT : Tb w) : Calls Tryz.prog 34 #[] w fun e w' => e = .returned (.bool true) ∧ Kept w w' := by
 have HT := Lib.hid hT
 have HL0 := Lib.hid (Kept.refl w)
 clear hT
 go_enter Tryz.func34, Tryz.ntmps34
 have HC := Lib.hid (fun W hW => goes7_c [66] [65] true ck7_7 (by decide) (by decide) W hW)
 go_wp2_with fail
 refine (HC.out _ (HT.out.kept HL0.out)).mono ?_
 rintro e w1 ⟨rfl, kk⟩
 have HL1 := Lib.hid (HL0.out.trans kk)
 clear kk HC
 have HC := Lib.hid (fun W hW => goes7_c [66] [67] true ck7_8 (by decide) (by decide) W hW)
 go_wp2_with fail
 refine (HC.out _ (HT.out.kept HL1.out)).mono ?_
 rintro e w2 ⟨rfl, kk⟩
 have HL2 := Lib.hid (HL1.out.trans kk)
 clear kk HC
 have HC := Lib.hid (fun W hW => goes7_c [68] [66] true ck7_9 (by decide) (by decide) W hW)
 go_wp2_with fail
 refine (HC.out _ (HT.out.kept HL2.out)).mono ?_
 rintro e w3 ⟨rfl, kk⟩
 have HL3 := Lib.hid (HL2.out.trans kk)
 clear kk HC
 have HC := Lib.hid (fun W hW => goes7_c [66] [68] false ck7_10 (by decide) (by decide) W hW)
 go_wp2_with fail
 refine (HC.out _ (HT.out.kept HL3.out)).mono ?_
 rintro e w4 ⟨rfl, kk⟩
 have HL4 := Lib.hid (HL3.out.trans kk)
 clear kk HC
 have HC := Lib.hid (fun W hW => goes7_c [70] [69] true ck7_11 (by decide) (by decide) W hW)
 go_wp2_with fail
 refine (HC.out _ (HT.out.kept HL4.out)).mono ?_
 rintro e w5 ⟨rfl, kk⟩
 have HL5 := Lib.hid (HL4.out.trans kk)
 clear kk HC
 have HC := Lib.hid (fun W hW => goes7_c [69] [65] false ck7_12 (by decide) (by decide) W hW)
 go_wp2_with fail
 refine (HC.out _ (HT.out.kept HL5.out)).mono ?_
 rintro e w6 ⟨rfl, kk⟩
 have HL6 := Lib.hid (HL5.out.trans kk)
 clear kk HC
 have HC := Lib.hid (fun W hW => goes7_c [105, 110, 116] [63] true ck7_13 (by decide) (by decide) W hW)
 go_wp2_with fail
 refine (HC.out _ (HT.out.kept HL6.out)).mono ?_
 rintro e w7 ⟨rfl, kk⟩
 have HL7 := Lib.hid (HL6.out.trans kk)
 clear kk HC
 have HC := Lib.hid (fun W hW => goes7_c [90] [63] false ck7_14 (by decide) (by decide) W hW)
 go_wp2_with fail
 refine (HC.out _ (HT.out.kept HL7.out)).mono ?_
 rintro e w8 ⟨rfl, kk⟩
 have HL8 := Lib.hid (HL7.out.trans kk)
 clear kk HC
 go_wp2_with fail
 refine (awake7_c _ (HT.out.kept HL8.out)).mono ?_
 rintro e w9 ⟨rfl, kk⟩
 have HL9 := Lib.hid (HL8.out.trans kk)
 clear kk
 go_wp2_with fail
 refine (six_c _).mono ?_
 rintro e v9 ⟨g9, rfl, hm, kk⟩
 have HM := Lib.hid hm
 have HL10 := Lib.hid (HL9.out.trans kk)
 clear kk hm
 have HC := Lib.hid (has7_c [65] [63] false ck7_15 g9 v9 (HT.out.kept HL10.out) HM.out)
 go_wp2_with fail
 refine HC.out.mono ?_
 rintro e w11 ⟨rfl, kk⟩
 have HL11 := Lib.hid (HL10.out.trans kk)
 clear kk HC HM
 go_wp2_with fail
 refine (six_c _).mono ?_
 rintro e v11 ⟨g11, rfl, hm, kk⟩
 have HM := Lib.hid hm
 have HL12 := Lib.hid (HL11.out.trans kk)
 clear kk hm
 have HC := Lib.hid (has7_c [69] [70] true ck7_16 g11 v11 (HT.out.kept HL12.out) HM.out)
 go_wp2_with fail
 refine HC.out.mono ?_
 rintro e w13 ⟨rfl, kk⟩
 have HL13 := Lib.hid (HL12.out.trans kk)
 clear kk HC HM
 go_wp2_with fail
 go_ret
 exact ⟨by first | rfl | simp, HL13.out⟩
end Go.Proofs.YthooiofaicdhgaaGreatDoor
