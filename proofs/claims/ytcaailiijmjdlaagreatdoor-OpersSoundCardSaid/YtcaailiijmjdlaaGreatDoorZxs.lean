import Derived.Test.YtcaailiijmjdlaaGreatDoorTxt
import Derived.Lib.LaidTab
import Derived.Lib.LaidU8
import Derived.Test.YtcaailiijmjdlaaGreatDoorBlk
import Derived.Test.YtcaailiijmjdlaaGreatDoorRow
import Derived.Test.YtcaailiijmjdlaaGreatDoorKtt
import Derived.OpenShut
import Derived.Carry
import Derived.ShutString
import Derived.ProofKit
import Derived.Deep.Fields
import Derived.Deep.Slices
import Derived.ChangeSame
import Derived.Test.YtcaailiijmjdlaaGreatDoorZwb
import Derived.Test.YtcaailiijmjdlaaGreatDoorZvf
import Derived.Test.YtcaailiijmjdlaaGreatDoorZwk
import Derived.Deep.Cut
/- From what a row lists to the table of math/bits. -/
set_option linter.unusedSimpArgs false
set_option linter.unusedVariables false
set_option maxRecDepth 100000
namespace Go.Proofs.YtcaailiijmjdlaaGreatDoor
open Go.ChangeShapes Go.WideShapes Go.ChangeAt Go.RowKit Go.Lib

def brl : List Int := [0, 1, 56, 2, 57, 49, 28, 3, 61, 58, 42, 50, 38, 29, 17, 4, 62, 47, 59, 36, 45, 43, 51, 22, 53, 39, 33, 30, 24, 18, 12, 5, 63, 55, 48, 27, 60, 41, 37, 16, 46, 35, 44, 21, 52, 32, 23, 11, 54, 26, 40, 15, 34, 20, 31, 10, 25, 14, 19, 9, 13, 8, 7, 6]

theorem tab_of_reads {w : World} (h1 : VarReads Tryz.prog w "math/bits.deBruijn64tab" (tabData .u8 brl)) : Tab w := by
  obtain ⟨g, t, cs, fuel, p, hg, hty, hvar, hd⟩ := h1
  obtain rfl := Option.some.inj ((show Tryz.prog.globalNamed "math/bits.deBruijn64tab" = some 5 by kernel_rfl).symm.trans hg)
  obtain rfl := Option.some.inj ((show (Tryz.prog.globals[5]?).map (·.type) = some 168 by kernel_rfl).symm.trans hty)
  have e := cells_of_tab Tryz.underlying168 Tryz.underlying5 (by kernel_rfl) (by kernel_rfl) hd
  have T1 : Lib.TabIs Tryz.prog w "math/bits.deBruijn64tab" .u8 brl := by
    unfold Lib.TabIs
    rw [hvar, ← e]
  exact T1.cell hg 15 (by decide)

end Go.Proofs.YtcaailiijmjdlaaGreatDoor

/- Pick's value. -/
set_option linter.unusedSimpArgs false
set_option linter.unusedVariables false
namespace Go.Proofs.YtcaailiijmjdlaaGreatDoor
open Go.ChangeShapes Go.WideShapes Go.ChangeAt Go.RowKit

def pickN (x : Int) (n : Nat) : Nat := (if x.tmod n < 0 then x.tmod n + n else x.tmod n).toNat

theorem tmod_bounds (x : Int) {n : Nat} (h0 : 0 < n) : -(n : Int) < x.tmod n ∧ x.tmod n < (n : Int) := by
  rcases Int.natAbs_eq x with h | h
  · rw [h, show ((x.natAbs : Int)).tmod (n : Int) = ((x.natAbs % n : Nat) : Int) from (Int.ofNat_tmod _ _).symm]
    have := Nat.mod_lt x.natAbs h0; omega
  · rw [h, Int.neg_tmod, show ((x.natAbs : Int)).tmod (n : Int) = ((x.natAbs % n : Nat) : Int) from (Int.ofNat_tmod _ _).symm]
    have := Nat.mod_lt x.natAbs h0; omega

theorem pickN_lt (x : Int) {n : Nat} (h0 : 0 < n) : pickN x n < n := by
  obtain ⟨h1, h2⟩ := tmod_bounds x h0
  unfold pickN
  split <;> omega

theorem pick_v (x : Int) (n : Nat) (w : World) (h0 : 0 < n) (hn : n ≤ 1000000) (h1 : -9223372036854775808 ≤ x) (h2 : x ≤ 9223372036854775807) :
    Calls Tryz.prog 36 #[.int .i64 x, .int .i64 n] w fun e w' => e = .returned (.int .i64 (pickN x n : Int)) ∧ w' = w := by
  have hnI : ¬ (n : Int) ≤ 0 := by omega
  have hne : ¬ (n : Int) = 0 := by omega
  obtain ⟨hm1, hm2⟩ := tmod_bounds x h0
  have HP := Lib.hid (show (pickN x n : Int) = if x.tmod n < 0 then x.tmod n + n else x.tmod n by unfold pickN; split <;> omega)
  generalize pickN x n = pn at HP ⊢
  generalize hr : x.tmod n = r at hm1 hm2 HP
  by_cases hneg : r < 0
  · have HQ := Lib.hid (show (pn : Int) = r + n by rw [HP.out, if_pos hneg])
    go_enter Tryz.func36, Tryz.ntmps36
    go_wp2_with fail
    go_ret
    exact ⟨by rw [HQ.out]; first | rfl | (congr 2; go_num), rfl⟩
  · have HQ := Lib.hid (show (pn : Int) = r by rw [HP.out, if_neg hneg])
    go_enter Tryz.func36, Tryz.ntmps36
    go_wp2_with fail
    go_ret
    exact ⟨by rw [HQ.out]; rfl, rfl⟩

end Go.Proofs.YtcaailiijmjdlaaGreatDoor

/- Layers in memory (out of Chm). -/
set_option linter.unusedSimpArgs false
set_option linter.unusedVariables false
set_option maxRecDepth 100000
namespace Go.Proofs.YtcaailiijmjdlaaGreatDoor
open Go.ChangeShapes Go.WideShapes Go.ChangeAt Go.RowKit

structure Ly where
  out : Bool
  cls : ByteArray
  lab : Int
deriving DecidableEq
theorem ly_ext {x y : Ly} (h1 : x.out = y.out) (h2 : x.cls = y.cls) (h3 : x.lab = y.lab) : x = y := by
  cases x; cases y; cases h1; cases h2; cases h3; rfl

def LyAt (w : World) (b o : Nat) (x : Ly) : Prop :=
  w.cell? ⟨b, o, none⟩ = some (.bool x.out) ∧ w.cell? ⟨b, o + 1, none⟩ = some (.string x.cls) ∧ w.cell? ⟨b, o + 2, none⟩ = some (.int .i64 x.lab) ∧ x.cls.size ≤ maxLen
abbrev LysAt (w : World) (v : Value) (l : List Ly) : Prop := Row 3 LyAt w v l
theorem LyAt.kept {w w' : World} {b o : Nat} {x : Ly} (h : LyAt w b o x) (k : Kept w w') : LyAt w' b o x := ⟨k.cell h.1, k.cell h.2.1, k.cell h.2.2.1, h.2.2.2⟩
theorem lys_kept {w w' : World} {v : Value} {l : List Ly} (h : LysAt w v l) (k : Kept w w') : LysAt w' v l := h.mono fun _ _ _ r => r.kept k
theorem lys_fine {w : World} {v : Value} {l : List Ly} (h : LysAt w v l) : ∀ x ∈ l, x.cls.size ≤ maxLen := by
  intro x hx
  obtain ⟨a, c, _, _, _, h3⟩ := h
  obtain ⟨i, hi⟩ := List.getElem?_of_mem hx
  obtain ⟨b, o, _, r⟩ := h3 i x hi
  exact r.2.2.2

theorem addr_plainL (b o j : Nat) : (⟨b, o, none⟩ : Addr).add j = ⟨b, o + j, none⟩ := by
  unfold Addr.add
  split
  · rename_i h; rw [h]; rfl
  · rfl

end Go.Proofs.YtcaailiijmjdlaaGreatDoor

/- A slice of layers, and a layer, that came in. -/
set_option linter.unusedSimpArgs false
set_option linter.unusedVariables false
set_option maxRecDepth 100000
namespace Go.Proofs.YtcaailiijmjdlaaGreatDoor
open Go.ChangeShapes Go.WideShapes Go.ChangeAt Go.RowKit Go.Deep

theorem row_of_eachL {α : Type} {k : Nat} {R : World → Nat → Nat → α → Prop} {w : World} {ad : Addr} {n c : Nat} (hl : n ≤ c) (hm : c ≤ maxLen)
    (each : ∀ i, i < n → ∃ y : α, ∃ b o, ad = ⟨b, o, none⟩ ∧ R w b (o + i * k) y) : ∃ l : List α, l.length = n ∧ Row k R w (.slice (some ad) n c) l := by
  let g : Fin n → α := fun i => Classical.choose (each i.1 i.2)
  have gs : ∀ i : Fin n, ∃ b o, ad = ⟨b, o, none⟩ ∧ R w b (o + i.1 * k) (g i) := fun i => Classical.choose_spec (each i.1 i.2)
  have hlen : (List.ofFn g).length = n := List.length_ofFn
  refine ⟨List.ofFn g, hlen, some ad, c, by rw [hlen], by rw [hlen]; exact hl, hm, fun i y hy => ?_⟩
  obtain ⟨hin, hyy⟩ := List.getElem?_eq_some_iff.1 hy
  have hin' : i < n := by rw [hlen] at hin; exact hin
  have hyg : y = g ⟨i, hin'⟩ := by rw [← hyy]; simp
  rw [hyg]
  obtain ⟨b, o, e, hr⟩ := gs ⟨i, hin'⟩
  exact ⟨b, o, by rw [e], hr⟩

section
variable {H : Type} {enc : TypeId × Value → H} {w : World} {base : Nat} {spare : Nat → Bool} {held : Bool}

theorem layer_fields : ∃ fs : Array Field, Tryz.prog.underlying 73 = some (.struct fs) ∧ oneCellFields Tryz.prog fs = true ∧ fs.size = 3 ∧ (∃ f, fs[0]? = some f ∧ f.type = 4) ∧ (∃ f, fs[1]? = some f ∧ f.type = 9) ∧ (∃ f, fs[2]? = some f ∧ f.type = 3) := by
  refine ⟨_, Tryz.underlying73, ?_, rfl, ⟨_, rfl, rfl⟩, ⟨_, rfl, rfl⟩, ⟨_, rfl, rfl⟩⟩
  kernel_rfl

theorem open_layer {fuel : Nat} {ad : Addr} {x : DataW H × List MemPlace} {cs : List Value} (hc : w.cells? base ad 3 = some cs) (h : DataW.trod enc Tryz.prog w base spare held fuel 73 cs = some x) :
    ∃ y : Ly, w.cell? (ad.add 0) = some (.bool y.out) ∧ w.cell? (ad.add 1) = some (.string y.cls) ∧ w.cell? (ad.add 2) = some (.int .i64 y.lab) ∧ y.cls.size ≤ maxLen := by
  obtain ⟨fs, hs, hone, hsz, ⟨f0, e0, t0⟩, ⟨f1, e1, t1⟩, ⟨f2, e2, t2⟩⟩ := layer_fields
  obtain ⟨ys, n', hn', hy, hlen, hyl, hf⟩ := DataW.trod_struct hs h
  obtain ⟨_, hcl, hat⟩ := World.cells?_some hc
  have hcl3 : cs.length = 3 := hcl
  match cs, hcl3 with
  | [v0, v1, v2], _ =>
    obtain ⟨o0, k0⟩ := hone_of hone 0 f0 e0
    obtain ⟨o1, k1⟩ := hone_of hone 1 f1 e1
    obtain ⟨o2, k2⟩ := hone_of hone 2 f2 e2
    have g0 := hf 0 f0 e0
    have g1 := hf 1 f1 e1
    have g2 := hf 2 f2 e2
    rw [hsz] at hyl
    match ys, hyl with
    | [y0, y1, y2], _ =>
      rw [o0, k0, t0] at g0
      rw [o1, k1, t1] at g1
      rw [o2, k2, t2] at g2
      have c0 := hat 0 (by decide)
      have c1 := hat 1 (by decide)
      have c2 := hat 2 (by decide)
      have g0' : DataW.trod enc Tryz.prog w base spare held n' 4 [v0] = some y0 := g0
      have g1' : DataW.trod enc Tryz.prog w base spare held n' 9 [v1] = some y1 := g1
      have g2' : DataW.trod enc Tryz.prog w base spare held n' 3 [v2] = some y2 := g2
      obtain ⟨m0, r0, _⟩ := DataW.trod_bool Tryz.underlying4 g0'
      obtain ⟨s1, r1, _, w1⟩ := DataW.trod_string Tryz.underlying9 g1'
      obtain ⟨m2, r2, _, w2⟩ := DataW.trod_int Tryz.underlying3 g2'
      injection r0 with r0
      injection r1 with r1
      injection r2 with r2
      subst r0 r1 r2
      exact ⟨⟨m0, s1, m2⟩, c0, c1, c2, w1⟩

theorem open_lys {fuel : Nat} {v : Value} {x : DataW H × List MemPlace} (h : DataW.trod enc Tryz.prog w base spare held fuel 30 [v] = some x) :
    ∃ l : List Ly, LysAt w v l := by
  rcases open_slice Tryz.underlying30 h with ⟨hcs, _⟩ | ⟨ad, len, cap, m, k, D, Pl, hcs, hb, hl, hm, hmm, hx, hi⟩
  · cases hcs
    exact ⟨[], Row.nil⟩
  · cases hcs
    have hC : Tryz.prog.cellsOf 73 = 3 := by kernel_rfl
    obtain ⟨l, hl', hr⟩ := row_of_eachL (k := 3) (R := LyAt) (w := w) (ad := ad) hl hm (fun i hin => by
      have hspot : ad.spot = none := by
        obtain ⟨cs0, hc0, ht0⟩ := hi 0 (by rw [hmm]; split <;> omega)
        rw [hC] at hc0
        obtain ⟨_, d0, _⟩ := open_layer hc0 ht0
        simpa [Addr.add] using World.cell?_spot d0
      obtain ⟨cs', hc, ht'⟩ := hi i (by rw [hmm]; split <;> omega)
      rw [hC] at hc
      obtain ⟨y, c0, c1, c2, z0⟩ := open_layer hc ht'
      obtain ⟨b, off, spot⟩ := ad
      have hs2 : spot = none := hspot
      subst hs2
      simp only [addr_plainL, Nat.add_zero] at c0 c1 c2
      exact ⟨y, b, off, rfl, c0, c1, c2, z0⟩)
    exact ⟨l, hr⟩
end
end Go.Proofs.YtcaailiijmjdlaaGreatDoor

/- A value that came in; LongValue. -/
set_option linter.unusedSimpArgs false
set_option linter.unusedVariables false
set_option maxRecDepth 100000

namespace Go.Proofs.YtcaailiijmjdlaaGreatDoor

open Go.ChangeShapes Go.WideShapes Go.ChangeAt Go.RowKit Go.Deep

attribute [local go_sem] Oper.semAt_some

open Zp (V)

def LongV (a : V) (e : Ending) : Prop := ∃ t, e = .returned (.bool t) ∧ (t = false → a.s.size ≤ 60)

set_option maxHeartbeats 2000000 in
theorem longV_c (a : V) (hs : a.s.size ≤ maxLen) (l : List Ly) (pa : Option Addr) (c : Nat) (w : World) (h : LysAt w (.slice pa l.length c) l) :
    Calls Tryz.prog 18 #[a.v (.slice pa l.length c)] w fun e w' => LongV a e ∧ Kept w w' := by
  have hcap : l.length ≤ maxLen := Row.len h
  obtain ⟨W1, hW1⟩ : ∃ W, w.alloc (.cells #[.int .i64 a.tag, .int .i64 a.n, .int .u64 (a.bits : Int), .string a.s, .slice pa l.length c] vT) = W := ⟨_, rfl⟩
  obtain ⟨k1, b1, z1⟩ := vnew hW1
  have h1 := lys_kept h k1
  obtain ⟨_, _, e0, _, _, hat⟩ := h1
  injection e0 with e1 e2 e3
  subst e1 e3
  clear e2
  have HAT := Lib.hid hat
  have HK := Lib.hid k1
  have HW1 := Lib.hid hW1
  obtain ⟨⟨x0, x1, x2, x3, x4⟩, _⟩ := blk5 b1
  unfold maxLen at hcap hs
  clear hat k1 hW1 b1 h z1
  go_enter Tryz.func18, Tryz.ntmps18
  go_wp2_with (rw [HW1.out])
  go_loopw [3] (fun i wr => ∃ k : Nat, i = .int .i64 k ∧ k ≤ l.length ∧ k ≤ 61 ∧ wr = W1) (fun i wr => 62 - (intOf i).toNat)
  case atStart => exact ⟨0, rfl, by omega, by omega, rfl⟩
  case round =>
    obtain ⟨k, rfl, hk, hk2, rfl⟩ := hrel
    by_cases hlt : k < l.length ∧ k < 61
    · have hltI : (k : Int) < (l.length : Int) := by omega
      have hlt6 : (k : Int) < 61 := by omega
      have hx : l[k]? = some l[k] := List.getElem?_eq_getElem hlt.1
      generalize hy : l[k] = y at hx
      obtain ⟨b, o, rfl, q0, q1, q2, q3⟩ := HAT.out k y hx
      unfold maxLen at q3
      clear hx hy
      by_cases hc : (60 : Int) < y.cls.size
      · go_wp2_with fail
        go_ret
        exact ⟨⟨true, rfl, fun h => by cases h⟩, HK.out⟩
      · go_wp2_with fail
        go_roundw
        case rel => exact ⟨k + 1, by go_num, by omega, by omega, by first | trivial | rfl⟩
        case measure => simp [intOf]; omega
    · by_cases hL : (60 : Int) < l.length
      · have hk6 : k = 61 := by omega
        subst hk6
        have g1 : ((61 : Nat) : Int) ≤ (l.length : Int) := by omega
        by_cases g2 : ((61 : Nat) : Int) < (l.length : Int)
        · go_wp2_with fail
          go_ret
          exact ⟨⟨true, rfl, fun h => by cases h⟩, HK.out⟩
        · go_wp2_with fail
          go_ret
          exact ⟨⟨true, rfl, fun h => by cases h⟩, HK.out⟩
      · obtain rfl : k = l.length := by omega
        by_cases hS : (60 : Int) < a.s.size
        · go_wp2_with fail
          go_ret
          exact ⟨⟨true, rfl, fun h => by cases h⟩, HK.out⟩
        · have HS := Lib.hid (show a.s.size ≤ 60 by omega)
          go_wp2_with fail
          go_ret
          exact ⟨⟨false, rfl, fun _ => HS.out⟩, HK.out⟩

theorem val_fields : ∃ fs : Array Field, Tryz.prog.underlying 32 = some (.struct fs) ∧ oneCellFields Tryz.prog fs = true ∧ fs.size = 5 ∧ (∃ f, fs[0]? = some f ∧ f.type = 3) ∧ (∃ f, fs[1]? = some f ∧ f.type = 3) ∧ (∃ f, fs[2]? = some f ∧ f.type = 29) ∧ (∃ f, fs[3]? = some f ∧ f.type = 9) ∧ (∃ f, fs[4]? = some f ∧ f.type = 30) := by
  refine ⟨_, Tryz.underlying32, ?_, rfl, ⟨_, rfl, rfl⟩, ⟨_, rfl, rfl⟩, ⟨_, rfl, rfl⟩, ⟨_, rfl, rfl⟩, ⟨_, rfl, rfl⟩⟩
  kernel_rfl

theorem open_value {H : Type} {enc : TypeId × Value → H} {w : World} {base : Nat} {spare : Nat → Bool} {held : Bool} {fuel : Nat} {cs : List Value} {x : DataW H × List MemPlace} (h : DataW.trod enc Tryz.prog w base spare held fuel 32 cs = some x) :
    ∃ (y : V) (ad : Option Addr) (c : Nat) (l : List Ly), cs = y.c (.slice ad l.length c) ∧ V.ok y ∧ LysAt w (.slice ad l.length c) l := by
  obtain ⟨fs, hs, hone, hsz, ⟨f0, e0, t0⟩, ⟨f1, e1, t1⟩, ⟨f2, e2, t2⟩, ⟨f3, e3, t3⟩, ⟨f4, e4, t4⟩⟩ := val_fields
  obtain ⟨ys, n', hn', hy, hlen, hyl, hf⟩ := DataW.trod_struct hs h
  have hC : Tryz.prog.cellsOf 32 = 5 := by kernel_rfl
  have hcl : cs.length = 5 := hlen.trans hC
  match cs, hcl with
  | [v0, v1, v2, v3, v4], _ =>
    obtain ⟨o0, k0⟩ := hone_of hone 0 f0 e0
    obtain ⟨o1, k1⟩ := hone_of hone 1 f1 e1
    obtain ⟨o2, k2⟩ := hone_of hone 2 f2 e2
    obtain ⟨o3, k3⟩ := hone_of hone 3 f3 e3
    obtain ⟨o4, k4⟩ := hone_of hone 4 f4 e4
    have g0 := hf 0 f0 e0
    have g1 := hf 1 f1 e1
    have g2 := hf 2 f2 e2
    have g3 := hf 3 f3 e3
    have g4 := hf 4 f4 e4
    rw [hsz] at hyl
    match ys, hyl with
    | [y0, y1, y2, y3, y4], _ =>
      rw [o0, k0, t0] at g0
      rw [o1, k1, t1] at g1
      rw [o2, k2, t2] at g2
      rw [o3, k3, t3] at g3
      rw [o4, k4, t4] at g4
      have g0' : DataW.trod enc Tryz.prog w base spare held n' 3 [v0] = some y0 := g0
      have g1' : DataW.trod enc Tryz.prog w base spare held n' 3 [v1] = some y1 := g1
      have g2' : DataW.trod enc Tryz.prog w base spare held n' 29 [v2] = some y2 := g2
      have g3' : DataW.trod enc Tryz.prog w base spare held n' 9 [v3] = some y3 := g3
      have g4' : DataW.trod enc Tryz.prog w base spare held n' 30 [v4] = some y4 := g4
      obtain ⟨m0, r0, _, w0⟩ := DataW.trod_int Tryz.underlying3 g0'
      obtain ⟨m1, r1, _, w1⟩ := DataW.trod_int Tryz.underlying3 g1'
      obtain ⟨m2, r2, _, w2⟩ := DataW.trod_int Tryz.underlying29 g2'
      obtain ⟨s3, r3, _, w3⟩ := DataW.trod_string Tryz.underlying9 g3'
      obtain ⟨l4, hl4⟩ := open_lys g4'
      injection r0 with r0
      injection r1 with r1
      injection r2 with r2
      injection r3 with r3
      subst r0 r1 r2 r3
      obtain ⟨ad, c, rfl, hrest⟩ := id hl4
      have b1 : -9223372036854775808 ≤ m1 ∧ m1 ≤ 9223372036854775807 := bounds_i64 w1
      have b2 : (0 : Int) ≤ m2 ∧ m2 ≤ 18446744073709551615 := bounds_u64 w2
      refine ⟨⟨m0, m1, m2.toNat, s3⟩, ad, c, l4, ?_, ⟨b1, ?_, ?_⟩, hl4⟩
      · show _ = [Value.int .i64 m0, .int .i64 m1, .int .u64 ((m2.toNat : Nat) : Int), .string s3, _]
        rw [show ((m2.toNat : Nat) : Int) = m2 by omega]
      · show m2.toNat < _; omega
      · unfold maxLen at w3; show s3.size ≤ _; omega
end Go.Proofs.YtcaailiijmjdlaaGreatDoor

/- What an operation that its types allow comes to (plain). -/
set_option linter.unusedSimpArgs false
set_option linter.unusedVariables false
set_option maxRecDepth 100000

namespace Go.Proofs.YtcaailiijmjdlaaGreatDoor.Zp

open Flo

abbrev tU : ByteArray := ⟨#[117, 110, 105, 116]⟩

theorem ofT_cases (n : Int) : (n = 1 ∧ Wrd.ofT n = tI ∧ Wrd.ofE n = 0) ∨ (n = 2 ∧ Wrd.ofT n = tR ∧ Wrd.ofE n = 0) ∨ (n = 3 ∧ Wrd.ofT n = tB ∧ Wrd.ofE n = 0) ∨ (n = 4 ∧ Wrd.ofT n = tS ∧ Wrd.ofE n = 0) ∨ (n = 5 ∧ Wrd.ofT n = tU ∧ Wrd.ofE n = 0) ∨
    (Wrd.ofT n = e0 ∧ Wrd.ofE n = 7 ∧ n ≠ 1 ∧ n ≠ 2 ∧ n ≠ 3 ∧ n ≠ 4 ∧ n ≠ 5) := by
  by_cases h1 : n = 1
  · subst h1; exact .inl ⟨rfl, rfl, rfl⟩
  by_cases h2 : n = 2
  · subst h2; exact .inr (.inl ⟨rfl, rfl, rfl⟩)
  by_cases h3 : n = 3
  · subst h3; exact .inr (.inr (.inl ⟨rfl, rfl, rfl⟩))
  by_cases h4 : n = 4
  · subst h4; exact .inr (.inr (.inr (.inl ⟨rfl, rfl, rfl⟩)))
  by_cases h5 : n = 5
  · subst h5; exact .inr (.inr (.inr (.inr (.inl ⟨rfl, rfl, rfl⟩))))
  refine .inr (.inr (.inr (.inr (.inr ⟨?_, ?_, h1, h2, h3, h4, h5⟩))))
  · unfold Wrd.ofT Wrd.bs
    simp only [Wrd.ofF]
    rw [if_neg (by omega), if_neg (by omega), if_neg (by omega), if_neg (by omega), if_neg (by omega)]
  · unfold Wrd.ofE Wrd.bs
    simp only [Wrd.ofF]
    rw [if_neg (by omega), if_neg (by omega), if_neg (by omega), if_neg (by omega), if_neg (by omega)]

def six : List ByteArray := [tI, tR, tB, tS, tU, e0]

theorem ofT_six (n : Int) : Wrd.ofT n ∈ six := by
  unfold six
  rcases ofT_cases n with ⟨_, h, _⟩ | ⟨_, h, _⟩ | ⟨_, h, _⟩ | ⟨_, h, _⟩ | ⟨_, h, _⟩ | ⟨h, _⟩ <;> rw [h] <;> simp

def four : List K := [.ordered, .added, .numbers, .wholes]

def takenK : K → List ByteArray
  | .ordered => [tI, tR] | .added => [tI, tR, tS] | .numbers => [tI, tR] | .wholes => [tI] | _ => []

def resK (k : K) (s : ByteArray) : ByteArray := match k with
  | .ordered => tB
  | _ => s

def goodB (k : K) (s u : ByteArray) : Bool := decide (s = u) && Wrd.has (takenK k) s

def chk (k : K) (s u : ByteArray) : Bool :=
  if goodB k s u = true then decide ((k.take s u).err = 0) && !(k.take s u).dyn && decide ((k.take s u).arg = s) && decide ((k.take s u).res = resK k s) else decide ((k.take s u).err = 7)

theorem chk_all : (four.all fun k => six.all fun s => six.all fun u => chk k s u) = true := by kernel_rfl

theorem take_four {k : K} (hk : k ∈ four) (m n : Int) : chk k (Wrd.ofT m) (Wrd.ofT n) = true := by
  have h := List.all_eq_true.1 chk_all k hk
  have h2 := List.all_eq_true.1 h _ (ofT_six m)
  exact List.all_eq_true.1 h2 _ (ofT_six n)

/-- An operation that takes operands of one type; what it is done as. -/
def opsS : List ByteArray := [oLt, oLe, oAdd, oSub, oMul, oDiv, oMod]

theorem opsS_of {op : ByteArray} (h : op ∈ opsS) : ∃ k d, binK op = some k ∧ binD op = some (k, d) ∧ k ∈ four ∧ ((k = .ordered ∧ (d = .less ∨ d = .atMost)) ∨ (k ≠ .ordered ∧ d = .calc ∧ (op = oAdd ∨ Wrd.has (takenK k) tS = false))) ∧ op.size ≤ 2 := by
  unfold opsS at h
  simp only [List.mem_cons, List.not_mem_nil, or_false] at h
  rcases h with rfl | rfl | rfl | rfl | rfl | rfl | rfl
  · exact ⟨.ordered, .less, by kernel_rfl, by kernel_rfl, by simp [four], .inl ⟨rfl, .inl rfl⟩, by decide⟩
  · exact ⟨.ordered, .atMost, by kernel_rfl, by kernel_rfl, by simp [four], .inl ⟨rfl, .inr rfl⟩, by decide⟩
  · exact ⟨.added, .calc, by kernel_rfl, by kernel_rfl, by simp [four], .inr ⟨by simp, rfl, .inl rfl⟩, by decide⟩
  · exact ⟨.numbers, .calc, by kernel_rfl, by kernel_rfl, by simp [four], .inr ⟨by simp, rfl, .inr (by kernel_rfl)⟩, by decide⟩
  · exact ⟨.numbers, .calc, by kernel_rfl, by kernel_rfl, by simp [four], .inr ⟨by simp, rfl, .inr (by kernel_rfl)⟩, by decide⟩
  · exact ⟨.numbers, .calc, by kernel_rfl, by kernel_rfl, by simp [four], .inr ⟨by simp, rfl, .inr (by kernel_rfl)⟩, by decide⟩
  · exact ⟨.wholes, .calc, by kernel_rfl, by kernel_rfl, by simp [four], .inr ⟨by simp, rfl, .inr (by kernel_rfl)⟩, by decide⟩

theorem six_typ {n : Int} (h : Wrd.ofE n = 0) : Wrd.typ (Wrd.ofT n) = true := by
  rcases ofT_cases n with ⟨_, h1, _⟩ | ⟨_, h1, _⟩ | ⟨_, h1, _⟩ | ⟨_, h1, _⟩ | ⟨_, h1, _⟩ | ⟨h1, h2, _⟩
  · rw [h1]; kernel_rfl
  · rw [h1]; kernel_rfl
  · rw [h1]; kernel_rfl
  · rw [h1]; kernel_rfl
  · rw [h1]; kernel_rfl
  · rw [h] at h2; cases h2

end Go.Proofs.YtcaailiijmjdlaaGreatDoor.Zp

namespace Go.Proofs.YtcaailiijmjdlaaGreatDoor

open Flo Zp

/-- What the law asks of an operation: refused, or allowed by its types and done. -/
theorem sound_plain {op : ByteArray} (h : op ∈ opsS) (a b : V) :
    (goodB ((binK op).getD .any) (Wrd.ofT a.tag) (Wrd.ofT b.tag) = false ∧ doBV op a b = Zp.badD 7 ∧ (Wrd.ofE a.tag = 0 → Wrd.ofE b.tag = 0 → (binV op (Wrd.ofT a.tag) (Wrd.ofT b.tag)).err = 7)) ∨
    (Wrd.ofE a.tag = 0 ∧ Wrd.ofE b.tag = 0 ∧ Wrd.ofT a.tag = Wrd.ofT b.tag ∧ (doBV op a b).err = 0 ∧ (binV op (Wrd.ofT a.tag) (Wrd.ofT b.tag)).err = 0 ∧ (binV op (Wrd.ofT a.tag) (Wrd.ofT b.tag)).dyn = false ∧ (binV op (Wrd.ofT a.tag) (Wrd.ofT b.tag)).arg = Wrd.ofT a.tag ∧
      (((doBV op a b).trap = 0 ∧ Wrd.base (binV op (Wrd.ofT a.tag) (Wrd.ofT b.tag)).res = true ∧ (Wrd.tag (binV op (Wrd.ofT a.tag) (Wrd.ofT b.tag)).res : Int) = (doBV op a b).v.tag) ∨
        ((doBV op a b).v = V.z ∧ (((doBV op a b).trap = 2 ∧ Wrd.ofT a.tag = tI) ∨ ((doBV op a b).trap = 6 ∧ Wrd.ofT a.tag = tS))))) := by
  obtain ⟨k, d, h1, h2, h3, h4, _⟩ := opsS_of h
  have hc := take_four h3 a.tag b.tag
  unfold chk at hc
  rw [h1, Option.getD_some]
  have hD : doBV op a b = zdoV (k.take (Wrd.ofT a.tag) (Wrd.ofT b.tag)) (d.out op a b) := by unfold doBV; rw [h2]
  by_cases hg : goodB k (Wrd.ofT a.tag) (Wrd.ofT b.tag) = true
  · rw [if_pos hg] at hc
    simp only [Bool.and_eq_true, decide_eq_true_eq, Bool.not_eq_true'] at hc
    obtain ⟨⟨⟨e1, e2⟩, e3⟩, e4⟩ := hc
    have hg' := hg
    unfold goodB at hg'
    simp only [Bool.and_eq_true, decide_eq_true_eq] at hg'
    obtain ⟨hs, ht⟩ := hg'
    have hO : doBV op a b = (d.out op a b).d := by rw [hD]; exact if_pos e1
    have hne : Wrd.ofT a.tag ≠ e0 := fun e => by
      rw [e] at ht
      unfold four at h3
      simp at h3
      rcases h3 with rfl | rfl | rfl | rfl <;> exact absurd ht (by decide)
    have hEa : Wrd.ofE a.tag = 0 := by
      rcases ofT_cases a.tag with ⟨_, _, q⟩ | ⟨_, _, q⟩ | ⟨_, _, q⟩ | ⟨_, _, q⟩ | ⟨_, _, q⟩ | ⟨q, _⟩
      iterate 5 exact q
      exact absurd q hne
    have hEb : Wrd.ofE b.tag = 0 := by
      rcases ofT_cases b.tag with ⟨_, _, q⟩ | ⟨_, _, q⟩ | ⟨_, _, q⟩ | ⟨_, _, q⟩ | ⟨_, _, q⟩ | ⟨q, _⟩
      iterate 5 exact q
      rw [← hs] at q
      exact absurd q hne
    have hB : binV op (Wrd.ofT a.tag) (Wrd.ofT b.tag) = k.take (Wrd.ofT a.tag) (Wrd.ofT b.tag) := by
      unfold binV
      rw [h1]
      show (if Wrd.typ (Wrd.ofT a.tag) = false ∨ Wrd.typ (Wrd.ofT b.tag) = false then bad 7 else k.take (Wrd.ofT a.tag) (Wrd.ofT b.tag)) = _
      rw [six_typ hEa, six_typ hEb, if_neg (by simp)]
    rw [hB]
    refine .inr ⟨hEa, hEb, hs, ?_, e1, e2, e3, ?_⟩
    · rw [hO]; cases d.out op a b <;> rfl
    rw [hO, e4]
    rcases h4 with ⟨rfl, hd⟩ | ⟨hk, rfl, hop⟩
    · left
      rcases hd with rfl | rfl
      · exact ⟨rfl, by kernel_rfl, rfl⟩
      · exact ⟨rfl, by kernel_rfl, rfl⟩
    · have hres : resK k (Wrd.ofT a.tag) = Wrd.ofT a.tag := by cases k <;> first | rfl | exact absurd rfl hk
      rw [hres]
      show ((calcO op a b).d.trap = 0 ∧ _ ∧ _ = (calcO op a b).d.v.tag) ∨ ((calcO op a b).d.v = V.z ∧ (((calcO op a b).d.trap = 2 ∧ _) ∨ ((calcO op a b).d.trap = 6 ∧ _)))
      rcases ofT_cases a.tag with ⟨q, q2, _⟩ | ⟨q, q2, _⟩ | ⟨q, q2, _⟩ | ⟨q, q2, _⟩ | ⟨q, q2, _⟩ | ⟨q, _⟩
      · rw [q2]
        have e : calcO op a b = if doE op.data.toList b.n = 3 then .trap 2 else .val (vI (doV op.data.toList a.n b.n)) := if_pos q
        rw [e]
        by_cases h9 : doE op.data.toList b.n = 3
        · rw [if_pos h9]; exact .inr ⟨rfl, .inl ⟨rfl, rfl⟩⟩
        · rw [if_neg h9]; exact .inl ⟨rfl, by kernel_rfl, rfl⟩
      · rw [q2]
        have e : calcO op a b = .val (vR (rdo op a.bits b.bits)) := (if_neg (by omega)).trans (if_pos q)
        rw [e]
        exact .inl ⟨rfl, by kernel_rfl, rfl⟩
      · rw [q2] at ht
        unfold four at h3
        simp at h3
        rcases h3 with rfl | rfl | rfl | rfl <;> exact absurd ht (by decide)
      · rw [q2]
        have e : calcO op a b = if 1000 < (a.s.size : Int) + b.s.size then .trap 6 else .val (vS (a.s ++ b.s)) := (if_neg (by omega)).trans (if_neg (by omega))
        rw [e]
        by_cases h9 : 1000 < (a.s.size : Int) + b.s.size
        · rw [if_pos h9]; exact .inr ⟨rfl, .inr ⟨rfl, rfl⟩⟩
        · rw [if_neg h9]; exact .inl ⟨rfl, by kernel_rfl, rfl⟩
      · rw [q2] at ht
        unfold four at h3
        simp at h3
        rcases h3 with rfl | rfl | rfl | rfl <;> exact absurd ht (by decide)
      · exact absurd q hne
  · rw [if_neg hg] at hc
    have e7 : (k.take (Wrd.ofT a.tag) (Wrd.ofT b.tag)).err = 7 := by simpa using hc
    refine .inl ⟨by simpa using hg, ?_, fun hEa hEb => ?_⟩
    · rw [hD]
      show (if _ then _ else _) = _
      rw [if_neg (by rw [e7]; decide), e7]
    · have hB : binV op (Wrd.ofT a.tag) (Wrd.ofT b.tag) = k.take (Wrd.ofT a.tag) (Wrd.ofT b.tag) := by
        unfold binV
        rw [h1]
        show (if Wrd.typ (Wrd.ofT a.tag) = false ∨ Wrd.typ (Wrd.ofT b.tag) = false then bad 7 else k.take (Wrd.ofT a.tag) (Wrd.ofT b.tag)) = _
        rw [six_typ hEa, six_typ hEb, if_neg (by simp)]
      rw [hB]; exact e7
end Go.Proofs.YtcaailiijmjdlaaGreatDoor

/- OpersSound: typed, and what the walk's ends need. -/
set_option linter.unusedSimpArgs false
set_option linter.unusedVariables false
set_option maxRecDepth 100000
namespace Go.Proofs.YtcaailiijmjdlaaGreatDoor
open Go.ChangeShapes Go.WideShapes Go.ChangeAt Go.RowKit Flo
attribute [local go_sem] Oper.semAt_some
open Zp (V)

theorem ltyped_c (v : V) (pv : Option Addr) (lv cv : Nat) (s : ByteArray) (w : World) (hT : Tb w) (h0 : Wrd.tagE s = 0) (h1 : v.tag = Wrd.tag s) :
    Calls Tryz.prog 38 #[v.v (.slice pv lv cv), .string s] w fun e w' => e = .returned (.bool true) ∧ Kept w w' := by
  obtain ⟨W1, hW1⟩ : ∃ W, w.alloc (.cells #[.int .i64 v.tag, .int .i64 v.n, .int .u64 (v.bits : Int), .string v.s, .slice pv lv cv] vT) = W := ⟨_, rfl⟩
  obtain ⟨k1, b1, zsz⟩ := vnew hW1
  clear zsz
  have HB := Lib.hid (show Blk W1 w.heap.size vT (five v pv lv cv) from b1)
  have HK := Lib.hid k1
  have HT := Lib.hid hT
  have HW1 := Lib.hid hW1
  have H0 := Lib.hid h0
  have H1 := Lib.hid h1
  clear hW1 b1 k1 hT h0 h1
  go_enter Tryz.func38, Tryz.ntmps38
  go_wp2_with (first | rw [HW1.out])
  refine (tag_c s W1 (HT.out.kept HK.out)).mono ?_
  rintro e w2 ⟨rfl, k2⟩
  rw [H0.out, ← H1.out]
  replace HB := Lib.hid (HB.out.kept k2)
  replace HK := Lib.hid (HK.out.trans k2)
  clear k2
  obtain ⟨x0, x1, x2, x3, x4⟩ := blkF HB.out
  go_wp2_with fail
  go_ret
  exact ⟨rfl, HK.out⟩
end Go.Proofs.YtcaailiijmjdlaaGreatDoor

/- OpersSound's walk. -/
set_option linter.unusedSimpArgs false
set_option linter.unusedVariables false
set_option maxRecDepth 100000
namespace Go.Proofs.YtcaailiijmjdlaaGreatDoor
open Go.ChangeShapes Go.WideShapes Go.ChangeAt Go.RowKit Flo
attribute [local go_sem] Oper.semAt_some
open Zp (V)

theorem twoB {W : World} {g h : Nat} {t u : TypeId} {a b : V} {pa pb : Option Addr} {la ca lb cb : Nat} (x : Blk W g t (five a pa la ca)) (y : Blk W h u (five b pb lb cb)) : W.cell? ⟨g, 0, none⟩ = some (.int .i64 a.tag) ∧ W.cell? ⟨g, 1, none⟩ = some (.int .i64 a.n) ∧ W.cell? ⟨g, 2, none⟩ = some (.int .u64 (a.bits : Int)) ∧ W.cell? ⟨g, 3, none⟩ = some (.string a.s) ∧ W.cell? ⟨g, 4, none⟩ = some (.slice pa la ca) ∧ W.cell? ⟨h, 0, none⟩ = some (.int .i64 b.tag) ∧ W.cell? ⟨h, 1, none⟩ = some (.int .i64 b.n) ∧ W.cell? ⟨h, 2, none⟩ = some (.int .u64 (b.bits : Int)) ∧ W.cell? ⟨h, 3, none⟩ = some (.string b.s) ∧ W.cell? ⟨h, 4, none⟩ = some (.slice pb lb cb) :=
  ⟨(blkF x).1, (blkF x).2.1, (blkF x).2.2.1, (blkF x).2.2.2.1, (blkF x).2.2.2.2, blkF y⟩

set_option maxHeartbeats 8000000 in
theorem osound_c (p : Int) (hp1 : -9223372036854775808 ≤ p) (hp2 : p ≤ 9223372036854775807) (a b : V) (ha : V.ok a) (hb : V.ok b) (x y : List Ly) (pa pb : Option Addr) (la ca lb cb : Nat) (w : World) (hT : Tb w) (hTab : Tab w) (hx : LysAt w (.slice pa la ca) x) (hy : LysAt w (.slice pb lb cb) y) :
    Calls Tryz.prog 6 #[.int .i64 p, a.v (.slice pa la ca), b.v (.slice pb lb cb)] w fun e w' => e = .returned (.bool true) ∧ Kept w w' := by
  obtain rfl : la = x.length := by obtain ⟨_, _, e, _⟩ := hx; injection e
  obtain rfl : lb = y.length := by obtain ⟨_, _, e, _⟩ := hy; injection e
  obtain ⟨la, hla⟩ : ∃ la, x.length = la := ⟨_, rfl⟩
  obtain ⟨lb, hlb⟩ : ∃ lb, y.length = lb := ⟨_, rfl⟩
  have hl1 := fun W (h : LysAt W (.slice pa x.length ca) x) => longV_c a (by have := ha.s; unfold maxLen; omega) x pa ca W h
  have hl2 := fun W (h : LysAt W (.slice pb y.length cb) y) => longV_c b (by have := hb.s; unfold maxLen; omega) y pb cb W h
  have HX := Lib.hid hx
  have HTAB := Lib.hid hTab
  have HPK := Lib.hid (fun W => pick_v p 7 W (by omega) (by omega) hp1 hp2)
  have HPL := Lib.hid (pickN_lt p (n := 7) (by omega))
  clear hTab hp1 hp2
  have HY := Lib.hid hy
  rw [hla] at hl1 HX ⊢
  rw [hlb] at hl2 HY ⊢
  have HL1 := Lib.hid hl1
  have HL2 := Lib.hid hl2
  clear hl1 hl2 hla hlb hx hy
  obtain ⟨W1, hW1⟩ : ∃ W, w.alloc (.cells #[.int .i64 a.tag, .int .i64 a.n, .int .u64 (a.bits : Int), .string a.s, .slice pa la ca] vT) = W := ⟨_, rfl⟩
  obtain ⟨W2, hW2⟩ : ∃ W, W1.alloc (.cells #[.int .i64 b.tag, .int .i64 b.n, .int .u64 (b.bits : Int), .string b.s, .slice pb lb cb] vT) = W := ⟨_, rfl⟩
  obtain ⟨b1, b2, k2, z1⟩ := two_box hW1 hW2
  have HA := Lib.hid (show Blk W2 w.heap.size vT (five a pa la ca) from b1)
  have HB := Lib.hid (show Blk W2 (w.heap.size + 1) vT (five b pb lb cb) from b2)
  have HK := Lib.hid k2
  have HT := Lib.hid hT
  have HOA := Lib.hid ha
  have HOB := Lib.hid hb
  have HW1 := Lib.hid hW1
  have HW2 := Lib.hid hW2
  clear hW1 hW2 b1 b2 k2 ha hb hT
  go_enter Tryz.func6, Tryz.ntmps6
  go_wp2_with (first | rw [HW1.out] | rw [z1] | rw [HW2.out])
  refine (lknown_c W2 (HT.out.kept HK.out) (HK.out.cell HTAB.out)).mono ?_
  rintro e w3 ⟨rfl, k3⟩
  replace HA := Lib.hid (HA.out.kept k3)
  replace HB := Lib.hid (HB.out.kept k3)
  replace HK := Lib.hid (HK.out.trans k3)
  clear k3
  obtain ⟨x0, x1, x2, x3, x4, y0, y1, y2, y3, y4⟩ := twoB HA.out HB.out
  go_wp2_with fail
  refine (HL1.out w3 (lys_kept HX.out HK.out)).mono ?_
  rintro e w4 ⟨⟨t, rfl, ht⟩, k3⟩
  cases t with
  | true =>
    have HKE := Lib.hid (HK.out.trans k3)
    clear k3 ht
    go_wp2_with fail
    go_ret
    exact ⟨rfl, HKE.out⟩
  | false =>
    have HSA := Lib.hid (ht rfl)
    replace HA := Lib.hid (HA.out.kept k3)
    replace HB := Lib.hid (HB.out.kept k3)
    replace HK := Lib.hid (HK.out.trans k3)
    clear k3 ht x0 x1 x2 x3 x4 y0 y1 y2 y3 y4
    obtain ⟨x0, x1, x2, x3, x4, y0, y1, y2, y3, y4⟩ := twoB HA.out HB.out
    go_wp2_with fail
    refine (HL2.out w4 (lys_kept HY.out HK.out)).mono ?_
    rintro e w5 ⟨⟨t, rfl, ht⟩, k3⟩
    cases t with
    | true =>
      have HKE := Lib.hid (HK.out.trans k3)
      clear k3 ht
      go_wp2_with fail
      go_ret
      exact ⟨rfl, HKE.out⟩
    | false =>
      have HSB := Lib.hid (ht rfl)
      replace HA := Lib.hid (HA.out.kept k3)
      replace HB := Lib.hid (HB.out.kept k3)
      replace HK := Lib.hid (HK.out.trans k3)
      have HMA := Lib.hid (show V.okM a from ⟨HOA.out.bits, by have := HSA.out; omega⟩)
      have HMB := Lib.hid (show V.okM b from ⟨HOB.out.bits, by have := HSB.out; omega⟩)
      clear k3 ht x0 x1 x2 x3 x4 y0 y1 y2 y3 y4
      obtain ⟨x0, x1, x2, x3, x4, y0, y1, y2, y3, y4⟩ := twoB HA.out HB.out
      go_upto_region 4 with fail
      go_cut [8] from 18 (fun s8 w' => ∃ op, op ∈ Zp.opsS ∧ s8 = .string op ∧ Hid (Kept w w') ∧ Hid (Blk w' w.heap.size vT (five a pa la ca)) ∧ Hid (Blk w' (w.heap.size + 1) vT (five b pb lb cb)))
      case rest =>
        obtain ⟨op, hop, rfl, HKc, HAc, HBc⟩ := hcut
        clear HPK HPL HX HY HL1 HL2 HW1 HW2 HA HB
        have hsz : op.size ≤ 2 := (Zp.opsS_of hop).choose_spec.choose_spec.2.2.2.2
        obtain ⟨d, hd⟩ : ∃ d, doBV op a b = d := ⟨_, rfl⟩
        have HDO := Lib.hid (fun W (h : Tb W) => zdo_c op (by omega) a b HMA.out HMB.out pa pb la ca lb cb W h)
        rw [hd] at HDO
        obtain ⟨x0, x1, x2, x3, x4, y0, y1, y2, y3, y4⟩ := twoB HAc.out HBc.out
        obtain ⟨s, hs⟩ : ∃ s, Wrd.ofT a.tag = s := ⟨_, rfl⟩
        obtain ⟨u, hu⟩ : ∃ s, Wrd.ofT b.tag = s := ⟨_, rfl⟩
        obtain ⟨fs, hfs⟩ : ∃ n, Wrd.ofE a.tag = n := ⟨_, rfl⟩
        obtain ⟨fu, hfu⟩ : ∃ n, Wrd.ofE b.tag = n := ⟨_, rfl⟩
        obtain ⟨o, ho⟩ : ∃ o, Zp.binV op s u = o := ⟨_, rfl⟩
        have F1 : fs = 0 ∨ fs = 7 := by rw [← hfs]; rcases Zp.ofT_cases a.tag with ⟨_, _, h⟩ | ⟨_, _, h⟩ | ⟨_, _, h⟩ | ⟨_, _, h⟩ | ⟨_, _, h⟩ | ⟨_, h, _⟩ <;> omega
        have F2 : fu = 0 ∨ fu = 7 := by rw [← hfu]; rcases Zp.ofT_cases b.tag with ⟨_, _, h⟩ | ⟨_, _, h⟩ | ⟨_, _, h⟩ | ⟨_, _, h⟩ | ⟨_, _, h⟩ | ⟨_, h, _⟩ <;> omega
        have six : ∀ n, Small (Wrd.ofT n) := by
          intro n
          rcases Zp.ofT_cases n with ⟨_, h, _⟩ | ⟨_, h, _⟩ | ⟨_, h, _⟩ | ⟨_, h, _⟩ | ⟨_, h, _⟩ | ⟨h, _⟩ <;> rw [h] <;> exact smallL (by decide)
        have z1 := six a.tag
        have z2 := six b.tag
        have HO1 := Lib.hid (fun W (h : Tb W) => oft_c a.tag W h)
        have HO2 := Lib.hid (fun W (h : Tb W) => oft_c b.tag W h)
        have HSP := Lib.hid (sound_plain hop a b)
        rw [hs, hfs] at HO1
        rw [hu, hfu] at HO2
        rw [hd, hs, hu, hfs, hfu, ho] at HSP
        rw [hs] at z1
        rw [hu] at z2
        have HBN := Lib.hid (fun W (h : Tb W) => zbin_c op s u (show op.size ≤ _ by omega) z1 z2 W h)
        rw [ho] at HBN
        have HF := Lib.hid (And.intro F1 F2)
        clear hop hd hs hu hfs hfu ho F1 F2 six z1 z2 hsz
        go_wp2_with fail
        refine (HDO.out wc (HT.out.kept HKc.out)).mono ?_
        rintro e w7 ⟨rfl, k7⟩
        obtain ⟨W8, hW8⟩ : ∃ W, w7.alloc (.cells vZ vT) = W := ⟨_, rfl⟩
        have b8 := (vnew hW8).2.1
        have k8 := (vnew hW8).1
        obtain ⟨W9, hW9⟩ : ∃ W, put5 W8 w7.heap.size (.int .i64 d.v.tag) (.int .i64 d.v.n) (.int .u64 (d.v.bits : Int)) (.string d.v.s) (.slice none 0 0) = W := ⟨_, rfl⟩
        have k9 : Kept w7 W9 := by rw [← hW9]; exact k8.only (put5_only _ _ _ _ _ _ _) rfl (fun k e => by omega)
        have HD9 := Lib.hid (show Blk W9 w7.heap.size vT (five d.v none 0 0) by rw [← hW9]; exact put5_blk b8 _ _ _ _ _)
        have HW8 := Lib.hid hW8
        have HW9 := Lib.hid (show ((((W8.setCell ⟨w7.heap.size, 0, none⟩ (.int .i64 d.v.tag)).setCell ⟨w7.heap.size, 1, none⟩ (.int .i64 d.v.n)).setCell ⟨w7.heap.size, 2, none⟩ (.int .u64 (d.v.bits : Int))).setCell ⟨w7.heap.size, 3, none⟩ (.string d.v.s)).setCell ⟨w7.heap.size, 4, none⟩ (.slice none 0 0) = W9 from hW9)
        obtain ⟨⟨c0, c1, c2, c3, c4⟩, d0, d1, d2, d3, d4⟩ := blk5 b8
        replace HAc := Lib.hid (HAc.out.kept (k7.trans k9))
        replace HBc := Lib.hid (HBc.out.kept (k7.trans k9))
        replace HKc := Lib.hid (HKc.out.trans (k7.trans k9))
        clear x0 x1 x2 x3 x4 y0 y1 y2 y3 y4
        obtain ⟨x0, x1, x2, x3, x4, y0, y1, y2, y3, y4⟩ := twoB HAc.out HBc.out
        clear hW8 hW9 b8 k8 k9 k7
        go_wp2_with (first | rw [HW8.out] | rw [HW9.out])
        refine (HO1.out W9 (HT.out.kept HKc.out)).mono ?_
        rintro e w10 ⟨rfl, k10⟩
        replace HAc := Lib.hid (HAc.out.kept k10)
        replace HBc := Lib.hid (HBc.out.kept k10)
        replace HD9 := Lib.hid (HD9.out.kept k10)
        replace HKc := Lib.hid (HKc.out.trans k10)
        clear k10 x0 x1 x2 x3 x4 y0 y1 y2 y3 y4 c0 c1 c2 c3 c4 d0 d1 d2 d3 d4
        obtain ⟨x0, x1, x2, x3, x4, y0, y1, y2, y3, y4⟩ := twoB HAc.out HBc.out
        go_wp2_with fail
        refine (HO2.out w10 (HT.out.kept HKc.out)).mono ?_
        rintro e w11 ⟨rfl, k10⟩
        replace HAc := Lib.hid (HAc.out.kept k10)
        replace HBc := Lib.hid (HBc.out.kept k10)
        replace HD9 := Lib.hid (HD9.out.kept k10)
        replace HKc := Lib.hid (HKc.out.trans k10)
        clear k10 x0 x1 x2 x3 x4 y0 y1 y2 y3 y4
        obtain ⟨v0, v1, v2, v3, v4⟩ := blkF HD9.out
        have hfs := HF.out.1
        have hfu := HF.out.2
        rcases HSP.out with ⟨_, hd7, hb⟩ | ⟨e1, e2, e3, e4, e5, e6, e7, e8⟩
        · have he : d.err = 7 := by rw [hd7]
          have ht : d.trap = 0 := by rw [hd7]
          have HV := Lib.hid (show d.v = V.z by rw [hd7])
          have HHB := Lib.hid hb
          clear hd7 hb HSP
          rcases hfs with rfl | rfl
          · rcases hfu with rfl | rfl
            · have hob : o.err = 7 := HHB.out rfl rfl
              go_wp2_with fail
              refine (HBN.out w11 (HT.out.kept HKc.out)).mono ?_
              rintro e w12 ⟨rfl, k⟩
              obtain ⟨W13, hW13⟩ : ∃ W, w12.alloc (.cells opZ opT) = W := ⟨_, rfl⟩
              have b13 := (vnew hW13).2.1
              have k13 := (vnew hW13).1
              obtain ⟨W14, hW14⟩ : ∃ W, put3 W13 w12.heap.size (.string o.arg) (.string o.res) (.bool o.dyn) = W := ⟨_, rfl⟩
              have k14 : Kept w12 W14 := by rw [← hW14]; exact k13.only (put3_only _ _ _ _ _) rfl (fun k e => by omega)
              have b14 : Blk W14 w12.heap.size opT #[.string o.arg, .string o.res, .bool o.dyn] := by rw [← hW14]; exact put3_blk b13 _ _ _
              obtain ⟨c0, c1, c2, f0, f1, f2⟩ := blk3 b13
              have HO14 := Lib.hid b14
              replace HD9 := Lib.hid (HD9.out.kept (k.trans k14))
              replace HKc := Lib.hid (HKc.out.trans (k.trans k14))
              have HW13 := Lib.hid hW13
              have HW14 := Lib.hid (show ((W13.setCell ⟨w12.heap.size, 0, none⟩ (.string o.arg)).setCell ⟨w12.heap.size, 1, none⟩ (.string o.res)).setCell ⟨w12.heap.size, 2, none⟩ (.bool o.dyn) = W14 from hW14)
              obtain ⟨p0, p1, p2, _⟩ := blk3 b14
              clear k13 k14 b13 b14 hW13 hW14 k x0 x1 x2 x3 x4 y0 y1 y2 y3 y4 v0 v1 v2 v3 v4
              obtain ⟨v0, v1, v2, v3, v4⟩ := blkF HD9.out
              unfold Zp.R.val
              go_wp2_with (first | rw [HW13.out] | rw [HW14.out])
              go_ret
              exact ⟨rfl, HKc.out⟩
            · go_wp2_with fail
              refine (sameVal_c d.v V.z w11).mono ?_
              rintro e w12 ⟨rfl, k⟩
              rw [HV.out, show Zp.sameV V.z V.z = true by kernel_rfl]
              have HKE := Lib.hid (HKc.out.trans k)
              clear k
              go_wp2_with fail
              go_ret
              exact ⟨rfl, HKE.out⟩
          · go_wp2_with fail
            refine (sameVal_c d.v V.z w11).mono ?_
            rintro e w12 ⟨rfl, k⟩
            rw [HV.out, show Zp.sameV V.z V.z = true by kernel_rfl]
            have HKE := Lib.hid (HKc.out.trans k)
            clear k
            go_wp2_with fail
            go_ret
            exact ⟨rfl, HKE.out⟩
        · subst e1 e2 e3
          obtain ⟨oa, ores, od, oe⟩ := o
          dsimp only at e5 e6 e7 e8
          subst e5 e6 e7
          have e8' := Lib.hid e8
          clear e8 HSP HF hfs hfu
          go_wp2_with fail
          refine (HBN.out w11 (HT.out.kept HKc.out)).mono ?_
          rintro e w12 ⟨rfl, k⟩
          obtain ⟨W13, hW13⟩ : ∃ W, w12.alloc (.cells opZ opT) = W := ⟨_, rfl⟩
          have b13 := (vnew hW13).2.1
          have k13 := (vnew hW13).1
          obtain ⟨W14, hW14⟩ : ∃ W, put3 W13 w12.heap.size (.string oa) (.string ores) (.bool false) = W := ⟨_, rfl⟩
          have k14 : Kept w12 W14 := by rw [← hW14]; exact k13.only (put3_only _ _ _ _ _) rfl (fun k e => by omega)
          have b14 : Blk W14 w12.heap.size opT #[.string oa, .string ores, .bool false] := by rw [← hW14]; exact put3_blk b13 _ _ _
          obtain ⟨c0, c1, c2, f0, f1, f2⟩ := blk3 b13
          replace HD9 := Lib.hid (HD9.out.kept (k.trans k14))
          replace HKc := Lib.hid (HKc.out.trans (k.trans k14))
          have HW13 := Lib.hid hW13
          have HW14 := Lib.hid (show ((W13.setCell ⟨w12.heap.size, 0, none⟩ (.string oa)).setCell ⟨w12.heap.size, 1, none⟩ (.string ores)).setCell ⟨w12.heap.size, 2, none⟩ (.bool false) = W14 from hW14)
          obtain ⟨p0, p1, p2, _⟩ := blk3 b14
          clear k13 k14 b13 b14 hW13 hW14 k x0 x1 x2 x3 x4 y0 y1 y2 y3 y4 v0 v1 v2 v3 v4
          obtain ⟨v0, v1, v2, v3, v4⟩ := blkF HD9.out
          unfold Zp.R.val
          rcases e8'.out with ⟨ht, hbase, htag⟩ | ⟨hz, ⟨ht, hs⟩ | ⟨ht, hs⟩⟩
          · have HTY := Lib.hid (fun W (h : Tb W) => ltyped_c d.v none 0 0 ores W h (by unfold Wrd.tagE; rw [if_pos hbase]) htag.symm)
            clear hbase htag e8'
            go_wp2_with (first | rw [HW13.out] | rw [HW14.out])
            refine (HTY.out W14 (HT.out.kept HKc.out)).mono ?_
            rintro e w15 ⟨rfl, k⟩
            have HKE := Lib.hid (HKc.out.trans k)
            clear k
            go_wp2_with fail
            go_ret
            exact ⟨rfl, HKE.out⟩
          · have HZ := Lib.hid hz
            clear hz e8'
            have hs' : oa = ⟨#[105, 110, 116]⟩ := hs
            clear hs
            subst hs'
            go_wp2_with (first | rw [HW13.out] | rw [HW14.out])
            refine (sameVal_c d.v V.z W14).mono ?_
            rintro e w15 ⟨rfl, k⟩
            rw [HZ.out, show Zp.sameV V.z V.z = true by kernel_rfl]
            have HKE := Lib.hid (HKc.out.trans k)
            clear k
            go_wp2_with fail
            go_ret
            exact ⟨rfl, HKE.out⟩
          · have HZ := Lib.hid hz
            clear hz e8'
            have hs' : oa = ⟨#[115, 116, 114]⟩ := hs
            clear hs
            subst hs'
            go_wp2_with (first | rw [HW13.out] | rw [HW14.out])
            refine (sameVal_c d.v V.z W14).mono ?_
            rintro e w15 ⟨rfl, k⟩
            rw [HZ.out, show Zp.sameV V.z V.z = true by kernel_rfl]
            have HKE := Lib.hid (HKc.out.trans k)
            clear k
            go_wp2_with fail
            go_ret
            exact ⟨rfl, HKE.out⟩
      rename_i J1 K1 hJ1 hK1
      obtain ⟨W6, hW6⟩ : ∃ W, w5.alloc (.cells #[.string ⟨#[60]⟩, .string ⟨#[60, 61]⟩, .string ⟨#[43]⟩, .string ⟨#[45]⟩, .string ⟨#[42]⟩, .string ⟨#[47]⟩, .string ⟨#[37]⟩] 9) = W := ⟨_, rfl⟩
      have b6 := (vnew hW6).2.1
      have k6 := (vnew hW6).1
      have HW6 := Lib.hid hW6
      have HK6 := Lib.hid (HK.out.trans k6)
      have HA6 := Lib.hid (HA.out.kept k6)
      have HB6 := Lib.hid (HB.out.kept k6)
      have c0 := b6.cell 0
      have c1 := b6.cell 1
      have c2 := b6.cell 2
      have c3 := b6.cell 3
      have c4 := b6.cell 4
      have c5 := b6.cell 5
      have c6 := b6.cell 6
      clear hW6 b6 k6 x0 x1 x2 x3 x4 y0 y1 y2 y3 y4
      go_wp2_with (rw [HW6.out])
      refine (HPK.out W6).mono ?_
      rintro e w7 ⟨rfl, rfl⟩
      have hpl := HPL.out
      generalize pickN p 7 = q at hpl ⊢
      have hq : q = 0 ∨ q = 1 ∨ q = 2 ∨ q = 3 ∨ q = 4 ∨ q = 5 ∨ q = 6 := by omega
      clear hpl
      rcases hq with rfl | rfl | rfl | rfl | rfl | rfl | rfl
      all_goals
        go_wp2_with fail
        refine Met.intro (hJ1 _ _ ?_)
        repeat apply Exists.intro
        refine ⟨?rel, rfl⟩
        case rel => exact ⟨_, (by unfold Zp.opsS; simp [Zp.oLt, Zp.oLe, Zp.oAdd, Zp.oSub, Zp.oMul, Zp.oDiv, Zp.oMod]), rfl, HK6, HA6, HB6⟩
end Go.Proofs.YtcaailiijmjdlaaGreatDoor

/- OpersSound's walk, in the order of its card. -/
namespace Go.Proofs.YtcaailiijmjdlaaGreatDoor
open Go.ChangeShapes Go.WideShapes Go.ChangeAt Go.RowKit Flo
open Zp (V)
theorem osound_card (p : Int) (a : V) (pa : Option Addr) (x : List Ly) (ca : Nat) (b : V) (pb : Option Addr) (y : List Ly) (cb : Nat) (w : World) (hT : Tb w) (hTab : Tab w) (ha : V.ok a) (hx : LysAt w (.slice pa x.length ca) x) (hb : V.ok b) (hy : LysAt w (.slice pb y.length cb) y) (hp1 : -9223372036854775808 ≤ p) (hp2 : p ≤ 9223372036854775807) :
    Calls Tryz.prog 6 #[.int .i64 p, a.v (.slice pa x.length ca), b.v (.slice pb y.length cb)] w fun e w' => e = .returned (.bool true) ∧ Kept w w' :=
  osound_c p hp1 hp2 a b ha hb x y pa pb x.length ca y.length cb w hT hTab hx hy
end Go.Proofs.YtcaailiijmjdlaaGreatDoor
