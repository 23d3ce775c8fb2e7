/- A value that came in; LongValue. -/
import Derived.Test.YtcaailiijmjdlaaDoorZwb
import Derived.Test.YtcaailiijmjdlaaDoorChl
set_option linter.unusedSimpArgs false
set_option linter.unusedVariables false
set_option maxRecDepth 100000

namespace Go.Proofs.YtcaailiijmjdlaaDoor

open Go.ChangeShapes Go.WideShapes Go.ChangeAt Go.RowKit Go.Deep

attribute [local go_sem] Oper.semAt_some

open Zp (V)

def LongV (a : V) (e : Ending) : Prop := ∃ t, e = .returned (.bool t) ∧ (t = false → a.s.size ≤ 60)

set_option maxHeartbeats 2000000 in
theorem longV_c (a : V) (hs : a.s.size ≤ maxLen) (l : List Ly) (pa : Option Addr) (c : Nat) (w : World) (h : LysAt w (.slice pa l.length c) l) :
    Calls Tryd.prog 5 #[a.v (.slice pa l.length c)] w fun e w' => LongV a e ∧ Kept w w' := by
  have hcap : l.length ≤ maxLen := Row.len h
  obtain ⟨W1, hW1⟩ : ∃ W, w.alloc (.cells #[.int .i64 a.tag, .int .i64 a.n, .int .u64 (a.bits : Int), .string a.s, .slice pa l.length c] vT) = W := ⟨_, rfl⟩
  obtain ⟨k1, b1, z1⟩ := vnew hW1
  have h1 := lys_kept h k1
  obtain ⟨_, _, e0, _, _, hat⟩ := h1
  injection e0 with e1 e2 e3
  subst e1 e3
  clear e2
  have HAT := Lib.hid hat
  have HK := Lib.hid k1
  have HW1 := Lib.hid hW1
  obtain ⟨⟨x0, x1, x2, x3, x4⟩, _⟩ := blk5 b1
  unfold maxLen at hcap hs
  clear hat k1 hW1 b1 h z1
  go_enter Tryd.func5, Tryd.ntmps5
  go_wp2_with (rw [HW1.out])
  go_loopw [3] (fun i wr => ∃ k : Nat, i = .int .i64 k ∧ k ≤ l.length ∧ k ≤ 61 ∧ wr = W1) (fun i wr => 62 - (intOf i).toNat)
  case atStart => exact ⟨0, rfl, by omega, by omega, rfl⟩
  case round =>
    obtain ⟨k, rfl, hk, hk2, rfl⟩ := hrel
    by_cases hlt : k < l.length ∧ k < 61
    · have hltI : (k : Int) < (l.length : Int) := by omega
      have hlt6 : (k : Int) < 61 := by omega
      have hx : l[k]? = some l[k] := List.getElem?_eq_getElem hlt.1
      generalize hy : l[k] = y at hx
      obtain ⟨b, o, rfl, q0, q1, q2, q3⟩ := HAT.out k y hx
      unfold maxLen at q3
      clear hx hy
      by_cases hc : (60 : Int) < y.cls.size
      · go_wp2_with fail
        go_ret
        exact ⟨⟨true, rfl, fun h => by cases h⟩, HK.out⟩
      · go_wp2_with fail
        go_roundw
        case rel => exact ⟨k + 1, by go_num, by omega, by omega, by first | trivial | rfl⟩
        case measure => simp [intOf]; omega
    · by_cases hL : (60 : Int) < l.length
      · have hk6 : k = 61 := by omega
        subst hk6
        have g1 : ((61 : Nat) : Int) ≤ (l.length : Int) := by omega
        by_cases g2 : ((61 : Nat) : Int) < (l.length : Int)
        · go_wp2_with fail
          go_ret
          exact ⟨⟨true, rfl, fun h => by cases h⟩, HK.out⟩
        · go_wp2_with fail
          go_ret
          exact ⟨⟨true, rfl, fun h => by cases h⟩, HK.out⟩
      · obtain rfl : k = l.length := by omega
        by_cases hS : (60 : Int) < a.s.size
        · go_wp2_with fail
          go_ret
          exact ⟨⟨true, rfl, fun h => by cases h⟩, HK.out⟩
        · have HS := Lib.hid (show a.s.size ≤ 60 by omega)
          go_wp2_with fail
          go_ret
          exact ⟨⟨false, rfl, fun _ => HS.out⟩, HK.out⟩

theorem val_fields : ∃ fs : Array Field, Tryd.prog.underlying 25 = some (.struct fs) ∧ oneCellFields Tryd.prog fs = true ∧ fs.size = 5 ∧ (∃ f, fs[0]? = some f ∧ f.type = 3) ∧ (∃ f, fs[1]? = some f ∧ f.type = 3) ∧ (∃ f, fs[2]? = some f ∧ f.type = 22) ∧ (∃ f, fs[3]? = some f ∧ f.type = 9) ∧ (∃ f, fs[4]? = some f ∧ f.type = 23) := by
  refine ⟨_, Tryd.underlying25, ?_, rfl, ⟨_, rfl, rfl⟩, ⟨_, rfl, rfl⟩, ⟨_, rfl, rfl⟩, ⟨_, rfl, rfl⟩, ⟨_, rfl, rfl⟩⟩
  kernel_rfl

theorem open_value {H : Type} {enc : TypeId × Value → H} {w : World} {base : Nat} {spare : Nat → Bool} {held : Bool} {fuel : Nat} {cs : List Value} {x : DataW H × List MemPlace} (h : DataW.trod enc Tryd.prog w base spare held fuel 25 cs = some x) :
    ∃ (y : V) (ad : Option Addr) (c : Nat) (l : List Ly), cs = y.c (.slice ad l.length c) ∧ V.ok y ∧ LysAt w (.slice ad l.length c) l := by
  obtain ⟨fs, hs, hone, hsz, ⟨f0, e0, t0⟩, ⟨f1, e1, t1⟩, ⟨f2, e2, t2⟩, ⟨f3, e3, t3⟩, ⟨f4, e4, t4⟩⟩ := val_fields
  obtain ⟨ys, n', hn', hy, hlen, hyl, hf⟩ := DataW.trod_struct hs h
  have hC : Tryd.prog.cellsOf 25 = 5 := by kernel_rfl
  have hcl : cs.length = 5 := hlen.trans hC
  match cs, hcl with
  | [v0, v1, v2, v3, v4], _ =>
    obtain ⟨o0, k0⟩ := hone_of hone 0 f0 e0
    obtain ⟨o1, k1⟩ := hone_of hone 1 f1 e1
    obtain ⟨o2, k2⟩ := hone_of hone 2 f2 e2
    obtain ⟨o3, k3⟩ := hone_of hone 3 f3 e3
    obtain ⟨o4, k4⟩ := hone_of hone 4 f4 e4
    have g0 := hf 0 f0 e0
    have g1 := hf 1 f1 e1
    have g2 := hf 2 f2 e2
    have g3 := hf 3 f3 e3
    have g4 := hf 4 f4 e4
    rw [hsz] at hyl
    match ys, hyl with
    | [y0, y1, y2, y3, y4], _ =>
      rw [o0, k0, t0] at g0
      rw [o1, k1, t1] at g1
      rw [o2, k2, t2] at g2
      rw [o3, k3, t3] at g3
      rw [o4, k4, t4] at g4
      have g0' : DataW.trod enc Tryd.prog w base spare held n' 3 [v0] = some y0 := g0
      have g1' : DataW.trod enc Tryd.prog w base spare held n' 3 [v1] = some y1 := g1
      have g2' : DataW.trod enc Tryd.prog w base spare held n' 22 [v2] = some y2 := g2
      have g3' : DataW.trod enc Tryd.prog w base spare held n' 9 [v3] = some y3 := g3
      have g4' : DataW.trod enc Tryd.prog w base spare held n' 23 [v4] = some y4 := g4
      obtain ⟨m0, r0, _, w0⟩ := DataW.trod_int Tryd.underlying3 g0'
      obtain ⟨m1, r1, _, w1⟩ := DataW.trod_int Tryd.underlying3 g1'
      obtain ⟨m2, r2, _, w2⟩ := DataW.trod_int Tryd.underlying22 g2'
      obtain ⟨s3, r3, _, w3⟩ := DataW.trod_string Tryd.underlying9 g3'
      obtain ⟨l4, hl4⟩ := open_lys g4'
      injection r0 with r0
      injection r1 with r1
      injection r2 with r2
      injection r3 with r3
      subst r0 r1 r2 r3
      obtain ⟨ad, c, rfl, hrest⟩ := id hl4
      have b1 : -9223372036854775808 ≤ m1 ∧ m1 ≤ 9223372036854775807 := bounds_i64 w1
      have b2 : (0 : Int) ≤ m2 ∧ m2 ≤ 18446744073709551615 := bounds_u64 w2
      refine ⟨⟨m0, m1, m2.toNat, s3⟩, ad, c, l4, ?_, ⟨b1, ?_, ?_⟩, hl4⟩
      · show _ = [Value.int .i64 m0, .int .i64 m1, .int .u64 ((m2.toNat : Nat) : Int), .string s3, _]
        rw [show ((m2.toNat : Nat) : Int) = m2 by omega]
      · show m2.toNat < _; omega
      · unfold maxLen at w3; show s3.size ≤ _; omega
end Go.Proofs.YtcaailiijmjdlaaDoor
