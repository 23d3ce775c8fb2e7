/- The chapter's examples of parser, reckoned in plain words. -/
import Derived.Test.YtfkmnpgpfmkjaaaGreatDoorz4
import Derived.Test.YtfkmnpgpfmkjaaaGreatDoorz2
import Derived.Lib.Builder
import Derived.Lib.ItoaLen
import Derived.Lib.ConvBytes
import Derived.Laws.StructEq
import Derived.Lib.LaidTab
import Derived.Lib.LaidU8
import Derived.ChangeSame
import Derived.Deep.Slices
import Derived.Deep.Fields
import Derived.ProofKit
import Derived.OpenShut
import Derived.ShutString
import Derived.Carry
set_option linter.unusedSimpArgs false
set_option linter.unusedVariables false
set_option maxRecDepth 100000
namespace Go.Proofs.YtfkmnpgpfmkjaaaGreatDoor

namespace Px
abbrev e0 : ByteArray := ⟨#[]⟩
def nd (k : Int) (t y : ByteArray) (n : Int) (ks : List Nd) : Nd := .mk k t y e0 n ks
def num (n : Int) : Nd := nd 7 e0 e0 n []
def nam (s : ByteArray) : Nd := nd 14 s e0 0 []
def prog (l : List Nd) : Nd := nd 1 e0 e0 0 [nd 6 e0 e0 0 l]
def s1 : ByteArray := ⟨#[109, 97, 105, 110, 123, 125]⟩
def s2 : ByteArray := ⟨#[109, 97, 105, 110, 123, 49, 43, 50, 42, 51, 59, 125]⟩
def s3 : ByteArray := ⟨#[109, 97, 105, 110, 123, 49, 61, 50, 125]⟩
def s4 : ByteArray := ⟨#[109, 97, 105, 110, 123, 120, 61, 121, 46, 102, 40, 49, 41, 46, 103, 125]⟩
def s5 : ByteArray := ⟨#[109, 97, 105, 110, 123, 97, 46, 98, 61, 40, 99, 58, 63, 41, 125]⟩
def s6 : ByteArray := ⟨#[109, 97, 105, 110, 123, 45, 49, 45, 40, 41, 125]⟩
def s7 : ByteArray := ⟨#[99, 108, 97, 115, 115, 32, 65, 58, 66, 123, 118, 97, 114, 32, 120, 59, 100, 101, 102, 32, 102, 40, 97, 58, 105, 110, 116, 41, 58, 65, 123, 116, 104, 105, 115, 125, 125, 109, 97, 105, 110, 123, 125]⟩
def s8 : ByteArray := ⟨#[]⟩
def s9 : ByteArray := ⟨#[109, 97, 105, 110, 123, 108, 101, 116, 32, 120, 125]⟩
def s10 : ByteArray := ⟨#[109, 97, 105, 110, 123, 125, 32, 49]⟩
def s11 : ByteArray := ⟨#[109, 97, 105, 110, 123, 34]⟩
def s12 : ByteArray := ⟨#[109, 97, 105, 110, 123, 49]⟩
def t1 : Nd := prog []
def t2 : Nd := prog [nd 25 ⟨#[43]⟩ e0 0 [num 1, nd 25 ⟨#[42]⟩ e0 0 [num 2, num 3]]]
def t4 : Nd := prog [nd 16 ⟨#[120]⟩ e0 0 [nd 17 ⟨#[103]⟩ e0 0 [nd 19 ⟨#[102]⟩ e0 0 [nam ⟨#[121]⟩, num 1]]]]
def t5 : Nd := prog [nd 18 ⟨#[98]⟩ e0 0 [nam ⟨#[97]⟩, nd 28 e0 ⟨#[63]⟩ 0 [nam ⟨#[99]⟩]]]
def t6 : Nd := prog [nd 25 ⟨#[45]⟩ e0 0 [nd 24 ⟨#[45]⟩ e0 0 [num 1], nd 11 e0 e0 0 []]]
def t7 : Nd := nd 1 e0 e0 0 [nd 2 ⟨#[65]⟩ ⟨#[66]⟩ 0 [nd 3 ⟨#[120]⟩ ⟨#[63]⟩ 0 [], nd 4 ⟨#[102]⟩ ⟨#[65]⟩ 0 [nd 5 ⟨#[97]⟩ ⟨#[105, 110, 116]⟩ 0 [], nd 6 e0 e0 0 [nd 13 e0 e0 0 []]]], nd 6 e0 e0 0 []]
end Px
open Px

theorem px1 : parseP s1.data.toList = .tree t1 := by kernel_rfl
theorem px2 : parseP s2.data.toList = .tree t2 := by kernel_rfl
theorem px3 : parseP s3.data.toList = .fault 5 6 := by kernel_rfl
theorem px4 : parseP s4.data.toList = .tree t4 := by kernel_rfl
theorem px5 : parseP s5.data.toList = .tree t5 := by kernel_rfl
theorem px6 : parseP s6.data.toList = .tree t6 := by kernel_rfl
theorem px7 : parseP s7.data.toList = .tree t7 := by kernel_rfl
theorem px8 : parseP s8.data.toList = .fault 5 0 := by kernel_rfl
theorem px9 : parseP s9.data.toList = .fault 5 10 := by kernel_rfl
theorem px10 : parseP s10.data.toList = .fault 5 7 := by kernel_rfl
theorem px11 : parseP s11.data.toList = .fault 5 5 := by kernel_rfl
theorem px12 : parseP s12.data.toList = .fault 5 6 := by kernel_rfl
end Go.Proofs.YtfkmnpgpfmkjaaaGreatDoor
namespace Go.Proofs.YtfkmnpgpfmkjaaaGreatDoor
open Go.ChangeShapes Go.WideShapes Go.ChangeAt Go.RowKit Go.Shelf
attribute [local go_sem] Oper.semAt_some

/-- A row of bytes made at once, as a text. -/
theorem lit_text {W : World} {g : Nat} {cs : Array Value} (l : List UInt8) (h : Blk W g 5 cs) (hc : cs = (l.map encU).toArray) (n : Nat) (hn : n = l.length) : (convert 33 9 (.slice (some ⟨g, 0, none⟩) n n)).run Tryz.prog W = .ok (.string ⟨l.toArray⟩) W := by
  subst hc hn
  exact run_convert_bytes_back (P := Tryz.prog) W 33 9 5 ⟨g, 0, none⟩ l.length l (by kernel_rfl) (by kernel_rfl) (by kernel_rfl) (fun j hj => by
    rw [addr_plainT, Nat.zero_add, h.cell j]
    simp [hj])

set_option maxHeartbeats 4000000 in
theorem lspelt_c (c : UInt8) (w : World) (hT : Tb w) : Calls Tryz.prog 112 #[.int .u8 c.toNat] w fun e w' => e = .returned (.string ⟨(Lx.spelt c).toArray⟩) ∧ Kept w w' := by
  obtain ⟨t, fr, hc⟩ := hT.esc
  have hc : w.heap[1]? = some (.cells #[.int .u8 34, .int .u8 34, .int .u8 92, .int .u8 92, .int .u8 110, .int .u8 10] t fr) := hc
  have c0 := cell_of_row w _ 0 _ t fr hc
  have c1 := cell_of_row w _ 1 _ t fr hc
  have c2 := cell_of_row w _ 2 _ t fr hc
  have c3 := cell_of_row w _ 3 _ t fr hc
  have c4 := cell_of_row w _ 4 _ t fr hc
  have c5 := cell_of_row w _ 5 _ t fr hc
  simp at c0 c1 c2 c3 c4 c5
  clear hc
  have hn := c.toNat_lt
  obtain ⟨q, hq⟩ : ∃ q, Lx.spelt c = q := ⟨_, rfl⟩
  rw [hq]
  have hqq := hq
  unfold Lx.spelt at hqq
  have hcE : encU c = .int .u8 c.toNat := rfl
  obtain ⟨n, hcn⟩ : ∃ n, c.toNat = n := ⟨_, rfl⟩
  rw [hcn] at hqq hn ⊢
  have HC := Lib.hid (show encU c = .int .u8 n by rw [hcE, hcn])
  clear hq hcE hcn
  go_enter Tryz.func112, Tryz.ntmps112
  go_wp2
  clear c0 c1 c2 c3 c4 c5
  go_loopw [6] (fun i wr => ∃ k : Nat, k ≤ 3 ∧ i = .int .i64 k ∧ Kept w wr ∧ (1 ≤ k → n ≠ 34) ∧ (2 ≤ k → n ≠ 92) ∧ (3 ≤ k → n ≠ 10)) (fun i wr => 3 - (intOf i).toNat)
  case atStart => exact ⟨0, by omega, rfl, Kept.refl _, by omega, by omega, by omega⟩
  case round =>
    obtain ⟨k, hk, rfl, hkp, h1, h2, h3⟩ := hrel
    have hk' : k = 0 ∨ k = 1 ∨ k = 2 ∨ k = 3 := by omega
    rcases hk' with rfl | rfl | rfl | rfl
    · have hi := eix_0 wr
      by_cases hx : n = 34
      · subst hx
        obtain rfl : [92, 34] = q := by rw [← hqq]; rfl
        obtain ⟨W2, hW2⟩ : ∃ W2, (wr.alloc (.cells #[.int .u8 34, .int .u8 34] 148)).alloc (.cells #[.int .u8 92, .int .u8 34] 5) = W2 := ⟨_, rfl⟩
        have hk2 : Kept w W2 := by rw [← hW2]; exact (hkp.alloc _).alloc _
        have hb2 : Blk W2 (wr.heap.size + 1) 5 #[.int .u8 92, .int .u8 34] := by
          have := Blk.new (wr.alloc (.cells #[.int .u8 34, .int .u8 34] 148)) 5 #[.int .u8 92, .int .u8 34]
          rw [World.size_alloc, hW2] at this; exact this
        have hcv := lit_text [92, 34] hb2 rfl 2 rfl
        have HW := Lib.hid hW2
        clear hqq h1 h2 h3 hW2 hb2
        go_wp2_with (rw [HW.out])
        go_ret
        exact ⟨rfl, hk2⟩
      · have hb : (((34 : Nat) : Int) == (n : Int)) = false := by simp; omega
        have hb2 : ((n : Int) == 34) = false := by simp; omega
        have hb3 : (34 == (n : Int)) = false := by simp; omega
        go_wp2
        go_roundw
        case rel => exact ⟨1, by omega, rfl, hkp.alloc _, by omega, by omega, by omega⟩
        case measure => simp [intOf]
    · have hi := eix_1 wr
      by_cases hx : n = 92
      · subst hx
        obtain rfl : [92, 92] = q := by rw [← hqq]; rfl
        obtain ⟨W2, hW2⟩ : ∃ W2, (wr.alloc (.cells #[.int .u8 92, .int .u8 92] 148)).alloc (.cells #[.int .u8 92, .int .u8 92] 5) = W2 := ⟨_, rfl⟩
        have hk2 : Kept w W2 := by rw [← hW2]; exact (hkp.alloc _).alloc _
        have hb2 : Blk W2 (wr.heap.size + 1) 5 #[.int .u8 92, .int .u8 92] := by
          have := Blk.new (wr.alloc (.cells #[.int .u8 92, .int .u8 92] 148)) 5 #[.int .u8 92, .int .u8 92]
          rw [World.size_alloc, hW2] at this; exact this
        have hcv := lit_text [92, 92] hb2 rfl 2 rfl
        have HW := Lib.hid hW2
        clear hqq h1 h2 h3 hW2 hb2
        go_wp2_with (rw [HW.out])
        go_ret
        exact ⟨rfl, hk2⟩
      · have hb : (((92 : Nat) : Int) == (n : Int)) = false := by simp; omega
        have hb2 : ((n : Int) == 92) = false := by simp; omega
        have hb3 : (92 == (n : Int)) = false := by simp; omega
        go_wp2
        go_roundw
        case rel => exact ⟨2, by omega, rfl, hkp.alloc _, by omega, by omega, by omega⟩
        case measure => simp [intOf]
    · have hi := eix_2 wr
      by_cases hx : n = 10
      · subst hx
        obtain rfl : [92, 110] = q := by rw [← hqq]; rfl
        obtain ⟨W2, hW2⟩ : ∃ W2, (wr.alloc (.cells #[.int .u8 110, .int .u8 10] 148)).alloc (.cells #[.int .u8 92, .int .u8 110] 5) = W2 := ⟨_, rfl⟩
        have hk2 : Kept w W2 := by rw [← hW2]; exact (hkp.alloc _).alloc _
        have hb2 : Blk W2 (wr.heap.size + 1) 5 #[.int .u8 92, .int .u8 110] := by
          have := Blk.new (wr.alloc (.cells #[.int .u8 110, .int .u8 10] 148)) 5 #[.int .u8 92, .int .u8 110]
          rw [World.size_alloc, hW2] at this; exact this
        have hcv := lit_text [92, 110] hb2 rfl 2 rfl
        have HW := Lib.hid hW2
        clear hqq h1 h2 h3 hW2 hb2
        go_wp2_with (rw [HW.out])
        go_ret
        exact ⟨rfl, hk2⟩
      · have hb : (((10 : Nat) : Int) == (n : Int)) = false := by simp; omega
        have hb2 : ((n : Int) == 10) = false := by simp; omega
        have hb3 : (10 == (n : Int)) = false := by simp; omega
        go_wp2
        go_roundw
        case rel => exact ⟨3, by omega, rfl, hkp.alloc _, by omega, by omega, by omega⟩
        case measure => simp [intOf]
    · obtain rfl : [c] = q := by rw [← hqq, if_neg (h1 (by omega)), if_neg (h2 (by omega)), if_neg (h3 (by omega))]
      obtain ⟨W2, hW2⟩ : ∃ W2, wr.alloc (.cells #[.int .u8 n] 5) = W2 := ⟨_, rfl⟩
      have hk2 : Kept w W2 := by rw [← hW2]; exact hkp.alloc _
      have hb2 : Blk W2 wr.heap.size 5 #[.int .u8 n] := by rw [← hW2]; exact Blk.new wr _ _
      have hcv := lit_text [c] hb2 (by rw [← HC.out]; rfl) 1 rfl
      have HW := Lib.hid hW2
      clear hqq h1 h2 h3 hW2 hb2
      go_wp2_with (rw [HW.out])
      go_ret
      exact ⟨rfl, hk2⟩

/-! ### strings.Builder, as this program calls it -/
theorem info_bld : (Tryz.prog.info? 65).map (·.size) = some 2 := by kernel_rfl

theorem bcheck_used (b : Nat) (w : World) (h0 : w.cell? ⟨b, 0, none⟩ = some (.pointer (some ⟨b, 0, none⟩))) :
    Calls Tryz.prog 46 #[.pointer (some ⟨b, 0, none⟩)] w fun e w' => e = .returned (.tuple #[]) ∧ w' = w := by
  obtain ⟨j, hj, _⟩ := Option.map_eq_some_iff.1 info_bld
  have hne := Lib.run_neq_ptr_same (P := Tryz.prog) w ⟨b, 0, none⟩ Tryz.underlying63 hj
  go_enter Tryz.func46, Tryz.ntmps46
  go_wp2
  go_end0
  exact ⟨rfl, rfl⟩

theorem bcheck_fresh (b : Nat) (w : World) (h0 : w.cell? ⟨b, 0, none⟩ = some (.pointer none)) (hsh : w.shape? b = some (65, 2)) (hfz : w.frozen? ⟨b, 0, none⟩ = false) :
    Calls Tryz.prog 46 #[.pointer (some ⟨b, 0, none⟩)] w fun e w' => e = .returned (.tuple #[]) ∧ w' = w.setCell ⟨b, 0, none⟩ (.pointer (some ⟨b, 0, none⟩)) := by
  obtain ⟨j, hj, hjs⟩ := Option.map_eq_some_iff.1 info_bld
  have e1 := Lib.run_to_unsafe (P := Tryz.prog) w ⟨b, 0, none⟩ Tryz.underlying63 Tryz.underlying125 hj (by rw [hjs]; decide) hsh (Nat.zero_lt_succ 1)
  have e2 := Lib.run_from_unsafe (P := Tryz.prog) w ⟨b, 0, none⟩ Tryz.underlying125 Tryz.underlying63 hj hsh (by kernel_rfl)
  go_enter Tryz.func46, Tryz.ntmps46
  go_wp2
  rw [run_callFunc_extern Tryz.func89 (by kernel_rfl) (by kernel_rfl) (by kernel_rfl) (e := Extern.AbiNoEscape.same) (by kernel_rfl)]
  rw [Lib.run_noEscape]
  simp only [Result.andThen]
  rw [Oper.upon_value]
  go_wp2
  go_end0
  exact ⟨rfl, rfl⟩

abbrev BldAt (B b : Nat) (p : Value) (l : List UInt8) (w : World) : Prop := Lib.BuilderAt 65 5 B b p (Lib.byteCells l) w
abbrev Bld (B b : Nat) (l : List UInt8) (w : World) : Prop := Lib.IsBuilder 65 5 B b (Lib.byteCells l) w

theorem bcheck_c (B b : Nat) (l : List UInt8) (w : World) (h : Bld B b l w) :
    Calls Tryz.prog 46 #[.pointer (some ⟨b, 0, none⟩)] w fun e w' => e = .returned (.tuple #[]) ∧ BldAt B b (.pointer (some ⟨b, 0, none⟩)) l w' ∧ Below B w w' := by
  rcases h with h | h
  · refine (bcheck_fresh b w h.cell0 h.shape h.frozen0).mono ?_
    rintro e w' ⟨rfl, rfl⟩
    exact ⟨rfl, h.used _, (Below.refl B w).setCell (p := ⟨b, 0, none⟩) h.1 _⟩
  · refine (bcheck_used b w h.cell0).mono ?_
    rintro e w' ⟨rfl, rfl⟩
    exact ⟨rfl, h, Below.refl B _⟩

theorem own_val1 {W : World} {B n : Nat} {v : Value} {xs : List Value} (h : W.ownsRow B 5 1 v n xs) : ∃ a c, v = .slice a n c := owns_valT h

/-- Behind an append in a builder. -/
theorem bld_put {B b : Nat} {w1 W3 w2 : World} {v : Value} {n : Nat} {xs : List Value} (hB : B ≤ b) (hbk : w1.heap[b]? = some (.cells #[.pointer (some ⟨b, 0, none⟩), v] 65 (0, 0))) (hown : w1.ownsRow B 5 1 v n xs) (hne : v.ownBlock ≠ some b)
    (k3 : Kept w1 W3) (hgrow : W3.grownBy w2 v.ownBlock) : w2.heap[b]? = some (.cells #[.pointer (some ⟨b, 0, none⟩), v] 65 (0, 0)) := by
  have hlt := (Array.getElem?_eq_some_iff.1 hbk).1
  exact (hgrow.block b (Nat.lt_of_lt_of_le hlt k3.size) (fun e => hne e.symm)).trans ((k3.block b hlt).trans hbk)

set_option maxHeartbeats 2000000 in
theorem bbyte_c (B b : Nat) (l : List UInt8) (c : UInt8) (w : World) (h : Bld B b l w) (hlen : l.length ≤ 1000000) (hBw : B ≤ w.heap.size) :
    Calls Tryz.prog 28 #[.pointer (some ⟨b, 0, none⟩), .int .u8 c.toNat] w fun e w' => e = .returned .nilIface ∧ Bld B b (l ++ [c]) w' ∧ Below B w w' := by
  obtain ⟨i0, hi, hz0, hzz1, hzz2⟩ := info_parts info_u8
  have HC := Lib.hid (bcheck_c B b l w h)
  clear h
  obtain ⟨n, hn⟩ : ∃ n : Nat, (c.toNat : Int) = n := ⟨_, rfl⟩
  have hcE : encU c = .int .u8 n := by rw [← hn]
  rw [hn]
  have HCE := Lib.hid hcE
  clear hn hcE
  go_enter Tryz.func28, Tryz.ntmps28
  go_wp2_with fail
  refine HC.out.mono ?_
  rintro e w1 ⟨rfl, ⟨hB, v, hbk, hown, hne⟩, hb1⟩
  rw [Lib.byteCells_length] at hown
  obtain ⟨va, vc, rfl⟩ := own_val1 hown
  obtain ⟨W3, hW3⟩ : ∃ W3, w1.alloc (.cells #[.int .u8 n] 5) = W3 := ⟨_, rfl⟩
  have k3 : Kept w1 W3 := by rw [← hW3]; exact (Kept.refl w1).alloc _
  have HSR : Hid (Src Tryz.prog 1 33 (.slice (some ⟨w1.heap.size, 0, none⟩) 1 1) 1 [.int .u8 n] W3) := Lib.hid (by
    rw [← hW3]
    exact Src.ofSlice (P := Tryz.prog) (size := 1) (tx := 33) _ Tryz.underlying33 ⟨w1.heap.size, 0, none⟩ 1 1 [.int .u8 n] rfl (cell_one_new w1 _ _) (by simp [Value.oneCell']))
  have HR := Lib.hid (owns_keptU hown k3)
  have HP := Lib.hid (fun w2 hg => bld_put (w2 := w2) hB hbk hown hne k3 hg)
  have HB := Lib.hid (And.intro hB (hb1.alloc (B := B) (by have := hb1.size; omega) (.cells #[.int .u8 n] 5)))
  have HLT := Lib.hid (fun k hk => (hown.lt k hk).1)
  have HSZ := Lib.hid (show B ≤ W3.heap.size from Nat.le_trans (Nat.le_trans hBw hb1.size) k3.size)
  have HW3 := Lib.hid hW3
  have c0 : w1.cell? ⟨b, 0, none⟩ = some (.pointer (some ⟨b, 0, none⟩)) := by rw [Lib.cell_of_heap hbk]; rfl
  have c1 : w1.cell? ⟨b, 1, none⟩ = some (.slice va l.length vc) := by rw [Lib.cell_of_heap hbk]; rfl
  clear hB hbk hown hne hb1 k3 hW3 hBw HC
  go_wp2_with (first | rw [HW3.out] | (at_builtin; refine wpList_apk rfl (.tmp 11) (.tmp 13) 33 33 rfl B 1 5 i0 _ 1 Tryz.underlying33 hi hz0 hzz1 hzz2 rfl rfl HR.out rfl HSR.out (by unfold maxLen; omega) (by omega) HSZ.out ?_; intro v' w2 hown' hgrow hlies; have hb2 := HP.out w2 hgrow; have d0 : w2.cell? ⟨b, 0, none⟩ = some (.pointer (some ⟨b, 0, none⟩)) := (cell_of_row w2 b 0 _ _ _ hb2).trans rfl; have d1 : w2.cell? ⟨b, 1, none⟩ = some (.slice va l.length vc) := (cell_of_row w2 b 1 _ _ _ hb2).trans rfl; have f1 : w2.frozen? ⟨b, 1, none⟩ = false := Lib.frozen_of_heap hb2 1; obtain ⟨ga, gc, rfl⟩ := own_val1 hown'; have HO := Lib.hid hown'; have HG := Lib.hid hgrow; have HB2 := Lib.hid hb2; clear hown' hgrow hb2 hlies))
  go_ret
  refine ⟨rfl, .inr (Lib.BuilderAt.put (T := 65) (e := 5) HB.out.1 HB2.out (bs' := Lib.byteCells (l ++ [c])) ?_ (by decide)), ?_⟩
  · rw [Lib.byteCells_length, Lib.byteCells_append]
    have := HO.out
    rw [show Lib.byteCells [c] = [.int .u8 n] from congrArg (· :: []) HCE.out]
    simpa using this
  · have hbb := HB.out.2
    rw [HW3.out] at hbb
    exact (hbb.grown HG.out HSZ.out (fun k hk => HLT.out k hk)).setCell (p := ⟨b, 1, none⟩) HB.out.1 _

set_option maxHeartbeats 2000000 in
theorem bstr_c (B b : Nat) (l : List UInt8) (s : ByteArray) (w : World) (h : Bld B b l w) (hlen : l.length + s.size ≤ 1000000) (hBw : B ≤ w.heap.size) :
    Calls Tryz.prog 29 #[.pointer (some ⟨b, 0, none⟩), .string s] w fun e w' => e = .returned (.tuple #[.int .i64 s.size, .nilIface]) ∧ Bld B b (l ++ s.data.toList) w' ∧ Below B w w' := by
  obtain ⟨i0, hi, hz0, hzz1, hzz2⟩ := info_parts info_u8
  have HC := Lib.hid (bcheck_c B b l w h)
  clear h
  go_enter Tryz.func29, Tryz.ntmps29
  go_wp2_with fail
  refine HC.out.mono ?_
  rintro e w1 ⟨rfl, ⟨hB, v, hbk, hown, hne⟩, hb1⟩
  rw [Lib.byteCells_length] at hown
  obtain ⟨va, vc, rfl⟩ := own_val1 hown
  have HSR : Hid (Src Tryz.prog 1 9 (.string s) s.size (byteCells s) w1) := Lib.hid (Src.ofString _ Tryz.underlying9 s)
  have HR := Lib.hid hown
  have HP := Lib.hid (fun w2 hg => bld_put (w2 := w2) hB hbk hown hne (Kept.refl w1) hg)
  have HB := Lib.hid (And.intro hB hb1)
  have HLT := Lib.hid (fun k hk => (hown.lt k hk).1)
  have HSZ := Lib.hid (show B ≤ w1.heap.size from Nat.le_trans hBw hb1.size)
  have c0 : w1.cell? ⟨b, 0, none⟩ = some (.pointer (some ⟨b, 0, none⟩)) := by rw [Lib.cell_of_heap hbk]; rfl
  have c1 : w1.cell? ⟨b, 1, none⟩ = some (.slice va l.length vc) := by rw [Lib.cell_of_heap hbk]; rfl
  clear hB hbk hown hne hb1 hBw HC
  go_wp2_with (at_builtin; refine wpList_apk rfl (.tmp 12) (.tmp 13) 33 9 rfl B 1 5 i0 _ 1 Tryz.underlying33 hi hz0 hzz1 hzz2 rfl rfl HR.out rfl HSR.out (by unfold maxLen; omega) (by omega) HSZ.out ?_; intro v' w2 hown' hgrow hlies; have hb2 := HP.out w2 hgrow; have d0 : w2.cell? ⟨b, 0, none⟩ = some (.pointer (some ⟨b, 0, none⟩)) := (cell_of_row w2 b 0 _ _ _ hb2).trans rfl; have d1 : w2.cell? ⟨b, 1, none⟩ = some (.slice va l.length vc) := (cell_of_row w2 b 1 _ _ _ hb2).trans rfl; have f1 : w2.frozen? ⟨b, 1, none⟩ = false := Lib.frozen_of_heap hb2 1; obtain ⟨ga, gc, rfl⟩ := own_val1 hown'; have HO := Lib.hid hown'; have HG := Lib.hid hgrow; have HB2 := Lib.hid hb2; clear hown' hgrow hb2 hlies)
  refine bodyPost_ret (results_tmp2 rfl _ _ _) rfl ?_
  refine ⟨rfl, .inr (Lib.BuilderAt.put (T := 65) (e := 5) HB.out.1 HB2.out (bs' := Lib.byteCells (l ++ s.data.toList)) ?_ (by decide)), ?_⟩
  · rw [Lib.byteCells_length, Lib.byteCells_append]
    have := HO.out
    rw [show (l ++ s.data.toList).length = l.length + s.size by rw [List.length_append, Array.length_toList]; rfl]
    exact this
  · have hbb := HB.out.2
    exact (hbb.grown HG.out HSZ.out (fun k hk => HLT.out k hk)).setCell (p := ⟨b, 1, none⟩) HB.out.1 _

theorem bbyte_z (B b : Nat) (l : List UInt8) (c : UInt8) (z : Int) (hz : z = (c.toNat : Int)) (w : World) (h : Bld B b l w) (hlen : l.length ≤ 1000000) (hBw : B ≤ w.heap.size) :
    Calls Tryz.prog 28 #[.pointer (some ⟨b, 0, none⟩), .int .u8 z] w fun e w' => e = .returned .nilIface ∧ Bld B b (l ++ [c]) w' ∧ Below B w w' := by
  subst hz; exact bbyte_c B b l c w h hlen hBw

end Go.Proofs.YtfkmnpgpfmkjaaaGreatDoor
namespace Go.Proofs.YtfkmnpgpfmkjaaaGreatDoor
open Go.ChangeShapes Go.WideShapes Go.ChangeAt Go.RowKit Go.Shelf
attribute [local go_sem] Oper.semAt_some

/-! ### Quoted texts, and all of them -/
theorem kept_below {w w1 w2 : World} (h : Kept w w1) (k : Below w.heap.size w1 w2) : Kept w w2 :=
  ⟨k.os.trans h.os, k.output.trans h.output, Nat.le_trans h.size k.size, fun i hi => (k.block i hi).trans (h.block i hi)⟩
theorem bld_kept {B b : Nat} {l : List UInt8} {w w' : World} (h : Bld B b l w) (k : Kept w w') : Bld B b l w' := by
  have f : ∀ p, BldAt B b p l w → BldAt B b p l w' := by
    rintro p ⟨hB, v, hbk, hown, hne⟩
    exact ⟨hB, v, (k.block b (Array.getElem?_eq_some_iff.1 hbk).1).trans hbk, owns_keptU hown k, hne⟩
  exact h.elim (fun h => .inl (f _ h)) (fun h => .inr (f _ h))

theorem spelt_len (c : UInt8) : (Lx.spelt c).length ≤ 2 := by
  unfold Lx.spelt
  split
  · simp
  · split
    · simp
    · split <;> simp

/-- The first k letters as they stand in a source. -/
def quP (s : List UInt8) (k : Nat) : List UInt8 := 34 :: (s.take k).flatMap Lx.spelt
theorem quP_next {s : List UInt8} {k : Nat} (h : k < s.length) : quP s (k + 1) = quP s k ++ Lx.spelt s[k] := by
  unfold quP
  rw [List.take_succ_eq_append_getElem h, List.flatMap_append]
  simp only [List.flatMap_cons, List.flatMap_nil, List.append_nil, List.cons_append]
theorem quP_len (s : List UInt8) (k : Nat) : (quP s k).length ≤ 2 * k + 1 := by
  unfold quP
  have : ∀ l : List UInt8, (l.flatMap Lx.spelt).length ≤ 2 * l.length := by
    intro l
    induction l with
    | nil => exact Nat.zero_le _
    | cons c r ih => have := spelt_len c; rw [List.flatMap_cons, List.length_append, List.length_cons]; omega
  have h2 := this (s.take k)
  have h3 : (s.take k).length ≤ k := by rw [List.length_take]; omega
  rw [List.length_cons]; omega

set_option maxHeartbeats 4000000 in
theorem quoted_c (s : ByteArray) (w : World) (hT : Tb w) (hs : s.size ≤ 100000) :
    Calls Tryz.prog 88 #[.string s] w fun e w' => e = .returned (.string ⟨(34 :: s.data.toList.flatMap Lx.spelt ++ [34]).toArray⟩) ∧ Kept w w' := by
  have hl : s.data.toList.length = s.size := by rw [Array.length_toList]; rfl
  obtain ⟨W1, hW1⟩ : ∃ W1, w.alloc (.cells #[.pointer none, .slice none 0 0] 65) = W1 := ⟨_, rfl⟩
  have hs1 : w.heap.size ≤ W1.heap.size := by rw [← hW1]; simp
  have hb1 : Bld w.heap.size w.heap.size [] W1 := .inl ⟨Nat.le_refl _, .slice none 0 0, by rw [← hW1]; exact heap_alloc_new w _, World.ownsRow_nil _ _ _ _, by simp [Value.ownBlock]⟩
  have hB1 : Kept w W1 := by rw [← hW1]; exact (Kept.refl w).alloc _
  have HW1 := Lib.hid hW1
  have HC1 := Lib.hid (bbyte_z w.heap.size w.heap.size [] 34 34 rfl W1 hb1 (by simp) hs1)
  have HT := Lib.hid hT
  have HB1 := Lib.hid hB1
  obtain ⟨R, hR⟩ : ∃ R, (⟨(34 :: s.data.toList.flatMap Lx.spelt ++ [34]).toArray⟩ : ByteArray) = R := ⟨_, rfl⟩
  rw [hR]
  have HRR := Lib.hid hR
  clear hW1 hb1 hB1 hT hR
  go_enter Tryz.func88, Tryz.ntmps88
  go_wp2_with (rw [HW1.out])
  refine HC1.out.mono ?_
  rintro e w2 ⟨rfl, hb2, hB2⟩
  have HB2 := Lib.hid hb2
  have HK2 := Lib.hid (kept_below HB1.out hB2)
  have hs2 := hB2.size
  clear hb2 hB2 HC1 HB1
  go_wp2_with fail
  go_loopw [8] (fun i wr => ∃ k : Nat, k ≤ s.size ∧ i = .int .i64 k ∧ Hid (Bld w.heap.size w.heap.size (quP s.data.toList k) wr) ∧ Hid (Kept w wr) ∧ w.heap.size ≤ wr.heap.size) (fun i wr => s.size - (intOf i).toNat)
  case atStart => exact ⟨0, Nat.zero_le _, rfl, HB2, HK2, by omega⟩
  case round =>
    clear HB2 HK2 hs2 hs1
    obtain ⟨k, hk, rfl, HB, HK, hz⟩ := hrel
    by_cases hlt : k < s.size
    · have hltI : (k : Int) < (s.size : Int) := by omega
      have hlt' : k < s.data.toList.length := by omega
      have HN := Lib.hid (quP_next hlt')
      have hge : s.data.toList[k] = s[k] := by simp; rfl
      rw [hge] at HN
      have HS := Lib.hid (lspelt_c s[k] wr (HT.out.kept HK.out))
      have HSL := Lib.hid (spelt_len s[k])
      clear hge
      obtain ⟨sp, hsp⟩ : ∃ sp, Lx.spelt s[k] = sp := ⟨_, rfl⟩
      rw [hsp] at HN HS HSL
      clear hsp
      go_wp2_with fail
      refine HS.out.mono ?_
      rintro e w3 ⟨rfl, k3⟩
      have hz3 := k3.size
      have HB3 := Lib.hid (bld_kept HB.out k3)
      have HLE := Lib.hid (show (quP s.data.toList k).length + (⟨sp.toArray⟩ : ByteArray).size ≤ 1000000 by
        have h1 := quP_len s.data.toList k
        have h2 := HSL.out
        have h3 : (⟨sp.toArray⟩ : ByteArray).size = sp.length := by show sp.toArray.size = _; simp
        omega)
      have HW3 := Lib.hid (bstr_c w.heap.size w.heap.size _ ⟨sp.toArray⟩ w3 HB3.out HLE.out (by omega))
      have HK3 := Lib.hid (HK.out.trans k3)
      clear k3
      go_wp2_with fail
      refine HW3.out.mono ?_
      rintro e w4 ⟨rfl, hb4, hB4⟩
      have HB4 := Lib.hid hb4
      have HK4 := Lib.hid (kept_below HK3.out hB4)
      have hz4 := HK4.out.size
      clear hb4 hB4
      go_wp2_with fail
      go_roundw
      case rel => exact ⟨k + 1, by omega, by go_num, Lib.hid (by rw [HN.out]; exact HB4.out), HK4, hz4⟩
      case measure => simp [intOf]; omega
    · obtain rfl : k = s.size := by omega
      have hltI : ¬ (s.size : Int) < (s.size : Int) := by omega
      have HC2 := Lib.hid (bbyte_z w.heap.size w.heap.size _ 34 34 rfl wr HB.out (by have := quP_len s.data.toList s.size; omega) hz)
      go_wp2_with fail
      refine HC2.out.mono ?_
      rintro e w3 ⟨rfl, hb3, hB3⟩
      have HST := Lib.hid (Tryz.Builder_String_any w.heap.size w.heap.size _ w3 hb3 (by have := hB3.size; omega))
      have HK3 := Lib.hid (kept_below HK.out hB3)
      clear hb3 hB3
      go_wp2_with fail
      refine HST.out.mono ?_
      rintro e w4 ⟨rfl, hB4⟩
      have HK4 := Lib.hid (kept_below HK3.out hB4)
      clear hB4
      go_wp2_with fail
      go_ret
      refine ⟨?_, HK4.out⟩
      have e : quP s.data.toList s.size = 34 :: s.data.toList.flatMap Lx.spelt := by unfold quP; rw [List.take_of_length_le (by omega)]
      show Ending.returned (.string ⟨(quP s.data.toList s.size ++ [34]).toArray⟩) = _
      rw [e, HRR.out]

/-- The table of powers of ten that the library's Itoa reads. -/
def Pw (w : World) : Prop := Lib.TabIs Tryz.prog w "internal/strconv.uint64pow10" .u64 Lib.pow10Tab
theorem Pw.kept {w w' : World} (h : Pw w) (k : Kept w w') : Pw w' := by
  unfold Pw Lib.TabIs World.var? at h ⊢
  cases hg : Tryz.prog.globalNamed "internal/strconv.uint64pow10" with
  | none => rw [hg] at h; cases h
  | some g =>
    rw [hg] at h
    simp only [Option.bind_some] at h ⊢
    have hb : w'.heap[g]? = w.heap[g]? := by
      rcases Nat.lt_or_ge g w.heap.size with hl | hl
      · exact k.block g hl
      · rw [Array.getElem?_eq_none hl] at h; cases h
    rw [hb]; exact h

theorem itoa_c (n : Int) (h0 : -9223372036854775808 ≤ n) (h1 : n ≤ 9223372036854775807) (w : World) (hP : Pw w) :
    Calls Tryz.prog 87 #[.int .i64 n] w fun e w' => e = .returned (.string ⟨(Lib.itoa n).toArray⟩) ∧ Kept w w' := by
  refine (Tryz.strconv_Itoa n h0 h1 w hP).mono ?_
  rintro e w' ⟨he, k, os, rfl⟩
  refine ⟨he, ⟨rfl, rfl, by show _ ≤ (w.heap ++ os).size; simp, fun i hi => ?_⟩⟩
  show (w.heap ++ os)[i]? = w.heap[i]?
  rw [Array.getElem?_append_left hi]

namespace Lx
/-- A token's spelling, be it one or not. -/
def spl (x : T) : ByteArray :=
  if x.kind = 4 then ⟨(Lib.itoa x.n).toArray⟩ else if x.kind = 5 then ⟨(Lib.itoa x.n ++ [114]).toArray⟩ else if x.kind = 6 then ⟨(34 :: x.text.data.toList.flatMap spelt ++ [34]).toArray⟩ else x.text
end Lx

end Go.Proofs.YtfkmnpgpfmkjaaaGreatDoor
namespace Go.Proofs.YtfkmnpgpfmkjaaaGreatDoor
open Go.ChangeShapes Go.WideShapes Go.ChangeAt Go.RowKit Go.Shelf
attribute [local go_sem] Oper.semAt_some

/-- A token as a value. -/
abbrev tV (x : Lx.T) : Value := tagg x.kind x.text x.n x.pos
abbrev tC (x : Lx.T) : Array Value := #[.int .i64 x.kind, .string x.text, .int .i64 x.n, .int .i64 x.pos]
/-- What a token holds fits. -/
def TokOk (x : Lx.T) : Prop := -9223372036854775808 ≤ x.n ∧ x.n ≤ 9223372036854775807 ∧ x.text.size ≤ 100000

theorem cat_r (l : List UInt8) : (⟨l.toArray⟩ : ByteArray) ++ ⟨#[114]⟩ = ⟨(l ++ [114]).toArray⟩ := by
  apply ByteArray.ext
  apply Array.toList_inj.1
  simp

set_option maxHeartbeats 4000000 in
theorem spelling_c (x : Lx.T) (w : World) (hT : Tb w) (hP : Pw w) (hx : TokOk x) :
    Calls Tryz.prog 45 #[tV x] w fun e w' => e = .returned (.string (Lx.spl x)) ∧ Kept w w' := by
  obtain ⟨hn0, hn1, hsz⟩ := hx
  obtain ⟨W1, hW1⟩ : ∃ W1, w.alloc (.cells (tC x) 48) = W1 := ⟨_, rfl⟩
  have k1 : Kept w W1 := by rw [← hW1]; exact (Kept.refl w).alloc _
  have b1 : Blk W1 w.heap.size 48 (tC x) := by rw [← hW1]; exact Blk.new w _ _
  have HW1 := Lib.hid hW1
  have HK1 := Lib.hid k1
  obtain ⟨c0, c1, c2, c3⟩ : W1.cell? ⟨w.heap.size, 0, none⟩ = some (.int .i64 x.kind) ∧ W1.cell? ⟨w.heap.size, 1, none⟩ = some (.string x.text) ∧ W1.cell? ⟨w.heap.size, 2, none⟩ = some (.int .i64 x.n) ∧ W1.cell? ⟨w.heap.size, 3, none⟩ = some (.int .i64 x.pos) := ⟨b1.cell 0, b1.cell 1, b1.cell 2, b1.cell 3⟩
  have HI := Lib.hid (itoa_c x.n hn0 hn1 W1 (hP.kept k1))
  have HQ := Lib.hid (quoted_c x.text W1 (hT.kept k1) hsz)
  have hil := Lib.itoa_length_le x.n hn0 hn1
  obtain ⟨R, hR⟩ : ∃ R, Lx.spl x = R := ⟨_, rfl⟩
  rw [hR]
  have HR := Lib.hid hR
  clear hW1 k1 b1 hT hP hn0 hn1 hsz hR
  have HSP : Hid (Lx.spl x = if x.kind = 4 then ⟨(Lib.itoa x.n).toArray⟩ else if x.kind = 5 then ⟨(Lib.itoa x.n ++ [114]).toArray⟩ else if x.kind = 6 then ⟨(34 :: x.text.data.toList.flatMap Lx.spelt ++ [34]).toArray⟩ else x.text) := Lib.hid rfl
  obtain ⟨it, hit⟩ : ∃ it : ByteArray, ⟨(Lib.itoa x.n).toArray⟩ = it := ⟨_, rfl⟩
  have hits : it.size ≤ 21 := by rw [← hit]; show (Lib.itoa x.n).toArray.size ≤ 21; simpa using hil
  rw [hit] at HI HSP
  have HIT := Lib.hid hit
  clear hit hil
  by_cases h4 : x.kind = 4
  · obtain rfl : it = R := by rw [← HR.out, HSP.out, if_pos h4]
    have e4 : (x.kind == 4) = true := by simp [h4]
    clear h4
    go_enter Tryz.func45, Tryz.ntmps45
    go_wp2_with (rw [HW1.out])
    refine HI.out.mono ?_
    rintro e w2 ⟨rfl, k2⟩
    go_wp2_with fail
    go_ret
    exact ⟨rfl, HK1.out.trans k2⟩
  · have e4 : (x.kind == 4) = false := by simp [h4]
    by_cases h5 : x.kind = 5
    · obtain rfl : it ++ ⟨#[114]⟩ = R := by rw [← HR.out, HSP.out, if_neg h4, if_pos h5, ← HIT.out]; exact cat_r _
      have e5 : (x.kind == 5) = true := by simp [h5]
      clear h4 h5
      have hr1 : (⟨#[114]⟩ : ByteArray).size = 1 := rfl
      go_enter Tryz.func45, Tryz.ntmps45
      go_wp2_with (rw [HW1.out])
      refine HI.out.mono ?_
      rintro e w2 ⟨rfl, k2⟩
      go_wp2_with fail
      go_ret
      exact ⟨rfl, HK1.out.trans k2⟩
    · have e5 : (x.kind == 5) = false := by simp [h5]
      by_cases h6 : x.kind = 6
      · rw [if_neg h4, if_neg h5, if_pos h6] at HSP
        rw [HR.out] at HSP
        rw [← HSP.out] at HQ
        have e6 : (x.kind == 6) = true := by simp [h6]
        clear h4 h5 h6
        go_enter Tryz.func45, Tryz.ntmps45
        go_wp2_with (rw [HW1.out])
        refine HQ.out.mono ?_
        rintro e w2 ⟨rfl, k2⟩
        go_wp2_with fail
        go_ret
        exact ⟨rfl, HK1.out.trans k2⟩
      · have e6 : (x.kind == 6) = false := by simp [h6]
        obtain rfl : x.text = R := by rw [← HR.out, HSP.out, if_neg h4, if_neg h5, if_neg h6]
        clear h4 h5 h6
        go_enter Tryz.func45, Tryz.ntmps45
        go_wp2_with (rw [HW1.out])
        go_ret
        exact ⟨rfl, HK1.out⟩

/-- Two tokens compared. -/
theorem neqT (k n p k' n' p' : Int) (s t : ByteArray) (w : World) : (binOp .neq 48 (tagg k s n p) (tagg k' t n' p')).run Tryz.prog w = .ok (.bool (!(k == k' && (decide (s = t) && (n == n' && p == p'))))) w := by
  have hp : Tryz.prog.stoodInHeld 48 = false := by kernel_rfl
  have h0 : (part 3 #[.int .i64 k, .string s, .int .i64 n, .int .i64 p] 0).run Tryz.prog w = .ok (.int .i64 k) w := by kernel_rfl
  have h1 : (part 9 #[.int .i64 k, .string s, .int .i64 n, .int .i64 p] 1).run Tryz.prog w = .ok (.string s) w := by kernel_rfl
  have h2 : (part 3 #[.int .i64 k, .string s, .int .i64 n, .int .i64 p] 2).run Tryz.prog w = .ok (.int .i64 n) w := by kernel_rfl
  have h3 : (part 3 #[.int .i64 k, .string s, .int .i64 n, .int .i64 p] 3).run Tryz.prog w = .ok (.int .i64 p) w := by kernel_rfl
  have g0 : (part 3 #[.int .i64 k', .string t, .int .i64 n', .int .i64 p'] 0).run Tryz.prog w = .ok (.int .i64 k') w := by kernel_rfl
  have g1 : (part 9 #[.int .i64 k', .string t, .int .i64 n', .int .i64 p'] 1).run Tryz.prog w = .ok (.string t) w := by kernel_rfl
  have g2 : (part 3 #[.int .i64 k', .string t, .int .i64 n', .int .i64 p'] 2).run Tryz.prog w = .ok (.int .i64 n') w := by kernel_rfl
  have g3 : (part 3 #[.int .i64 k', .string t, .int .i64 n', .int .i64 p'] 3).run Tryz.prog w = .ok (.int .i64 p') w := by kernel_rfl
  have e1 := fun d => run_equalIn_string (P := Tryz.prog) w d 9 s t Tryz.underlying9
  have e2 := fun d (m n : Int) => run_equalIn_int (P := Tryz.prog) w d 3 .i64 .i64 m n Tryz.underlying3
  have hs : (s.toList == t.toList) = decide (s = t) := by
    by_cases e : s = t
    · subst e; simp
    · rw [decide_eq_false e]
      refine beq_eq_false_iff_ne.2 (fun h => e ?_)
      rw [ByteArray.toList_eq, ByteArray.toList_eq] at h
      exact ByteArray.ext (Array.toList_inj.1 h)
  have hf : Tryz.prog.fieldsOf 48 = #[{ name := "Kind", type := 3, offset := 0, embedded := false, tag := "", pkgPath := "", byteOffset := 0 }, { name := "Text", type := 9, offset := 1, embedded := false, tag := "", pkgPath := "", byteOffset := 8 }, { name := "N", type := 3, offset := 2, embedded := false, tag := "", pkgPath := "", byteOffset := 24 }, { name := "At", type := 3, offset := 3, embedded := false, tag := "", pkgPath := "", byteOffset := 32 }] := by kernel_rfl
  rw [run_neq_struct, show (10000 : Nat) = 9998 + 1 + 1 from rfl, run_equalIn_struct w _ _ _ _ (by rw [hf]; exact Tryz.underlying48) hp, hf]
  simp only [Op.eqFields, Sem.run_bind, Sem.run_ite, h0, h1, h2, h3, g0, g1, g2, g3, e1, e2, Result.andThen_ok, hs]
  cases ha : (k == k') <;> cases h2 : decide (s = t) <;> cases h3 : (n == n') <;> cases h4 : (p == p') <;> simp [Op.eqFields, Result.andThen]

end Go.Proofs.YtfkmnpgpfmkjaaaGreatDoor
namespace Go.Proofs.YtfkmnpgpfmkjaaaGreatDoor
open Go.ChangeShapes Go.WideShapes Go.ChangeAt Go.RowKit Go.Shelf
attribute [local go_sem] Oper.semAt_some

namespace Lx
/-- Is a token, but for its place, the only one of its spelling? -/
def sameT (t : T) (k : Int) (x : ByteArray) (n p : Int) : Bool := t.kind == k && (decide (t.text = x) && (t.n == n && t.pos == p))
def oneT (l : List T) (x : T) : Bool := match l with
  | [t] => sameT t x.kind x.text x.n 0
  | _ => false
def isTok (x : T) : Bool := oneT (lex (spl x).data.toList).1 x
theorem oneT_len {l : List T} {x : T} (h : ¬ l.length = 1) : oneT l x = false := by
  match l, h with
  | [], _ => rfl
  | [t], h => exact absurd rfl h
  | _ :: _ :: _, _ => rfl
end Lx

/-- What Spell answers. -/
def spellV (b : Bool) (s : ByteArray) : Value := match b with
  | true => .tuple #[.string s, .int .i64 0]
  | false => .tuple #[.string ⟨#[]⟩, .int .i64 5]

/-- A text made bytes. -/
theorem src_of_text (s : ByteArray) (w : World) (hs : s.size ≤ 1000000) : SrcAt (Lib.bytesWorld w 5 s) (.slice (some ⟨w.heap.size, 0, none⟩) s.data.toList.length (grownCap w s.size 0 5)) s.data.toList := by
  have hl : s.data.toList.length = s.size := by rw [Array.length_toList]; rfl
  refine ⟨_, _, rfl, by rw [hl]; exact grownCap_ge _ _ _ _, grownCap_le_maxLen _ _ _ _ (by unfold maxLen; omega), fun i c hc => ⟨_, _, rfl, ?_⟩⟩
  have hi : i < s.size := by have := (List.getElem?_eq_some_iff.1 hc).1; omega
  have := Lib.bytesWorld_cell w 5 s i hi
  unfold ByteR
  rw [Nat.zero_add, Nat.mul_one, this, List.getD_eq_getElem?_getD, hc]
  rfl

theorem spl_size {x : Lx.T} (hx : TokOk x) : (Lx.spl x).size ≤ 200010 := by
  obtain ⟨h0, h1, h2⟩ := hx
  have hil := Lib.itoa_length_le x.n h0 h1
  unfold Lx.spl
  split
  · show (Lib.itoa x.n).toArray.size ≤ _; simp; omega
  · split
    · show (Lib.itoa x.n ++ [114]).toArray.size ≤ _; simp; omega
    · split
      · have h3 := quP_len x.text.data.toList x.text.size
        unfold quP at h3
        rw [List.take_of_length_le (by rw [Array.length_toList]; exact Nat.le_refl _), List.length_cons] at h3
        show (34 :: x.text.data.toList.flatMap Lx.spelt ++ [34]).toArray.size ≤ _
        rw [List.size_toArray, List.length_append, List.length_cons, List.length_singleton]; omega
      · omega

set_option maxHeartbeats 8000000 in
theorem spell_c (x : Lx.T) (w : World) (hT : Tb w) (hP : Pw w) (hE : Er w) (hx : TokOk x) :
    Calls Tryz.prog 27 #[tV x] w fun e w' => e = .returned (spellV (Lx.isTok x) (Lx.spl x)) ∧ Kept w w' := by
  obtain ⟨W1, hW1⟩ : ∃ W1, w.alloc (.cells (tC x) 48) = W1 := ⟨_, rfl⟩
  have k1 : Kept w W1 := by rw [← hW1]; exact (Kept.refl w).alloc _
  have b1 : Blk W1 w.heap.size 48 (tC x) := by rw [← hW1]; exact Blk.new w _ _
  have HW1 := Lib.hid hW1
  have HK1 := Lib.hid k1
  have HB1 := Lib.hid b1
  obtain ⟨c0, c1, c2, c3⟩ : W1.cell? ⟨w.heap.size, 0, none⟩ = some (.int .i64 x.kind) ∧ W1.cell? ⟨w.heap.size, 1, none⟩ = some (.string x.text) ∧ W1.cell? ⟨w.heap.size, 2, none⟩ = some (.int .i64 x.n) ∧ W1.cell? ⟨w.heap.size, 3, none⟩ = some (.int .i64 x.pos) := ⟨b1.cell 0, b1.cell 1, b1.cell 2, b1.cell 3⟩
  have HSP := Lib.hid (spelling_c x W1 (hT.kept k1) (hP.kept k1) hx)
  have hss := spl_size hx
  have HTT := Lib.hid hT
  have HEE := Lib.hid hE
  obtain ⟨s, hs⟩ : ∃ s, Lx.spl x = s := ⟨_, rfl⟩
  obtain ⟨R, hR⟩ : ∃ R, Lx.isTok x = R := ⟨_, rfl⟩
  have HR : Hid (Lx.oneT (Lx.lex s.data.toList).1 x = R) := Lib.hid (by rw [← hR, ← hs]; rfl)
  rw [hs] at HSP hss
  rw [hs, hR]
  clear hs hR hW1 k1 b1 hT hP hE hx
  go_enter Tryz.func27, Tryz.ntmps27
  go_wp2_with (rw [HW1.out])
  refine HSP.out.mono ?_
  rintro e w2 ⟨rfl, k2⟩
  have hb2 := HB1.out.kept k2
  have f3 := hb2.frozen 3
  have d3 := hb2.cell 3
  simp at d3
  obtain ⟨W3, hW3⟩ : ∃ W3, w2.setCell ⟨w.heap.size, 3, none⟩ (.int .i64 0) = W3 := ⟨_, rfl⟩
  have hb3 : Blk W3 w.heap.size 48 #[.int .i64 x.kind, .string x.text, .int .i64 x.n, .int .i64 0] := by rw [← hW3]; exact hb2.put 3 (.int .i64 0)
  have k3 : Kept w W3 := by rw [← hW3]; exact (HK1.out.trans k2).setCell (by show w.heap.size ≤ w.heap.size; omega) _
  have hcv := Lib.run_convert_string_bytes (P := Tryz.prog) W3 9 33 5 s Tryz.underlying9 Tryz.underlying33 Tryz.underlying5
  have hl : s.data.toList.length = s.size := by rw [Array.length_toList]; rfl
  have hsrc := src_of_text s W3 (by omega)
  obtain ⟨W4, hW4⟩ : ∃ W4, Lib.bytesWorld W3 5 s = W4 := ⟨_, rfl⟩
  have k34 : Kept W3 W4 := by rw [← hW4]; exact Kept.of_below (Lib.bytesWorld_below _ _ _)
  rw [hW4] at hcv hsrc
  have HLX := Lib.hid (lex_c (some ⟨W3.heap.size, 0, none⟩) _ s.data.toList W4 hsrc (HTT.out.kept (k3.trans k34)) (HEE.out.kept (k3.trans k34)))
  rw [hl] at HLX
  have HB4 := Lib.hid (hb3.kept k34)
  have HK4 := Lib.hid (k3.trans k34)
  have HW3 := Lib.hid hW3
  clear hb2 hW3 hb3 k3 hsrc hW4 k34 k2 HSP HB1 HK1 c0 c1 c2 c3 hl
  go_wp2_with (rw [HW3.out])
  refine HLX.out.mono ?_
  rintro e w5 ⟨a', c', rfl, hrow, k5⟩
  have HB5 := Lib.hid (HB4.out.kept k5)
  have HK5 := Lib.hid (HK4.out.trans k5)
  clear k5 HB4 HK4 HLX hcv f3 d3
  obtain ⟨L, hL⟩ : ∃ L, (Lx.lex s.data.toList).1 = L := ⟨_, rfl⟩
  generalize (Lx.lex s.data.toList).2.1 = ev
  generalize (Lx.lex s.data.toList).2.2 = av
  rw [hL] at HR hrow ⊢
  obtain ⟨W6, hW6⟩ : ∃ W6, w5.alloc (.cells #[.int .i64 ev, .int .i64 av] 36) = W6 := ⟨_, rfl⟩
  have k6 : Kept w5 W6 := by rw [← hW6]; exact (Kept.refl w5).alloc _
  have HW6 := Lib.hid hW6
  have hb6 := HB5.out.kept k6
  obtain ⟨e0, e1, e2, e3⟩ : W6.cell? ⟨w.heap.size, 0, none⟩ = some (.int .i64 x.kind) ∧ W6.cell? ⟨w.heap.size, 1, none⟩ = some (.string x.text) ∧ W6.cell? ⟨w.heap.size, 2, none⟩ = some (.int .i64 x.n) ∧ W6.cell? ⟨w.heap.size, 3, none⟩ = some (.int .i64 0) := ⟨hb6.cell 0, hb6.cell 1, hb6.cell 2, hb6.cell 3⟩
  have HK6 := Lib.hid (HK5.out.trans k6)
  by_cases h1 : L.length = 1
  · obtain ⟨t, rfl⟩ : ∃ t, L = [t] := List.length_eq_one_iff.1 h1
    obtain ⟨la, lc, e, _, _, hat⟩ := tks_kept hrow k6
    injection e with ea _ ec
    subst ea ec
    obtain ⟨b, o, rfl, g0, g1, g2, g3⟩ := hat 0 t rfl
    rw [Nat.zero_mul, Nat.add_zero] at g0 g1 g2 g3
    have hne := fun W => neqT t.kind t.n t.pos x.kind x.n 0 t.text x.text W
    have HRR : Hid (Lx.sameT t x.kind x.text x.n 0 = R) := HR
    rw [show (t.kind == x.kind && (decide (t.text = x.text) && (t.n == x.n && t.pos == 0))) = R from HRR.out] at hne
    clear hrow k6 hW6 hb6 hL HR HRR h1 hat HB5 HK5
    have hlen : (([t] : List Lx.T).length : Int) = 1 := rfl
    cases R with
    | true =>
      simp only [Bool.not_true] at hne
      go_wp2_with (rw [HW6.out])
      go_quiet (fail)
      go_wp2_with fail
      exact bodyPost_ret (results_tmp2 rfl _ _ _) rfl ⟨rfl, HK6.out.drewN _⟩
    | false =>
      simp only [Bool.not_false] at hne
      go_wp2_with (rw [HW6.out])
      go_quiet (fail)
      go_wp2_with fail
      exact bodyPost_ret (results_tmp2 rfl _ _ _) rfl ⟨rfl, HK6.out.drewN _⟩
  · obtain rfl : R = false := by rw [← HR.out]; exact Lx.oneT_len h1
    have hlI : ((L.length : Int) != 1) = true := by simp; omega
    have hlI2 : ((L.length : Int) == 1) = false := by simp; omega
    clear hrow k6 hW6 hb6 hL HR h1 HB5 HK5
    go_wp2_with (rw [HW6.out])
    go_quiet (fail)
    go_wp2_with fail
    exact bodyPost_ret (results_tmp2 rfl _ _ _) rfl ⟨rfl, HK6.out.drewN _⟩

end Go.Proofs.YtfkmnpgpfmkjaaaGreatDoor
namespace Go.Proofs.YtfkmnpgpfmkjaaaGreatDoor
open Go.ChangeShapes Go.WideShapes Go.ChangeAt Go.RowKit Go.Shelf
attribute [local go_sem] Oper.semAt_some

namespace Lx
/-- Tokens as a source, with one blank between two. -/
def joinB : List T → List UInt8
  | [] => []
  | x :: r => (spl x).data.toList ++ r.flatMap fun y => 32 :: (spl y).data.toList
theorem joinB_snoc (l : List T) (x : T) : joinB (l ++ [x]) = joinB l ++ (if l.length = 0 then [] else [32]) ++ (spl x).data.toList := by
  cases l with
  | nil => simp [joinB]
  | cons y r => simp [joinB]
theorem joinB_le (l m : List T) : (joinB l).length ≤ (joinB (l ++ m)).length := by
  cases l with
  | nil => exact Nat.zero_le _
  | cons y r => simp only [joinB, List.cons_append, List.flatMap_append, List.length_append]; omega
end Lx

set_option maxHeartbeats 8000000 in
theorem join_c (l : List Lx.T) (a : Option Addr) (c : Nat) (w : World) (h : TksAt w (.slice a l.length c) l) (hT : Tb w) (hP : Pw w) (hE : Er w) (hx : ∀ x ∈ l, TokOk x) (hsum : (Lx.joinB l).length ≤ 900000) :
    Calls Tryz.prog 19 #[.slice a l.length c] w fun e w' => e = .returned (spellV (l.all Lx.isTok) ⟨(Lx.joinB l).toArray⟩) ∧ Kept w w' := by
  have hcap : l.length ≤ c ∧ c ≤ maxLen := by
    obtain ⟨a', c', e, h1, h2, h3⟩ := h
    injection e with e1 e2 e3
    subst e1 e3
    exact ⟨h1, h2⟩
  unfold maxLen at hcap
  have HAT : Hid (∀ i (hi : i < l.length) W, Kept w W → ∃ b o, a = some ⟨b, o, none⟩ ∧ TokR W b (o + i * 4) l[i]) := Lib.hid (by
    intro i hi W k
    obtain ⟨a', c', e, h1, h2, h3⟩ := tks_kept h k
    injection e with e1 e2 e3
    subst e1 e3
    exact h3 i l[i] (List.getElem?_eq_getElem hi))
  obtain ⟨W1, hW1⟩ : ∃ W1, w.alloc (.cells #[.pointer none, .slice none 0 0] 65) = W1 := ⟨_, rfl⟩
  have hs1 : w.heap.size ≤ W1.heap.size := by rw [← hW1]; simp
  have HB1 : Hid (Bld w.heap.size w.heap.size [] W1) := Lib.hid (.inl ⟨Nat.le_refl _, .slice none 0 0, by rw [← hW1]; exact heap_alloc_new w _, World.ownsRow_nil _ _ _ _, by simp [Value.ownBlock]⟩)
  have HK1 : Hid (Kept w W1) := Lib.hid (by rw [← hW1]; exact (Kept.refl w).alloc _)
  have HW1 := Lib.hid hW1
  have HT := Lib.hid hT
  have HP := Lib.hid hP
  have HE := Lib.hid hE
  have HX := Lib.hid hx
  have HSUM := Lib.hid hsum
  obtain ⟨R, hR⟩ : ∃ R, l.all Lx.isTok = R := ⟨_, rfl⟩
  rw [hR]
  have HR := Lib.hid hR
  obtain ⟨J, hJ⟩ : ∃ J : ByteArray, ⟨(Lx.joinB l).toArray⟩ = J := ⟨_, rfl⟩
  rw [hJ]
  have HJ := Lib.hid hJ
  clear h hW1 hT hP hE hx hsum hR hJ
  go_enter Tryz.func19, Tryz.ntmps19
  go_wp2_with (rw [HW1.out])
  go_loopw [11] (fun i wr => ∃ k : Nat, k ≤ l.length ∧ i = .int .i64 k ∧ Hid (Bld w.heap.size w.heap.size (Lx.joinB (l.take k)) wr) ∧ Hid (Kept w wr) ∧ Hid (∀ x ∈ l.take k, Lx.isTok x = true) ∧ w.heap.size ≤ wr.heap.size) (fun i wr => l.length - (intOf i).toNat)
  case atStart => exact ⟨0, Nat.zero_le _, rfl, HB1, HK1, Lib.hid (by simp), hs1⟩
  case round =>
    clear HB1 HK1 hs1 HW1
    obtain ⟨k, hk, rfl, HB, HK, HA, hz⟩ := hrel
    by_cases hlt : k < l.length
    · have hltI : (k : Int) < (l.length : Int) := by omega
      obtain ⟨b, o, rfl, g0, g1, g2, g3⟩ := HAT.out k hlt wr HK.out
      have HTK := Lib.hid (show l.take (k + 1) = l.take k ++ [l[k]] from List.take_succ_eq_append_getElem hlt)
      have HXK := Lib.hid (HX.out l[k] (List.getElem_mem hlt))
      have HMEM := Lib.hid (show l[k] ∈ l from List.getElem_mem hlt)
      generalize l[k] = x at *
      have hkl : (l.take k).length = k := by rw [List.length_take]; omega
      have HSN := Lib.hid (show Lx.joinB (l.take (k + 1)) = Lx.joinB (l.take k) ++ (if k = 0 then [] else [32]) ++ (Lx.spl x).data.toList by rw [HTK.out, Lx.joinB_snoc, hkl])
      have HLE := Lib.hid (show (Lx.joinB (l.take (k + 1))).length ≤ 900000 from Nat.le_trans (by have := Lx.joinB_le (l.take (k + 1)) (l.drop (k + 1)); rwa [List.take_append_drop] at this) HSUM.out)
      obtain ⟨W2, hW2⟩ : ∃ W2, wr.alloc (.cells (tC x) 48) = W2 := ⟨_, rfl⟩
      have k2 : Kept wr W2 := by rw [← hW2]; exact (Kept.refl wr).alloc _
      have hb2 : Blk W2 wr.heap.size 48 (tC x) := by rw [← hW2]; exact Blk.new wr _ _
      obtain ⟨d0, d1, d2, d3⟩ : W2.cell? ⟨wr.heap.size, 0, none⟩ = some (.int .i64 x.kind) ∧ W2.cell? ⟨wr.heap.size, 1, none⟩ = some (.string x.text) ∧ W2.cell? ⟨wr.heap.size, 2, none⟩ = some (.int .i64 x.n) ∧ W2.cell? ⟨wr.heap.size, 3, none⟩ = some (.int .i64 x.pos) := ⟨hb2.cell 0, hb2.cell 1, hb2.cell 2, hb2.cell 3⟩
      have HK2 := Lib.hid (HK.out.trans k2)
      have HSP := Lib.hid (spell_c x W2 (HT.out.kept HK2.out) (HP.out.kept HK2.out) (HE.out.kept HK2.out) HXK.out)
      have HB2 := Lib.hid (bld_kept HB.out k2)
      have HW2 := Lib.hid hW2
      have hz2 := k2.size
      cases htk : Lx.isTok x with
      | false =>
        obtain rfl : R = false := by
          rw [← HR.out, Bool.eq_false_iff]
          intro hall
          rw [List.all_eq_true] at hall
          rw [hall x HMEM.out] at htk
          cases htk
        rw [htk] at HSP
        unfold spellV at HSP
        clear htk hW2 k2 hb2 hkl
        go_wp2_with (rw [HW2.out])
        refine HSP.out.mono ?_
        rintro e w3 ⟨rfl, k3⟩
        go_wp2_with fail
        exact bodyPost_ret (results_tmp2 rfl _ _ _) rfl ⟨rfl, HK2.out.trans k3⟩
      | true =>
        have HA2 := Lib.hid (show ∀ y ∈ l.take (k + 1), Lx.isTok y = true from fun y hy => by
          rw [HTK.out] at hy
          rcases List.mem_append.1 hy with h | h
          · exact HA.out y h
          · rw [List.mem_singleton] at h; subst h; exact htk)
        rw [htk] at HSP
        unfold spellV at HSP
        clear htk hW2 k2 hb2 hkl
        generalize Lx.spl x = sp at *
        go_wp2_with (rw [HW2.out])
        refine HSP.out.mono ?_
        rintro e w3 ⟨rfl, k3⟩
        have HB3 := Lib.hid (bld_kept HB2.out k3)
        have HK3 := Lib.hid (HK2.out.trans k3)
        have hz3 := k3.size
        clear k3 HB2 HK2 HSP g0 g1 g2 g3 d0 d1 d2 d3
        by_cases hk0 : k = 0
        · subst hk0
          have hlb : (Lx.joinB (l.take 0)).length + sp.size ≤ 1000000 := by
            have h1 := HLE.out
            rw [HSN.out, if_pos rfl, List.append_nil, List.length_append] at h1
            have hsp : sp.data.toList.length = sp.size := by rw [Array.length_toList]; rfl
            omega
          have HWS := Lib.hid (bstr_c w.heap.size w.heap.size _ sp w3 HB3.out hlb (by omega))
          rw [if_pos rfl, List.append_nil] at HSN
          rw [← HSN.out] at HWS
          go_wp2_with fail
          refine HWS.out.mono ?_
          rintro e w4 ⟨rfl, hb4, hB4⟩
          have HB4 := Lib.hid hb4
          have HK4 := Lib.hid (kept_below HK3.out hB4)
          have hz4 := HK4.out.size
          clear hb4 hB4
          go_wp2_with fail
          go_roundw
          case rel => exact ⟨1, by omega, rfl, HB4, HK4, HA2, hz4⟩
          case measure => simp [intOf]; omega
        · have hk0I : (0 : Int) < (k : Int) := by omega
          rw [if_neg hk0] at HSN
          have hlb : (Lx.joinB (l.take k) ++ [32]).length + sp.size ≤ 1000000 := by
            have h1 := HLE.out
            rw [HSN.out, List.length_append] at h1
            have hsp : sp.data.toList.length = sp.size := by rw [Array.length_toList]; rfl
            omega
          have HWB := Lib.hid (bbyte_z w.heap.size w.heap.size _ 32 32 rfl w3 HB3.out (by rw [List.length_append] at hlb; omega) (by omega))
          clear hk0
          go_wp2_with fail
          refine HWB.out.mono ?_
          rintro e w4 ⟨rfl, hb4, hB4⟩
          have HWS := Lib.hid (bstr_c w.heap.size w.heap.size _ sp w4 hb4 hlb (by have := hB4.size; omega))
          rw [← HSN.out] at HWS
          have HK4 := Lib.hid (kept_below HK3.out hB4)
          clear hb4 hB4 HWB
          go_wp2_with fail
          refine HWS.out.mono ?_
          rintro e w5 ⟨rfl, hb5, hB5⟩
          have HB5 := Lib.hid hb5
          have HK5 := Lib.hid (kept_below HK4.out hB5)
          have hz5 := HK5.out.size
          clear hb5 hB5 HWS
          go_wp2_with fail
          go_roundw
          case rel => exact ⟨k + 1, by omega, by go_num, HB5, HK5, HA2, hz5⟩
          case measure => simp [intOf]; omega
    · obtain rfl : k = l.length := by omega
      have hltI : ¬ (l.length : Int) < (l.length : Int) := by omega
      obtain rfl : R = true := by
        rw [← HR.out, List.all_eq_true]
        intro y hy
        exact HA.out y (by rw [List.take_of_length_le (Nat.le_refl _)]; exact hy)
      have HBL := Lib.hid (show Bld w.heap.size w.heap.size (Lx.joinB l) wr by have := HB.out; rwa [List.take_of_length_le (Nat.le_refl _)] at this)
      have HST := Lib.hid (Tryz.Builder_String_any w.heap.size w.heap.size _ wr HBL.out hz)
      rw [HJ.out] at HST
      go_wp2_with fail
      refine HST.out.mono ?_
      rintro e w4 ⟨rfl, hB4⟩
      have HK4 := Lib.hid (kept_below HK.out hB4)
      clear hB4
      go_wp2_with fail
      exact bodyPost_ret (results_tmp2 rfl _ _ _) rfl ⟨rfl, HK4.out⟩

end Go.Proofs.YtfkmnpgpfmkjaaaGreatDoor
namespace Go.Proofs.YtfkmnpgpfmkjaaaGreatDoor
open Go.ChangeShapes Go.WideShapes Go.ChangeAt Go.RowKit Go.Shelf
attribute [local go_sem] Oper.semAt_some

theorem text_eq (s t : ByteArray) : (s.toList == t.toList) = decide (s = t) := by
  by_cases e : s = t
  · subst e; simp
  · rw [decide_eq_false e]
    refine beq_eq_false_iff_ne.2 (fun h => e ?_)
    rw [ByteArray.toList_eq, ByteArray.toList_eq] at h
    exact ByteArray.ext (Array.toList_inj.1 h)

theorem eqT (k n p k' n' p' : Int) (s t : ByteArray) (w : World) : (binOp .eql 48 (tagg k s n p) (tagg k' t n' p')).run Tryz.prog w = .ok (.bool (k == k' && (decide (s = t) && (n == n' && p == p')))) w := by
  have hp : Tryz.prog.stoodInHeld 48 = false := by kernel_rfl
  have h0 : (part 3 #[.int .i64 k, .string s, .int .i64 n, .int .i64 p] 0).run Tryz.prog w = .ok (.int .i64 k) w := by kernel_rfl
  have h1 : (part 9 #[.int .i64 k, .string s, .int .i64 n, .int .i64 p] 1).run Tryz.prog w = .ok (.string s) w := by kernel_rfl
  have h2 : (part 3 #[.int .i64 k, .string s, .int .i64 n, .int .i64 p] 2).run Tryz.prog w = .ok (.int .i64 n) w := by kernel_rfl
  have h3 : (part 3 #[.int .i64 k, .string s, .int .i64 n, .int .i64 p] 3).run Tryz.prog w = .ok (.int .i64 p) w := by kernel_rfl
  have g0 : (part 3 #[.int .i64 k', .string t, .int .i64 n', .int .i64 p'] 0).run Tryz.prog w = .ok (.int .i64 k') w := by kernel_rfl
  have g1 : (part 9 #[.int .i64 k', .string t, .int .i64 n', .int .i64 p'] 1).run Tryz.prog w = .ok (.string t) w := by kernel_rfl
  have g2 : (part 3 #[.int .i64 k', .string t, .int .i64 n', .int .i64 p'] 2).run Tryz.prog w = .ok (.int .i64 n') w := by kernel_rfl
  have g3 : (part 3 #[.int .i64 k', .string t, .int .i64 n', .int .i64 p'] 3).run Tryz.prog w = .ok (.int .i64 p') w := by kernel_rfl
  have e1 := fun d => run_equalIn_string (P := Tryz.prog) w d 9 s t Tryz.underlying9
  have e2 := fun d (m n : Int) => run_equalIn_int (P := Tryz.prog) w d 3 .i64 .i64 m n Tryz.underlying3
  have hf : Tryz.prog.fieldsOf 48 = #[{ name := "Kind", type := 3, offset := 0, embedded := false, tag := "", pkgPath := "", byteOffset := 0 }, { name := "Text", type := 9, offset := 1, embedded := false, tag := "", pkgPath := "", byteOffset := 8 }, { name := "N", type := 3, offset := 2, embedded := false, tag := "", pkgPath := "", byteOffset := 24 }, { name := "At", type := 3, offset := 3, embedded := false, tag := "", pkgPath := "", byteOffset := 32 }] := by kernel_rfl
  rw [run_eql_struct, show (10000 : Nat) = 9998 + 1 + 1 from rfl, run_equalIn_struct w _ _ _ _ (by rw [hf]; exact Tryz.underlying48) hp, hf]
  simp only [Op.eqFields, Sem.run_bind, Sem.run_ite, h0, h1, h2, h3, g0, g1, g2, g3, e1, e2, Result.andThen_ok, text_eq]
  cases ha : (k == k') <;> cases h2 : decide (s = t) <;> cases h3 : (n == n') <;> cases h4 : (p == p') <;> simp [Op.eqFields, Result.andThen]

theorem eqF (e a e' a' : Int) (w : World) : (binOp .eql 36 (fagg e a) (fagg e' a')).run Tryz.prog w = .ok (.bool (e == e' && a == a')) w := by
  have hp : Tryz.prog.stoodInHeld 36 = false := by kernel_rfl
  have h0 : (part 34 #[.int .i64 e, .int .i64 a] 0).run Tryz.prog w = .ok (.int .i64 e) w := by kernel_rfl
  have h1 : (part 3 #[.int .i64 e, .int .i64 a] 1).run Tryz.prog w = .ok (.int .i64 a) w := by kernel_rfl
  have g0 : (part 34 #[.int .i64 e', .int .i64 a'] 0).run Tryz.prog w = .ok (.int .i64 e') w := by kernel_rfl
  have g1 : (part 3 #[.int .i64 e', .int .i64 a'] 1).run Tryz.prog w = .ok (.int .i64 a') w := by kernel_rfl
  have e1 := fun d => run_equalIn_int (P := Tryz.prog) w d 34 .i64 .i64 e e' Tryz.underlying34
  have e2 := fun d => run_equalIn_int (P := Tryz.prog) w d 3 .i64 .i64 a a' Tryz.underlying3
  have hf : Tryz.prog.fieldsOf 36 = #[{ name := "Err", type := 34, offset := 0, embedded := false, tag := "", pkgPath := "", byteOffset := 0 }, { name := "At", type := 3, offset := 1, embedded := false, tag := "", pkgPath := "", byteOffset := 8 }] := by kernel_rfl
  rw [run_eql_struct, show (10000 : Nat) = 9998 + 1 + 1 from rfl, run_equalIn_struct w _ _ _ _ (by rw [hf]; exact Tryz.underlying36) hp, hf]
  simp only [Op.eqFields, Sem.run_bind, Sem.run_ite, h0, h1, g0, g1, e1, e2, Result.andThen_ok]
  cases ha : (e == e') <;> cases h2 : (a == a') <;> simp [Op.eqFields, Result.andThen]

namespace Lx
def plainE (x y : T) : Bool := x.kind == y.kind && (decide (x.text = y.text) && x.n == y.n)
def sameE (x y : T) : Bool := x.kind == y.kind && (decide (x.text = y.text) && (x.n == y.n && x.pos == y.pos))
/-- Lists compared, thing by thing. -/
def allE (f : T → T → Bool) (L M : List T) : Bool := decide (L.length = M.length) && (L.zip M).all fun q => f q.1 q.2
theorem allE_no {f : T → T → Bool} {L M : List T} {k : Nat} (h : (decide (L.length = M.length) && ((L.zip M).take k).all fun q => f q.1 q.2) = false) : allE f L M = false := by
  unfold allE
  cases hd : decide (L.length = M.length) with
  | false => rfl
  | true =>
    rw [hd, Bool.true_and] at h
    rw [Bool.true_and, Bool.eq_false_iff]
    intro ha
    rw [List.all_eq_true] at ha
    rw [Bool.eq_false_iff] at h
    exact h (List.all_eq_true.2 fun q hq => ha q (List.mem_of_mem_take hq))
theorem zip_next {L M : List T} {k : Nat} (hL : k < L.length) (hM : k < M.length) : (L.zip M).take (k + 1) = (L.zip M).take k ++ [(L[k], M[k])] := by
  rw [List.take_succ_eq_append_getElem (by rw [List.length_zip]; omega)]
  simp
end Lx

end Go.Proofs.YtfkmnpgpfmkjaaaGreatDoor
namespace Go.Proofs.YtfkmnpgpfmkjaaaGreatDoor
open Go.ChangeShapes Go.WideShapes Go.ChangeAt Go.RowKit Go.Shelf
attribute [local go_sem] Oper.semAt_some

namespace Lx
def lexesV (s : ByteArray) (M : List T) : Bool := ((lex s.data.toList).2.1 == 0 && (lex s.data.toList).2.2 == 0) && allE plainE (lex s.data.toList).1 M
def failsV (s : ByteArray) (e a : Int) : Bool := decide ((lex s.data.toList).1.length = 0) && ((lex s.data.toList).2.1 == e && (lex s.data.toList).2.2 == a)
def spellsV (x : T) (want : ByteArray) (err : Int) : Bool := match isTok x with
  | true => decide (spl x = want) && (0 : Int) == err
  | false => decide ((⟨#[]⟩ : ByteArray) = want) && (5 : Int) == err
end Lx

theorem cell1_results {fn : Func} {p : Tmp} (h : fn.results = #[.cell p 48]) (tmps : Array Value) (W : World) {g : Nat} {k n po : Value} {x : Value}
    (hp : tmps.getD p undef = .pointer (some ⟨g, 0, none⟩)) (hg : Blk W g 48 #[k, x, n, po]) : (results fn tmps).run Tryz.prog W = .ok (.agg #[k, x, n, po]) W :=
  results_cell_row (P := Tryz.prog) h tmps W g 48 #[k, x, n, po] (0, 0) _ hp hg Tryz.underlying48 (by rfl) (by kernel_rfl)

/-- A row of tokens made at once. -/
theorem tks_lit {W : World} {g : Nat} (l : List Lx.T) {cs : Array Value} (h : Blk W g 48 cs) (hc : cs = (l.flatMap tCells).toArray) (n : Nat) (hn : n = l.length) (hl : l.length ≤ 1000) : TksAt W (.slice (some ⟨g, 0, none⟩) n n) l := by
  subst hc hn
  refine ⟨_, _, rfl, Nat.le_refl _, by unfold maxLen; omega, fun i x hx => ⟨g, 0, rfl, ?_⟩⟩
  have c : ∀ j, W.cell? ⟨g, j, none⟩ = (l.flatMap tCells)[j]? := fun j => by rw [h.cell j, ← Array.getElem?_toList]
  have e0 := flat_at tCells tCells_len l i 0 x hx (by omega)
  have e1 := flat_at tCells tCells_len l i 1 x hx (by omega)
  have e2 := flat_at tCells tCells_len l i 2 x hx (by omega)
  have e3 := flat_at tCells tCells_len l i 3 x hx (by omega)
  rw [Nat.zero_add]
  exact ⟨by rw [c, ← Nat.add_zero (i * 4), e0]; rfl, by rw [c, e1]; rfl, by rw [c, e2]; rfl, by rw [c, e3]; rfl⟩

end Go.Proofs.YtfkmnpgpfmkjaaaGreatDoor
namespace Go.Proofs.YtfkmnpgpfmkjaaaGreatDoor
open Go.ChangeShapes Go.WideShapes Go.ChangeAt Go.RowKit Go.Shelf
attribute [local go_sem] Oper.semAt_some

set_option maxHeartbeats 8000000 in
theorem sameN_c (x : Nd) : ∀ (ad : Option Addr) (ck : Nat) (bd : Option Addr) (dk : Nat) (w : World), KidsAt w (.slice ad x.kids.length ck) x.kids → KidsAt w (.slice bd x.kids.length dk) x.kids →
    Calls Tryz.prog 17 #[ndV x (.slice ad x.kids.length ck), ndV x (.slice bd x.kids.length dk)] w fun e w' => e = .returned (.bool true) ∧ Kept w w' := by
  refine Nd.ind (P := fun x => ∀ (ad : Option Addr) (ck : Nat) (bd : Option Addr) (dk : Nat) (w : World), KidsAt w (.slice ad x.kids.length ck) x.kids → KidsAt w (.slice bd x.kids.length dk) x.kids →
    Calls Tryz.prog 17 #[ndV x (.slice ad x.kids.length ck), ndV x (.slice bd x.kids.length dk)] w fun e w' => e = .returned (.bool true) ∧ Kept w w') (fun x ih ad ck bd dk w hk hk2 => ?_) x
  obtain ⟨W1, hW1⟩ : ∃ W1, (w.alloc (.cells #[.int .i64 x.kind, .string x.text, .string x.typ, .string x.frm, .int .i64 x.n, .slice ad x.kids.length ck] 25)).alloc (.cells #[.int .i64 x.kind, .string x.text, .string x.typ, .string x.frm, .int .i64 x.n, .slice bd x.kids.length dk] 25) = W1 := ⟨_, rfl⟩
  have k1 : Kept w W1 := by rw [← hW1]; exact ((Kept.refl w).alloc _).alloc _
  have ha : Blk W1 w.heap.size 25 (ndC x (.slice ad x.kids.length ck)).toArray := by rw [← hW1]; exact (Blk.new _ _ _).alloc _
  have hb : Blk W1 (w.heap.size + 1) 25 (ndC x (.slice bd x.kids.length dk)).toArray := by rw [← hW1]; exact Blk.at (by simp)
  have hcap : x.kids.length ≤ maxLen := Row.len hk
  obtain ⟨_, _, e0, _, _, hat⟩ := KidsD.kept hk k1
  injection e0 with e1 e2 e3
  subst e1 e3
  clear e2
  obtain ⟨_, _, e0, _, _, hbt⟩ := KidsD.kept hk2 k1
  injection e0 with e1 e2 e3
  subst e1 e3
  clear e2
  have HAT := Lib.hid hat
  have HBT := Lib.hid hbt
  have HA := Lib.hid ha
  have HB := Lib.hid hb
  have HIH := Lib.hid ih
  have HW1 := Lib.hid hW1
  have HK1 := Lib.hid k1
  obtain ⟨l, hl⟩ : ∃ l, x.kids = l := ⟨_, rfl⟩
  rw [hl] at HAT HBT HA HB HIH HW1 hcap ⊢
  have a0 := HA.out.cell 0
  have a1 := HA.out.cell 1
  have a2 := HA.out.cell 2
  have a3 := HA.out.cell 3
  have a4 := HA.out.cell 4
  have a5 := HA.out.cell 5
  have b0 := HB.out.cell 0
  have b1 := HB.out.cell 1
  have b2 := HB.out.cell 2
  have b3 := HB.out.cell 3
  have b4 := HB.out.cell 4
  have b5 := HB.out.cell 5
  simp only [ndC, List.getElem?_toArray, List.getElem?_cons_zero, List.getElem?_cons_succ] at a0 a1 a2 a3 a4 a5 b0 b1 b2 b3 b4 b5
  clear hat hbt ha hb ih hW1 k1 hk hk2 hl
  unfold maxLen at hcap
  go_enter Tryz.func17, Tryz.ntmps17
  go_wp2_with (rw [HW1.out])
  clear a0 a1 a2 a3 a4 a5 b0 b1 b2 b3 b4 b5
  go_loopw [5] (fun i wr => ∃ k : Nat, i = .int .i64 k ∧ k ≤ l.length ∧ Kept W1 wr) (fun i wr => l.length - (intOf i).toNat)
  case atStart => exact ⟨0, rfl, Nat.zero_le _, Kept.refl _⟩
  case round =>
    obtain ⟨k, rfl, hkl, hkp⟩ := hrel
    have a5 := (HA.out.kept hkp).cell 5
    have b5 := (HB.out.kept hkp).cell 5
    simp only [ndC, List.getElem?_toArray, List.getElem?_cons_zero, List.getElem?_cons_succ] at a5 b5
    have HK := Lib.hid hkp
    by_cases hlt : k < l.length
    · have hltI : (k : Int) < (l.length : Int) := by omega
      have hx : l[k]? = some l[k] := List.getElem?_eq_getElem hlt
      generalize hy : l[k] = y at hx
      obtain ⟨b, o, rfl, hn⟩ := HAT.out k y hx
      obtain ⟨b', o', rfl, hn'⟩ := HBT.out k y hx
      obtain ⟨ya, yc, ⟨n0, n1, n2, n3, n4, n5⟩, _, hyk, _⟩ := (hn.kept hkp).cells
      obtain ⟨za, zc, ⟨m0, m1, m2, m3, m4, m5⟩, _, hzk, _⟩ := (hn'.kept hkp).cells
      have HC := Lib.hid (fun W (k2 : Kept wr W) => HIH.out y (List.mem_of_getElem? hx) ya yc za zc W (KidsD.kept hyk k2) (KidsD.kept hzk k2))
      clear hx hy hn hn' hyk hzk hkp
      have HH := Lib.hid (show ∀ W, Kept wr W → (fun W => W.cell? ⟨w.heap.size, 5, none⟩ = some (.slice (some ⟨b, o, none⟩) l.length ck) ∧ W.cell? ⟨w.heap.size + 1, 5, none⟩ = some (.slice (some ⟨b', o', none⟩) l.length dk) ∧
        W.cell? ⟨b, o + k * 6, none⟩ = some (.int .i64 y.kind) ∧ W.cell? ⟨b, o + k * 6 + 1, none⟩ = some (.string y.text) ∧ W.cell? ⟨b, o + k * 6 + 2, none⟩ = some (.string y.typ) ∧ W.cell? ⟨b, o + k * 6 + 3, none⟩ = some (.string y.frm) ∧ W.cell? ⟨b, o + k * 6 + 4, none⟩ = some (.int .i64 y.n) ∧ W.cell? ⟨b, o + k * 6 + 5, none⟩ = some (.slice ya y.kids.length yc) ∧
        W.cell? ⟨b', o' + k * 6, none⟩ = some (.int .i64 y.kind) ∧ W.cell? ⟨b', o' + k * 6 + 1, none⟩ = some (.string y.text) ∧ W.cell? ⟨b', o' + k * 6 + 2, none⟩ = some (.string y.typ) ∧ W.cell? ⟨b', o' + k * 6 + 3, none⟩ = some (.string y.frm) ∧ W.cell? ⟨b', o' + k * 6 + 4, none⟩ = some (.int .i64 y.n) ∧ W.cell? ⟨b', o' + k * 6 + 5, none⟩ = some (.slice za y.kids.length zc) ∧ Kept wr W) W
        from fun W k => ⟨k.cell a5, k.cell b5, k.cell n0, k.cell n1, k.cell n2, k.cell n3, k.cell n4, k.cell n5, k.cell m0, k.cell m1, k.cell m2, k.cell m3, k.cell m4, k.cell m5, k⟩)
      have hz : (k : Int).toNat = k := by simp
      go_wp2_with fail
      refine wp_region_held_drew (S := fun W => W.cell? ⟨w.heap.size, 5, none⟩ = some (.slice (some ⟨b, o, none⟩) l.length ck) ∧ W.cell? ⟨w.heap.size + 1, 5, none⟩ = some (.slice (some ⟨b', o', none⟩) l.length dk) ∧
        W.cell? ⟨b, o + k * 6, none⟩ = some (.int .i64 y.kind) ∧ W.cell? ⟨b, o + k * 6 + 1, none⟩ = some (.string y.text) ∧ W.cell? ⟨b, o + k * 6 + 2, none⟩ = some (.string y.typ) ∧ W.cell? ⟨b, o + k * 6 + 3, none⟩ = some (.string y.frm) ∧ W.cell? ⟨b, o + k * 6 + 4, none⟩ = some (.int .i64 y.n) ∧ W.cell? ⟨b, o + k * 6 + 5, none⟩ = some (.slice ya y.kids.length yc) ∧
        W.cell? ⟨b', o' + k * 6, none⟩ = some (.int .i64 y.kind) ∧ W.cell? ⟨b', o' + k * 6 + 1, none⟩ = some (.string y.text) ∧ W.cell? ⟨b', o' + k * 6 + 2, none⟩ = some (.string y.typ) ∧ W.cell? ⟨b', o' + k * 6 + 3, none⟩ = some (.string y.frm) ∧ W.cell? ⟨b', o' + k * 6 + 4, none⟩ = some (.int .i64 y.n) ∧ W.cell? ⟨b', o' + k * 6 + 5, none⟩ = some (.slice za y.kids.length zc) ∧ Kept wr W) (by kernel_rfl) (HH.out _ (Kept.refl wr).drew) (fun hHeld0 => ?_)
      clear a5 b5 n0 n1 n2 n3 n4 n5 m0 m1 m2 m3 m4 m5
      refine wpAnyH_take (i := 0) (v := ?_) rfl (by kernel_rfl) (by kernel_rfl) (by kernel_rfl) (fun _ _ _ h => h) (Or.inl ⟨by kernel_rfl, ?_⟩) (by assumption) ?_
      rotate_left
      · intro w hSw; (try dsimp only at hSw); go_simp; (try with_reducible rfl)
      (try simp only [Act.put, List.getElem_toArray, List.getElem_cons_zero, List.getElem_cons_succ, List.setIfInBounds_toArray, List.set_cons_zero, List.set_cons_succ])
      refine wpAnyH_take (i := 1) (v := ?_) rfl (by kernel_rfl) (by kernel_rfl) (by kernel_rfl) (fun _ _ _ h => h) (Or.inl ⟨by kernel_rfl, ?_⟩) (by assumption) ?_
      rotate_left
      · intro w hSw; (try dsimp only at hSw); go_simp; (try with_reducible rfl)
      (try simp only [Act.put, List.getElem_toArray, List.getElem_cons_zero, List.getElem_cons_succ, List.setIfInBounds_toArray, List.set_cons_zero, List.set_cons_succ])
      refine wpAnyH_take (i := 2) (v := ?_) rfl (by kernel_rfl) (by kernel_rfl) (by kernel_rfl) (fun _ _ _ h => h) (Or.inl ⟨by kernel_rfl, ?_⟩) (by assumption) ?_
      rotate_left
      · intro w hSw; (try dsimp only at hSw); go_simp; (try with_reducible rfl)
      (try simp only [Act.put, List.getElem_toArray, List.getElem_cons_zero, List.getElem_cons_succ, List.setIfInBounds_toArray, List.set_cons_zero, List.set_cons_succ])
      refine wpAnyH_take (i := 3) (v := ?_) rfl (by kernel_rfl) (by kernel_rfl) (by kernel_rfl) (fun _ _ _ h => h) (Or.inl ⟨by kernel_rfl, ?_⟩) (by assumption) ?_
      rotate_left
      · intro w hSw; (try dsimp only at hSw); go_simp; (try with_reducible rfl)
      (try simp only [Act.put, List.getElem_toArray, List.getElem_cons_zero, List.getElem_cons_succ, List.setIfInBounds_toArray, List.set_cons_zero, List.set_cons_succ])
      refine wpAnyH_take (i := 4) (v := ?_) rfl (by kernel_rfl) (by kernel_rfl) (by kernel_rfl) (fun _ _ _ h => h) (Or.inl ⟨by kernel_rfl, ?_⟩) (by assumption) ?_
      rotate_left
      · intro w hSw; (try dsimp only at hSw); go_simp; (try with_reducible rfl)
      (try simp only [Act.put, List.getElem_toArray, List.getElem_cons_zero, List.getElem_cons_succ, List.setIfInBounds_toArray, List.set_cons_zero, List.set_cons_succ])
      refine wpAnyH_take (i := 5) (v := ?_) rfl (by kernel_rfl) (by kernel_rfl) (by kernel_rfl) (fun _ _ _ h => h) (Or.inl ⟨by kernel_rfl, ?_⟩) (by assumption) ?_
      rotate_left
      · intro w hSw; (try dsimp only at hSw); go_simp; (try with_reducible rfl)
      (try simp only [Act.put, List.getElem_toArray, List.getElem_cons_zero, List.getElem_cons_succ, List.setIfInBounds_toArray, List.set_cons_zero, List.set_cons_succ])
      refine wpAnyH_take (i := 6) (v := ?_) rfl (by kernel_rfl) (by kernel_rfl) (by kernel_rfl) (fun _ _ _ h => h) (Or.inl ⟨by kernel_rfl, ?_⟩) (by assumption) ?_
      rotate_left
      · intro w hSw; (try dsimp only at hSw); go_simp; (try with_reducible rfl)
      (try simp only [Act.put, List.getElem_toArray, List.getElem_cons_zero, List.getElem_cons_succ, List.setIfInBounds_toArray, List.set_cons_zero, List.set_cons_succ])
      refine wpAnyH_take (i := 7) (v := ?_) rfl (by kernel_rfl) (by kernel_rfl) (by kernel_rfl) (fun _ _ _ h => h) (Or.inl ⟨by kernel_rfl, ?_⟩) (by assumption) ?_
      rotate_left
      · intro w hSw; (try dsimp only at hSw); go_simp; (try with_reducible rfl)
      (try simp only [Act.put, List.getElem_toArray, List.getElem_cons_zero, List.getElem_cons_succ, List.setIfInBounds_toArray, List.set_cons_zero, List.set_cons_succ])
      refine wpAnyH_take (i := 8) (v := ?_) rfl (by kernel_rfl) (by kernel_rfl) (by kernel_rfl) (fun _ _ _ h => h) (Or.inl ⟨by kernel_rfl, ?_⟩) (by assumption) ?_
      rotate_left
      · intro w hSw; (try dsimp only at hSw); go_simp; (try with_reducible rfl)
      (try simp only [Act.put, List.getElem_toArray, List.getElem_cons_zero, List.getElem_cons_succ, List.setIfInBounds_toArray, List.set_cons_zero, List.set_cons_succ])
      refine wpAnyH_take (i := 9) (v := ?_) rfl (by kernel_rfl) (by kernel_rfl) (by kernel_rfl) (fun _ _ _ h => h) (Or.inl ⟨by kernel_rfl, ?_⟩) (by assumption) ?_
      rotate_left
      · intro w hSw; (try dsimp only at hSw); go_simp; (try with_reducible rfl)
      (try simp only [Act.put, List.getElem_toArray, List.getElem_cons_zero, List.getElem_cons_succ, List.setIfInBounds_toArray, List.set_cons_zero, List.set_cons_succ])
      refine wpAnyH_ready (rs := [10]) (by kernel_rfl) (by simp) ?_
      refine AllReadyH.cons rfl (fun K hK => ?_) AllReadyH.nil
      go_simp
      go_at_call 17
      refine (HC.out _ (Kept.refl wr).drew).mono ?_
      rintro e w2 ⟨rfl, k2⟩
      replace k2 := Lib.hid ((Kept.refl wr).drew.trans k2)
      refine hK.out _ _ (HH.out _ k2.out) (fun hHeld1 => ?_)
      clear hK K
      (try simp only [Act.put, List.getElem_toArray, List.getElem_cons_zero, List.getElem_cons_succ, List.setIfInBounds_toArray, List.set_cons_zero, List.set_cons_succ])
      clear hHeld0
      refine wpAnyH_take (i := 11) (v := ?_) rfl (by kernel_rfl) (by kernel_rfl) (by kernel_rfl) (fun _ _ _ h => h) (Or.inl ⟨by kernel_rfl, ?_⟩) (by assumption) ?_
      rotate_left
      · intro w hSw; (try dsimp only at hSw); go_simp; (try with_reducible rfl)
      (try simp only [Act.put, List.getElem_toArray, List.getElem_cons_zero, List.getElem_cons_succ, List.setIfInBounds_toArray, List.set_cons_zero, List.set_cons_succ])
      refine wpAnyH_done (by kernel_rfl) ?_ _
      go_wp2_with fail
      go_roundw
      case rel => exact ⟨k + 1, by go_num, by omega, HK.out.trans k2.out⟩
      case measure => simp [intOf]; omega
    · obtain rfl : k = l.length := by omega
      have hltI : ¬ (l.length : Int) < (l.length : Int) := by omega
      clear hkp
      go_wp2_with fail
      go_ret
      exact ⟨rfl, HK1.out.trans HK.out⟩

end Go.Proofs.YtfkmnpgpfmkjaaaGreatDoor
namespace Go.Proofs.YtfkmnpgpfmkjaaaGreatDoor
open Go.ChangeShapes Go.WideShapes Go.ChangeAt Go.RowKit Go.Shelf
attribute [local go_sem] Oper.semAt_some

/-- All that the walks read of the tables. -/
structure PTab (w : World) : Prop where
  tb : Tb w
  er : Er w
  so : Sorts w
theorem PTab.kept {w w' : World} (h : PTab w) (k : Kept w w') : PTab w' := ⟨h.tb.kept k, h.er.kept k, by obtain ⟨t, fr, h⟩ := h.so; exact ⟨t, fr, (k.block _ (Array.getElem?_eq_some_iff.1 h).1).trans h⟩⟩

/-- A tree that was made: v is its kids' slice. -/
structure Mk (w : World) (x : Nd) (v : Value) : Prop where
  ok : x.ok1
  kids : ∃ a c, v = .slice a x.kids.length c ∧ KidsAt w (.slice a x.kids.length c) x.kids
theorem Mk.kept {w w' : World} {x : Nd} {v : Value} (h : Mk w x v) (k : Kept w w') : Mk w' x v := ⟨h.ok, by obtain ⟨a, c, e, h2⟩ := h.kids; exact ⟨a, c, e, KidsD.kept h2 k⟩⟩
/-- Kids that were made at once. -/
def Ks (w : World) (v : Value) (l : List Nd) : Prop := ∃ a c, v = .slice a l.length c ∧ KidsAt w (.slice a l.length c) l
theorem Ks.kept {w w' : World} {l : List Nd} {v : Value} (h : Ks w v l) (k : Kept w w') : Ks w' v l := by obtain ⟨a, c, e, h2⟩ := h; exact ⟨a, c, e, KidsD.kept h2 k⟩
theorem Ks.nil (w : World) : Ks w (.slice none 0 0) [] := ⟨none, 0, rfl, Row.nil⟩
theorem lit_kids {X : World} (ks : List (Nd × Value)) {cs : Array Value} {g n : Nat} (hg : g = X.heap.size) (hn : n = ks.length) (hcs : cs = (ks.flatMap fun p => ndC p.1 p.2).toArray) (hm : ks.length ≤ 100) (h : ∀ q ∈ ks, Mk X q.1 q.2) :
    Ks (X.alloc (.cells cs nT)) (.slice (some ⟨g, 0, none⟩) n n) (ks.map (·.1)) := by
  subst hg hn hcs
  have hl := flat_len (fun p : Nd × Value => ndC p.1 p.2) ndC_len ks
  have hb : Blk (X.alloc (.cells (ks.flatMap fun p => ndC p.1 p.2).toArray nT)) X.heap.size nT (ks.flatMap fun p => ndC p.1 p.2).toArray := Blk.new _ _ _
  refine ⟨_, ks.length, by rw [List.length_map], _, _, rfl, by rw [List.length_map]; exact Nat.le_refl _, by unfold maxLen; omega, fun i y hy => ⟨X.heap.size, 0, rfl, ?_⟩⟩
  rw [List.getElem?_map] at hy
  obtain ⟨q, hq, rfl⟩ := Option.map_eq_some_iff.1 hy
  obtain ⟨hok, a, c, e, hk⟩ := h q (List.mem_of_getElem? hq)
  refine NdD.shut (ad := a) (c := c) (fun j u hu => ?_) hok (KidsD.kept hk ((Kept.refl X).alloc _)) trivial
  rw [← e] at hu
  have hj : j < 6 := by
    rcases Nat.lt_or_ge j 6 with h | h
    · exact h
    · rw [List.getElem?_eq_none (by rw [ndC_len]; exact h)] at hu; cases hu
  rw [hb.cell]
  have := (flat_at (fun p : Nd × Value => ndC p.1 p.2) ndC_len ks i j q hq hj).trans hu
  simpa [Nat.add_assoc] using this

theorem pnode_c (k : Int) (t : ByteArray) (a : Option Addr) (n c : Nat) (w : World) : Calls Tryz.prog 9 #[.int .i64 k, .string t, .slice a n c] w fun e w' => e = .returned (.agg #[.int .i64 k, .string t, .string ⟨#[]⟩, .string ⟨#[]⟩, .int .i64 0, .slice a n c]) ∧ Kept w w' := by
  go_enter Tryz.func9, Tryz.ntmps9
  go_wp2_with fail
  exact bodyPost_ret (nd_results (x := .mk k t ⟨#[]⟩ ⟨#[]⟩ 0 []) (v := .slice a n c) (by rfl) _ _ rfl (Blk.new _ _ _)) rfl ⟨rfl, (Kept.refl w).alloc _⟩
theorem ptyped_c (k : Int) (t y : ByteArray) (a : Option Addr) (n c : Nat) (w : World) : Calls Tryz.prog 12 #[.int .i64 k, .string t, .string y, .slice a n c] w fun e w' => e = .returned (.agg #[.int .i64 k, .string t, .string y, .string ⟨#[]⟩, .int .i64 0, .slice a n c]) ∧ Kept w w' := by
  go_enter Tryz.func12, Tryz.ntmps12
  go_wp2_with fail
  exact bodyPost_ret (nd_results (x := .mk k t y ⟨#[]⟩ 0 []) (v := .slice a n c) (by rfl) _ _ rfl (Blk.new _ _ _)) rfl ⟨rfl, (Kept.refl w).alloc _⟩
theorem pnumber_c (k : Int) (w : World) : Calls Tryz.prog 11 #[.int .i64 k] w fun e w' => e = .returned (.agg #[.int .i64 7, .string ⟨#[]⟩, .string ⟨#[]⟩, .string ⟨#[]⟩, .int .i64 k, .slice none 0 0]) ∧ Kept w w' := by
  go_enter Tryz.func11, Tryz.ntmps11
  go_wp2_with fail
  exact bodyPost_ret (nd_results (x := .mk 7 ⟨#[]⟩ ⟨#[]⟩ ⟨#[]⟩ k []) (v := .slice none 0 0) (by rfl) _ _ rfl (Blk.new _ _ _)) rfl ⟨rfl, (Kept.refl w).alloc _⟩
theorem pnamed_c (t : ByteArray) (w : World) : Calls Tryz.prog 10 #[.string t] w fun e w' => e = .returned (.agg #[.int .i64 14, .string t, .string ⟨#[]⟩, .string ⟨#[]⟩, .int .i64 0, .slice none 0 0]) ∧ Kept w w' := by
  obtain ⟨W0, hW0⟩ : ∃ W, w.alloc (.cells pzN nT) = W := ⟨_, rfl⟩
  have k0 : Kept w W0 := by rw [← hW0]; exact (Kept.refl _).alloc _
  have b0 : Blk W0 w.heap.size nT pzN := by rw [← hW0]; exact Blk.new _ _ _
  have HW0 := Lib.hid hW0
  have HK0 := Lib.hid k0
  have HB0 := Lib.hid b0
  clear hW0 k0 b0
  go_enter Tryz.func10, Tryz.ntmps10
  go_wp2_with (first | rw [HW0.out] | (go_at_call 9; refine (pnode_c _ _ _ _ _ _).mono ?_; rintro e w1 ⟨rfl, k1⟩; have HK1 := Lib.hid k1; obtain ⟨⟨y0, y1, y2, y3, y4, y5⟩, f0, f1, f2, f3, f4, f5⟩ := nd_six (HB0.out.kept k1); clear k1))
  have h1 := put6n_only
  exact bodyPost_ret (nd_results (x := .mk 14 t ⟨#[]⟩ ⟨#[]⟩ 0 []) (v := .slice none 0 0) (by rfl) _ _ rfl (put6n_blk (HB0.out.kept HK1.out) (.mk 14 t ⟨#[]⟩ ⟨#[]⟩ 0 []) (.slice none 0 0))) rfl ⟨rfl, (HK0.out.trans HK1.out).only (put6n_only w1 w.heap.size (.mk 14 t ⟨#[]⟩ ⟨#[]⟩ 0 []) (.slice none 0 0)) rfl (fun k hk => by omega)⟩

/-- A node's box and a fault's, made and then written. -/
theorem two_boxes (w : World) (x : Nd) (v : Value) (e a : Int) {Z6 Z7 Z8 : World} (h6 : (w.alloc (.cells pzN nT)).alloc (.cells #[.int .i64 0, .int .i64 0] 36) = Z6) (h7 : put6n Z6 w.heap.size x v = Z7) (h8 : (Z7.setCell ⟨w.heap.size + 1, 0, none⟩ (.int .i64 e)).setCell ⟨w.heap.size + 1, 1, none⟩ (.int .i64 a) = Z8) :
    Blk Z6 w.heap.size nT pzN ∧ Blk Z7 (w.heap.size + 1) 36 #[.int .i64 0, .int .i64 0] ∧ Blk Z8 w.heap.size nT (ndA x v) ∧ Blk Z8 (w.heap.size + 1) 36 #[.int .i64 e, .int .i64 a] ∧ Kept w Z8 := by
  have b6 : Blk Z6 w.heap.size nT pzN := by rw [← h6]; exact (Blk.new _ _ _).alloc _
  have c6 : Blk Z6 (w.heap.size + 1) 36 #[.int .i64 0, .int .i64 0] := by rw [← h6]; exact blk_new (by simp)
  have k6 : Kept w Z6 := by rw [← h6]; exact ((Kept.refl _).alloc _).alloc _
  have o7 : Only (· = w.heap.size) Z6 Z7 := by rw [← h7]; exact put6n_only _ _ _ _
  have b7 : Blk Z7 w.heap.size nT (ndA x v) := by rw [← h7]; exact put6n_blk b6 x v
  have c7 := c6.only o7 (by omega)
  have o8 : Only (· = w.heap.size + 1) Z7 Z8 := by rw [← h8]; exact ((Only.refl _ _).put 0 _).put 1 _
  have c8 : Blk Z8 (w.heap.size + 1) 36 #[.int .i64 e, .int .i64 a] := by
    rw [← h8]
    have := (c7.put 0 (.int .i64 e)).put 1 (.int .i64 a)
    simpa using this
  exact ⟨b6, c7, b7.only o8 (by omega), c8, (k6.only o7 rfl (fun k hk => by omega)).only o8 rfl (fun k hk => by omega)⟩

set_option maxHeartbeats 4000000 in
theorem means_c (s : ByteArray) (hs : s.size ≤ 1000000) (x : Nd) (v : Value) (w : World) (hT : PTab w) (hv : Mk w x v) (hp : parseP s.data.toList = .tree x) :
    Calls Tryz.prog 13 #[.string s, ndV x v] w fun e w' => e = .returned (.bool true) ∧ Kept w w' := by
  obtain ⟨W1, hW1⟩ : ∃ W, w.alloc (.cells (ndA x v) nT) = W := ⟨_, rfl⟩
  have k1 : Kept w W1 := by rw [← hW1]; exact (Kept.refl _).alloc _
  have b1 : Blk W1 w.heap.size nT (ndA x v) := by rw [← hW1]; exact Blk.new _ _ _
  have hcv := Lib.run_convert_string_bytes (P := Tryz.prog) W1 9 33 5 s Tryz.underlying9 Tryz.underlying33 Tryz.underlying5
  have hl : s.data.toList.length = s.size := by rw [Array.length_toList]; rfl
  have hsrc := src_of_text s W1 hs
  obtain ⟨W4, hW4⟩ : ∃ W4, Lib.bytesWorld W1 5 s = W4 := ⟨_, rfl⟩
  have k4 : Kept W1 W4 := by rw [← hW4]; exact Kept.of_below (Lib.bytesWorld_below _ _ _)
  rw [hW4] at hcv hsrc
  have hT4 := (hT.kept k1).kept k4
  have HPC := Lib.hid (parse_c (some ⟨W1.heap.size, 0, none⟩) _ s.data.toList W4 hsrc hT4.tb hT4.er hT4.so)
  rw [hl, hp] at HPC
  have HB1 := Lib.hid (b1.kept k4)
  have HV := Lib.hid ((hv.kept k1).kept k4)
  have HW1 := Lib.hid hW1
  have HK4 := Lib.hid (k1.trans k4)
  obtain ⟨av, cv, e, _⟩ := hv.kids
  subst e
  have hq := fun W => eqF 0 0 0 0 W
  clear hsrc hW4 k4 hT hT4 hl hW1 k1 b1 hv hp
  go_enter Tryz.func13, Tryz.ntmps13
  go_wp2_with (rw [HW1.out])
  refine HPC.out.mono ?_
  rintro e w5 (⟨x5, k5s, v5, h1, rfl, hx, hk, hok, hcnt, hce, k5⟩ | ⟨_, _, h1, _⟩)
  rotate_left
  · cases h1
  injection h1 with h1
  subst h1
  obtain ⟨a5, c5, rfl⟩ := hk.slice
  have hl5 : k5s.length = x.kids.length := by rw [hx, List.length_map]
  have hkk : KidsAt w5 (.slice a5 x.kids.length c5) x.kids := by
    have := hk.kids.at
    rw [← hx, hl5] at this
    exact this
  rw [hl5]
  obtain ⟨Z6, h6⟩ : ∃ Z, (w5.alloc (.cells pzN nT)).alloc (.cells #[.int .i64 0, .int .i64 0] 36) = Z := ⟨_, rfl⟩
  obtain ⟨Z7, h7⟩ : ∃ Z, put6n Z6 w5.heap.size x (.slice a5 x.kids.length c5) = Z := ⟨_, rfl⟩
  obtain ⟨W7, hW7⟩ : ∃ Z, (Z7.setCell ⟨w5.heap.size + 1, 0, none⟩ (.int .i64 0)).setCell ⟨w5.heap.size + 1, 1, none⟩ (.int .i64 0) = Z := ⟨_, rfl⟩
  obtain ⟨t1, t2, b6, b7, k7⟩ := two_boxes w5 x (.slice a5 x.kids.length c5) 0 0 h6 h7 hW7
  have HZ6 := Lib.hid h6
  have HZ7 := Lib.hid (show (((((Z6.setCell ⟨w5.heap.size, 0, none⟩ (.int .i64 x.kind)).setCell ⟨w5.heap.size, 1, none⟩ (.string x.text)).setCell ⟨w5.heap.size, 2, none⟩ (.string x.typ)).setCell ⟨w5.heap.size, 3, none⟩ (.string x.frm)).setCell ⟨w5.heap.size, 4, none⟩ (.int .i64 x.n)).setCell ⟨w5.heap.size, 5, none⟩ (.slice a5 x.kids.length c5) = Z7 from h7)
  obtain ⟨⟨q0, q1, q2, q3, q4, q5⟩, f0, f1, f2, f3, f4, f5⟩ := nd_six t1
  have p0 := t2.cell 0
  have p1 := t2.cell 1
  have r0 := t2.frozen 0
  have r1 := t2.frozen 1
  clear t1 t2 h6 h7
  have b1 := (HB1.out.kept k5).kept k7
  obtain ⟨⟨y0, y1, y2, y3, y4, y5⟩, _⟩ := nd_six b6
  obtain ⟨⟨z0, z1, z2, z3, z4, z5⟩, _⟩ := nd_six b1
  have i0 := b7.cell 0
  have i1 := b7.cell 1
  have HSN := Lib.hid (show Calls Tryz.prog 17 #[ndV x (.slice a5 x.kids.length c5), ndV x (.slice av x.kids.length cv)] W7 (fun e w' => e = .returned (.bool true) ∧ Kept W7 w') from by
    obtain ⟨a', c', e, hk'⟩ := ((HV.out.kept k5).kept k7).kids
    injection e with e1 e2 e3
    subst e1 e3
    exact sameN_c x a5 c5 _ _ W7 (KidsD.kept hkk k7) hk')
  have HK7 := Lib.hid ((HK4.out.trans k5).trans k7)
  have HW7 := Lib.hid hW7
  clear hx hk hok hcnt hce k5 hl5 hkk hW7 k7 b6 b7 b1 hcv HPC
  go_wp2_with (first | rw [HZ6.out] | rw [HZ7.out] | rw [HW7.out])
  refine HSN.out.mono ?_
  rintro e w8 ⟨rfl, k8⟩
  have HK8 := Lib.hid k8
  clear k8
  go_wp2_with fail
  go_ret
  exact ⟨rfl, HK7.out.trans HK8.out⟩

set_option maxHeartbeats 4000000 in
theorem pfails_c (s : ByteArray) (hs : s.size ≤ 1000000) (n : Int) (w : World) (hT : PTab w) (hp : parseP s.data.toList = .fault 5 n) :
    Calls Tryz.prog 15 #[.string s, .int .i64 n] w fun e w' => e = .returned (.bool true) ∧ Kept w w' := by
  have hcv := Lib.run_convert_string_bytes (P := Tryz.prog) w 9 33 5 s Tryz.underlying9 Tryz.underlying33 Tryz.underlying5
  have hl : s.data.toList.length = s.size := by rw [Array.length_toList]; rfl
  have hsrc := src_of_text s w hs
  obtain ⟨W4, hW4⟩ : ∃ W4, Lib.bytesWorld w 5 s = W4 := ⟨_, rfl⟩
  have k4 : Kept w W4 := by rw [← hW4]; exact Kept.of_below (Lib.bytesWorld_below _ _ _)
  rw [hW4] at hcv hsrc
  have hT4 := hT.kept k4
  have HPC := Lib.hid (parse_c (some ⟨w.heap.size, 0, none⟩) _ s.data.toList W4 hsrc hT4.tb hT4.er hT4.so)
  rw [hl, hp] at HPC
  have HK4 := Lib.hid k4
  have hq : ∀ W, (binOp .eql 36 (fagg 5 n) (fagg 5 n)).run Tryz.prog W = .ok (.bool true) W := fun W => by
    have := eqF 5 n 5 n W
    simpa using this
  clear hsrc hW4 k4 hT hT4 hl hp
  go_enter Tryz.func15, Tryz.ntmps15
  go_wp2_with fail
  refine HPC.out.mono ?_
  rintro e w5 (⟨_, _, _, h1, _⟩ | ⟨er, ea, h1, _, rfl, k5⟩)
  · cases h1
  injection h1 with h1 h2
  subst h1 h2
  obtain ⟨Z6, h6⟩ : ∃ Z, (w5.alloc (.cells pzN nT)).alloc (.cells #[.int .i64 0, .int .i64 0] 36) = Z := ⟨_, rfl⟩
  obtain ⟨Z7, h7⟩ : ∃ Z, put6n Z6 w5.heap.size (Ps.nd 0 Ps.e0 Ps.e0 0 []) (.slice none 0 0) = Z := ⟨_, rfl⟩
  obtain ⟨W7, hW7⟩ : ∃ Z, (Z7.setCell ⟨w5.heap.size + 1, 0, none⟩ (.int .i64 5)).setCell ⟨w5.heap.size + 1, 1, none⟩ (.int .i64 n) = Z := ⟨_, rfl⟩
  obtain ⟨t1, t2, b6, b7, k7⟩ := two_boxes w5 (Ps.nd 0 Ps.e0 Ps.e0 0 []) (.slice none 0 0) 5 n h6 h7 hW7
  have HZ6 := Lib.hid h6
  have HZ7 := Lib.hid (show (((((Z6.setCell ⟨w5.heap.size, 0, none⟩ (.int .i64 0)).setCell ⟨w5.heap.size, 1, none⟩ (.string ⟨#[]⟩)).setCell ⟨w5.heap.size, 2, none⟩ (.string ⟨#[]⟩)).setCell ⟨w5.heap.size, 3, none⟩ (.string ⟨#[]⟩)).setCell ⟨w5.heap.size, 4, none⟩ (.int .i64 0)).setCell ⟨w5.heap.size, 5, none⟩ (.slice none 0 0) = Z7 from h7)
  obtain ⟨⟨q0, q1, q2, q3, q4, q5⟩, f0, f1, f2, f3, f4, f5⟩ := nd_six t1
  have p0 := t2.cell 0
  have p1 := t2.cell 1
  have r0 := t2.frozen 0
  have r1 := t2.frozen 1
  clear t1 t2 h6 h7
  obtain ⟨⟨y0, y1, y2, y3, y4, y5⟩, _⟩ := nd_six (show Blk W7 w5.heap.size nT pzN from b6)
  have i0 := b7.cell 0
  have i1 := b7.cell 1
  have HSN := Lib.hid (show Calls Tryz.prog 17 #[.agg #[.int .i64 0, .string ⟨#[]⟩, .string ⟨#[]⟩, .string ⟨#[]⟩, .int .i64 0, .slice none 0 0], .agg #[.int .i64 0, .string ⟨#[]⟩, .string ⟨#[]⟩, .string ⟨#[]⟩, .int .i64 0, .slice none 0 0]] W7 (fun e w' => e = .returned (.bool true) ∧ Kept W7 w') from sameN_c (Ps.nd 0 Ps.e0 Ps.e0 0 []) none 0 none 0 W7 Row.nil Row.nil)
  have HK7 := Lib.hid ((HK4.out.trans k5).trans k7)
  have HW7 := Lib.hid hW7
  clear k5 hW7 k7 b6 b7 hcv HPC
  go_wp2_with (first | rw [HZ6.out] | rw [HZ7.out] | rw [HW7.out])
  refine HSN.out.mono ?_
  rintro e w8 ⟨rfl, k8⟩
  have HK8 := Lib.hid k8
  clear k8
  go_wp2_with fail
  go_ret
  exact ⟨rfl, HK7.out.trans HK8.out⟩

/-- A program of these expressions. -/
def progL (l : List Nd) : Nd := Ps.nd 1 Ps.e0 Ps.e0 0 [Ps.nd 6 Ps.e0 Ps.e0 0 l]
set_option maxHeartbeats 4000000 in
theorem does_c (s : ByteArray) (hs : s.size ≤ 1000000) (l : List Nd) (v : Value) (w : World) (hT : PTab w) (hv : Ks w v l) (hp : parseP s.data.toList = .tree (progL l)) :
    Calls Tryz.prog 8 #[.string s, v] w fun e w' => e = .returned (.bool true) ∧ Kept w w' := by
  obtain ⟨a, c, rfl, hk⟩ := hv
  have HT := Lib.hid hT
  have HP := Lib.hid hp
  have HV := Lib.hid (show Ks w (.slice a l.length c) l from ⟨a, c, rfl, hk⟩)
  clear hT hp hk
  go_enter Tryz.func8, Tryz.ntmps8
  go_wp2_with fail
  refine (pnode_c _ _ _ _ _ _).mono ?_
  rintro e w1 ⟨rfl, k1⟩
  obtain ⟨W2, hW2⟩ : ∃ W, w1.alloc (.cells (ndA (Ps.nd 6 Ps.e0 Ps.e0 0 l) (.slice a l.length c)) nT) = W := ⟨_, rfl⟩
  have k2 : Kept w1 W2 := by rw [← hW2]; exact (Kept.refl _).alloc _
  have HL2 := Lib.hid (show Ks W2 (.slice (some ⟨w1.heap.size, 0, none⟩) 1 1) [Ps.nd 6 Ps.e0 Ps.e0 0 l] by
    rw [← hW2]
    exact lit_kids [(Ps.nd 6 Ps.e0 Ps.e0 0 l, .slice a l.length c)] rfl rfl rfl (by simp) (fun q hq => by
      rw [List.mem_singleton] at hq; subst hq
      exact ⟨nd_ok1 _ _ _ _ _ (by decide) e0_size e0_size (by decide), HV.out.kept k1⟩))
  have HK2 := Lib.hid (k1.trans k2)
  have HW2 := Lib.hid (show w1.alloc (.cells #[.int .i64 6, .string ⟨#[]⟩, .string ⟨#[]⟩, .string ⟨#[]⟩, .int .i64 0, .slice a l.length c] nT) = W2 from hW2)
  clear k1 k2 hW2
  go_wp2_with (rw [HW2.out])
  refine (pnode_c _ _ _ _ _ _).mono ?_
  rintro e w3 ⟨rfl, k3⟩
  have HK3 := Lib.hid (HK2.out.trans k3)
  have HM := Lib.hid (show Mk w3 (progL l) (.slice (some ⟨w1.heap.size, 0, none⟩) 1 1) from ⟨nd_ok1 _ _ _ _ _ (by decide) e0_size e0_size (by decide), HL2.out.kept k3⟩)
  clear k3
  go_wp2_with fail
  refine (means_c s hs (progL l) _ w3 (HT.out.kept HK3.out) HM.out HP.out).mono ?_
  rintro e w4 ⟨rfl, k4⟩
  have HK4 := Lib.hid (HK3.out.trans k4)
  clear k4
  go_wp2_with fail
  go_ret
  exact ⟨rfl, HK4.out⟩
end Go.Proofs.YtfkmnpgpfmkjaaaGreatDoor
namespace Go.Proofs.YtfkmnpgpfmkjaaaGreatDoor
open Go.ChangeShapes Go.WideShapes Go.ChangeAt Go.RowKit Go.Shelf
attribute [local go_sem] Oper.semAt_some

theorem Hid.keptK {w a b : World} (h : Kept w a) (k : Kept a b) : Kept w b := h.trans k

set_option maxHeartbeats 16000000 in
theorem pawake_c (w : World) (hT : PTab w) : Calls Tryz.prog 14 #[] w fun e w' => e = .returned (.bool true) ∧ Kept w w' := by
  have HTB := Lib.hid hT
  have HKK := Lib.hid (Kept.refl w)
  clear hT
  go_enter Tryz.func14, Tryz.ntmps14
  go_wp2_with fail
  refine (does_c ⟨#[109, 97, 105, 110, 123, 125]⟩ (by decide) [] _ _ HTB.out (Ks.nil _) (show parseP (⟨#[109, 97, 105, 110, 123, 125]⟩ : ByteArray).data.toList = .tree (progL []) from px1)).mono ?_
  rintro e w1 ⟨rfl, k1⟩
  replace HTB := Lib.hid (HTB.out.kept k1)
  replace HKK := Lib.hid (HKK.out.trans k1)
  clear k1
  go_wp2_with fail
  refine (pnumber_c _ _).mono ?_
  rintro e w2 ⟨rfl, k2⟩
  replace HTB := Lib.hid (HTB.out.kept k2)
  replace HKK := Lib.hid (HKK.out.trans k2)
  have Hn1 := Lib.hid (show Mk w2 (Ps.nd 7 ⟨#[]⟩ ⟨#[]⟩ 1 []) (.slice none 0 0) from ⟨nd_ok1 _ _ _ _ _ (by decide) (by decide) (by decide) (by decide), Ks.nil _⟩)
  clear k2
  go_wp2_with fail
  refine (pnumber_c _ _).mono ?_
  rintro e w3 ⟨rfl, k3⟩
  replace HTB := Lib.hid (HTB.out.kept k3)
  replace Hn1 := Lib.hid (Hn1.out.kept k3)
  replace HKK := Lib.hid (HKK.out.trans k3)
  have Hn2 := Lib.hid (show Mk w3 (Ps.nd 7 ⟨#[]⟩ ⟨#[]⟩ 2 []) (.slice none 0 0) from ⟨nd_ok1 _ _ _ _ _ (by decide) (by decide) (by decide) (by decide), Ks.nil _⟩)
  clear k3
  go_wp2_with fail
  refine (pnumber_c _ _).mono ?_
  rintro e w4 ⟨rfl, k4⟩
  replace HTB := Lib.hid (HTB.out.kept k4)
  replace Hn1 := Lib.hid (Hn1.out.kept k4)
  replace Hn2 := Lib.hid (Hn2.out.kept k4)
  replace HKK := Lib.hid (HKK.out.trans k4)
  have Hn3 := Lib.hid (show Mk w4 (Ps.nd 7 ⟨#[]⟩ ⟨#[]⟩ 3 []) (.slice none 0 0) from ⟨nd_ok1 _ _ _ _ _ (by decide) (by decide) (by decide) (by decide), Ks.nil _⟩)
  clear k4
  go_wp2_with fail
  obtain ⟨w5, hw5⟩ : ∃ V, w4.alloc (.cells #[.int .i64 7, .string ⟨#[]⟩, .string ⟨#[]⟩, .string ⟨#[]⟩, .int .i64 2, .slice none 0 0, .int .i64 7, .string ⟨#[]⟩, .string ⟨#[]⟩, .string ⟨#[]⟩, .int .i64 3, .slice none 0 0] nT) = V := ⟨_, rfl⟩
  have k5 : Kept w4 w5 := by rw [← hw5]; exact (Kept.refl _).alloc _
  have Hl1 := Lib.hid (show Ks w5 (.slice (some ⟨w4.heap.size, 0, none⟩) 2 2) [(Ps.nd 7 ⟨#[]⟩ ⟨#[]⟩ 2 []), (Ps.nd 7 ⟨#[]⟩ ⟨#[]⟩ 3 [])] by
    rw [← hw5]
    exact lit_kids [((Ps.nd 7 ⟨#[]⟩ ⟨#[]⟩ 2 []), (.slice none 0 0)), ((Ps.nd 7 ⟨#[]⟩ ⟨#[]⟩ 3 []), (.slice none 0 0))] rfl rfl rfl (by simp) (fun q hq => by
      simp only [List.mem_cons, List.not_mem_nil, or_false] at hq
      rcases hq with rfl | rfl
      · exact Hn2.out
      · exact Hn3.out))
  replace HTB := Lib.hid (HTB.out.kept k5)
  replace Hn1 := Lib.hid (Hn1.out.kept k5)
  replace Hn2 := Lib.hid (Hn2.out.kept k5)
  replace Hn3 := Lib.hid (Hn3.out.kept k5)
  replace HKK := Lib.hid (HKK.out.trans k5)
  have HWw5 := Lib.hid hw5
  clear hw5 k5
  go_wp2_with (rw [HWw5.out])
  refine (pnode_c _ _ _ _ _ _).mono ?_
  rintro e w6 ⟨rfl, k6⟩
  replace HTB := Lib.hid (HTB.out.kept k6)
  replace Hn1 := Lib.hid (Hn1.out.kept k6)
  replace Hn2 := Lib.hid (Hn2.out.kept k6)
  replace Hn3 := Lib.hid (Hn3.out.kept k6)
  replace Hl1 := Lib.hid (Hl1.out.kept k6)
  replace HKK := Lib.hid (HKK.out.trans k6)
  have Hm1 := Lib.hid (show Mk w6 (Ps.nd 25 ⟨#[42]⟩ ⟨#[]⟩ 0 [(Ps.nd 7 ⟨#[]⟩ ⟨#[]⟩ 2 []), (Ps.nd 7 ⟨#[]⟩ ⟨#[]⟩ 3 [])]) (.slice (some ⟨w4.heap.size, 0, none⟩) 2 2) from ⟨nd_ok1 _ _ _ _ _ (by decide) (by decide) (by decide) (by decide), Hl1.out⟩)
  clear k6
  go_wp2_with fail
  obtain ⟨w7, hw7⟩ : ∃ V, w6.alloc (.cells #[.int .i64 7, .string ⟨#[]⟩, .string ⟨#[]⟩, .string ⟨#[]⟩, .int .i64 1, .slice none 0 0, .int .i64 25, .string ⟨#[42]⟩, .string ⟨#[]⟩, .string ⟨#[]⟩, .int .i64 0, .slice (some ⟨w4.heap.size, 0, none⟩) 2 2] nT) = V := ⟨_, rfl⟩
  have k7 : Kept w6 w7 := by rw [← hw7]; exact (Kept.refl _).alloc _
  have Hl2 := Lib.hid (show Ks w7 (.slice (some ⟨w6.heap.size, 0, none⟩) 2 2) [(Ps.nd 7 ⟨#[]⟩ ⟨#[]⟩ 1 []), (Ps.nd 25 ⟨#[42]⟩ ⟨#[]⟩ 0 [(Ps.nd 7 ⟨#[]⟩ ⟨#[]⟩ 2 []), (Ps.nd 7 ⟨#[]⟩ ⟨#[]⟩ 3 [])])] by
    rw [← hw7]
    exact lit_kids [((Ps.nd 7 ⟨#[]⟩ ⟨#[]⟩ 1 []), (.slice none 0 0)), ((Ps.nd 25 ⟨#[42]⟩ ⟨#[]⟩ 0 [(Ps.nd 7 ⟨#[]⟩ ⟨#[]⟩ 2 []), (Ps.nd 7 ⟨#[]⟩ ⟨#[]⟩ 3 [])]), (.slice (some ⟨w4.heap.size, 0, none⟩) 2 2))] rfl rfl rfl (by simp) (fun q hq => by
      simp only [List.mem_cons, List.not_mem_nil, or_false] at hq
      rcases hq with rfl | rfl
      · exact Hn1.out
      · exact Hm1.out))
  replace HTB := Lib.hid (HTB.out.kept k7)
  replace Hn1 := Lib.hid (Hn1.out.kept k7)
  replace Hn2 := Lib.hid (Hn2.out.kept k7)
  replace Hn3 := Lib.hid (Hn3.out.kept k7)
  replace Hl1 := Lib.hid (Hl1.out.kept k7)
  replace Hm1 := Lib.hid (Hm1.out.kept k7)
  replace HKK := Lib.hid (HKK.out.trans k7)
  have HWw7 := Lib.hid hw7
  clear hw7 k7
  go_wp2_with (rw [HWw7.out])
  refine (pnode_c _ _ _ _ _ _).mono ?_
  rintro e w8 ⟨rfl, k8⟩
  replace HTB := Lib.hid (HTB.out.kept k8)
  replace Hn1 := Lib.hid (Hn1.out.kept k8)
  replace Hn2 := Lib.hid (Hn2.out.kept k8)
  replace Hn3 := Lib.hid (Hn3.out.kept k8)
  replace Hl1 := Lib.hid (Hl1.out.kept k8)
  replace Hm1 := Lib.hid (Hm1.out.kept k8)
  replace Hl2 := Lib.hid (Hl2.out.kept k8)
  replace HKK := Lib.hid (HKK.out.trans k8)
  have Hm2 := Lib.hid (show Mk w8 (Ps.nd 25 ⟨#[43]⟩ ⟨#[]⟩ 0 [(Ps.nd 7 ⟨#[]⟩ ⟨#[]⟩ 1 []), (Ps.nd 25 ⟨#[42]⟩ ⟨#[]⟩ 0 [(Ps.nd 7 ⟨#[]⟩ ⟨#[]⟩ 2 []), (Ps.nd 7 ⟨#[]⟩ ⟨#[]⟩ 3 [])])]) (.slice (some ⟨w6.heap.size, 0, none⟩) 2 2) from ⟨nd_ok1 _ _ _ _ _ (by decide) (by decide) (by decide) (by decide), Hl2.out⟩)
  clear k8
  go_wp2_with fail
  obtain ⟨w9, hw9⟩ : ∃ V, w8.alloc (.cells #[.int .i64 25, .string ⟨#[43]⟩, .string ⟨#[]⟩, .string ⟨#[]⟩, .int .i64 0, .slice (some ⟨w6.heap.size, 0, none⟩) 2 2] nT) = V := ⟨_, rfl⟩
  have k9 : Kept w8 w9 := by rw [← hw9]; exact (Kept.refl _).alloc _
  have Hl3 := Lib.hid (show Ks w9 (.slice (some ⟨w8.heap.size, 0, none⟩) 1 1) [(Ps.nd 25 ⟨#[43]⟩ ⟨#[]⟩ 0 [(Ps.nd 7 ⟨#[]⟩ ⟨#[]⟩ 1 []), (Ps.nd 25 ⟨#[42]⟩ ⟨#[]⟩ 0 [(Ps.nd 7 ⟨#[]⟩ ⟨#[]⟩ 2 []), (Ps.nd 7 ⟨#[]⟩ ⟨#[]⟩ 3 [])])])] by
    rw [← hw9]
    exact lit_kids [((Ps.nd 25 ⟨#[43]⟩ ⟨#[]⟩ 0 [(Ps.nd 7 ⟨#[]⟩ ⟨#[]⟩ 1 []), (Ps.nd 25 ⟨#[42]⟩ ⟨#[]⟩ 0 [(Ps.nd 7 ⟨#[]⟩ ⟨#[]⟩ 2 []), (Ps.nd 7 ⟨#[]⟩ ⟨#[]⟩ 3 [])])]), (.slice (some ⟨w6.heap.size, 0, none⟩) 2 2))] rfl rfl rfl (by simp) (fun q hq => by
      simp only [List.mem_cons, List.not_mem_nil, or_false] at hq
      subst hq; exact Hm2.out))
  replace HTB := Lib.hid (HTB.out.kept k9)
  replace Hn1 := Lib.hid (Hn1.out.kept k9)
  replace Hn2 := Lib.hid (Hn2.out.kept k9)
  replace Hn3 := Lib.hid (Hn3.out.kept k9)
  replace Hl1 := Lib.hid (Hl1.out.kept k9)
  replace Hm1 := Lib.hid (Hm1.out.kept k9)
  replace Hl2 := Lib.hid (Hl2.out.kept k9)
  replace Hm2 := Lib.hid (Hm2.out.kept k9)
  replace HKK := Lib.hid (HKK.out.trans k9)
  have HWw9 := Lib.hid hw9
  clear hw9 k9
  go_wp2_with (rw [HWw9.out])
  refine (does_c ⟨#[109, 97, 105, 110, 123, 49, 43, 50, 42, 51, 59, 125]⟩ (by decide) [(Ps.nd 25 ⟨#[43]⟩ ⟨#[]⟩ 0 [(Ps.nd 7 ⟨#[]⟩ ⟨#[]⟩ 1 []), (Ps.nd 25 ⟨#[42]⟩ ⟨#[]⟩ 0 [(Ps.nd 7 ⟨#[]⟩ ⟨#[]⟩ 2 []), (Ps.nd 7 ⟨#[]⟩ ⟨#[]⟩ 3 [])])])] _ _ HTB.out Hl3.out (show parseP (⟨#[109, 97, 105, 110, 123, 49, 43, 50, 42, 51, 59, 125]⟩ : ByteArray).data.toList = .tree (progL [(Ps.nd 25 ⟨#[43]⟩ ⟨#[]⟩ 0 [(Ps.nd 7 ⟨#[]⟩ ⟨#[]⟩ 1 []), (Ps.nd 25 ⟨#[42]⟩ ⟨#[]⟩ 0 [(Ps.nd 7 ⟨#[]⟩ ⟨#[]⟩ 2 []), (Ps.nd 7 ⟨#[]⟩ ⟨#[]⟩ 3 [])])])]) from px2)).mono ?_
  rintro e w10 ⟨rfl, k10⟩
  replace HTB := Lib.hid (HTB.out.kept k10)
  replace Hn1 := Lib.hid (Hn1.out.kept k10)
  replace Hn2 := Lib.hid (Hn2.out.kept k10)
  replace Hn3 := Lib.hid (Hn3.out.kept k10)
  replace Hl1 := Lib.hid (Hl1.out.kept k10)
  replace Hm1 := Lib.hid (Hm1.out.kept k10)
  replace Hl2 := Lib.hid (Hl2.out.kept k10)
  replace Hm2 := Lib.hid (Hm2.out.kept k10)
  replace Hl3 := Lib.hid (Hl3.out.kept k10)
  replace HKK := Lib.hid (HKK.out.trans k10)
  clear k10
  go_wp2_with fail
  refine (pfails_c ⟨#[109, 97, 105, 110, 123, 49, 61, 50, 125]⟩ (by decide) 6 _ HTB.out (show parseP (⟨#[109, 97, 105, 110, 123, 49, 61, 50, 125]⟩ : ByteArray).data.toList = .fault 5 6 from px3)).mono ?_
  rintro e w11 ⟨rfl, k11⟩
  replace HTB := Lib.hid (HTB.out.kept k11)
  replace Hn1 := Lib.hid (Hn1.out.kept k11)
  replace Hn2 := Lib.hid (Hn2.out.kept k11)
  replace Hn3 := Lib.hid (Hn3.out.kept k11)
  replace Hl1 := Lib.hid (Hl1.out.kept k11)
  replace Hm1 := Lib.hid (Hm1.out.kept k11)
  replace Hl2 := Lib.hid (Hl2.out.kept k11)
  replace Hm2 := Lib.hid (Hm2.out.kept k11)
  replace Hl3 := Lib.hid (Hl3.out.kept k11)
  replace HKK := Lib.hid (HKK.out.trans k11)
  clear k11
  go_wp2_with fail
  go_ret
  exact ⟨rfl, HKK.out⟩

set_option maxHeartbeats 16000000 in
theorem pknown_c (w : World) (hT : PTab w) : Calls Tryz.prog 3 #[] w fun e w' => e = .returned (.bool true) ∧ Kept w w' := by
  have HTB := Lib.hid hT
  have HKK := Lib.hid (Kept.refl w)
  clear hT
  go_enter Tryz.func3, Tryz.ntmps3
  go_wp2_with fail
  refine (pnamed_c _ _).mono ?_
  rintro e w1 ⟨rfl, k1⟩
  replace HTB := Lib.hid (HTB.out.kept k1)
  replace HKK := Lib.hid (HKK.out.trans k1)
  have Ha1 := Lib.hid (show Mk w1 (Ps.nd 14 ⟨#[121]⟩ ⟨#[]⟩ 0 []) (.slice none 0 0) from ⟨nd_ok1 _ _ _ _ _ (by decide) (by decide) (by decide) (by decide), Ks.nil _⟩)
  clear k1
  go_wp2_with fail
  refine (pnumber_c _ _).mono ?_
  rintro e w2 ⟨rfl, k2⟩
  replace HTB := Lib.hid (HTB.out.kept k2)
  replace Ha1 := Lib.hid (Ha1.out.kept k2)
  replace HKK := Lib.hid (HKK.out.trans k2)
  have Ha2 := Lib.hid (show Mk w2 (Ps.nd 7 ⟨#[]⟩ ⟨#[]⟩ 1 []) (.slice none 0 0) from ⟨nd_ok1 _ _ _ _ _ (by decide) (by decide) (by decide) (by decide), Ks.nil _⟩)
  clear k2
  go_wp2_with fail
  obtain ⟨w3, hw3⟩ : ∃ V, w2.alloc (.cells #[.int .i64 14, .string ⟨#[121]⟩, .string ⟨#[]⟩, .string ⟨#[]⟩, .int .i64 0, .slice none 0 0, .int .i64 7, .string ⟨#[]⟩, .string ⟨#[]⟩, .string ⟨#[]⟩, .int .i64 1, .slice none 0 0] nT) = V := ⟨_, rfl⟩
  have k3 : Kept w2 w3 := by rw [← hw3]; exact (Kept.refl _).alloc _
  have Hb1 := Lib.hid (show Ks w3 (.slice (some ⟨w2.heap.size, 0, none⟩) 2 2) [(Ps.nd 14 ⟨#[121]⟩ ⟨#[]⟩ 0 []), (Ps.nd 7 ⟨#[]⟩ ⟨#[]⟩ 1 [])] by
    rw [← hw3]
    exact lit_kids [((Ps.nd 14 ⟨#[121]⟩ ⟨#[]⟩ 0 []), (.slice none 0 0)), ((Ps.nd 7 ⟨#[]⟩ ⟨#[]⟩ 1 []), (.slice none 0 0))] rfl rfl rfl (by simp) (fun q hq => by
      simp only [List.mem_cons, List.not_mem_nil, or_false] at hq
      rcases hq with rfl | rfl
      · exact Ha1.out
      · exact Ha2.out))
  replace HTB := Lib.hid (HTB.out.kept k3)
  replace Ha1 := Lib.hid (Ha1.out.kept k3)
  replace Ha2 := Lib.hid (Ha2.out.kept k3)
  replace HKK := Lib.hid (HKK.out.trans k3)
  have HWw3 := Lib.hid hw3
  clear hw3 k3
  go_wp2_with (rw [HWw3.out])
  refine (pnode_c _ _ _ _ _ _).mono ?_
  rintro e w4 ⟨rfl, k4⟩
  replace HTB := Lib.hid (HTB.out.kept k4)
  replace Ha1 := Lib.hid (Ha1.out.kept k4)
  replace Ha2 := Lib.hid (Ha2.out.kept k4)
  replace Hb1 := Lib.hid (Hb1.out.kept k4)
  replace HKK := Lib.hid (HKK.out.trans k4)
  have Ha3 := Lib.hid (show Mk w4 (Ps.nd 19 ⟨#[102]⟩ ⟨#[]⟩ 0 [(Ps.nd 14 ⟨#[121]⟩ ⟨#[]⟩ 0 []), (Ps.nd 7 ⟨#[]⟩ ⟨#[]⟩ 1 [])]) (.slice (some ⟨w2.heap.size, 0, none⟩) 2 2) from ⟨nd_ok1 _ _ _ _ _ (by decide) (by decide) (by decide) (by decide), Hb1.out⟩)
  clear k4
  go_wp2_with fail
  obtain ⟨w5, hw5⟩ : ∃ V, w4.alloc (.cells #[.int .i64 19, .string ⟨#[102]⟩, .string ⟨#[]⟩, .string ⟨#[]⟩, .int .i64 0, .slice (some ⟨w2.heap.size, 0, none⟩) 2 2] nT) = V := ⟨_, rfl⟩
  have k5 : Kept w4 w5 := by rw [← hw5]; exact (Kept.refl _).alloc _
  have Hb2 := Lib.hid (show Ks w5 (.slice (some ⟨w4.heap.size, 0, none⟩) 1 1) [(Ps.nd 19 ⟨#[102]⟩ ⟨#[]⟩ 0 [(Ps.nd 14 ⟨#[121]⟩ ⟨#[]⟩ 0 []), (Ps.nd 7 ⟨#[]⟩ ⟨#[]⟩ 1 [])])] by
    rw [← hw5]
    exact lit_kids [((Ps.nd 19 ⟨#[102]⟩ ⟨#[]⟩ 0 [(Ps.nd 14 ⟨#[121]⟩ ⟨#[]⟩ 0 []), (Ps.nd 7 ⟨#[]⟩ ⟨#[]⟩ 1 [])]), (.slice (some ⟨w2.heap.size, 0, none⟩) 2 2))] rfl rfl rfl (by simp) (fun q hq => by
      simp only [List.mem_cons, List.not_mem_nil, or_false] at hq
      subst hq; exact Ha3.out))
  replace HTB := Lib.hid (HTB.out.kept k5)
  replace Ha1 := Lib.hid (Ha1.out.kept k5)
  replace Ha2 := Lib.hid (Ha2.out.kept k5)
  replace Hb1 := Lib.hid (Hb1.out.kept k5)
  replace Ha3 := Lib.hid (Ha3.out.kept k5)
  replace HKK := Lib.hid (HKK.out.trans k5)
  have HWw5 := Lib.hid hw5
  clear hw5 k5
  go_wp2_with (rw [HWw5.out])
  refine (pnode_c _ _ _ _ _ _).mono ?_
  rintro e w6 ⟨rfl, k6⟩
  replace HTB := Lib.hid (HTB.out.kept k6)
  replace Ha1 := Lib.hid (Ha1.out.kept k6)
  replace Ha2 := Lib.hid (Ha2.out.kept k6)
  replace Hb1 := Lib.hid (Hb1.out.kept k6)
  replace Ha3 := Lib.hid (Ha3.out.kept k6)
  replace Hb2 := Lib.hid (Hb2.out.kept k6)
  replace HKK := Lib.hid (HKK.out.trans k6)
  have Ha4 := Lib.hid (show Mk w6 (Ps.nd 17 ⟨#[103]⟩ ⟨#[]⟩ 0 [(Ps.nd 19 ⟨#[102]⟩ ⟨#[]⟩ 0 [(Ps.nd 14 ⟨#[121]⟩ ⟨#[]⟩ 0 []), (Ps.nd 7 ⟨#[]⟩ ⟨#[]⟩ 1 [])])]) (.slice (some ⟨w4.heap.size, 0, none⟩) 1 1) from ⟨nd_ok1 _ _ _ _ _ (by decide) (by decide) (by decide) (by decide), Hb2.out⟩)
  clear k6
  go_wp2_with fail
  obtain ⟨w7, hw7⟩ : ∃ V, w6.alloc (.cells #[.int .i64 17, .string ⟨#[103]⟩, .string ⟨#[]⟩, .string ⟨#[]⟩, .int .i64 0, .slice (some ⟨w4.heap.size, 0, none⟩) 1 1] nT) = V := ⟨_, rfl⟩
  have k7 : Kept w6 w7 := by rw [← hw7]; exact (Kept.refl _).alloc _
  have Hb3 := Lib.hid (show Ks w7 (.slice (some ⟨w6.heap.size, 0, none⟩) 1 1) [(Ps.nd 17 ⟨#[103]⟩ ⟨#[]⟩ 0 [(Ps.nd 19 ⟨#[102]⟩ ⟨#[]⟩ 0 [(Ps.nd 14 ⟨#[121]⟩ ⟨#[]⟩ 0 []), (Ps.nd 7 ⟨#[]⟩ ⟨#[]⟩ 1 [])])])] by
    rw [← hw7]
    exact lit_kids [((Ps.nd 17 ⟨#[103]⟩ ⟨#[]⟩ 0 [(Ps.nd 19 ⟨#[102]⟩ ⟨#[]⟩ 0 [(Ps.nd 14 ⟨#[121]⟩ ⟨#[]⟩ 0 []), (Ps.nd 7 ⟨#[]⟩ ⟨#[]⟩ 1 [])])]), (.slice (some ⟨w4.heap.size, 0, none⟩) 1 1))] rfl rfl rfl (by simp) (fun q hq => by
      simp only [List.mem_cons, List.not_mem_nil, or_false] at hq
      subst hq; exact Ha4.out))
  replace HTB := Lib.hid (HTB.out.kept k7)
  replace Ha1 := Lib.hid (Ha1.out.kept k7)
  replace Ha2 := Lib.hid (Ha2.out.kept k7)
  replace Hb1 := Lib.hid (Hb1.out.kept k7)
  replace Ha3 := Lib.hid (Ha3.out.kept k7)
  replace Hb2 := Lib.hid (Hb2.out.kept k7)
  replace Ha4 := Lib.hid (Ha4.out.kept k7)
  replace HKK := Lib.hid (HKK.out.trans k7)
  have HWw7 := Lib.hid hw7
  clear hw7 k7
  go_wp2_with (rw [HWw7.out])
  refine (pnode_c _ _ _ _ _ _).mono ?_
  rintro e w8 ⟨rfl, k8⟩
  replace HTB := Lib.hid (HTB.out.kept k8)
  replace Ha1 := Lib.hid (Ha1.out.kept k8)
  replace Ha2 := Lib.hid (Ha2.out.kept k8)
  replace Hb1 := Lib.hid (Hb1.out.kept k8)
  replace Ha3 := Lib.hid (Ha3.out.kept k8)
  replace Hb2 := Lib.hid (Hb2.out.kept k8)
  replace Ha4 := Lib.hid (Ha4.out.kept k8)
  replace Hb3 := Lib.hid (Hb3.out.kept k8)
  replace HKK := Lib.hid (HKK.out.trans k8)
  have Ha5 := Lib.hid (show Mk w8 (Ps.nd 16 ⟨#[120]⟩ ⟨#[]⟩ 0 [(Ps.nd 17 ⟨#[103]⟩ ⟨#[]⟩ 0 [(Ps.nd 19 ⟨#[102]⟩ ⟨#[]⟩ 0 [(Ps.nd 14 ⟨#[121]⟩ ⟨#[]⟩ 0 []), (Ps.nd 7 ⟨#[]⟩ ⟨#[]⟩ 1 [])])])]) (.slice (some ⟨w6.heap.size, 0, none⟩) 1 1) from ⟨nd_ok1 _ _ _ _ _ (by decide) (by decide) (by decide) (by decide), Hb3.out⟩)
  clear k8
  go_wp2_with fail
  obtain ⟨w9, hw9⟩ : ∃ V, w8.alloc (.cells #[.int .i64 16, .string ⟨#[120]⟩, .string ⟨#[]⟩, .string ⟨#[]⟩, .int .i64 0, .slice (some ⟨w6.heap.size, 0, none⟩) 1 1] nT) = V := ⟨_, rfl⟩
  have k9 : Kept w8 w9 := by rw [← hw9]; exact (Kept.refl _).alloc _
  have Hb4 := Lib.hid (show Ks w9 (.slice (some ⟨w8.heap.size, 0, none⟩) 1 1) [(Ps.nd 16 ⟨#[120]⟩ ⟨#[]⟩ 0 [(Ps.nd 17 ⟨#[103]⟩ ⟨#[]⟩ 0 [(Ps.nd 19 ⟨#[102]⟩ ⟨#[]⟩ 0 [(Ps.nd 14 ⟨#[121]⟩ ⟨#[]⟩ 0 []), (Ps.nd 7 ⟨#[]⟩ ⟨#[]⟩ 1 [])])])])] by
    rw [← hw9]
    exact lit_kids [((Ps.nd 16 ⟨#[120]⟩ ⟨#[]⟩ 0 [(Ps.nd 17 ⟨#[103]⟩ ⟨#[]⟩ 0 [(Ps.nd 19 ⟨#[102]⟩ ⟨#[]⟩ 0 [(Ps.nd 14 ⟨#[121]⟩ ⟨#[]⟩ 0 []), (Ps.nd 7 ⟨#[]⟩ ⟨#[]⟩ 1 [])])])]), (.slice (some ⟨w6.heap.size, 0, none⟩) 1 1))] rfl rfl rfl (by simp) (fun q hq => by
      simp only [List.mem_cons, List.not_mem_nil, or_false] at hq
      subst hq; exact Ha5.out))
  replace HTB := Lib.hid (HTB.out.kept k9)
  replace Ha1 := Lib.hid (Ha1.out.kept k9)
  replace Ha2 := Lib.hid (Ha2.out.kept k9)
  replace Hb1 := Lib.hid (Hb1.out.kept k9)
  replace Ha3 := Lib.hid (Ha3.out.kept k9)
  replace Hb2 := Lib.hid (Hb2.out.kept k9)
  replace Ha4 := Lib.hid (Ha4.out.kept k9)
  replace Hb3 := Lib.hid (Hb3.out.kept k9)
  replace Ha5 := Lib.hid (Ha5.out.kept k9)
  replace HKK := Lib.hid (HKK.out.trans k9)
  have HWw9 := Lib.hid hw9
  clear hw9 k9
  go_wp2_with (rw [HWw9.out])
  refine (does_c ⟨#[109, 97, 105, 110, 123, 120, 61, 121, 46, 102, 40, 49, 41, 46, 103, 125]⟩ (by decide) [(Ps.nd 16 ⟨#[120]⟩ ⟨#[]⟩ 0 [(Ps.nd 17 ⟨#[103]⟩ ⟨#[]⟩ 0 [(Ps.nd 19 ⟨#[102]⟩ ⟨#[]⟩ 0 [(Ps.nd 14 ⟨#[121]⟩ ⟨#[]⟩ 0 []), (Ps.nd 7 ⟨#[]⟩ ⟨#[]⟩ 1 [])])])])] _ _ HTB.out Hb4.out (show parseP (⟨#[109, 97, 105, 110, 123, 120, 61, 121, 46, 102, 40, 49, 41, 46, 103, 125]⟩ : ByteArray).data.toList = .tree (progL [(Ps.nd 16 ⟨#[120]⟩ ⟨#[]⟩ 0 [(Ps.nd 17 ⟨#[103]⟩ ⟨#[]⟩ 0 [(Ps.nd 19 ⟨#[102]⟩ ⟨#[]⟩ 0 [(Ps.nd 14 ⟨#[121]⟩ ⟨#[]⟩ 0 []), (Ps.nd 7 ⟨#[]⟩ ⟨#[]⟩ 1 [])])])])]) from px4)).mono ?_
  rintro e w10 ⟨rfl, k10⟩
  replace HTB := Lib.hid (HTB.out.kept k10)
  replace Ha1 := Lib.hid (Ha1.out.kept k10)
  replace Ha2 := Lib.hid (Ha2.out.kept k10)
  replace Hb1 := Lib.hid (Hb1.out.kept k10)
  replace Ha3 := Lib.hid (Ha3.out.kept k10)
  replace Hb2 := Lib.hid (Hb2.out.kept k10)
  replace Ha4 := Lib.hid (Ha4.out.kept k10)
  replace Hb3 := Lib.hid (Hb3.out.kept k10)
  replace Ha5 := Lib.hid (Ha5.out.kept k10)
  replace Hb4 := Lib.hid (Hb4.out.kept k10)
  replace HKK := Lib.hid (HKK.out.trans k10)
  clear k10
  go_wp2_with fail
  refine (pnamed_c _ _).mono ?_
  rintro e w11 ⟨rfl, k11⟩
  replace HTB := Lib.hid (HTB.out.kept k11)
  replace HKK := Lib.hid (HKK.out.trans k11)
  have Hc1 := Lib.hid (show Mk w11 (Ps.nd 14 ⟨#[97]⟩ ⟨#[]⟩ 0 []) (.slice none 0 0) from ⟨nd_ok1 _ _ _ _ _ (by decide) (by decide) (by decide) (by decide), Ks.nil _⟩)
  clear k11
  go_wp2_with fail
  refine (pnamed_c _ _).mono ?_
  rintro e w12 ⟨rfl, k12⟩
  replace HTB := Lib.hid (HTB.out.kept k12)
  replace Hc1 := Lib.hid (Hc1.out.kept k12)
  replace HKK := Lib.hid (HKK.out.trans k12)
  have Hc2 := Lib.hid (show Mk w12 (Ps.nd 14 ⟨#[99]⟩ ⟨#[]⟩ 0 []) (.slice none 0 0) from ⟨nd_ok1 _ _ _ _ _ (by decide) (by decide) (by decide) (by decide), Ks.nil _⟩)
  clear k12
  go_wp2_with fail
  obtain ⟨w13, hw13⟩ : ∃ V, w12.alloc (.cells #[.int .i64 14, .string ⟨#[99]⟩, .string ⟨#[]⟩, .string ⟨#[]⟩, .int .i64 0, .slice none 0 0] nT) = V := ⟨_, rfl⟩
  have k13 : Kept w12 w13 := by rw [← hw13]; exact (Kept.refl _).alloc _
  have Hd1 := Lib.hid (show Ks w13 (.slice (some ⟨w12.heap.size, 0, none⟩) 1 1) [(Ps.nd 14 ⟨#[99]⟩ ⟨#[]⟩ 0 [])] by
    rw [← hw13]
    exact lit_kids [((Ps.nd 14 ⟨#[99]⟩ ⟨#[]⟩ 0 []), (.slice none 0 0))] rfl rfl rfl (by simp) (fun q hq => by
      simp only [List.mem_cons, List.not_mem_nil, or_false] at hq
      subst hq; exact Hc2.out))
  replace HTB := Lib.hid (HTB.out.kept k13)
  replace Hc1 := Lib.hid (Hc1.out.kept k13)
  replace Hc2 := Lib.hid (Hc2.out.kept k13)
  replace HKK := Lib.hid (HKK.out.trans k13)
  have HWw13 := Lib.hid hw13
  clear hw13 k13
  go_wp2_with (rw [HWw13.out])
  refine (ptyped_c _ _ _ _ _ _ _).mono ?_
  rintro e w14 ⟨rfl, k14⟩
  replace HTB := Lib.hid (HTB.out.kept k14)
  replace Hc1 := Lib.hid (Hc1.out.kept k14)
  replace Hc2 := Lib.hid (Hc2.out.kept k14)
  replace Hd1 := Lib.hid (Hd1.out.kept k14)
  replace HKK := Lib.hid (HKK.out.trans k14)
  have Hc3 := Lib.hid (show Mk w14 (Ps.nd 28 ⟨#[]⟩ ⟨#[63]⟩ 0 [(Ps.nd 14 ⟨#[99]⟩ ⟨#[]⟩ 0 [])]) (.slice (some ⟨w12.heap.size, 0, none⟩) 1 1) from ⟨nd_ok1 _ _ _ _ _ (by decide) (by decide) (by decide) (by decide), Hd1.out⟩)
  clear k14
  go_wp2_with fail
  obtain ⟨w15, hw15⟩ : ∃ V, w14.alloc (.cells #[.int .i64 14, .string ⟨#[97]⟩, .string ⟨#[]⟩, .string ⟨#[]⟩, .int .i64 0, .slice none 0 0, .int .i64 28, .string ⟨#[]⟩, .string ⟨#[63]⟩, .string ⟨#[]⟩, .int .i64 0, .slice (some ⟨w12.heap.size, 0, none⟩) 1 1] nT) = V := ⟨_, rfl⟩
  have k15 : Kept w14 w15 := by rw [← hw15]; exact (Kept.refl _).alloc _
  have Hd2 := Lib.hid (show Ks w15 (.slice (some ⟨w14.heap.size, 0, none⟩) 2 2) [(Ps.nd 14 ⟨#[97]⟩ ⟨#[]⟩ 0 []), (Ps.nd 28 ⟨#[]⟩ ⟨#[63]⟩ 0 [(Ps.nd 14 ⟨#[99]⟩ ⟨#[]⟩ 0 [])])] by
    rw [← hw15]
    exact lit_kids [((Ps.nd 14 ⟨#[97]⟩ ⟨#[]⟩ 0 []), (.slice none 0 0)), ((Ps.nd 28 ⟨#[]⟩ ⟨#[63]⟩ 0 [(Ps.nd 14 ⟨#[99]⟩ ⟨#[]⟩ 0 [])]), (.slice (some ⟨w12.heap.size, 0, none⟩) 1 1))] rfl rfl rfl (by simp) (fun q hq => by
      simp only [List.mem_cons, List.not_mem_nil, or_false] at hq
      rcases hq with rfl | rfl
      · exact Hc1.out
      · exact Hc3.out))
  replace HTB := Lib.hid (HTB.out.kept k15)
  replace Hc1 := Lib.hid (Hc1.out.kept k15)
  replace Hc2 := Lib.hid (Hc2.out.kept k15)
  replace Hd1 := Lib.hid (Hd1.out.kept k15)
  replace Hc3 := Lib.hid (Hc3.out.kept k15)
  replace HKK := Lib.hid (HKK.out.trans k15)
  have HWw15 := Lib.hid hw15
  clear hw15 k15
  go_wp2_with (rw [HWw15.out])
  refine (pnode_c _ _ _ _ _ _).mono ?_
  rintro e w16 ⟨rfl, k16⟩
  replace HTB := Lib.hid (HTB.out.kept k16)
  replace Hc1 := Lib.hid (Hc1.out.kept k16)
  replace Hc2 := Lib.hid (Hc2.out.kept k16)
  replace Hd1 := Lib.hid (Hd1.out.kept k16)
  replace Hc3 := Lib.hid (Hc3.out.kept k16)
  replace Hd2 := Lib.hid (Hd2.out.kept k16)
  replace HKK := Lib.hid (HKK.out.trans k16)
  have Hc4 := Lib.hid (show Mk w16 (Ps.nd 18 ⟨#[98]⟩ ⟨#[]⟩ 0 [(Ps.nd 14 ⟨#[97]⟩ ⟨#[]⟩ 0 []), (Ps.nd 28 ⟨#[]⟩ ⟨#[63]⟩ 0 [(Ps.nd 14 ⟨#[99]⟩ ⟨#[]⟩ 0 [])])]) (.slice (some ⟨w14.heap.size, 0, none⟩) 2 2) from ⟨nd_ok1 _ _ _ _ _ (by decide) (by decide) (by decide) (by decide), Hd2.out⟩)
  clear k16
  go_wp2_with fail
  obtain ⟨w17, hw17⟩ : ∃ V, w16.alloc (.cells #[.int .i64 18, .string ⟨#[98]⟩, .string ⟨#[]⟩, .string ⟨#[]⟩, .int .i64 0, .slice (some ⟨w14.heap.size, 0, none⟩) 2 2] nT) = V := ⟨_, rfl⟩
  have k17 : Kept w16 w17 := by rw [← hw17]; exact (Kept.refl _).alloc _
  have Hd3 := Lib.hid (show Ks w17 (.slice (some ⟨w16.heap.size, 0, none⟩) 1 1) [(Ps.nd 18 ⟨#[98]⟩ ⟨#[]⟩ 0 [(Ps.nd 14 ⟨#[97]⟩ ⟨#[]⟩ 0 []), (Ps.nd 28 ⟨#[]⟩ ⟨#[63]⟩ 0 [(Ps.nd 14 ⟨#[99]⟩ ⟨#[]⟩ 0 [])])])] by
    rw [← hw17]
    exact lit_kids [((Ps.nd 18 ⟨#[98]⟩ ⟨#[]⟩ 0 [(Ps.nd 14 ⟨#[97]⟩ ⟨#[]⟩ 0 []), (Ps.nd 28 ⟨#[]⟩ ⟨#[63]⟩ 0 [(Ps.nd 14 ⟨#[99]⟩ ⟨#[]⟩ 0 [])])]), (.slice (some ⟨w14.heap.size, 0, none⟩) 2 2))] rfl rfl rfl (by simp) (fun q hq => by
      simp only [List.mem_cons, List.not_mem_nil, or_false] at hq
      subst hq; exact Hc4.out))
  replace HTB := Lib.hid (HTB.out.kept k17)
  replace Hc1 := Lib.hid (Hc1.out.kept k17)
  replace Hc2 := Lib.hid (Hc2.out.kept k17)
  replace Hd1 := Lib.hid (Hd1.out.kept k17)
  replace Hc3 := Lib.hid (Hc3.out.kept k17)
  replace Hd2 := Lib.hid (Hd2.out.kept k17)
  replace Hc4 := Lib.hid (Hc4.out.kept k17)
  replace HKK := Lib.hid (HKK.out.trans k17)
  have HWw17 := Lib.hid hw17
  clear hw17 k17
  go_wp2_with (rw [HWw17.out])
  refine (does_c ⟨#[109, 97, 105, 110, 123, 97, 46, 98, 61, 40, 99, 58, 63, 41, 125]⟩ (by decide) [(Ps.nd 18 ⟨#[98]⟩ ⟨#[]⟩ 0 [(Ps.nd 14 ⟨#[97]⟩ ⟨#[]⟩ 0 []), (Ps.nd 28 ⟨#[]⟩ ⟨#[63]⟩ 0 [(Ps.nd 14 ⟨#[99]⟩ ⟨#[]⟩ 0 [])])])] _ _ HTB.out Hd3.out (show parseP (⟨#[109, 97, 105, 110, 123, 97, 46, 98, 61, 40, 99, 58, 63, 41, 125]⟩ : ByteArray).data.toList = .tree (progL [(Ps.nd 18 ⟨#[98]⟩ ⟨#[]⟩ 0 [(Ps.nd 14 ⟨#[97]⟩ ⟨#[]⟩ 0 []), (Ps.nd 28 ⟨#[]⟩ ⟨#[63]⟩ 0 [(Ps.nd 14 ⟨#[99]⟩ ⟨#[]⟩ 0 [])])])]) from px5)).mono ?_
  rintro e w18 ⟨rfl, k18⟩
  replace HTB := Lib.hid (HTB.out.kept k18)
  replace Hc1 := Lib.hid (Hc1.out.kept k18)
  replace Hc2 := Lib.hid (Hc2.out.kept k18)
  replace Hd1 := Lib.hid (Hd1.out.kept k18)
  replace Hc3 := Lib.hid (Hc3.out.kept k18)
  replace Hd2 := Lib.hid (Hd2.out.kept k18)
  replace Hc4 := Lib.hid (Hc4.out.kept k18)
  replace Hd3 := Lib.hid (Hd3.out.kept k18)
  replace HKK := Lib.hid (HKK.out.trans k18)
  clear k18
  go_wp2_with fail
  refine (pnumber_c _ _).mono ?_
  rintro e w19 ⟨rfl, k19⟩
  replace HTB := Lib.hid (HTB.out.kept k19)
  replace HKK := Lib.hid (HKK.out.trans k19)
  have He1 := Lib.hid (show Mk w19 (Ps.nd 7 ⟨#[]⟩ ⟨#[]⟩ 1 []) (.slice none 0 0) from ⟨nd_ok1 _ _ _ _ _ (by decide) (by decide) (by decide) (by decide), Ks.nil _⟩)
  clear k19
  go_wp2_with fail
  obtain ⟨w20, hw20⟩ : ∃ V, w19.alloc (.cells #[.int .i64 7, .string ⟨#[]⟩, .string ⟨#[]⟩, .string ⟨#[]⟩, .int .i64 1, .slice none 0 0] nT) = V := ⟨_, rfl⟩
  have k20 : Kept w19 w20 := by rw [← hw20]; exact (Kept.refl _).alloc _
  have Hf1 := Lib.hid (show Ks w20 (.slice (some ⟨w19.heap.size, 0, none⟩) 1 1) [(Ps.nd 7 ⟨#[]⟩ ⟨#[]⟩ 1 [])] by
    rw [← hw20]
    exact lit_kids [((Ps.nd 7 ⟨#[]⟩ ⟨#[]⟩ 1 []), (.slice none 0 0))] rfl rfl rfl (by simp) (fun q hq => by
      simp only [List.mem_cons, List.not_mem_nil, or_false] at hq
      subst hq; exact He1.out))
  replace HTB := Lib.hid (HTB.out.kept k20)
  replace He1 := Lib.hid (He1.out.kept k20)
  replace HKK := Lib.hid (HKK.out.trans k20)
  have HWw20 := Lib.hid hw20
  clear hw20 k20
  go_wp2_with (rw [HWw20.out])
  refine (pnode_c _ _ _ _ _ _).mono ?_
  rintro e w21 ⟨rfl, k21⟩
  replace HTB := Lib.hid (HTB.out.kept k21)
  replace He1 := Lib.hid (He1.out.kept k21)
  replace Hf1 := Lib.hid (Hf1.out.kept k21)
  replace HKK := Lib.hid (HKK.out.trans k21)
  have He2 := Lib.hid (show Mk w21 (Ps.nd 24 ⟨#[45]⟩ ⟨#[]⟩ 0 [(Ps.nd 7 ⟨#[]⟩ ⟨#[]⟩ 1 [])]) (.slice (some ⟨w19.heap.size, 0, none⟩) 1 1) from ⟨nd_ok1 _ _ _ _ _ (by decide) (by decide) (by decide) (by decide), Hf1.out⟩)
  clear k21
  go_wp2_with fail
  refine (pnode_c _ _ _ _ _ _).mono ?_
  rintro e w22 ⟨rfl, k22⟩
  replace HTB := Lib.hid (HTB.out.kept k22)
  replace He1 := Lib.hid (He1.out.kept k22)
  replace Hf1 := Lib.hid (Hf1.out.kept k22)
  replace He2 := Lib.hid (He2.out.kept k22)
  replace HKK := Lib.hid (HKK.out.trans k22)
  have He3 := Lib.hid (show Mk w22 (Ps.nd 11 ⟨#[]⟩ ⟨#[]⟩ 0 []) (.slice none 0 0) from ⟨nd_ok1 _ _ _ _ _ (by decide) (by decide) (by decide) (by decide), Ks.nil _⟩)
  clear k22
  go_wp2_with fail
  obtain ⟨w23, hw23⟩ : ∃ V, w22.alloc (.cells #[.int .i64 24, .string ⟨#[45]⟩, .string ⟨#[]⟩, .string ⟨#[]⟩, .int .i64 0, .slice (some ⟨w19.heap.size, 0, none⟩) 1 1, .int .i64 11, .string ⟨#[]⟩, .string ⟨#[]⟩, .string ⟨#[]⟩, .int .i64 0, .slice none 0 0] nT) = V := ⟨_, rfl⟩
  have k23 : Kept w22 w23 := by rw [← hw23]; exact (Kept.refl _).alloc _
  have Hf2 := Lib.hid (show Ks w23 (.slice (some ⟨w22.heap.size, 0, none⟩) 2 2) [(Ps.nd 24 ⟨#[45]⟩ ⟨#[]⟩ 0 [(Ps.nd 7 ⟨#[]⟩ ⟨#[]⟩ 1 [])]), (Ps.nd 11 ⟨#[]⟩ ⟨#[]⟩ 0 [])] by
    rw [← hw23]
    exact lit_kids [((Ps.nd 24 ⟨#[45]⟩ ⟨#[]⟩ 0 [(Ps.nd 7 ⟨#[]⟩ ⟨#[]⟩ 1 [])]), (.slice (some ⟨w19.heap.size, 0, none⟩) 1 1)), ((Ps.nd 11 ⟨#[]⟩ ⟨#[]⟩ 0 []), (.slice none 0 0))] rfl rfl rfl (by simp) (fun q hq => by
      simp only [List.mem_cons, List.not_mem_nil, or_false] at hq
      rcases hq with rfl | rfl
      · exact He2.out
      · exact He3.out))
  replace HTB := Lib.hid (HTB.out.kept k23)
  replace He1 := Lib.hid (He1.out.kept k23)
  replace Hf1 := Lib.hid (Hf1.out.kept k23)
  replace He2 := Lib.hid (He2.out.kept k23)
  replace He3 := Lib.hid (He3.out.kept k23)
  replace HKK := Lib.hid (HKK.out.trans k23)
  have HWw23 := Lib.hid hw23
  clear hw23 k23
  go_wp2_with (rw [HWw23.out])
  refine (pnode_c _ _ _ _ _ _).mono ?_
  rintro e w24 ⟨rfl, k24⟩
  replace HTB := Lib.hid (HTB.out.kept k24)
  replace He1 := Lib.hid (He1.out.kept k24)
  replace Hf1 := Lib.hid (Hf1.out.kept k24)
  replace He2 := Lib.hid (He2.out.kept k24)
  replace He3 := Lib.hid (He3.out.kept k24)
  replace Hf2 := Lib.hid (Hf2.out.kept k24)
  replace HKK := Lib.hid (HKK.out.trans k24)
  have He4 := Lib.hid (show Mk w24 (Ps.nd 25 ⟨#[45]⟩ ⟨#[]⟩ 0 [(Ps.nd 24 ⟨#[45]⟩ ⟨#[]⟩ 0 [(Ps.nd 7 ⟨#[]⟩ ⟨#[]⟩ 1 [])]), (Ps.nd 11 ⟨#[]⟩ ⟨#[]⟩ 0 [])]) (.slice (some ⟨w22.heap.size, 0, none⟩) 2 2) from ⟨nd_ok1 _ _ _ _ _ (by decide) (by decide) (by decide) (by decide), Hf2.out⟩)
  clear k24
  go_wp2_with fail
  obtain ⟨w25, hw25⟩ : ∃ V, w24.alloc (.cells #[.int .i64 25, .string ⟨#[45]⟩, .string ⟨#[]⟩, .string ⟨#[]⟩, .int .i64 0, .slice (some ⟨w22.heap.size, 0, none⟩) 2 2] nT) = V := ⟨_, rfl⟩
  have k25 : Kept w24 w25 := by rw [← hw25]; exact (Kept.refl _).alloc _
  have Hf3 := Lib.hid (show Ks w25 (.slice (some ⟨w24.heap.size, 0, none⟩) 1 1) [(Ps.nd 25 ⟨#[45]⟩ ⟨#[]⟩ 0 [(Ps.nd 24 ⟨#[45]⟩ ⟨#[]⟩ 0 [(Ps.nd 7 ⟨#[]⟩ ⟨#[]⟩ 1 [])]), (Ps.nd 11 ⟨#[]⟩ ⟨#[]⟩ 0 [])])] by
    rw [← hw25]
    exact lit_kids [((Ps.nd 25 ⟨#[45]⟩ ⟨#[]⟩ 0 [(Ps.nd 24 ⟨#[45]⟩ ⟨#[]⟩ 0 [(Ps.nd 7 ⟨#[]⟩ ⟨#[]⟩ 1 [])]), (Ps.nd 11 ⟨#[]⟩ ⟨#[]⟩ 0 [])]), (.slice (some ⟨w22.heap.size, 0, none⟩) 2 2))] rfl rfl rfl (by simp) (fun q hq => by
      simp only [List.mem_cons, List.not_mem_nil, or_false] at hq
      subst hq; exact He4.out))
  replace HTB := Lib.hid (HTB.out.kept k25)
  replace He1 := Lib.hid (He1.out.kept k25)
  replace Hf1 := Lib.hid (Hf1.out.kept k25)
  replace He2 := Lib.hid (He2.out.kept k25)
  replace He3 := Lib.hid (He3.out.kept k25)
  replace Hf2 := Lib.hid (Hf2.out.kept k25)
  replace He4 := Lib.hid (He4.out.kept k25)
  replace HKK := Lib.hid (HKK.out.trans k25)
  have HWw25 := Lib.hid hw25
  clear hw25 k25
  go_wp2_with (rw [HWw25.out])
  refine (does_c ⟨#[109, 97, 105, 110, 123, 45, 49, 45, 40, 41, 125]⟩ (by decide) [(Ps.nd 25 ⟨#[45]⟩ ⟨#[]⟩ 0 [(Ps.nd 24 ⟨#[45]⟩ ⟨#[]⟩ 0 [(Ps.nd 7 ⟨#[]⟩ ⟨#[]⟩ 1 [])]), (Ps.nd 11 ⟨#[]⟩ ⟨#[]⟩ 0 [])])] _ _ HTB.out Hf3.out (show parseP (⟨#[109, 97, 105, 110, 123, 45, 49, 45, 40, 41, 125]⟩ : ByteArray).data.toList = .tree (progL [(Ps.nd 25 ⟨#[45]⟩ ⟨#[]⟩ 0 [(Ps.nd 24 ⟨#[45]⟩ ⟨#[]⟩ 0 [(Ps.nd 7 ⟨#[]⟩ ⟨#[]⟩ 1 [])]), (Ps.nd 11 ⟨#[]⟩ ⟨#[]⟩ 0 [])])]) from px6)).mono ?_
  rintro e w26 ⟨rfl, k26⟩
  replace HTB := Lib.hid (HTB.out.kept k26)
  replace He1 := Lib.hid (He1.out.kept k26)
  replace Hf1 := Lib.hid (Hf1.out.kept k26)
  replace He2 := Lib.hid (He2.out.kept k26)
  replace He3 := Lib.hid (He3.out.kept k26)
  replace Hf2 := Lib.hid (Hf2.out.kept k26)
  replace He4 := Lib.hid (He4.out.kept k26)
  replace Hf3 := Lib.hid (Hf3.out.kept k26)
  replace HKK := Lib.hid (HKK.out.trans k26)
  clear k26
  go_wp2_with fail
  refine (ptyped_c _ _ _ _ _ _ _).mono ?_
  rintro e w27 ⟨rfl, k27⟩
  replace HTB := Lib.hid (HTB.out.kept k27)
  replace HKK := Lib.hid (HKK.out.trans k27)
  have Hp1 := Lib.hid (show Mk w27 (Ps.nd 5 ⟨#[97]⟩ ⟨#[105, 110, 116]⟩ 0 []) (.slice none 0 0) from ⟨nd_ok1 _ _ _ _ _ (by decide) (by decide) (by decide) (by decide), Ks.nil _⟩)
  clear k27
  go_wp2_with fail
  refine (pnode_c _ _ _ _ _ _).mono ?_
  rintro e w28 ⟨rfl, k28⟩
  replace HTB := Lib.hid (HTB.out.kept k28)
  replace Hp1 := Lib.hid (Hp1.out.kept k28)
  replace HKK := Lib.hid (HKK.out.trans k28)
  have Hp2 := Lib.hid (show Mk w28 (Ps.nd 13 ⟨#[]⟩ ⟨#[]⟩ 0 []) (.slice none 0 0) from ⟨nd_ok1 _ _ _ _ _ (by decide) (by decide) (by decide) (by decide), Ks.nil _⟩)
  clear k28
  go_wp2_with fail
  obtain ⟨w29, hw29⟩ : ∃ V, w28.alloc (.cells #[.int .i64 13, .string ⟨#[]⟩, .string ⟨#[]⟩, .string ⟨#[]⟩, .int .i64 0, .slice none 0 0] nT) = V := ⟨_, rfl⟩
  have k29 : Kept w28 w29 := by rw [← hw29]; exact (Kept.refl _).alloc _
  have Hq1 := Lib.hid (show Ks w29 (.slice (some ⟨w28.heap.size, 0, none⟩) 1 1) [(Ps.nd 13 ⟨#[]⟩ ⟨#[]⟩ 0 [])] by
    rw [← hw29]
    exact lit_kids [((Ps.nd 13 ⟨#[]⟩ ⟨#[]⟩ 0 []), (.slice none 0 0))] rfl rfl rfl (by simp) (fun q hq => by
      simp only [List.mem_cons, List.not_mem_nil, or_false] at hq
      subst hq; exact Hp2.out))
  replace HTB := Lib.hid (HTB.out.kept k29)
  replace Hp1 := Lib.hid (Hp1.out.kept k29)
  replace Hp2 := Lib.hid (Hp2.out.kept k29)
  replace HKK := Lib.hid (HKK.out.trans k29)
  have HWw29 := Lib.hid hw29
  clear hw29 k29
  go_wp2_with (rw [HWw29.out])
  refine (pnode_c _ _ _ _ _ _).mono ?_
  rintro e w30 ⟨rfl, k30⟩
  replace HTB := Lib.hid (HTB.out.kept k30)
  replace Hp1 := Lib.hid (Hp1.out.kept k30)
  replace Hp2 := Lib.hid (Hp2.out.kept k30)
  replace Hq1 := Lib.hid (Hq1.out.kept k30)
  replace HKK := Lib.hid (HKK.out.trans k30)
  have Hp3 := Lib.hid (show Mk w30 (Ps.nd 6 ⟨#[]⟩ ⟨#[]⟩ 0 [(Ps.nd 13 ⟨#[]⟩ ⟨#[]⟩ 0 [])]) (.slice (some ⟨w28.heap.size, 0, none⟩) 1 1) from ⟨nd_ok1 _ _ _ _ _ (by decide) (by decide) (by decide) (by decide), Hq1.out⟩)
  clear k30
  go_wp2_with fail
  obtain ⟨w31, hw31⟩ : ∃ V, w30.alloc (.cells #[.int .i64 5, .string ⟨#[97]⟩, .string ⟨#[105, 110, 116]⟩, .string ⟨#[]⟩, .int .i64 0, .slice none 0 0, .int .i64 6, .string ⟨#[]⟩, .string ⟨#[]⟩, .string ⟨#[]⟩, .int .i64 0, .slice (some ⟨w28.heap.size, 0, none⟩) 1 1] nT) = V := ⟨_, rfl⟩
  have k31 : Kept w30 w31 := by rw [← hw31]; exact (Kept.refl _).alloc _
  have Hq2 := Lib.hid (show Ks w31 (.slice (some ⟨w30.heap.size, 0, none⟩) 2 2) [(Ps.nd 5 ⟨#[97]⟩ ⟨#[105, 110, 116]⟩ 0 []), (Ps.nd 6 ⟨#[]⟩ ⟨#[]⟩ 0 [(Ps.nd 13 ⟨#[]⟩ ⟨#[]⟩ 0 [])])] by
    rw [← hw31]
    exact lit_kids [((Ps.nd 5 ⟨#[97]⟩ ⟨#[105, 110, 116]⟩ 0 []), (.slice none 0 0)), ((Ps.nd 6 ⟨#[]⟩ ⟨#[]⟩ 0 [(Ps.nd 13 ⟨#[]⟩ ⟨#[]⟩ 0 [])]), (.slice (some ⟨w28.heap.size, 0, none⟩) 1 1))] rfl rfl rfl (by simp) (fun q hq => by
      simp only [List.mem_cons, List.not_mem_nil, or_false] at hq
      rcases hq with rfl | rfl
      · exact Hp1.out
      · exact Hp3.out))
  replace HTB := Lib.hid (HTB.out.kept k31)
  replace Hp1 := Lib.hid (Hp1.out.kept k31)
  replace Hp2 := Lib.hid (Hp2.out.kept k31)
  replace Hq1 := Lib.hid (Hq1.out.kept k31)
  replace Hp3 := Lib.hid (Hp3.out.kept k31)
  replace HKK := Lib.hid (HKK.out.trans k31)
  have HWw31 := Lib.hid hw31
  clear hw31 k31
  go_wp2_with (rw [HWw31.out])
  refine (ptyped_c _ _ _ _ _ _ _).mono ?_
  rintro e w32 ⟨rfl, k32⟩
  replace HTB := Lib.hid (HTB.out.kept k32)
  replace Hp1 := Lib.hid (Hp1.out.kept k32)
  replace Hp2 := Lib.hid (Hp2.out.kept k32)
  replace Hq1 := Lib.hid (Hq1.out.kept k32)
  replace Hp3 := Lib.hid (Hp3.out.kept k32)
  replace Hq2 := Lib.hid (Hq2.out.kept k32)
  replace HKK := Lib.hid (HKK.out.trans k32)
  have Hp4 := Lib.hid (show Mk w32 (Ps.nd 4 ⟨#[102]⟩ ⟨#[65]⟩ 0 [(Ps.nd 5 ⟨#[97]⟩ ⟨#[105, 110, 116]⟩ 0 []), (Ps.nd 6 ⟨#[]⟩ ⟨#[]⟩ 0 [(Ps.nd 13 ⟨#[]⟩ ⟨#[]⟩ 0 [])])]) (.slice (some ⟨w30.heap.size, 0, none⟩) 2 2) from ⟨nd_ok1 _ _ _ _ _ (by decide) (by decide) (by decide) (by decide), Hq2.out⟩)
  clear k32
  obtain ⟨w33, hw33⟩ : ∃ V, w32.alloc (.cells #[.int .i64 4, .string ⟨#[102]⟩, .string ⟨#[65]⟩, .string ⟨#[]⟩, .int .i64 0, .slice (some ⟨w30.heap.size, 0, none⟩) 2 2] nT) = V := ⟨_, rfl⟩
  have k33 : Kept w32 w33 := by rw [← hw33]; exact (Kept.refl _).alloc _
  have HBX := Lib.hid (show Blk w33 w32.heap.size nT #[.int .i64 4, .string ⟨#[102]⟩, .string ⟨#[65]⟩, .string ⟨#[]⟩, .int .i64 0, .slice (some ⟨w30.heap.size, 0, none⟩) 2 2] by rw [← hw33]; exact Blk.new _ _ _)
  replace HTB := Lib.hid (HTB.out.kept k33)
  replace Hp1 := Lib.hid (Hp1.out.kept k33)
  replace Hp2 := Lib.hid (Hp2.out.kept k33)
  replace Hq1 := Lib.hid (Hq1.out.kept k33)
  replace Hp3 := Lib.hid (Hp3.out.kept k33)
  replace Hq2 := Lib.hid (Hq2.out.kept k33)
  replace Hp4 := Lib.hid (Hp4.out.kept k33)
  replace HKK := Lib.hid (HKK.out.trans k33)
  have HWw33 := Lib.hid hw33
  clear hw33 k33
  go_wp2_with (rw [HWw33.out])
  obtain ⟨D0, hD0⟩ : ∃ D, w33.drew = D := ⟨_, rfl⟩
  have kd : Kept w33 D0 := by rw [← hD0]; exact (Kept.refl _).drew
  replace HTB := Lib.hid (HTB.out.kept kd)
  replace Hp1 := Lib.hid (Hp1.out.kept kd)
  replace Hp2 := Lib.hid (Hp2.out.kept kd)
  replace Hq1 := Lib.hid (Hq1.out.kept kd)
  replace Hp3 := Lib.hid (Hp3.out.kept kd)
  replace Hq2 := Lib.hid (Hq2.out.kept kd)
  replace Hp4 := Lib.hid (Hp4.out.kept kd)
  replace HBX := Lib.hid (HBX.out.kept kd)
  replace HKK := Lib.hid (HKK.out.trans kd)
  have HD0 := Lib.hid hD0
  clear kd hD0
  have hs0 := (nd_six HBX.out).1
  rw [← HD0.out] at hs0
  refine wp_region_held_drew (S := (fun W => W.cell? ⟨w32.heap.size, 0, none⟩ = some (.int .i64 4) ∧ W.cell? ⟨w32.heap.size, 1, none⟩ = some (.string ⟨#[102]⟩) ∧ W.cell? ⟨w32.heap.size, 2, none⟩ = some (.string ⟨#[65]⟩) ∧ W.cell? ⟨w32.heap.size, 3, none⟩ = some (.string ⟨#[]⟩) ∧ W.cell? ⟨w32.heap.size, 4, none⟩ = some (.int .i64 0) ∧ W.cell? ⟨w32.heap.size, 5, none⟩ = some (.slice (some ⟨w30.heap.size, 0, none⟩) 2 2))) (by kernel_rfl) hs0 (fun hHeld0 => ?_)
  rw [HD0.out] at hHeld0 ⊢
  clear hs0
  refine wpAnyH_take (i := 1) (v := ?_) rfl (by kernel_rfl) (by kernel_rfl) (by kernel_rfl) (fun _ _ _ h => h) (Or.inl ⟨by kernel_rfl, ?_⟩) (by assumption) ?_
  rotate_left
  · intro w hSw; (try dsimp only at hSw); go_simp; (try with_reducible rfl)
  (try simp only [Act.put, List.getElem_toArray, List.getElem_cons_zero, List.getElem_cons_succ, List.setIfInBounds_toArray, List.set_cons_zero, List.set_cons_succ])
  refine wpAnyH_ready (rs := [0]) (by kernel_rfl) (by simp) ?_
  refine AllReadyH.cons rfl (fun K hK => ?_) AllReadyH.nil
  go_simp
  refine (ptyped_c _ _ _ _ _ _ _).mono ?_
  rintro e w34 ⟨rfl, k34⟩
  replace HTB := Lib.hid (HTB.out.kept k34)
  replace Hp1 := Lib.hid (Hp1.out.kept k34)
  replace Hp2 := Lib.hid (Hp2.out.kept k34)
  replace Hq1 := Lib.hid (Hq1.out.kept k34)
  replace Hp3 := Lib.hid (Hp3.out.kept k34)
  replace Hq2 := Lib.hid (Hq2.out.kept k34)
  replace Hp4 := Lib.hid (Hp4.out.kept k34)
  replace HBX := Lib.hid (HBX.out.kept k34)
  replace HKK := Lib.hid (HKK.out.trans k34)
  have Hp5 := Lib.hid (show Mk w34 (Ps.nd 3 ⟨#[120]⟩ ⟨#[63]⟩ 0 []) (.slice none 0 0) from ⟨nd_ok1 _ _ _ _ _ (by decide) (by decide) (by decide) (by decide), Ks.nil _⟩)
  refine hK.out _ _ ((nd_six HBX.out).1) (fun hHeld34 => ?_)
  clear hK K
  (try simp only [Act.put, List.getElem_toArray, List.getElem_cons_zero, List.getElem_cons_succ, List.setIfInBounds_toArray, List.set_cons_zero, List.set_cons_succ])
  clear k34 hHeld0
  refine wpAnyH_ready (rs := [2]) (by kernel_rfl) (by simp) ?_
  refine AllReadyH.cons rfl (fun K hK => ?_) AllReadyH.nil
  obtain ⟨w35, hw35⟩ : ∃ V, w34.alloc (.cells #[.int .i64 3, .string ⟨#[120]⟩, .string ⟨#[63]⟩, .string ⟨#[]⟩, .int .i64 0, .slice none 0 0, .int .i64 4, .string ⟨#[102]⟩, .string ⟨#[65]⟩, .string ⟨#[]⟩, .int .i64 0, .slice (some ⟨w30.heap.size, 0, none⟩) 2 2] nT) = V := ⟨_, rfl⟩
  have k35 : Kept w34 w35 := by rw [← hw35]; exact (Kept.refl _).alloc _
  have Hq3 := Lib.hid (show Ks w35 (.slice (some ⟨w34.heap.size, 0, none⟩) 2 2) [(Ps.nd 3 ⟨#[120]⟩ ⟨#[63]⟩ 0 []), (Ps.nd 4 ⟨#[102]⟩ ⟨#[65]⟩ 0 [(Ps.nd 5 ⟨#[97]⟩ ⟨#[105, 110, 116]⟩ 0 []), (Ps.nd 6 ⟨#[]⟩ ⟨#[]⟩ 0 [(Ps.nd 13 ⟨#[]⟩ ⟨#[]⟩ 0 [])])])] by
    rw [← hw35]
    exact lit_kids [((Ps.nd 3 ⟨#[120]⟩ ⟨#[63]⟩ 0 []), (.slice none 0 0)), ((Ps.nd 4 ⟨#[102]⟩ ⟨#[65]⟩ 0 [(Ps.nd 5 ⟨#[97]⟩ ⟨#[105, 110, 116]⟩ 0 []), (Ps.nd 6 ⟨#[]⟩ ⟨#[]⟩ 0 [(Ps.nd 13 ⟨#[]⟩ ⟨#[]⟩ 0 [])])]), (.slice (some ⟨w30.heap.size, 0, none⟩) 2 2))] rfl rfl rfl (by simp) (fun q hq => by
      simp only [List.mem_cons, List.not_mem_nil, or_false] at hq
      rcases hq with rfl | rfl
      · exact Hp5.out
      · exact Hp4.out))
  replace HTB := Lib.hid (HTB.out.kept k35)
  replace Hp1 := Lib.hid (Hp1.out.kept k35)
  replace Hp2 := Lib.hid (Hp2.out.kept k35)
  replace Hq1 := Lib.hid (Hq1.out.kept k35)
  replace Hp3 := Lib.hid (Hp3.out.kept k35)
  replace Hq2 := Lib.hid (Hq2.out.kept k35)
  replace Hp4 := Lib.hid (Hp4.out.kept k35)
  replace HBX := Lib.hid (HBX.out.kept k35)
  replace Hp5 := Lib.hid (Hp5.out.kept k35)
  replace HKK := Lib.hid (HKK.out.trans k35)
  have HWw35 := Lib.hid hw35
  clear hw35 k35
  go_simp
  rw [HWw35.out]
  refine hK.out _ _ ((nd_six HBX.out).1) (fun hHeld35 => ?_)
  clear hK K
  (try simp only [Act.put, List.getElem_toArray, List.getElem_cons_zero, List.getElem_cons_succ, List.setIfInBounds_toArray, List.set_cons_zero, List.set_cons_succ])
  clear hHeld34
  refine wpAnyH_ready (rs := [3]) (by kernel_rfl) (by simp) ?_
  refine AllReadyH.cons rfl (fun K hK => ?_) AllReadyH.nil
  go_simp
  refine (ptyped_c _ _ _ _ _ _ _).mono ?_
  rintro e w36 ⟨rfl, k36⟩
  replace HTB := Lib.hid (HTB.out.kept k36)
  replace Hp1 := Lib.hid (Hp1.out.kept k36)
  replace Hp2 := Lib.hid (Hp2.out.kept k36)
  replace Hq1 := Lib.hid (Hq1.out.kept k36)
  replace Hp3 := Lib.hid (Hp3.out.kept k36)
  replace Hq2 := Lib.hid (Hq2.out.kept k36)
  replace Hp4 := Lib.hid (Hp4.out.kept k36)
  replace HBX := Lib.hid (HBX.out.kept k36)
  replace Hp5 := Lib.hid (Hp5.out.kept k36)
  replace Hq3 := Lib.hid (Hq3.out.kept k36)
  replace HKK := Lib.hid (HKK.out.trans k36)
  have Hp6 := Lib.hid (show Mk w36 (Ps.nd 2 ⟨#[65]⟩ ⟨#[66]⟩ 0 [(Ps.nd 3 ⟨#[120]⟩ ⟨#[63]⟩ 0 []), (Ps.nd 4 ⟨#[102]⟩ ⟨#[65]⟩ 0 [(Ps.nd 5 ⟨#[97]⟩ ⟨#[105, 110, 116]⟩ 0 []), (Ps.nd 6 ⟨#[]⟩ ⟨#[]⟩ 0 [(Ps.nd 13 ⟨#[]⟩ ⟨#[]⟩ 0 [])])])]) (.slice (some ⟨w34.heap.size, 0, none⟩) 2 2) from ⟨nd_ok1 _ _ _ _ _ (by decide) (by decide) (by decide) (by decide), Hq3.out⟩)
  refine hK.out _ _ ((nd_six HBX.out).1) (fun hHeld36 => ?_)
  clear hK K
  (try simp only [Act.put, List.getElem_toArray, List.getElem_cons_zero, List.getElem_cons_succ, List.setIfInBounds_toArray, List.set_cons_zero, List.set_cons_succ])
  clear k36 hHeld35
  refine wpAnyH_ready (rs := [4]) (by kernel_rfl) (by simp) ?_
  refine AllReadyH.cons rfl (fun K hK => ?_) AllReadyH.nil
  go_simp
  refine (pnode_c _ _ _ _ _ _).mono ?_
  rintro e w37 ⟨rfl, k37⟩
  replace HTB := Lib.hid (HTB.out.kept k37)
  replace Hp1 := Lib.hid (Hp1.out.kept k37)
  replace Hp2 := Lib.hid (Hp2.out.kept k37)
  replace Hq1 := Lib.hid (Hq1.out.kept k37)
  replace Hp3 := Lib.hid (Hp3.out.kept k37)
  replace Hq2 := Lib.hid (Hq2.out.kept k37)
  replace Hp4 := Lib.hid (Hp4.out.kept k37)
  replace HBX := Lib.hid (HBX.out.kept k37)
  replace Hp5 := Lib.hid (Hp5.out.kept k37)
  replace Hq3 := Lib.hid (Hq3.out.kept k37)
  replace Hp6 := Lib.hid (Hp6.out.kept k37)
  replace HKK := Lib.hid (HKK.out.trans k37)
  have Hp7 := Lib.hid (show Mk w37 (Ps.nd 6 ⟨#[]⟩ ⟨#[]⟩ 0 []) (.slice none 0 0) from ⟨nd_ok1 _ _ _ _ _ (by decide) (by decide) (by decide) (by decide), Ks.nil _⟩)
  refine hK.out _ _ ((nd_six HBX.out).1) (fun hHeld37 => ?_)
  clear hK K
  (try simp only [Act.put, List.getElem_toArray, List.getElem_cons_zero, List.getElem_cons_succ, List.setIfInBounds_toArray, List.set_cons_zero, List.set_cons_succ])
  clear k37 hHeld36
  refine wpAnyH_ready (rs := [5]) (by kernel_rfl) (by simp) ?_
  refine AllReadyH.cons rfl (fun K hK => ?_) AllReadyH.nil
  obtain ⟨w38, hw38⟩ : ∃ V, w37.alloc (.cells #[.int .i64 2, .string ⟨#[65]⟩, .string ⟨#[66]⟩, .string ⟨#[]⟩, .int .i64 0, .slice (some ⟨w34.heap.size, 0, none⟩) 2 2, .int .i64 6, .string ⟨#[]⟩, .string ⟨#[]⟩, .string ⟨#[]⟩, .int .i64 0, .slice none 0 0] nT) = V := ⟨_, rfl⟩
  have k38 : Kept w37 w38 := by rw [← hw38]; exact (Kept.refl _).alloc _
  have Hq4 := Lib.hid (show Ks w38 (.slice (some ⟨w37.heap.size, 0, none⟩) 2 2) [(Ps.nd 2 ⟨#[65]⟩ ⟨#[66]⟩ 0 [(Ps.nd 3 ⟨#[120]⟩ ⟨#[63]⟩ 0 []), (Ps.nd 4 ⟨#[102]⟩ ⟨#[65]⟩ 0 [(Ps.nd 5 ⟨#[97]⟩ ⟨#[105, 110, 116]⟩ 0 []), (Ps.nd 6 ⟨#[]⟩ ⟨#[]⟩ 0 [(Ps.nd 13 ⟨#[]⟩ ⟨#[]⟩ 0 [])])])]), (Ps.nd 6 ⟨#[]⟩ ⟨#[]⟩ 0 [])] by
    rw [← hw38]
    exact lit_kids [((Ps.nd 2 ⟨#[65]⟩ ⟨#[66]⟩ 0 [(Ps.nd 3 ⟨#[120]⟩ ⟨#[63]⟩ 0 []), (Ps.nd 4 ⟨#[102]⟩ ⟨#[65]⟩ 0 [(Ps.nd 5 ⟨#[97]⟩ ⟨#[105, 110, 116]⟩ 0 []), (Ps.nd 6 ⟨#[]⟩ ⟨#[]⟩ 0 [(Ps.nd 13 ⟨#[]⟩ ⟨#[]⟩ 0 [])])])]), (.slice (some ⟨w34.heap.size, 0, none⟩) 2 2)), ((Ps.nd 6 ⟨#[]⟩ ⟨#[]⟩ 0 []), (.slice none 0 0))] rfl rfl rfl (by simp) (fun q hq => by
      simp only [List.mem_cons, List.not_mem_nil, or_false] at hq
      rcases hq with rfl | rfl
      · exact Hp6.out
      · exact Hp7.out))
  replace HTB := Lib.hid (HTB.out.kept k38)
  replace Hp1 := Lib.hid (Hp1.out.kept k38)
  replace Hp2 := Lib.hid (Hp2.out.kept k38)
  replace Hq1 := Lib.hid (Hq1.out.kept k38)
  replace Hp3 := Lib.hid (Hp3.out.kept k38)
  replace Hq2 := Lib.hid (Hq2.out.kept k38)
  replace Hp4 := Lib.hid (Hp4.out.kept k38)
  replace HBX := Lib.hid (HBX.out.kept k38)
  replace Hp5 := Lib.hid (Hp5.out.kept k38)
  replace Hq3 := Lib.hid (Hq3.out.kept k38)
  replace Hp6 := Lib.hid (Hp6.out.kept k38)
  replace Hp7 := Lib.hid (Hp7.out.kept k38)
  replace HKK := Lib.hid (HKK.out.trans k38)
  have HWw38 := Lib.hid hw38
  clear hw38 k38
  go_simp
  rw [HWw38.out]
  refine hK.out _ _ ((nd_six HBX.out).1) (fun hHeld38 => ?_)
  clear hK K
  (try simp only [Act.put, List.getElem_toArray, List.getElem_cons_zero, List.getElem_cons_succ, List.setIfInBounds_toArray, List.set_cons_zero, List.set_cons_succ])
  clear hHeld37
  refine wpAnyH_ready (rs := [6]) (by kernel_rfl) (by simp) ?_
  refine AllReadyH.cons rfl (fun K hK => ?_) AllReadyH.nil
  go_simp
  refine (pnode_c _ _ _ _ _ _).mono ?_
  rintro e w39 ⟨rfl, k39⟩
  replace HTB := Lib.hid (HTB.out.kept k39)
  replace Hp1 := Lib.hid (Hp1.out.kept k39)
  replace Hp2 := Lib.hid (Hp2.out.kept k39)
  replace Hq1 := Lib.hid (Hq1.out.kept k39)
  replace Hp3 := Lib.hid (Hp3.out.kept k39)
  replace Hq2 := Lib.hid (Hq2.out.kept k39)
  replace Hp4 := Lib.hid (Hp4.out.kept k39)
  replace HBX := Lib.hid (HBX.out.kept k39)
  replace Hp5 := Lib.hid (Hp5.out.kept k39)
  replace Hq3 := Lib.hid (Hq3.out.kept k39)
  replace Hp6 := Lib.hid (Hp6.out.kept k39)
  replace Hp7 := Lib.hid (Hp7.out.kept k39)
  replace Hq4 := Lib.hid (Hq4.out.kept k39)
  replace HKK := Lib.hid (HKK.out.trans k39)
  have Hp8 := Lib.hid (show Mk w39 (Ps.nd 1 ⟨#[]⟩ ⟨#[]⟩ 0 [(Ps.nd 2 ⟨#[65]⟩ ⟨#[66]⟩ 0 [(Ps.nd 3 ⟨#[120]⟩ ⟨#[63]⟩ 0 []), (Ps.nd 4 ⟨#[102]⟩ ⟨#[65]⟩ 0 [(Ps.nd 5 ⟨#[97]⟩ ⟨#[105, 110, 116]⟩ 0 []), (Ps.nd 6 ⟨#[]⟩ ⟨#[]⟩ 0 [(Ps.nd 13 ⟨#[]⟩ ⟨#[]⟩ 0 [])])])]), (Ps.nd 6 ⟨#[]⟩ ⟨#[]⟩ 0 [])]) (.slice (some ⟨w37.heap.size, 0, none⟩) 2 2) from ⟨nd_ok1 _ _ _ _ _ (by decide) (by decide) (by decide) (by decide), Hq4.out⟩)
  refine hK.out _ _ ((nd_six HBX.out).1) (fun hHeld39 => ?_)
  clear hK K
  (try simp only [Act.put, List.getElem_toArray, List.getElem_cons_zero, List.getElem_cons_succ, List.setIfInBounds_toArray, List.set_cons_zero, List.set_cons_succ])
  clear k39 hHeld38
  refine wpAnyH_ready (rs := [7]) (by kernel_rfl) (by simp) ?_
  refine AllReadyH.cons rfl (fun K hK => ?_) AllReadyH.nil
  go_simp
  refine (means_c ⟨#[99, 108, 97, 115, 115, 32, 65, 58, 66, 123, 118, 97, 114, 32, 120, 59, 100, 101, 102, 32, 102, 40, 97, 58, 105, 110, 116, 41, 58, 65, 123, 116, 104, 105, 115, 125, 125, 109, 97, 105, 110, 123, 125]⟩ (by decide) (Ps.nd 1 ⟨#[]⟩ ⟨#[]⟩ 0 [(Ps.nd 2 ⟨#[65]⟩ ⟨#[66]⟩ 0 [(Ps.nd 3 ⟨#[120]⟩ ⟨#[63]⟩ 0 []), (Ps.nd 4 ⟨#[102]⟩ ⟨#[65]⟩ 0 [(Ps.nd 5 ⟨#[97]⟩ ⟨#[105, 110, 116]⟩ 0 []), (Ps.nd 6 ⟨#[]⟩ ⟨#[]⟩ 0 [(Ps.nd 13 ⟨#[]⟩ ⟨#[]⟩ 0 [])])])]), (Ps.nd 6 ⟨#[]⟩ ⟨#[]⟩ 0 [])]) _ _ HTB.out Hp8.out (show parseP (⟨#[99, 108, 97, 115, 115, 32, 65, 58, 66, 123, 118, 97, 114, 32, 120, 59, 100, 101, 102, 32, 102, 40, 97, 58, 105, 110, 116, 41, 58, 65, 123, 116, 104, 105, 115, 125, 125, 109, 97, 105, 110, 123, 125]⟩ : ByteArray).data.toList = .tree (Ps.nd 1 ⟨#[]⟩ ⟨#[]⟩ 0 [(Ps.nd 2 ⟨#[65]⟩ ⟨#[66]⟩ 0 [(Ps.nd 3 ⟨#[120]⟩ ⟨#[63]⟩ 0 []), (Ps.nd 4 ⟨#[102]⟩ ⟨#[65]⟩ 0 [(Ps.nd 5 ⟨#[97]⟩ ⟨#[105, 110, 116]⟩ 0 []), (Ps.nd 6 ⟨#[]⟩ ⟨#[]⟩ 0 [(Ps.nd 13 ⟨#[]⟩ ⟨#[]⟩ 0 [])])])]), (Ps.nd 6 ⟨#[]⟩ ⟨#[]⟩ 0 [])]) from px7)).mono ?_
  rintro e w40 ⟨rfl, k40⟩
  replace HTB := Lib.hid (HTB.out.kept k40)
  replace Hp1 := Lib.hid (Hp1.out.kept k40)
  replace Hp2 := Lib.hid (Hp2.out.kept k40)
  replace Hq1 := Lib.hid (Hq1.out.kept k40)
  replace Hp3 := Lib.hid (Hp3.out.kept k40)
  replace Hq2 := Lib.hid (Hq2.out.kept k40)
  replace Hp4 := Lib.hid (Hp4.out.kept k40)
  replace HBX := Lib.hid (HBX.out.kept k40)
  replace Hp5 := Lib.hid (Hp5.out.kept k40)
  replace Hq3 := Lib.hid (Hq3.out.kept k40)
  replace Hp6 := Lib.hid (Hp6.out.kept k40)
  replace Hp7 := Lib.hid (Hp7.out.kept k40)
  replace Hq4 := Lib.hid (Hq4.out.kept k40)
  replace Hp8 := Lib.hid (Hp8.out.kept k40)
  replace HKK := Lib.hid (HKK.out.trans k40)
  refine hK.out _ _ ((nd_six HBX.out).1) (fun hHeld40 => ?_)
  clear hK K
  (try simp only [Act.put, List.getElem_toArray, List.getElem_cons_zero, List.getElem_cons_succ, List.setIfInBounds_toArray, List.set_cons_zero, List.set_cons_succ])
  clear k40 hHeld39
  refine wpAnyH_take (i := 8) (v := ?_) rfl (by kernel_rfl) (by kernel_rfl) (by kernel_rfl) (fun _ _ _ h => h) (Or.inl ⟨by kernel_rfl, ?_⟩) (by assumption) ?_
  rotate_left
  · intro w hSw; (try dsimp only at hSw); go_simp; (try with_reducible rfl)
  (try simp only [Act.put, List.getElem_toArray, List.getElem_cons_zero, List.getElem_cons_succ, List.setIfInBounds_toArray, List.set_cons_zero, List.set_cons_succ])
  refine wpAnyH_done (by kernel_rfl) ?_ _
  go_wp2_with fail
  refine (pawake_c _ HTB.out).mono ?_
  rintro e w41 ⟨rfl, k41⟩
  replace HTB := Lib.hid (HTB.out.kept k41)
  replace HKK := Lib.hid (HKK.out.trans k41)
  clear k41
  go_wp2_with fail
  refine (pfails_c ⟨#[]⟩ (by decide) 0 _ HTB.out (show parseP (⟨#[]⟩ : ByteArray).data.toList = .fault 5 0 from px8)).mono ?_
  rintro e w42 ⟨rfl, k42⟩
  replace HTB := Lib.hid (HTB.out.kept k42)
  replace HKK := Lib.hid (HKK.out.trans k42)
  clear k42
  go_wp2_with fail
  refine (pfails_c ⟨#[109, 97, 105, 110, 123, 108, 101, 116, 32, 120, 125]⟩ (by decide) 10 _ HTB.out (show parseP (⟨#[109, 97, 105, 110, 123, 108, 101, 116, 32, 120, 125]⟩ : ByteArray).data.toList = .fault 5 10 from px9)).mono ?_
  rintro e w43 ⟨rfl, k43⟩
  replace HTB := Lib.hid (HTB.out.kept k43)
  replace HKK := Lib.hid (HKK.out.trans k43)
  clear k43
  go_wp2_with fail
  refine (pfails_c ⟨#[109, 97, 105, 110, 123, 125, 32, 49]⟩ (by decide) 7 _ HTB.out (show parseP (⟨#[109, 97, 105, 110, 123, 125, 32, 49]⟩ : ByteArray).data.toList = .fault 5 7 from px10)).mono ?_
  rintro e w44 ⟨rfl, k44⟩
  replace HTB := Lib.hid (HTB.out.kept k44)
  replace HKK := Lib.hid (HKK.out.trans k44)
  clear k44
  go_wp2_with fail
  refine (pfails_c ⟨#[109, 97, 105, 110, 123, 34]⟩ (by decide) 5 _ HTB.out (show parseP (⟨#[109, 97, 105, 110, 123, 34]⟩ : ByteArray).data.toList = .fault 5 5 from px11)).mono ?_
  rintro e w45 ⟨rfl, k45⟩
  replace HTB := Lib.hid (HTB.out.kept k45)
  replace HKK := Lib.hid (HKK.out.trans k45)
  clear k45
  go_wp2_with fail
  refine (pfails_c ⟨#[109, 97, 105, 110, 123, 49]⟩ (by decide) 6 _ HTB.out (show parseP (⟨#[109, 97, 105, 110, 123, 49]⟩ : ByteArray).data.toList = .fault 5 6 from px12)).mono ?_
  rintro e w46 ⟨rfl, k46⟩
  replace HTB := Lib.hid (HTB.out.kept k46)
  replace HKK := Lib.hid (HKK.out.trans k46)
  clear k46
  go_wp2_with fail
  go_ret
  exact ⟨rfl, HKK.out⟩
end Go.Proofs.YtfkmnpgpfmkjaaaGreatDoor
namespace Go.Proofs.YtfkmnpgpfmkjaaaGreatDoor
open Go.ChangeShapes Go.WideShapes Go.ChangeAt Go.RowKit Go.Lib

theorem cell_two {x : List Value} {w : World} {fuel : Nat} {b : List UInt8} {n : Int} {q : List MemPlace}
    (h : DataW.trod (fun _ => ()) Tryz.prog w 0 (fun _ => true) false fuel 174 x = some (.agg [.lit (.string b), .lit (.int .i64 n)], q)) : x = [.string ⟨b.toArray⟩, .int .i64 n] := by
  obtain ⟨y0, y1, m, he, hl, h0, h1⟩ := trod_struct2 Tryz.underlying174 h
  rw [show Tryz.prog.cellsOf 174 = 2 by kernel_rfl] at hl
  obtain ⟨s, c0, rfl, _⟩ := DataW.trod_string Tryz.underlying9 h0
  obtain ⟨z, c1, rfl, _⟩ := DataW.trod_int Tryz.underlying3 h1
  have e1 : s.data.toList = b ∧ z = n := by
    have := congrArg Prod.fst he
    simp at this
    exact ⟨this.1.symm, this.2.symm⟩
  obtain ⟨rfl, rfl⟩ := e1
  match x, hl with
  | [a0, a1], _ =>
    have k1 : Tryz.prog.cellsOf 9 = 1 := by kernel_rfl
    have k2 : Tryz.prog.cellsOf 3 = 1 := by kernel_rfl
    rw [k1] at c0
    rw [k2] at c1
    simp at c0 c1
    rw [c0, c1]

def basesD : DataW Unit := .agg (Wrd.bs.zipIdx.map fun x => .agg [.lit (.string x.1.data.toList), .lit (.int .i64 (x.2 + 1))])

theorem bases_cells {cs : List Value} {w : World} {fuel : Nat} {q : List MemPlace}
    (h : DataW.trod (fun _ => ()) Tryz.prog w 0 (fun _ => true) false fuel 175 cs = some (basesD, q)) : cs = bcs.toList := by
  have hlen : cs.length = 10 := by
    cases fuel with
    | zero => simp [DataW.trod] at h
    | succ n =>
      unfold DataW.trod at h
      rw [Tryz.underlying175] at h
      simp only at h
      split at h
      · rename_i hl
        rw [hl]
        kernel_rfl
      · cases h
  have kc : Tryz.prog.cellsOf 174 = 2 := by kernel_rfl
  have E : ∀ (i : Nat) (b : List UInt8) (n : Int), i < 5 → (Wrd.bs.zipIdx.map fun x => (DataW.agg [.lit (.string x.1.data.toList), .lit (.int .i64 (x.2 + 1))] : DataW Unit))[i]? = some (.agg [.lit (.string b), .lit (.int .i64 n)]) → (cs.drop (i * 2)).take 2 = [.string ⟨b.toArray⟩, .int .i64 n] := by
    intro i b n hi hd
    obtain ⟨f', d, q', h1, h2⟩ := array_elem Tryz.underlying175 h i hi
    rw [hd] at h1
    obtain rfl := Option.some.inj h1
    rw [kc] at h2
    exact cell_two h2
  have e0 := E 0 _ _ (by omega) rfl
  have e1 := E 1 _ _ (by omega) rfl
  have e2 := E 2 _ _ (by omega) rfl
  have e3 := E 3 _ _ (by omega) rfl
  have e4 := E 4 _ _ (by omega) rfl
  clear E h
  match cs, hlen with
  | [a0, a1, a2, a3, a4, a5, a6, a7, a8, a9], _ =>
    simp at e0 e1 e2 e3 e4
    rw [e0.1, e0.2, e1.1, e1.2, e2.1, e2.2, e3.1, e3.2, e4.1, e4.2]
    rfl

theorem cell_esc {x : List Value} {w : World} {fuel : Nat} {a b : Int} {q : List MemPlace}
    (h : DataW.trod (fun _ => ()) Tryz.prog w 0 (fun _ => true) false fuel 148 x = some (.agg [.lit (.int .u8 a), .lit (.int .u8 b)], q)) : x = [.int .u8 a, .int .u8 b] := by
  obtain ⟨y0, y1, m, he, hl, h0, h1⟩ := trod_struct2 Tryz.underlying148 h
  rw [show Tryz.prog.cellsOf 148 = 2 by kernel_rfl] at hl
  obtain ⟨s, c0, rfl, _⟩ := DataW.trod_int Tryz.underlying120 h0
  obtain ⟨z, c1, rfl, _⟩ := DataW.trod_int Tryz.underlying120 h1
  have e1 : s = a ∧ z = b := by
    have := congrArg Prod.fst he
    simp at this
    exact ⟨this.1.symm, this.2.symm⟩
  obtain ⟨rfl, rfl⟩ := e1
  match x, hl with
  | [a0, a1], _ =>
    have k1 : Tryz.prog.cellsOf 120 = 1 := by kernel_rfl
    rw [k1] at c0 c1
    simp at c0 c1
    rw [c0, c1]

def escD : DataW Unit := .agg [.agg [.lit (.int .u8 34), .lit (.int .u8 34)], .agg [.lit (.int .u8 92), .lit (.int .u8 92)], .agg [.lit (.int .u8 110), .lit (.int .u8 10)]]

theorem esc_cells {cs : List Value} {w : World} {fuel : Nat} {q : List MemPlace}
    (h : DataW.trod (fun _ => ()) Tryz.prog w 0 (fun _ => true) false fuel 149 cs = some (escD, q)) : cs = ecs.toList := by
  have hlen : cs.length = 6 := by
    cases fuel with
    | zero => simp [DataW.trod] at h
    | succ n =>
      unfold DataW.trod at h
      rw [Tryz.underlying149] at h
      simp only at h
      split at h
      · rename_i hl
        rw [hl]
        kernel_rfl
      · cases h
  have kc : Tryz.prog.cellsOf 148 = 2 := by kernel_rfl
  have E : ∀ (i : Nat) (a b : Int), i < 3 → ([.agg [.lit (.int .u8 34), .lit (.int .u8 34)], .agg [.lit (.int .u8 92), .lit (.int .u8 92)], .agg [.lit (.int .u8 110), .lit (.int .u8 10)]] : List (DataW Unit))[i]? = some (.agg [.lit (.int .u8 a), .lit (.int .u8 b)]) → (cs.drop (i * 2)).take 2 = [.int .u8 a, .int .u8 b] := by
    intro i a b hi hd
    obtain ⟨f', d, q', h1, h2⟩ := array_elem Tryz.underlying149 h i hi
    rw [hd] at h1
    obtain rfl := Option.some.inj h1
    rw [kc] at h2
    exact cell_esc h2
  have e0 := E 0 _ _ (by omega) rfl
  have e1 := E 1 _ _ (by omega) rfl
  have e2 := E 2 _ _ (by omega) rfl
  clear E h
  match cs, hlen with
  | [a0, a1, a2, a3, a4, a5], _ =>
    simp at e0 e1 e2
    rw [e0.1, e0.2, e1.1, e1.2, e2.1, e2.2]
    rfl

theorem heap_of_varL {w : World} {name : String} {g : Nat} {cs : Array Value} (hg : Tryz.prog.globalNamed name = some g) (h : w.var? Tryz.prog name = some cs) : ∃ t fr, w.heap[g]? = some (.cells cs t fr) := by
  unfold World.var? at h
  rw [hg] at h
  simp only [Option.bind_some] at h
  split at h
  · rename_i c t fr e
    cases h
    exact ⟨t, fr, e⟩
  · cases h

def errD : DataW Unit := .iface "*errors.errorString" (.ptr (.agg [.lit (.string [118, 97, 108, 117, 101, 32, 111, 117, 116, 32, 111, 102, 32, 114, 97, 110, 103, 101])]))

theorem err_cells {cs : List Value} {w : World} {fuel : Nat} {q : List MemPlace} {d : DataW Unit} {nm : String}
    (h : DataW.trod (fun _ => ()) Tryz.prog w 0 (fun _ => true) false fuel 68 cs = some (.iface nm d, q)) : ∃ te pe, cs = [.iface te pe] := by
  cases fuel with
  | zero => simp [DataW.trod] at h
  | succ n =>
    unfold DataW.trod at h
    rw [Tryz.underlying68] at h
    simp only at h
    split at h
    all_goals first | (exact ⟨_, _, rfl⟩) | (rename_i e1; cases e1; done) | (rename_i e1 e2; cases e1; done) | (cases h; done) | (simp at h; done)

theorem er_of_reads {w : World} (h1 : VarReads Tryz.prog w "strconv.ErrRange" errD) : Er w := by
  obtain ⟨g, t, cs, fuel, p, hg, hty, hvar, hd⟩ := h1
  obtain rfl := Option.some.inj ((show Tryz.prog.globalNamed "strconv.ErrRange" = some 6 by kernel_rfl).symm.trans hg)
  obtain rfl := Option.some.inj ((show (Tryz.prog.globals[6]?).map (·.type) = some 68 by kernel_rfl).symm.trans hty)
  obtain ⟨te, pe, e⟩ := err_cells hd
  obtain ⟨ty, fr, hh⟩ := heap_of_varL hg hvar
  have hc : cs = #[.iface te pe] := Array.toList_inj.1 e
  subst hc
  exact ⟨.iface te pe, (cell_of_row w _ 0 _ ty fr hh).trans rfl, .inr ⟨te, pe, rfl⟩⟩

def sortsL : List ByteArray := [Ps.theEnd, Ps.aName, Ps.aClass, ⟨#[]⟩, Ps.anInt, Ps.aReal, Ps.aStr]
def sortsD : DataW Unit := .agg (sortsL.map fun s => .lit (.string s.data.toList))
theorem cell_str {x : List Value} {w : World} {fuel : Nat} {b : List UInt8} {q : List MemPlace} (h : DataW.trod (fun _ => ()) Tryz.prog w 0 (fun _ => true) false fuel 9 x = some (.lit (.string b), q)) : x = [.string ⟨b.toArray⟩] := by
  obtain ⟨s, c0, he, _⟩ := DataW.trod_string Tryz.underlying9 h
  have e : s.data.toList = b := by
    have := congrArg id he
    simp at this
    exact this.1.symm
  subst e
  exact c0
theorem sorts_cells {cs : List Value} {w : World} {fuel : Nat} {q : List MemPlace}
    (h : DataW.trod (fun _ => ()) Tryz.prog w 0 (fun _ => true) false fuel 136 cs = some (sortsD, q)) : cs = sortsL.map Value.string := by
  have hlen : cs.length = 7 := by
    cases fuel with
    | zero => simp [DataW.trod] at h
    | succ n =>
      unfold DataW.trod at h
      rw [Tryz.underlying136] at h
      simp only at h
      split at h
      · rename_i hl
        rw [hl]
        kernel_rfl
      · cases h
  have kc : Tryz.prog.cellsOf 9 = 1 := by kernel_rfl
  have E : ∀ (i : Nat) (b : List UInt8), i < 7 → (sortsL.map fun s => (DataW.lit (.string s.data.toList) : DataW Unit))[i]? = some (.lit (.string b)) → (cs.drop (i * 1)).take 1 = [.string ⟨b.toArray⟩] := by
    intro i b hi hd
    obtain ⟨f', d, q', h1, h2⟩ := array_elem Tryz.underlying136 h i hi
    rw [hd] at h1
    obtain rfl := Option.some.inj h1
    rw [kc] at h2
    exact cell_str h2
  have e0 := E 0 _ (by omega) rfl
  have e1 := E 1 _ (by omega) rfl
  have e2 := E 2 _ (by omega) rfl
  have e3 := E 3 _ (by omega) rfl
  have e4 := E 4 _ (by omega) rfl
  have e5 := E 5 _ (by omega) rfl
  have e6 := E 6 _ (by omega) rfl
  clear E h
  match cs, hlen with
  | [a0, a1, a2, a3, a4, a5, a6], _ =>
    simp at e0 e1 e2 e3 e4 e5 e6
    rw [e0, e1, e2, e3, e4, e5, e6]
    rfl

theorem ptab_of_reads {w : World} (h1 : VarReads Tryz.prog w "strings.asciiSpace" (tabData .u8 spl)) (h0 : VarReads Tryz.prog w "chaperon/words.bases" basesD) (h2 : VarReads Tryz.prog w "chaperon/lexer.escapes" escD)
    (h3 : VarReads Tryz.prog w "strconv.ErrRange" errD) (h4 : VarReads Tryz.prog w "chaperon/parser.sorts" sortsD) : PTab w := by
  refine ⟨⟨?_, ?_, ?_⟩, er_of_reads h3, ?_⟩
  · obtain ⟨g, t, cs, fuel, p, hg, hty, hvar, hd⟩ := h0
    obtain rfl := Option.some.inj ((show Tryz.prog.globalNamed "chaperon/words.bases" = some 4 by kernel_rfl).symm.trans hg)
    obtain rfl := Option.some.inj ((show (Tryz.prog.globals[4]?).map (·.type) = some 175 by kernel_rfl).symm.trans hty)
    have e := bases_cells hd
    obtain rfl : cs = bcs := Array.toList_inj.1 e
    exact heap_of_varL hg hvar
  · obtain ⟨g, t, cs, fuel, p, hg, hty, hvar, hd⟩ := h1
    obtain rfl := Option.some.inj ((show Tryz.prog.globalNamed "strings.asciiSpace" = some 2 by kernel_rfl).symm.trans hg)
    obtain rfl := Option.some.inj ((show (Tryz.prog.globals[2]?).map (·.type) = some 150 by kernel_rfl).symm.trans hty)
    have e := cells_of_tab Tryz.underlying150 Tryz.underlying5 (by kernel_rfl) (by kernel_rfl) hd
    obtain rfl : cs = spcs := Array.toList_inj.1 (e.trans (by unfold spcs; simp))
    exact heap_of_varL hg hvar
  · obtain ⟨g, t, cs, fuel, p, hg, hty, hvar, hd⟩ := h2
    obtain rfl := Option.some.inj ((show Tryz.prog.globalNamed "chaperon/lexer.escapes" = some 1 by kernel_rfl).symm.trans hg)
    obtain rfl := Option.some.inj ((show (Tryz.prog.globals[1]?).map (·.type) = some 149 by kernel_rfl).symm.trans hty)
    have e := esc_cells hd
    obtain rfl : cs = ecs := Array.toList_inj.1 e
    exact heap_of_varL hg hvar
  · obtain ⟨g, t, cs, fuel, p, hg, hty, hvar, hd⟩ := h4
    obtain rfl := Option.some.inj ((show Tryz.prog.globalNamed "chaperon/parser.sorts" = some 0 by kernel_rfl).symm.trans hg)
    obtain rfl := Option.some.inj ((show (Tryz.prog.globals[0]?).map (·.type) = some 136 by kernel_rfl).symm.trans hty)
    have e := sorts_cells hd
    obtain rfl : cs = (sortsL.map Value.string).toArray := Array.toList_inj.1 e
    exact heap_of_varL hg hvar
end Go.Proofs.YtfkmnpgpfmkjaaaGreatDoor
