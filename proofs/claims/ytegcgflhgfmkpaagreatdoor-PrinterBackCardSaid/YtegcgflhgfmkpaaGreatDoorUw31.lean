/- Texts. -/
import Derived.Test.YtegcgflhgfmkpaaGreatDoorUTkm
import Derived.Test.YtegcgflhgfmkpaaGreatDoorUw20
import Derived.Lib.Builder
set_option linter.unusedSimpArgs false
set_option linter.unusedVariables false
set_option maxRecDepth 100000
set_option maxHeartbeats 16000000
namespace Go.Proofs.YtegcgflhgfmkpaaGreatDoor
open Lib (hid)
open _root_.Go.Proofs.Tryz
open Go.ChangeShapes Go.WideShapes Go.ChangeAt Go.RowKit Go.Shelf
attribute [local go_sem] Oper.semAt_some
theorem lit_text {W : World} {g : Nat} {cs : Array Value} (l : List UInt8) (h : Blk W g 5 cs) (hc : cs = (l.map encU).toArray) (n : Nat) (hn : n = l.length) : (convert 57 9 (.slice (some ⟨g, 0, none⟩) n n)).run prog W = .ok (.string ⟨l.toArray⟩) W := by
 subst hc hn;exact run_convert_bytes_back (P := prog) W 57 9 5 ⟨g, 0, none⟩ l.length l (by kernel_rfl) (by kernel_rfl) (by kernel_rfl) (fun j hj => by
  rw [addr_plainT, Nat.zero_add, h.cell j];simp [hj])
theorem lspelt_c (c : UInt8) (w : World) (hT : Tb w) : Calls prog 136 #[.int .u8 c.toNat] w fun e w' => e = .returned (.string ⟨(Lx.spelt c).toArray⟩) /\ Kept w w' := by
 obtain ⟨t, fr, hc⟩ := hT.esc;have hc : w.heap[2]? = some (.cells #[.int .u8 34, .int .u8 34, .int .u8 92, .int .u8 92, .int .u8 110, .int .u8 10] t fr) := hc;have c0 := cell_of_row w _ 0 _ t fr hc;have c1 := cell_of_row w _ 1 _ t fr hc;have c2 := cell_of_row w _ 2 _ t fr hc;have c3 := cell_of_row w _ 3 _ t fr hc;have c4 := cell_of_row w _ 4 _ t fr hc;have c5 := cell_of_row w _ 5 _ t fr hc;simp at c0 c1 c2 c3 c4 c5;clear hc;have hn := c.toNat_lt;obtain ⟨q, hq⟩ : ∃ q, Lx.spelt c = q := ⟨_, rfl⟩;rw [hq];have hqq := hq;unfold Lx.spelt at hqq;have hcE : encU c = .int .u8 c.toNat := rfl;obtain ⟨n, hcn⟩ : ∃ n, c.toNat = n := ⟨_, rfl⟩;rw [hcn] at hqq hn ⊢;have HC := hid (show encU c = .int .u8 n by rw [hcE, hcn]);clear hq hcE hcn;go_enter func136, ntmps136;go_wp2
 clear c0 c1 c2 c3 c4 c5;go_loopw [6] (fun i wr => ∃ k : Nat, k <= 3 /\ i = .int .i64 k /\ Kept w wr /\ (1 <= k -> n ≠ 34) /\ (2 <= k -> n ≠ 92) /\ (3 <= k -> n ≠ 10)) (fun i wr => 3 - (intOf i).toNat)
 case atStart => exact ⟨0, by omega, rfl, Kept.refl _, by omega, by omega, by omega⟩
 case round =>
  obtain ⟨k, hk, rfl, hkp, h1, h2, h3⟩ := hrel;have hk' : k = 0 ∨ k = 1 ∨ k = 2 ∨ k = 3 := by omega
  rcases hk' with rfl | rfl | rfl | rfl
  ·have hi := eix_0 wr;by_cases hx : n = 34
   ·subst hx;obtain rfl : [92, 34] = q := by rw [<- hqq]; rfl
    obtain ⟨W2, hW2⟩ : ∃ W2, (wr.alloc (.cells #[.int .u8 34, .int .u8 34] 170)).alloc (.cells #[.int .u8 92, .int .u8 34] 5) = W2 := ⟨_, rfl⟩;have hk2 : Kept w W2 := by rw [<- hW2]; exact (hkp.alloc _).alloc _
    have hb2 : Blk W2 (wr.heap.size + 1) 5 #[.int .u8 92, .int .u8 34] := by
     have := Blk.new (wr.alloc (.cells #[.int .u8 34, .int .u8 34] 170)) 5 #[.int .u8 92, .int .u8 34];rw [World.size_alloc, hW2] at this; exact this
    have hcv := lit_text [92, 34] hb2 rfl 2 rfl;have HW := hid hW2;clear hqq h1 h2 h3 hW2 hb2;go_wp2_with (rw [HW.o]);go_ret;exact ⟨rfl, hk2⟩
   ·have hb : (((34 : Nat) : Int) == (n : Int)) = false := by simp; omega
    have hb2 : ((n : Int) == 34) = false := by simp; omega
    have hb3 : (34 == (n : Int)) = false := by simp; omega
    go_wp2
    go_roundw
    case rel => exact ⟨1, by omega, rfl, hkp.alloc _, by omega, by omega, by omega⟩
    case measure => simp [intOf]
  ·have hi := eix_1 wr;by_cases hx : n = 92
   ·subst hx;obtain rfl : [92, 92] = q := by rw [<- hqq]; rfl
    obtain ⟨W2, hW2⟩ : ∃ W2, (wr.alloc (.cells #[.int .u8 92, .int .u8 92] 170)).alloc (.cells #[.int .u8 92, .int .u8 92] 5) = W2 := ⟨_, rfl⟩;have hk2 : Kept w W2 := by rw [<- hW2]; exact (hkp.alloc _).alloc _
    have hb2 : Blk W2 (wr.heap.size + 1) 5 #[.int .u8 92, .int .u8 92] := by
     have := Blk.new (wr.alloc (.cells #[.int .u8 92, .int .u8 92] 170)) 5 #[.int .u8 92, .int .u8 92];rw [World.size_alloc, hW2] at this; exact this
    have hcv := lit_text [92, 92] hb2 rfl 2 rfl;have HW := hid hW2;clear hqq h1 h2 h3 hW2 hb2;go_wp2_with (rw [HW.o]);go_ret;exact ⟨rfl, hk2⟩
   ·have hb : (((92 : Nat) : Int) == (n : Int)) = false := by simp; omega
    have hb2 : ((n : Int) == 92) = false := by simp; omega
    have hb3 : (92 == (n : Int)) = false := by simp; omega
    go_wp2
    go_roundw
    case rel => exact ⟨2, by omega, rfl, hkp.alloc _, by omega, by omega, by omega⟩
    case measure => simp [intOf]
  ·have hi := eix_2 wr;by_cases hx : n = 10
   ·subst hx;obtain rfl : [92, 110] = q := by rw [<- hqq]; rfl
    obtain ⟨W2, hW2⟩ : ∃ W2, (wr.alloc (.cells #[.int .u8 110, .int .u8 10] 170)).alloc (.cells #[.int .u8 92, .int .u8 110] 5) = W2 := ⟨_, rfl⟩;have hk2 : Kept w W2 := by rw [<- hW2]; exact (hkp.alloc _).alloc _
    have hb2 : Blk W2 (wr.heap.size + 1) 5 #[.int .u8 92, .int .u8 110] := by
     have := Blk.new (wr.alloc (.cells #[.int .u8 110, .int .u8 10] 170)) 5 #[.int .u8 92, .int .u8 110];rw [World.size_alloc, hW2] at this; exact this
    have hcv := lit_text [92, 110] hb2 rfl 2 rfl;have HW := hid hW2;clear hqq h1 h2 h3 hW2 hb2;go_wp2_with (rw [HW.o]);go_ret;exact ⟨rfl, hk2⟩
   ·have hb : (((10 : Nat) : Int) == (n : Int)) = false := by simp; omega
    have hb2 : ((n : Int) == 10) = false := by simp; omega
    have hb3 : (10 == (n : Int)) = false := by simp; omega
    go_wp2
    go_roundw
    case rel => exact ⟨3, by omega, rfl, hkp.alloc _, by omega, by omega, by omega⟩
    case measure => simp [intOf]
  ·obtain rfl : [c] = q := by rw [<- hqq, if_neg (h1 (by omega)), if_neg (h2 (by omega)), if_neg (h3 (by omega))]
   obtain ⟨W2, hW2⟩ : ∃ W2, wr.alloc (.cells #[.int .u8 n] 5) = W2 := ⟨_, rfl⟩;have hk2 : Kept w W2 := by rw [<- hW2]; exact hkp.alloc _
   have hb2 : Blk W2 wr.heap.size 5 #[.int .u8 n] := by rw [<- hW2]; exact Blk.new wr _ _
   have hcv := lit_text [c] hb2 (by rw [<- HC.o]; rfl) 1 rfl;have HW := hid hW2;clear hqq h1 h2 h3 hW2 hb2;go_wp2_with (rw [HW.o]);go_ret;exact ⟨rfl, hk2⟩
theorem info_bld : (prog.info? 68).map (·.size) = some 2 := by kernel_rfl
theorem bcheck_used (b : Nat) (w : World) (h0 : w.cell? ⟨b, 0, none⟩ = some (.pointer (some ⟨b, 0, none⟩))) :
  Calls prog 77 #[.pointer (some ⟨b, 0, none⟩)] w fun e w' => e = .returned (.tuple #[]) /\ w' = w := by
 obtain ⟨j, hj, _⟩ := Option.map_eq_some_iff.1 info_bld;have hne := Lib.run_neq_ptr_same (P := prog) w ⟨b, 0, none⟩ underlying66 hj;go_enter func77, ntmps77;go_wp2
 go_end0
 exact ⟨rfl, rfl⟩
theorem bcheck_fresh (b : Nat) (w : World) (h0 : w.cell? ⟨b, 0, none⟩ = some (.pointer none)) (hsh : w.shape? b = some (68, 2)) (hfz : w.frozen? ⟨b, 0, none⟩ = false) :
  Calls prog 77 #[.pointer (some ⟨b, 0, none⟩)] w fun e w' => e = .returned (.tuple #[]) /\ w' = w.setCell ⟨b, 0, none⟩ (.pointer (some ⟨b, 0, none⟩)) := by
 obtain ⟨j, hj, hjs⟩ := Option.map_eq_some_iff.1 info_bld;have e1 := Lib.run_to_unsafe (P := prog) w ⟨b, 0, none⟩ underlying66 underlying140 hj (by rw [hjs]; decide) hsh (Nat.zero_lt_succ 1);have e2 := Lib.run_from_unsafe (P := prog) w ⟨b, 0, none⟩ underlying140 underlying66 hj hsh (by kernel_rfl);go_enter func77, ntmps77;go_wp2
 rw [run_callFunc_extern func104 (by kernel_rfl) (by kernel_rfl) (by kernel_rfl) (e := Extern.AbiNoEscape.same) (by kernel_rfl)];rw [Lib.run_noEscape];simp only [Result.andThen];rw [Oper.upon_value];go_wp2
 go_end0
 exact ⟨rfl, rfl⟩
abbrev BldAt (B b : Nat) (p : Value) (l : List UInt8) (w : World) : Prop := Lib.BuilderAt 68 5 B b p (Lib.byteCells l) w
abbrev Bld (B b : Nat) (l : List UInt8) (w : World) : Prop := Lib.IsBuilder 68 5 B b (Lib.byteCells l) w
theorem bcheck_c (B b : Nat) (l : List UInt8) (w : World) (h : Bld B b l w) :
  Calls prog 77 #[.pointer (some ⟨b, 0, none⟩)] w fun e w' => e = .returned (.tuple #[]) /\ BldAt B b (.pointer (some ⟨b, 0, none⟩)) l w' /\ Below B w w' := by
 rcases h with h | h
 ·refine (bcheck_fresh b w h.cell0 h.shape h.frozen0).mono ?_;rintro e w' ⟨rfl, rfl⟩;exact ⟨rfl, h.used _, (Below.refl B w).setCell (p := ⟨b, 0, none⟩) h.1 _⟩
 ·refine (bcheck_used b w h.cell0).mono ?_;rintro e w' ⟨rfl, rfl⟩;exact ⟨rfl, h, Below.refl B _⟩
theorem own_val1 {W : World} {B n : Nat} {v : Value} {xs : List Value} (h : W.ownsRow B 5 1 v n xs) : ∃ a c, v = .slice a n c := owns_valT h
theorem bld_put {B b : Nat} {w1 W3 w2 : World} {v : Value} {n : Nat} {xs : List Value} (hB : B <= b) (hbk : w1.heap[b]? = some (.cells #[.pointer (some ⟨b, 0, none⟩), v] 68 (0, 0))) (hown : w1.ownsRow B 5 1 v n xs) (hne : v.ownBlock ≠ some b)
  (k3 : Kept w1 W3) (hgrow : W3.grownBy w2 v.ownBlock) : w2.heap[b]? = some (.cells #[.pointer (some ⟨b, 0, none⟩), v] 68 (0, 0)) := by
 have hlt := (Array.getElem?_eq_some_iff.1 hbk).1;exact (hgrow.block b (Nat.lt_of_lt_of_le hlt k3.size) (fun e => hne e.symm)).trans ((k3.block b hlt).trans hbk)
theorem bbyte_c (B b : Nat) (l : List UInt8) (c : UInt8) (w : World) (h : Bld B b l w) (hlen : l.length <= 1000000) (hBw : B <= w.heap.size) :
  Calls prog 30 #[.pointer (some ⟨b, 0, none⟩), .int .u8 c.toNat] w fun e w' => e = .returned .nilIface /\ Bld B b (l ++ [c]) w' /\ Below B w w' := by
 obtain ⟨i0, hi, hz0, hzz1, hzz2⟩ := info_parts info_u8;have HC := hid (bcheck_c B b l w h);clear h;obtain ⟨n, hn⟩ : ∃ n : Nat, (c.toNat : Int) = n := ⟨_, rfl⟩;have hcE : encU c = .int .u8 n := by rw [<- hn]
 rw [hn];have HCE := hid hcE;clear hn hcE;go_enter func30, ntmps30;go_wp2_with fail;refine HC.o.mono ?_;rintro e w1 ⟨rfl, ⟨hB, v, hbk, hown, hne⟩, hb1⟩;rw [Lib.byteCells_length] at hown;obtain ⟨va, vc, rfl⟩ := own_val1 hown;obtain ⟨W3, hW3⟩ : ∃ W3, w1.alloc (.cells #[.int .u8 n] 5) = W3 := ⟨_, rfl⟩;have k3 := kpA hW3;have HSR : Hid (Src prog 1 57 (.slice (some ⟨w1.heap.size, 0, none⟩) 1 1) 1 [.int .u8 n] W3) := hid (by
  rw [<- hW3];exact Src.ofSlice (P := prog) (size := 1) (tx := 57) _ underlying57 ⟨w1.heap.size, 0, none⟩ 1 1 [.int .u8 n] rfl (cell_one_new w1 _ _) (by simp [Value.oneCell']))
 have HR := hid (owns_keptU hown k3);have HP := hid (fun w2 hg => bld_put (w2 := w2) hB hbk hown hne k3 hg);have HB := hid (And.intro hB (hb1.alloc (B := B) (by have := hb1.size; omega) (.cells #[.int .u8 n] 5)));have HLT := hid (fun k hk => (hown.lt k hk).1);have HSZ := hid (show B <= W3.heap.size from Nat.le_trans (Nat.le_trans hBw hb1.size) k3.size);have HW3 := hid hW3;have c0 : w1.cell? ⟨b, 0, none⟩ = some (.pointer (some ⟨b, 0, none⟩)) := by rw [Lib.cell_of_heap hbk]; rfl
 have c1 : w1.cell? ⟨b, 1, none⟩ = some (.slice va l.length vc) := by rw [Lib.cell_of_heap hbk]; rfl
 clear hB hbk hown hne hb1 k3 hW3 hBw HC;go_wp2_with (first | rw [HW3.o] | (at_builtin; refine wpList_apk rfl (.tmp 11) (.tmp 13) 57 57 rfl B 1 5 i0 _ 1 underlying57 hi hz0 hzz1 hzz2 rfl rfl HR.o rfl HSR.o (by unfold maxLen; omega) (by omega) HSZ.o ?_; intro v' w2 hown' hgrow hlies; have hb2 := HP.o w2 hgrow; have d0 : w2.cell? ⟨b, 0, none⟩ = some (.pointer (some ⟨b, 0, none⟩)) := (cell_of_row w2 b 0 _ _ _ hb2).trans rfl; have d1 : w2.cell? ⟨b, 1, none⟩ = some (.slice va l.length vc) := (cell_of_row w2 b 1 _ _ _ hb2).trans rfl; have f1 : w2.frozen? ⟨b, 1, none⟩ = false := Lib.frozen_of_heap hb2 1; obtain ⟨ga, gc, rfl⟩ := own_val1 hown'; have HO := hid hown'; have HG := hid hgrow; have HB2 := hid hb2; clear hown' hgrow hb2 hlies));go_ret;refine ⟨rfl, .inr (Lib.BuilderAt.put (T := 68) (e := 5) HB.o.1 HB2.o (bs' := Lib.byteCells (l ++ [c])) ?_ (by decide)), ?_⟩
 ·rw [Lib.byteCells_length, Lib.byteCells_append];have := HO.o;rw [show Lib.byteCells [c] = [.int .u8 n] from congrArg (· :: []) HCE.o]
  simpa using this
 ·have hbb := HB.o.2;rw [HW3.o] at hbb;exact (hbb.grown HG.o HSZ.o (fun k hk => HLT.o k hk)).setCell (p := ⟨b, 1, none⟩) HB.o.1 _
theorem bstr_c (B b : Nat) (l : List UInt8) (s : ByteArray) (w : World) (h : Bld B b l w) (hlen : l.length + s.size <= 1000000) (hBw : B <= w.heap.size) :
  Calls prog 31 #[.pointer (some ⟨b, 0, none⟩), .string s] w fun e w' => e = .returned (.tuple #[.int .i64 s.size, .nilIface]) /\ Bld B b (l ++ s.data.toList) w' /\ Below B w w' := by
 obtain ⟨i0, hi, hz0, hzz1, hzz2⟩ := info_parts info_u8;have HC := hid (bcheck_c B b l w h);clear h;go_enter func31, ntmps31;go_wp2_with fail;refine HC.o.mono ?_;rintro e w1 ⟨rfl, ⟨hB, v, hbk, hown, hne⟩, hb1⟩;rw [Lib.byteCells_length] at hown;obtain ⟨va, vc, rfl⟩ := own_val1 hown;have HSR : Hid (Src prog 1 9 (.string s) s.size (byteCells s) w1) := hid (Src.ofString _ underlying9 s);have HR := hid hown;have HP := hid (fun w2 hg => bld_put (w2 := w2) hB hbk hown hne (Kept.refl w1) hg);have HB := hid (And.intro hB hb1);have HLT := hid (fun k hk => (hown.lt k hk).1);have HSZ := hid (show B <= w1.heap.size from Nat.le_trans hBw hb1.size);have c0 : w1.cell? ⟨b, 0, none⟩ = some (.pointer (some ⟨b, 0, none⟩)) := by rw [Lib.cell_of_heap hbk]; rfl
 have c1 : w1.cell? ⟨b, 1, none⟩ = some (.slice va l.length vc) := by rw [Lib.cell_of_heap hbk]; rfl
 clear hB hbk hown hne hb1 hBw HC;go_wp2_with (at_builtin; refine wpList_apk rfl (.tmp 12) (.tmp 13) 57 9 rfl B 1 5 i0 _ 1 underlying57 hi hz0 hzz1 hzz2 rfl rfl HR.o rfl HSR.o (by unfold maxLen; omega) (by omega) HSZ.o ?_; intro v' w2 hown' hgrow hlies; have hb2 := HP.o w2 hgrow; have d0 : w2.cell? ⟨b, 0, none⟩ = some (.pointer (some ⟨b, 0, none⟩)) := (cell_of_row w2 b 0 _ _ _ hb2).trans rfl; have d1 : w2.cell? ⟨b, 1, none⟩ = some (.slice va l.length vc) := (cell_of_row w2 b 1 _ _ _ hb2).trans rfl; have f1 : w2.frozen? ⟨b, 1, none⟩ = false := Lib.frozen_of_heap hb2 1; obtain ⟨ga, gc, rfl⟩ := own_val1 hown'; have HO := hid hown'; have HG := hid hgrow; have HB2 := hid hb2; clear hown' hgrow hb2 hlies);refine bodyPost_ret (results_tmp2 rfl _ _ _) rfl ?_;refine ⟨rfl, .inr (Lib.BuilderAt.put (T := 68) (e := 5) HB.o.1 HB2.o (bs' := Lib.byteCells (l ++ s.data.toList)) ?_ (by decide)), ?_⟩
 ·rw [Lib.byteCells_length, Lib.byteCells_append];have := HO.o;rw [show (l ++ s.data.toList).length = l.length + s.size by rw [List.length_append, Array.length_toList]; rfl];exact this
 ·have hbb := HB.o.2;exact (hbb.grown HG.o HSZ.o (fun k hk => HLT.o k hk)).setCell (p := ⟨b, 1, none⟩) HB.o.1 _
theorem bbyte_z (B b : Nat) (l : List UInt8) (c : UInt8) (z : Int) (hz : z = (c.toNat : Int)) (w : World) (h : Bld B b l w) (hlen : l.length <= 1000000) (hBw : B <= w.heap.size) :
  Calls prog 30 #[.pointer (some ⟨b, 0, none⟩), .int .u8 z] w fun e w' => e = .returned .nilIface /\ Bld B b (l ++ [c]) w' /\ Below B w w' := by
 subst hz; exact bbyte_c B b l c w h hlen hBw
theorem kept_below {w w1 w2 : World} (h : Kept w w1) (k : Below w.heap.size w1 w2) : Kept w w2 :=
 ⟨k.os.trans h.os, k.output.trans h.output, Nat.le_trans h.size k.size, fun i hi => (k.block i hi).trans (h.block i hi)⟩
theorem bld_kept {B b : Nat} {l : List UInt8} {w w' : World} (h : Bld B b l w) (k : Kept w w') : Bld B b l w' := by
 have f : ∀ p, BldAt B b p l w -> BldAt B b p l w' := by
  rintro p ⟨hB, v, hbk, hown, hne⟩;exact ⟨hB, v, (k.block b (Array.getElem?_eq_some_iff.1 hbk).1).trans hbk, owns_keptU hown k, hne⟩
 exact h.elim (fun h => .inl (f _ h)) (fun h => .inr (f _ h))
theorem spelt_len (c : UInt8) : (Lx.spelt c).length <= 2 := by
 unfold Lx.spelt
 split
 ·simp
 ·split
  ·simp
  ·split <;> simp
def quP (s : List UInt8) (k : Nat) : List UInt8 := 34 :: (s.take k).flatMap Lx.spelt
theorem quP_next {s : List UInt8} {k : Nat} (h : k < s.length) : quP s (k + 1) = quP s k ++ Lx.spelt s[k] := by
 unfold quP;rw [List.take_succ_eq_append_getElem h, List.flatMap_append];simp only [List.flatMap_cons, List.flatMap_nil, List.append_nil, List.cons_append]
theorem quP_len (s : List UInt8) (k : Nat) : (quP s k).length <= 2 * k + 1 := by
 unfold quP;have : ∀ l : List UInt8, (l.flatMap Lx.spelt).length <= 2 * l.length := by
  intro l
  induction l with
  | nil => exact Nat.zero_le _
  | cons c r ih => have := spelt_len c; rw [List.flatMap_cons, List.length_append, List.length_cons]; omega
 have h2 := this (s.take k);have h3 : (s.take k).length <= k := by rw [List.length_take]; omega
 rw [List.length_cons]; omega
theorem quoted_c (s : ByteArray) (w : World) (hT : Tb w) (hs : s.size <= 100000) :
  Calls prog 102 #[.string s] w fun e w' => e = .returned (.string ⟨(34 :: s.data.toList.flatMap Lx.spelt ++ [34]).toArray⟩) /\ Kept w w' := by
 have hl : s.data.toList.length = s.size := by rw [Array.length_toList]; rfl
 obtain ⟨W1, hW1⟩ : ∃ W1, w.alloc (.cells #[.pointer none, .slice none 0 0] 68) = W1 := ⟨_, rfl⟩;have hs1 : w.heap.size <= W1.heap.size := by rw [<- hW1]; simp
 have hb1 : Bld w.heap.size w.heap.size [] W1 := .inl ⟨Nat.le_refl _, .slice none 0 0, by rw [<- hW1]; exact heap_alloc_new w _, World.ownsRow_nil _ _ _ _, by simp [Value.ownBlock]⟩;have hB1 := kpA hW1;have HW1 := hid hW1;have HC1 := hid (bbyte_z w.heap.size w.heap.size [] 34 34 rfl W1 hb1 (by simp) hs1);have HT := hid hT;have HB1 := hid hB1;obtain ⟨R, hR⟩ : ∃ R, (⟨(34 :: s.data.toList.flatMap Lx.spelt ++ [34]).toArray⟩ : ByteArray) = R := ⟨_, rfl⟩;rw [hR];have HRR := hid hR;clear hW1 hb1 hB1 hT hR;go_enter func102, ntmps102;go_wp2_with (rw [HW1.o]);refine HC1.o.mono ?_;rintro e w2 ⟨rfl, hb2, hB2⟩;have HB2 := hid hb2;have HK2 := hid (kept_below HB1.o hB2);have hs2 := hB2.size;clear hb2 hB2 HC1 HB1;go_wp2_with fail;go_loopw [8] (fun i wr => ∃ k : Nat, k <= s.size /\ i = .int .i64 k /\ Hid (Bld w.heap.size w.heap.size (quP s.data.toList k) wr) /\ Hid (Kept w wr) /\ w.heap.size <= wr.heap.size) (fun i wr => s.size - (intOf i).toNat)
 case atStart => exact ⟨0, Nat.zero_le _, rfl, HB2, HK2, by omega⟩
 case round =>
  clear HB2 HK2 hs2 hs1;obtain ⟨k, hk, rfl, HB, HK, hz⟩ := hrel;by_cases hlt : k < s.size
  ·have hltI : (k : Int) < (s.size : Int) := by omega
   have hlt' : k < s.data.toList.length := by omega
   have HN := hid (quP_next hlt');have hge : s.data.toList[k] = s[k] := by simp; rfl
   rw [hge] at HN;have HS := hid (lspelt_c s[k] wr (HT.o.kept HK.o));have HSL := hid (spelt_len s[k]);clear hge;obtain ⟨sp, hsp⟩ : ∃ sp, Lx.spelt s[k] = sp := ⟨_, rfl⟩;rw [hsp] at HN HS HSL;clear hsp;go_wp2_with fail;refine HS.o.mono ?_;rintro e w3 ⟨rfl, k3⟩;have hz3 := k3.size;have HB3 := hid (bld_kept HB.o k3);have HLE := hid (show (quP s.data.toList k).length + (⟨sp.toArray⟩ : ByteArray).size <= 1000000 by
    have h1 := quP_len s.data.toList k;have h2 := HSL.o;have h3 : (⟨sp.toArray⟩ : ByteArray).size = sp.length := by show sp.toArray.size = _; simp
    omega)
   have HW3 := hid (bstr_c w.heap.size w.heap.size _ ⟨sp.toArray⟩ w3 HB3.o HLE.o (by omega));have HK3 := hid (HK.o.trans k3);clear k3;go_wp2_with fail;refine HW3.o.mono ?_;rintro e w4 ⟨rfl, hb4, hB4⟩;have HB4 := hid hb4;have HK4 := hid (kept_below HK3.o hB4);have hz4 := HK4.o.size;clear hb4 hB4;go_wp2_with fail;go_roundw
   case rel => exact ⟨k + 1, by omega, by go_num, hid (by rw [HN.o]; exact HB4.o), HK4, hz4⟩
   case measure => simp [intOf]; omega
  ·obtain rfl : k = s.size := by omega
   have hltI : ¬ (s.size : Int) < (s.size : Int) := by omega
   have HC2 := hid (bbyte_z w.heap.size w.heap.size _ 34 34 rfl wr HB.o (by have := quP_len s.data.toList s.size; omega) hz);go_wp2_with fail;refine HC2.o.mono ?_;rintro e w3 ⟨rfl, hb3, hB3⟩;have HST := hid (Tryz.Builder_String_any w.heap.size w.heap.size _ w3 hb3 (by have := hB3.size; omega));have HK3 := hid (kept_below HK.o hB3);clear hb3 hB3;go_wp2_with fail;refine HST.o.mono ?_;rintro e w4 ⟨rfl, hB4⟩;have HK4 := hid (kept_below HK3.o hB4);clear hB4;go_wp2_with fail;go_ret;refine ⟨?_, HK4.o⟩;have e : quP s.data.toList s.size = 34 :: s.data.toList.flatMap Lx.spelt := by unfold quP; rw [List.take_of_length_le (by omega)]
   show Ending.returned (.string ⟨(quP s.data.toList s.size ++ [34]).toArray⟩) = _
   rw [e, HRR.o]
def Pw (w : World) : Prop := Lib.TabIs prog w "internal/strconv.uint64pow10" .u64 Lib.pow10Tab
theorem Pw.kept {w w' : World} (h : Pw w) (k : Kept w w') : Pw w' := by
 unfold Pw Lib.TabIs World.var? at h ⊢
 cases hg : prog.globalNamed "internal/strconv.uint64pow10" with
 | none => rw [hg] at h; cases h
 | some g =>
  rw [hg] at h;simp only [Option.bind_some] at h ⊢;have hb : w'.heap[g]? = w.heap[g]? := by
   rcases Nat.lt_or_ge g w.heap.size with hl | hl
   ·exact k.block g hl
   ·rw [Array.getElem?_eq_none hl] at h; cases h
  rw [hb]; exact h
theorem itoa_c (n : Int) (h0 : -9223372036854775808 <= n) (h1 : n <= 9223372036854775807) (w : World) (hP : Pw w) :
  Calls prog 101 #[.int .i64 n] w fun e w' => e = .returned (.string ⟨(Lib.itoa n).toArray⟩) /\ Kept w w' := by
 refine (Tryz.strconv_Itoa n h0 h1 w hP).mono ?_;rintro e w' ⟨he, k, os, rfl⟩;refine ⟨he, ⟨rfl, rfl, by show _ <= (w.heap ++ os).size; simp, fun i hi => ?_⟩⟩
 show (w.heap ++ os)[i]? = w.heap[i]?
 rw [Array.getElem?_append_left hi]
namespace Lx
def spl (x : T) : ByteArray :=
 if x.kind = 4 then ⟨(Lib.itoa x.n).toArray⟩ else if x.kind = 5 then ⟨(Lib.itoa x.n ++ [114]).toArray⟩ else if x.kind = 6 then ⟨(34 :: x.text.data.toList.flatMap spelt ++ [34]).toArray⟩ else x.text
end Lx
end Go.Proofs.YtegcgflhgfmkpaaGreatDoor
