/- Shows. -/
import Derived.Test.YtdceafncncgfbaaDoorCdf
import Derived.Test.YtdceafncncgfbaaDoorCsd
set_option linter.unusedSimpArgs false
set_option linter.unusedVariables false
set_option maxRecDepth 100000
namespace Go.Proofs.YtdceafncncgfbaaDoor
open Go.ChangeShapes Go.WideShapes Go.ChangeAt Go.RowKit Go.Shelf
open Co (dd mb shown)

namespace Co
/-- What an object shows, in the order of its own class; of another value nothing. -/
def showsP (t : List Tab.C) (x : Vw) (l : List Ly) : List Mbr := if x.tag = 7 then (mb t x.s).filter fun m => decide (m ∈ shown t x.s ([x.s] ++ l.map (·.cls))) else []
end Co
def ShowsPost (R : List Mbr) (w : World) (e : Ending) (w' : World) : Prop := ∃ a c, e = .returned (.slice a R.length c) ∧ MbsAt w' a R ∧ Kept w w'

set_option maxHeartbeats 8000000 in
theorem shows_c (x : Vw) (va : Option Addr) (vc : Nat) (l : List Ly) (a : Option Addr) (cp : Nat) (t : List Tab.C) (w : World) (hT : TabAt w (.slice a t.length cp) t) (hS : Small t) (hv : LysAt w (.slice va l.length vc) l) (hs : x.s.size ≤ maxLen) (hl : l.length ≤ 100000) :
    Calls Tryd.prog 8 #[.slice a t.length cp, vV x (.slice va l.length vc)] w (ShowsPost (Co.showsP t x l) w) := by
  obtain ⟨W1, hW1⟩ : ∃ W, w.alloc (.cells #[.int .i64 x.tag, .int .i64 x.n, .int .u64 x.bits, .string x.s, .slice va l.length vc] uT) = W := ⟨_, rfl⟩
  have k1 : Kept w W1 := by rw [← hW1]; exact (Kept.refl _).alloc _
  have b1 : Blk W1 w.heap.size uT #[.int .i64 x.tag, .int .i64 x.n, .int .u64 x.bits, .string x.s, .slice va l.length vc] := by rw [← hW1]; exact Blk.new _ _ _
  have hz := (@Blk.new)
  have z1 : W1.heap.size = w.heap.size + 1 := by rw [← hW1]; simp
  by_cases h7 : x.tag = 7
  · have HR := Lib.hid (show Co.showsP t x l = (mb t x.s).filter fun m => decide (m ∈ shown t x.s ([x.s] ++ l.map (·.cls))) from if_pos h7)
    rw [h7] at b1 hW1
    have c0 := b1.cell 0
    have c3 := b1.cell 3
    simp at c0 c3
    have HLK := Lib.hid (look_c a cp t x.s W1 (tab_kept hT k1) hS hs)
    have HB1 := Lib.hid b1
    have HK1 := Lib.hid k1
    have HT := Lib.hid hT
    have HV := Lib.hid hv
    have HS := Lib.hid hs
    have HW1 := Lib.hid hW1
    have HMF := Lib.hid (members_fine hT hS x.s)
    have HML := Lib.hid (members_le hS x.s)
    rw [z1] at HLK
    clear k1 b1 hW1 hT hv hs hz z1
    go_enter Tryd.func8, Tryd.ntmps8
    go_wp2_with (first | rw [HW1.out])
    refine HLK.out.mono ?_
    rintro e w2 ⟨rfl, hv2, k2⟩
    have HV2 := Lib.hid hv2
    have HK2 := Lib.hid (HK1.out.trans k2)
    have HB2 := Lib.hid (HB1.out.kept k2)
    have c4 := (HB1.out.kept k2).cell 4
    simp at c4
    clear hv2 k2 c0 c3
    go_wp2_with fail
    go_loopw [18] (fun q wr => ∃ j : Nat, q = .int .i64 j ∧ j ≤ l.length ∧ ViewAt (w.heap.size + 2) (w.heap.size + 3) (w.heap.size + 1) (.slice a t.length cp) t x.s ([x.s] ++ (l.take j).map (·.cls)) wr ∧ Kept w wr ∧ Blk wr w.heap.size uT #[.int .i64 7, .int .i64 x.n, .int .u64 x.bits, .string x.s, .slice va l.length vc]) (fun q wr => l.length - (intOf q).toNat)
    case atStart => exact ⟨0, rfl, Nat.zero_le _, by simpa using HV2.out, HK2.out, HB2.out⟩
    case round =>
      obtain ⟨j, rfl, hj, hV, hk, hb⟩ := hrel
      by_cases hlt : j < l.length
      · have hltI : (j : Int) < (l.length : Int) := by omega
        have hx : l[j]? = some l[j] := List.getElem?_eq_getElem hlt
        generalize l[j] = y at hx
        obtain ⟨b, o, rfl, d0, d1, d2, hy⟩ := lys_at (lys_kept HV.out hk) hx
        obtain ⟨W3, hW3⟩ : ∃ W, wr.alloc (.cells #[.bool y.out, .string y.cls, .int .i64 y.lab] lT) = W := ⟨_, rfl⟩
        have k3 : Kept wr W3 := by rw [← hW3]; exact (Kept.refl _).alloc _
        have b3 : Blk W3 wr.heap.size lT #[.bool y.out, .string y.cls, .int .i64 y.lab] := by rw [← hW3]; exact Blk.new _ _ _
        have HN := Lib.hid (narrow_c _ _ _ a cp t x.s _ y.cls W3 (hV.kept k3) (tab_kept HT.out (hk.trans k3)) hS hy (by simp; omega))
        have HX := Lib.hid (show [x.s] ++ (l.take (j + 1)).map (·.cls) = ([x.s] ++ (l.take j).map (·.cls)) ++ [y.cls] by rw [List.take_add_one, hx]; simp)
        have y1 := b3.cell 1
        simp at y1
        have HK3 := Lib.hid (hk.trans k3)
        have HB3 := Lib.hid (hb.kept k3)
        have HW3 := Lib.hid hW3
        clear hV hk hb hx k3 b3 hW3
        go_wp2_with (first | rw [HW3.out])
        refine HN.out.mono ?_
        rintro e w4 ⟨rfl, hv4, o4⟩
        have HV4 := Lib.hid hv4
        have HK4 := Lib.hid (HK3.out.only o4 rfl (fun k e => by omega))
        have HB4 := Lib.hid (HB3.out.only o4 (by omega))
        clear hv4 o4
        go_wp2_with fail
        go_roundw
        case rel => exact ⟨j + 1, by go_num, by omega, by rw [HX.out]; exact HV4.out, HK4.out, HB4.out⟩
        case measure => simp [intOf]; omega
      · have hltI : ¬ (j : Int) < (l.length : Int) := by omega
        obtain rfl : j = l.length := by omega
        rw [List.take_length] at hV
        have c3 := hb.cell 3
        simp at c3
        have HM := Lib.hid (members_c a cp t x.s wr (tab_kept HT.out hk) hS)
        have HV5 := Lib.hid hV
        have HK5 := Lib.hid hk
        clear hV hk hb
        go_wp2_with fail
        refine HM.out.mono ?_
        rintro e w5 ⟨v, rfl, hrow, k5⟩
        obtain ⟨ra, rc, rfl⟩ := owns_slice_n hrow
        have hv5 := HV5.out.kept k5
        have HD := Lib.hid (deletef_c (w.heap.size + 2) (w.heap.size + 3) 2002000 _ _ _ (mb t x.s) ra rc wr.heap.size w5 hv5.blk hv5.set hrow HMF.out HML.out)
        have HKO := Lib.hid (fun w6 (o : Only (fun k => (Value.slice ra (mb t x.s).length rc).ownBlock = some k) w5 w6) => (HK5.out.trans k5).only o rfl (fun k e => Nat.le_trans HK5.out.size (rown_geL hrow e)))
        clear hv5 hrow k5
        go_wp2_with fail
        refine HD.out.mono ?_
        rintro e w6 ⟨qa, qc, rfl, hm, _, ho⟩
        have HF := Lib.hid (And.intro hm (HKO.out w6 ho))
        clear hm ho
        go_wp2_with fail
        go_ret
        rw [HR.out]
        exact ⟨qa, qc, rfl, HF.out.1, HF.out.2⟩
  · have HR := Lib.hid (show Co.showsP t x l = [] from if_neg h7)
    have c0 := b1.cell 0
    simp at c0
    have h7b : (x.tag != 7) = true := by simpa using h7
    have HK1 := Lib.hid k1
    have HW1 := Lib.hid hW1
    clear k1 b1 hW1 hT hv hs hz z1 h7
    go_enter Tryd.func8, Tryd.ntmps8
    go_wp2_with (first | rw [HW1.out])
    go_ret
    rw [HR.out]
    exact ⟨none, 0, rfl, fun k p h => by simp at h, HK1.out⟩
end Go.Proofs.YtdceafncncgfbaaDoor
