/- What each kind of node requires: in plain words, and in memory; expressionKinds, upTo. -/
import Derived.Test.YtgdmcdjkmgpkpaaDoorTrw
import Derived.Test.YtgdmcdjkmgpkpaaDoorFlw
set_option linter.unusedSimpArgs false
set_option linter.unusedVariables false
set_option maxRecDepth 100000
namespace Go.Proofs.YtgdmcdjkmgpkpaaDoor
open Go.ChangeShapes Go.WideShapes Go.ChangeAt Go.RowKit

/-- Kids beside one another: their kinds, how many, and how many more at most. -/
structure Pt where
  kinds : List Int
  cnt : Int
  more : Int
/-- What a kind requires. -/
structure Ne where
  text : Int
  typ : Int
  words : ByteArray
  most : Int
  kids : List Pt

/-- The kinds of expressions below k. -/
def exU (k : Nat) : List Int := ((List.range' 7 (k - 7)).filter (· != 15)).map Int.ofNat
def exprK : List Int := exU 30
def entK : List Int := exprK ++ [15]
def pOne : Pt := ⟨exprK, 1, 0⟩
def pTwo : Pt := ⟨exprK, 2, 0⟩
def pArgs : Pt := ⟨exprK, 0, 8⟩
def pBlock : Pt := ⟨[6], 1, 0⟩
def pUp (most kind : Int) : Pt := ⟨[kind], 0, most⟩
def pEnt : Pt := ⟨entK, 0, 5000⟩
def wNum : ByteArray := ⟨#[110, 97, 110, 32, 105, 110, 102]⟩
def wUn : ByteArray := ⟨#[45, 32, 33]⟩
def wBin : ByteArray := ⟨#[124, 124, 32, 38, 38, 32, 61, 61, 32, 33, 61, 32, 60, 32, 60, 61, 32, 43, 32, 45, 32, 42, 32, 47, 32, 37]⟩
def wConv : ByteArray := ⟨#[114, 101, 97, 108, 32, 105, 110, 116, 32, 108, 101, 110]⟩
def noW : ByteArray := ⟨#[]⟩
def needsT : List Ne := [⟨0, 0, noW, 0, []⟩, ⟨0, 0, noW, 0, [pUp 40 2, pBlock]⟩, ⟨2, 3, noW, 0, [pUp 20 3, pUp 20 4]⟩, ⟨1, 4, noW, 0, []⟩, ⟨1, 4, noW, 0, [pUp 8 5, pBlock]⟩, ⟨1, 4, noW, 0, []⟩,
  ⟨0, 0, noW, 0, [pEnt]⟩, ⟨0, 0, noW, 9223372036854775807, []⟩, ⟨6, 0, wNum, 9007199254740992, []⟩, ⟨0, 0, noW, 1, []⟩, ⟨7, 0, noW, 0, []⟩, ⟨0, 0, noW, 0, []⟩, ⟨0, 2, noW, 0, []⟩, ⟨0, 0, noW, 0, []⟩, ⟨1, 0, noW, 0, []⟩,
  ⟨1, 4, noW, 0, [pOne]⟩, ⟨1, 0, noW, 0, [pOne]⟩, ⟨1, 0, noW, 0, [pOne]⟩, ⟨1, 0, noW, 0, [pTwo]⟩, ⟨1, 0, noW, 0, [pOne, pArgs]⟩, ⟨1, 0, noW, 0, [pArgs]⟩, ⟨0, 2, noW, 0, [pArgs]⟩, ⟨0, 0, noW, 0, [pOne, pBlock, pBlock]⟩, ⟨0, 0, noW, 0, [pOne, pBlock]⟩,
  ⟨5, 0, wUn, 0, [pOne]⟩, ⟨5, 0, wBin, 0, [pTwo]⟩, ⟨0, 0, noW, 0, []⟩, ⟨0, 0, noW, 0, [pOne]⟩, ⟨0, 4, noW, 0, [pOne]⟩, ⟨5, 0, wConv, 0, [pOne]⟩]

/-- Numbers in memory. -/
def IntAt (w : World) (b o : Nat) (x : Int) : Prop := w.cell? ⟨b, o, none⟩ = some (.int .i64 x)
abbrev IntsR (w : World) (v : Value) (l : List Int) : Prop := Row 1 IntAt w v l
def PartAt (w : World) (b o : Nat) (p : Pt) : Prop := ∃ s, w.cell? ⟨b, o, none⟩ = some s ∧ w.cell? ⟨b, o + 1, none⟩ = some (.int .i64 p.cnt) ∧ w.cell? ⟨b, o + 2, none⟩ = some (.int .i64 p.more) ∧ IntsR w s p.kinds
abbrev PartsR (w : World) (v : Value) (l : List Pt) : Prop := Row 3 PartAt w v l
def NeedAt (w : World) (b o : Nat) (n : Ne) : Prop := ∃ s, w.cell? ⟨b, o, none⟩ = some (.int .i64 n.text) ∧ w.cell? ⟨b, o + 1, none⟩ = some (.int .i64 n.typ) ∧ w.cell? ⟨b, o + 2, none⟩ = some (.string n.words) ∧ w.cell? ⟨b, o + 3, none⟩ = some (.int .i64 n.most) ∧ w.cell? ⟨b, o + 4, none⟩ = some s ∧ PartsR w s n.kids
abbrev NeedsR (w : World) (v : Value) (l : List Ne) : Prop := Row 5 NeedAt w v l
section
variable {w w' : World} {b o : Nat}
theorem IntAt.kept {x : Int} (h : IntAt w b o x) (k : Kept w w') : IntAt w' b o x := k.cell h
theorem IntsR.kept {v : Value} {l : List Int} (h : IntsR w v l) (k : Kept w w') : IntsR w' v l := Row.mono h fun _ _ _ h => IntAt.kept h k
theorem PartAt.kept {p : Pt} (h : PartAt w b o p) (k : Kept w w') : PartAt w' b o p := by
  obtain ⟨s, h1, h2, h3, h4⟩ := h
  exact ⟨s, k.cell h1, k.cell h2, k.cell h3, IntsR.kept h4 k⟩
theorem PartsR.kept {v : Value} {l : List Pt} (h : PartsR w v l) (k : Kept w w') : PartsR w' v l := Row.mono h fun _ _ _ h => PartAt.kept h k
theorem NeedAt.kept {n : Ne} (h : NeedAt w b o n) (k : Kept w w') : NeedAt w' b o n := by
  obtain ⟨s, h1, h2, h3, h4, h5, h6⟩ := h
  exact ⟨s, k.cell h1, k.cell h2, k.cell h3, k.cell h4, k.cell h5, PartsR.kept h6 k⟩
theorem NeedsR.kept {v : Value} {l : List Ne} (h : NeedsR w v l) (k : Kept w w') : NeedsR w' v l := Row.mono h fun _ _ _ h => NeedAt.kept h k
end

/-- As values. -/
def PartV (w : World) (v : Value) (p : Pt) : Prop := ∃ a c, v = .agg #[.slice a p.kinds.length c, .int .i64 p.cnt, .int .i64 p.more] ∧ IntsR w (.slice a p.kinds.length c) p.kinds
def NeedV (w : World) (v : Value) (n : Ne) : Prop := ∃ a c, v = .agg #[.int .i64 n.text, .int .i64 n.typ, .string n.words, .int .i64 n.most, .slice a n.kids.length c] ∧ PartsR w (.slice a n.kids.length c) n.kids
theorem PartV.kept {w w' : World} {v : Value} {p : Pt} (h : PartV w v p) (k : Kept w w') : PartV w' v p := by
  obtain ⟨a, c, e, h⟩ := h; exact ⟨a, c, e, IntsR.kept h k⟩
theorem NeedV.kept {w w' : World} {v : Value} {n : Ne} (h : NeedV w v n) (k : Kept w w') : NeedV w' v n := by
  obtain ⟨a, c, e, h⟩ := h; exact ⟨a, c, e, PartsR.kept h k⟩

/-- A block's cells are a list of things, k cells each. -/
theorem row_of_blk {α : Type} {k : Nat} {R : World → Nat → Nat → α → Prop} {w : World} {g c : Nat} {t : TypeId} {cs : Array Value} {l : List α} (hb : Blk w g t cs) (hc : l.length ≤ c) (hm : c ≤ maxLen) (hR : ∀ i x, l[i]? = some x → R w g (i * k) x) :
    Row k R w (.slice (some ⟨g, 0, none⟩) l.length c) l := ⟨_, c, rfl, hc, hm, fun i x hx => ⟨g, 0, rfl, by rw [Nat.zero_add]; exact hR i x hx⟩⟩

theorem exU_next {k : Nat} (h7 : 7 ≤ k) : exU (k + 1) = exU k ++ (if k = 15 then [] else [(k : Int)]) := by
  unfold exU
  rw [show k + 1 - 7 = (k - 7) + 1 by omega, List.range'_concat, List.filter_append, List.map_append, show 7 + 1 * (k - 7) = k by omega]
  by_cases h : k = 15
  · subst h; rfl
  · rw [if_neg h]; simp [h]
theorem exU_len (k : Nat) : (exU k).length ≤ k := by
  unfold exU
  rw [List.length_map]
  refine Nat.le_trans (List.length_filter_le _ _) ?_
  simp

theorem info_int : (Tryd.prog.info? 3).map (fun i => (i.zero, i.size, i.bytes)) = some (some (.int .i64 0), 1, 8) := by kernel_rfl
def intC (x : Int) : List Value := [.int .i64 x]
theorem intC_len (x : Int) : (intC x).length = 1 := rfl
theorem src_int {w : World} {g : Nat} {x : Int} (h : Blk w g 3 #[.int .i64 x]) : Src Tryd.prog 1 71 (.slice (some ⟨g, 0, none⟩) 1 1) 1 (intC x) w := by
  refine Src.ofSlice w Tryd.underlying71 ⟨g, 0, none⟩ 1 1 _ rfl ?_ ?_
  · intro j u hu
    rw [Addr.add_lit, Nat.zero_add, h.cell j]
    simpa [intC] using hu
  · intro u hu
    simp only [intC, List.mem_cons, List.not_mem_nil, or_false] at hu
    subst hu; rfl
theorem ints_of_owns {w : World} {base : Nat} {v : Value} {l : List Int} (h : w.ownsRow base 3 1 v l.length (l.flatMap intC)) : IntsR w v l := by
  have hc := fun g => h.cells (g := g)
  rcases h.2 with ⟨rfl, h0⟩ | ⟨g, cap, cur, rfl, hb, hh, hn, hm, hcs, htk⟩
  · have : l = [] := List.eq_nil_of_length_eq_zero h0
    subst this
    exact ⟨none, 0, rfl, Nat.le_refl _, Nat.zero_le _, fun i x h => by simp at h⟩
  · refine ⟨_, cap, rfl, hn, hm, fun i x hx => ⟨g, 0, rfl, ?_⟩⟩
    have := hc g rfl i (.int .i64 x) (by
      have := flat_at intC intC_len l i 0 x hx (by omega)
      rw [Nat.mul_one, Nat.add_zero] at this
      rw [this]; rfl)
    unfold IntAt
    simpa [Addr.add_lit] using this
theorem rown_ge {w : World} {base k : Nat} {e : TypeId} {v : Value} {n : Nat} {xs : List Value} (h : w.ownsRow base e k v n xs) {g : Nat} (hg : v.ownBlock = some g) : base ≤ g := by
  rcases h.2 with ⟨rfl, _⟩ | ⟨g', cap, cur, rfl, hb, _⟩
  · simp [Value.ownBlock] at hg
  · have : g' = g := by simpa [Value.ownBlock] using hg
    omega

set_option maxHeartbeats 4000000 in
theorem expr_c (w : World) : Calls Tryd.prog 41 #[] w fun e w' => ∃ a c, e = .returned (.slice a exprK.length c) ∧ w'.ownsRow w.heap.size 3 1 (.slice a exprK.length c) exprK.length (exprK.flatMap intC) ∧ Kept w w' := by
  obtain ⟨i0, hi, hz0, hzz1, hzz2⟩ := info_parts info_int
  go_enter Tryd.func41, Tryd.ntmps41
  go_wp2_with fail
  go_loopw [1, 2] (fun r i wr => ∃ (k : Nat) (a : Option Addr) (c : Nat), 7 ≤ k ∧ k ≤ 30 ∧ i = .int .i64 k ∧ r = .slice a (exU k).length c ∧ Hid (wr.ownsRow w.heap.size 3 1 (.slice a (exU k).length c) (exU k).length ((exU k).flatMap intC)) ∧ Kept w wr) (fun r i wr => 30 - (intOf i).toNat)
  case atStart => exact ⟨7, none, 0, by omega, by omega, rfl, rfl, Lib.hid (World.ownsRow_nil _ _ _ _), Kept.refl _⟩
  case round =>
    obtain ⟨k, a, c, h7, h30, rfl, rfl, HR, hkp⟩ := hrel
    have hex := exU_next h7
    have hlen := exU_len k
    have HK := Lib.hid hkp
    have hsz := hkp.size
    clear hkp
    by_cases hlt : k < 30
    · have hltI : (k : Int) ≤ 29 := by omega
      by_cases h15 : k = 15
      · rw [if_pos h15, List.append_nil] at hex
        have HE := Lib.hid hex
        have hne : ((k : Int) != 15) = false := by simp; omega
        clear hex hlen
        generalize hq : exU k = l at HR HE ⊢
        clear hq
        go_wp2_with fail
        go_roundw
        case rel => exact ⟨k + 1, a, c, by omega, by omega, by go_num, by rw [HE.out], Lib.hid (by rw [HE.out]; exact HR.out), HK.out⟩
        case measure => simp [intOf]; omega
      · rw [if_neg h15] at hex
        have HE := Lib.hid hex
        have hne : ((k : Int) != 15) = true := by simp; omega
        clear hex
        generalize hq : exU k = l at HR HE hlen ⊢
        clear hq
        obtain ⟨W2, hW2⟩ : ∃ W2, wr.alloc (.cells #[.int .i64 (k : Int)] 3) = W2 := ⟨_, rfl⟩
        have k2 : Kept wr W2 := by rw [← hW2]; exact (Kept.refl wr).alloc _
        have b2 : Blk W2 wr.heap.size 3 #[.int .i64 (k : Int)] := by rw [← hW2]; exact Blk.new wr _ _
        have HSR := Lib.hid (src_int b2)
        have HR2 := Lib.hid (owns_kept HR.out k2)
        have HK2 := Lib.hid (HK.out.trans k2)
        have hsz2 : w.heap.size ≤ W2.heap.size := Nat.le_trans hsz k2.size
        have HW2 := Lib.hid hW2
        clear hW2 k2 b2
        go_wp2_with (first | rw [HW2.out] | (at_builtin; refine wpList_apk rfl (.tmp 9) (.tmp 11) 71 71 rfl w.heap.size 1 3 i0 _ 8 Tryd.underlying71 hi hz0 hzz1 hzz2 rfl rfl HR2.out rfl HSR.out (by unfold maxLen; omega) (by omega) hsz2 ?_; intro v' w4 hown' hgrow hlies; have HN := Lib.hid hown'; have HK4 := Lib.hid (HK2.out.grown hgrow fun k e => rown_ge HR2.out e); obtain ⟨va', vc', rfl⟩ := slice_of_owns hown'; clear hown' hgrow hlies))
        go_roundw
        case rel => exact ⟨k + 1, va', vc', by omega, by omega, by go_num, by rw [HE.out, List.length_append]; rfl, Lib.hid (by rw [HE.out, List.length_append, List.flatMap_append]; exact HN.out), HK4.out⟩
        case measure => simp [intOf]; omega
    · obtain rfl : k = 30 := by omega
      have HRN := Lib.hid (show wr.ownsRow w.heap.size 3 1 (.slice a exprK.length c) exprK.length (exprK.flatMap intC) from HR.out)
      rw [show exU 30 = exprK from rfl]
      go_wp2_with fail
      go_ret
      exact ⟨a, c, rfl, HRN.out, HK.out⟩

theorem part_results {fn : Func} {p : Tmp} (h : fn.results = #[.cell p 74]) (tmps : Array Value) (W : World) {g : Nat} {x y z : Value}
    (hp : tmps.getD p undef = .pointer (some ⟨g, 0, none⟩)) (hg : Blk W g 74 #[x, y, z]) : (results fn tmps).run Tryd.prog W = .ok (.agg #[x, y, z]) W :=
  results_cell_row (P := Tryd.prog) h tmps W g 74 #[x, y, z] (0, 0) _ hp hg Tryd.underlying74 (by rfl) (by kernel_rfl)

theorem ints_one {w : World} {g : Nat} {x : Int} {t : TypeId} (h : Blk w g t #[.int .i64 x]) : IntsR w (.slice (some ⟨g, 0, none⟩) 1 1) [x] :=
  row_of_blk (l := [x]) h (Nat.le_refl _) (by decide) fun i y hy => by
    have hi : i = 0 := by have := (List.getElem?_eq_some_iff.1 hy).1; simp at this; exact this
    subst hi
    simp at hy
    subst hy
    exact h.cell 0

theorem up_c (m k : Int) (w : World) : Calls Tryd.prog 42 #[.int .i64 m, .int .i64 k] w fun e w' => ∃ v, e = .returned v ∧ PartV w' v (pUp m k) ∧ Kept w w' := by
  go_enter Tryd.func42, Tryd.ntmps42
  go_wp2_with fail
  refine bodyPost_ret (part_results (by rfl) _ _ rfl ((Blk.new _ _ _).alloc _)) rfl ⟨_, rfl, ⟨_, _, rfl, ints_one (Blk.at (by simp))⟩, ((Kept.refl w).alloc _).alloc _⟩

/-- What an operation of needs' last row tells. -/
inductive Vk where
  | fn
  | ints (l : List Int)
  | part (p : Pt)
  | parts (l : List Pt)
  | need (n : Ne)
  | needs (l : List Ne)
def Vk.ok : Vk → World → Value → Prop
  | fn, _, v => v = .func (.func 42) #[] #[]
  | ints l, w, v => ∃ a c, v = .slice a l.length c ∧ IntsR w (.slice a l.length c) l
  | part p, w, v => PartV w v p
  | parts l, w, v => ∃ a c, v = .slice a l.length c ∧ PartsR w (.slice a l.length c) l
  | need n, w, v => NeedV w v n
  | needs l, w, v => ∃ a c, v = .slice a l.length c ∧ NeedsR w (.slice a l.length c) l
theorem Vk.kept {k : Vk} {w w' : World} {v : Value} (h : k.ok w v) (hk : Kept w w') : k.ok w' v := by
  cases k with
  | fn => exact h
  | ints l => obtain ⟨a, c, e, h⟩ := h; exact ⟨a, c, e, IntsR.kept h hk⟩
  | part p => exact PartV.kept h hk
  | parts l => obtain ⟨a, c, e, h⟩ := h; exact ⟨a, c, e, PartsR.kept h hk⟩
  | need n => exact NeedV.kept h hk
  | needs l => obtain ⟨a, c, e, h⟩ := h; exact ⟨a, c, e, NeedsR.kept h hk⟩

def paC (q : Pt × Value) : List Value := [q.2, .int .i64 q.1.cnt, .int .i64 q.1.more]
def neC (q : Ne × Value) : List Value := [.int .i64 q.1.text, .int .i64 q.1.typ, .string q.1.words, .int .i64 q.1.most, q.2]
theorem parts_row {w : World} {g : Nat} {t : TypeId} (l : List (Pt × Value)) (h : ∀ q ∈ l, IntsR w q.2 q.1.kinds) (hb : Blk w g t (l.flatMap paC).toArray) (hm : l.length ≤ maxLen) : PartsR w (.slice (some ⟨g, 0, none⟩) (l.map (·.1)).length l.length) (l.map (·.1)) :=
  row_of_blk hb (by simp) hm fun i x hx => by
    rw [List.getElem?_map] at hx
    obtain ⟨q, hq, rfl⟩ := Option.map_eq_some_iff.1 hx
    have e : ∀ j v, (paC q)[j]? = some v → w.cell? ⟨g, i * 3 + j, none⟩ = some v := fun j v hv => by
      have hj : j < 3 := (List.getElem?_eq_some_iff.1 hv).1
      rw [hb.cell (i * 3 + j), List.getElem?_toArray, flat_at paC (fun _ => rfl) l i j q hq hj]
      exact hv
    exact ⟨q.2, e 0 _ rfl, e 1 _ rfl, e 2 _ rfl, h q (List.mem_of_getElem? hq)⟩
theorem needs_row {w : World} {g : Nat} {t : TypeId} (l : List (Ne × Value)) (h : ∀ q ∈ l, PartsR w q.2 q.1.kids) (hb : Blk w g t (l.flatMap neC).toArray) (hm : l.length ≤ maxLen) : NeedsR w (.slice (some ⟨g, 0, none⟩) (l.map (·.1)).length l.length) (l.map (·.1)) :=
  row_of_blk hb (by simp) hm fun i x hx => by
    rw [List.getElem?_map] at hx
    obtain ⟨q, hq, rfl⟩ := Option.map_eq_some_iff.1 hx
    have e : ∀ j v, (neC q)[j]? = some v → w.cell? ⟨g, i * 5 + j, none⟩ = some v := fun j v hv => by
      have hj : j < 5 := (List.getElem?_eq_some_iff.1 hv).1
      rw [hb.cell (i * 5 + j), List.getElem?_toArray, flat_at neC (fun _ => rfl) l i j q hq hj]
      exact hv
    exact ⟨q.2, e 0 _ rfl, e 1 _ rfl, e 2 _ rfl, e 3 _ rfl, e 4 _ rfl, h q (List.mem_of_getElem? hq)⟩

/-- A slot that no operation of the region writes. -/
def noSlot (ops : Array Oper) (t : Tmp) : Bool := (List.range ops.size).all fun j => dstOf ops j != some t
theorem FlowAt.at {ops : Array Oper} {V : Nat → World → Value → Prop} {a0 : Act} {w0 : World} {done : Nat → Prop} {a : Act} {w : World} (h : FlowAt ops V a0 w0 done a w) {t : Tmp} (ht : noSlot ops t = true) : a.tmps[t]? = a0.tmps[t]? := by
  refine h.other t fun j hj => ?_
  simp only [noSlot, List.all_eq_true, List.mem_range, bne_iff_ne] at ht
  rcases Nat.lt_or_ge j ops.size with h' | h'
  · exact ht j h' hj
  · unfold dstOf at hj; rw [Array.getElem?_eq_none h'] at hj; cases hj

end Go.Proofs.YtgdmcdjkmgpkpaaDoor
