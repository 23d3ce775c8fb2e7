/- A relation in memory, and the contract of its goes. The pairs of types at the same places of two shapes' members: the contract of the iterator, and a range over it. The contract of a relation's holds: a range over the pairs of two shapes' types. The contract of a relation's strike: pairs are struck out till nothing changes; what is left is the greatest relation. -/
import Derived.Test.YtjdkegfckkbpeaaGreatDoorQTkk
import Derived.Test.YtjdkegfckkbpeaaGreatDoorQz4
import Derived.Test.YtjdkegfckkbpeaaGreatDoorQz6
import Derived.Test.YtjdkegfckkbpeaaGreatDoorQz2
import Derived.StillTailTactics
import Derived.Deep.LoopGhost
import Derived.WalkMore
import Derived.IntWalk
set_option linter.unusedSimpArgs false
set_option linter.unusedVariables false
set_option maxRecDepth 100000
namespace Go.Proofs.YtjdkegfckkbpeaaGreatDoor
open Go.ChangeShapes Go.WideShapes Go.ChangeAt Go.RowKit
/-- The block of a relation: its shapes, and which pairs are left. -/
def RelAt (w : World) (g : Nat) (sv : Value) (F : Nat → Nat → Bool) : Prop :=
 ∃ cs : Array Value, Blk w g 127 cs ∧ cs.size = 1601 ∧ cs[0]? = some sv ∧ ∀ i k, i < 40 → k < 40 → cs[1 + i * 40 + k]? = some (.bool (F i k))
theorem RelAt.lt {w : World} {g : Nat} {sv : Value} {F : Nat → Nat → Bool} (h : RelAt w g sv F) : g < w.heap.size := by obtain ⟨cs, h, _⟩ := h; exact h.lt
theorem RelAt.kept {w w' : World} {g : Nat} {sv : Value} {F : Nat → Nat → Bool} (h : RelAt w g sv F) (k : Kept w w') : RelAt w' g sv F := by
 obtain ⟨cs, h, r⟩ := h; exact ⟨cs, h.kept k, r⟩
theorem RelAt.only {w w' : World} {g : Nat} {sv : Value} {F : Nat → Nat → Bool} {S : Nat → Prop} (h : RelAt w g sv F) (k : Only S w w') (hs : ¬ S g) : RelAt w' g sv F := by
 obtain ⟨cs, h, r⟩ := h; exact ⟨cs, h.only k hs, r⟩
theorem RelAt.shapes {w : World} {g : Nat} {sv : Value} {F : Nat → Nat → Bool} (h : RelAt w g sv F) : w.cell? ⟨g, 0, none⟩ = some sv := by
 obtain ⟨cs, h, _, h0, _⟩ := h; rw [h.cell]; exact h0
theorem RelAt.at {w : World} {g : Nat} {sv : Value} {F : Nat → Nat → Bool} (h : RelAt w g sv F) {i k : Nat} (hi : i < 40) (hk : k < 40) : w.cell? ⟨g, 1 + i * 40 + k, none⟩ = some (.bool (F i k)) := by
 obtain ⟨cs, h, _, _, h1⟩ := h; rw [h.cell]; exact h1 i k hi hk
/-- One pair is told otherwise. -/
theorem RelAt.put {w : World} {g : Nat} {sv : Value} {F : Nat → Nat → Bool} (h : RelAt w g sv F) {i k : Nat} (hi : i < 40) (hk : k < 40) (b : Bool) :
  RelAt (w.setCell ⟨g, 1 + i * 40 + k, none⟩ (.bool b)) g sv (fun i' k' => if i' = i ∧ k' = k then b else F i' k') := by
 obtain ⟨cs, h1, h2, h3, h4⟩ := h
 refine ⟨_, h1.put _ _, by simpa using h2, ?_, fun i' k' hi' hk' => ?_⟩
 ·rw [Array.getElem?_setIfInBounds]
  rw [if_neg (by omega)]
  exact h3
 ·rw [Array.getElem?_setIfInBounds]
  by_cases e : i' = i ∧ k' = k
  ·obtain ⟨rfl, rfl⟩ := e
   rw [if_pos rfl, if_pos (by omega)]
   simp
  ·rw [if_neg (by omega), h4 i' k' hi' hk']
   dsimp only
   rw [if_neg e]
set_option maxHeartbeats 2000000 in
theorem cgoes_c (F : Nat → Nat → Bool) (sv : Value) (g : Nat) (a b : Int) (w : World) (h : RelAt w g sv F) (ha : a < 40) (hb : b < 40) :
  Calls Tryz.prog 55 #[.pointer (some ⟨g, 0, none⟩), .int .i64 a, .int .i64 b] w fun e w' => e = .returned (.bool (Tab.goesN F a b)) ∧ w' = w := by
 by_cases h1 : a = b
 ·have hq : Tab.goesN F a b = true := by unfold Tab.goesN; simp [h1]
  rw [hq]
  subst h1
  have d : (a == a) = true := by simp
  go_enter Tryz.func55, Tryz.ntmps55
  go_wp2_with fail
  go_ret
  exact ⟨rfl, rfl⟩
 ·have d1 : (a == b) = false := by simp [h1]
  by_cases h2 : a = -1
  ·have hq : Tab.goesN F a b = true := by unfold Tab.goesN; simp [h2]
   rw [hq]
   have d2 : (a == -1) = true := by simp [h2]
   clear h1 h2
   go_enter Tryz.func55, Tryz.ntmps55
   go_wp2_with fail
   go_ret
   exact ⟨rfl, rfl⟩
  ·have d2 : (a == -1) = false := by simp [h2]
   by_cases h3 : b = -1
   ·have hq : Tab.goesN F a b = true := by unfold Tab.goesN; simp [h3]
    rw [hq]
    have d3 : (b == -1) = true := by simp [h3]
    clear h1 h2 h3
    go_enter Tryz.func55, Tryz.ntmps55
    go_wp2_with fail
    go_ret
    exact ⟨rfl, rfl⟩
   ·have d3 : (b == -1) = false := by simp [h3]
    by_cases h4 : 0 ≤ a
    ·by_cases h5 : 0 ≤ b
     ·obtain ⟨i, rfl⟩ : ∃ i : Nat, a = i := ⟨a.toNat, by omega⟩
      obtain ⟨k, rfl⟩ : ∃ k : Nat, b = k := ⟨b.toNat, by omega⟩
      have hc := h.at (i := i) (k := k) (by omega) (by omega)
      have hq : Tab.goesN F i k = F i k := by unfold Tab.goesN; simp [h1, h2, h3]
      rw [hq]
      generalize F i k = fb at hc ⊢
      clear hq h h1 h2 h3 h4 h5
      go_enter Tryz.func55, Tryz.ntmps55
      go_wp2_with fail
      go_ret
      exact ⟨rfl, rfl⟩
     ·have hq : Tab.goesN F a b = false := by unfold Tab.goesN; simp [h1, h2, h3, h5]
      rw [hq]
      clear hq h h1 h2 h3
      go_enter Tryz.func55, Tryz.ntmps55
      go_wp2_with fail
      go_ret
      exact ⟨rfl, rfl⟩
    ·have hq : Tab.goesN F a b = false := by unfold Tab.goesN; simp [h1, h2, h3, h4]
     rw [hq]
     clear hq h h1 h2 h3
     go_enter Tryz.func55, Tryz.ntmps55
     go_wp2_with fail
     go_ret
     exact ⟨rfl, rfl⟩
end Go.Proofs.YtjdkegfckkbpeaaGreatDoor
namespace Go.Proofs.YtjdkegfckkbpeaaGreatDoor.Tab
def dir (ar : Int) (i : Nat) : Int := if ar < 0 then 3 else if (i : Int) < ar then 2 else 1
/-- A member's types are as many as its arity asks. -/
def TL {α : Type} (m : Mb α) : Prop := m.types.length = if m.ar < 0 then 1 else m.ar.toNat + 1
/-- What is yielded of one member, and of all. -/
abbrev Pr := ByteArray × Int × Int × Int
def prs1 (L : List (Mb Int)) (m : Mb Int) : List Pr := match L.find? fun x => decide (x.name = m.name) with
 | some x => (List.range m.types.length).map fun i => (m.name, x.types.getD i 0, m.types.getD i 0, dir m.ar i)
 | none => []
def prs (L U : List (Mb Int)) : List Pr := U.flatMap (prs1 L)
theorem find_asc {L : List (Mb Int)} (hA : Asc L) {x m : Mb Int} {k : Nat} (hx : L[k]? = some x) (hn : x.name = m.name) : L.find? (fun x => decide (x.name = m.name)) = some x := by
 cases h : L.find? (fun x => decide (x.name = m.name)) with
 | none =>
  have := List.find?_eq_none.1 h x (List.mem_of_getElem? hx)
  simp [hn] at this
 | some y =>
  have h1 := List.find?_some h
  have h2 := List.mem_of_find?_eq_some h
  rw [asc_eq hA hx h2 ((of_decide_eq_true h1).trans hn.symm)]
theorem prs1_at {L : List (Mb Int)} (hA : Asc L) {x m : Mb Int} {k : Nat} (hx : L[k]? = some x) (hn : x.name = m.name) : prs1 L m = (List.range m.types.length).map fun i => (m.name, x.types.getD i 0, m.types.getD i 0, dir m.ar i) := by
 unfold prs1; rw [find_asc hA hx hn]
theorem prs1_next {L : List (Mb Int)} (hA : Asc L) {x m : Mb Int} {k i : Nat} (hx : L[k]? = some x) (hn : x.name = m.name) {a b : Int} (ha : x.types[i]? = some a) (hb : m.types[i]? = some b) : (prs1 L m)[i]? = some (m.name, a, b, dir m.ar i) := by
 rw [prs1_at hA hx hn]
 obtain ⟨hi, _⟩ := List.getElem?_eq_some_iff.1 hb
 rw [List.getElem?_map, List.getElem?_range hi]
 simp [List.getD_eq_getElem?_getD, ha, hb]
theorem prs1_len {L : List (Mb Int)} (hA : Asc L) {x m : Mb Int} {k : Nat} (hx : L[k]? = some x) (hn : x.name = m.name) : (prs1 L m).length = m.types.length := by rw [prs1_at hA hx hn]; simp
theorem has1_of {L U : List (Mb Int)} (h : hasB L U = true) {j : Nat} {m : Mb Int} (hm : U[j]? = some m) : ∃ (k : Nat) (x : Mb Int), L[k]? = some x ∧ x.name = m.name ∧ x.ar = m.ar := by
 unfold hasB at h
 have := List.all_eq_true.1 h m (List.mem_of_getElem? hm)
 obtain ⟨x, hx, e⟩ := List.any_eq_true.1 this
 obtain ⟨k, hk, rfl⟩ := List.getElem_of_mem hx
 unfold alike at e
 simp only [Bool.and_eq_true, decide_eq_true_eq] at e
 exact ⟨k, _, List.getElem?_eq_getElem hk, e.1, e.2⟩
theorem prs_snoc (L U : List (Mb Int)) {j : Nat} {m : Mb Int} (hm : U[j]? = some m) : (U.take (j + 1)).flatMap (prs1 L) = (U.take j).flatMap (prs1 L) ++ prs1 L m := by
 rw [List.take_add_one, hm]; simp
theorem prs_pre (L U : List (Mb Int)) {j i : Nat} {m : Mb Int} (hm : U[j]? = some m) : ((U.take j).flatMap (prs1 L) ++ (prs1 L m).take i) <+: prs L U := by
 have h1 : (U.take (j + 1)).flatMap (prs1 L) <+: prs L U := by
  unfold prs
  conv => rhs; rw [← List.take_append_drop (j + 1) U, List.flatMap_append]
  exact List.prefix_append _ _
 rw [prs_snoc L U hm] at h1
 exact ((List.prefix_append_right_inj _).2 (List.take_prefix _ _)).trans h1
end Go.Proofs.YtjdkegfckkbpeaaGreatDoor.Tab
namespace Go.Proofs.YtjdkegfckkbpeaaGreatDoor
open Go.ChangeShapes Go.WideShapes Go.ChangeAt Go.RowKit Go.Shelf
attribute [local go_sem] Oper.semAt_some
theorem pairsC (u v : Value) (w : World) (hu : ∃ a n c, u = .slice a n c) (hv : ∃ a n c, v = .slice a n c) :
  Calls Tryz.prog 162 #[u, v] w fun e w' => e = .returned (.func (.func 198) #[] #[.pointer (some ⟨w.heap.size + 1, 0, none⟩), .pointer (some ⟨w.heap.size, 0, none⟩)]) ∧
   w' = (w.alloc (.cells #[u] 120)).alloc (.cells #[v] 120) := by
 obtain ⟨_, _, _, rfl⟩ := hu
 obtain ⟨_, _, _, rfl⟩ := hv
 go_enter Tryz.func162, Tryz.ntmps162
 go_wp2_with fail
 go_ret
 exact ⟨rfl, rfl⟩
theorem cdir_c (nm : ByteArray) (ar : Int) (a : Option Addr) (n c i : Nat) (w : World) :
  Calls Tryz.prog 199 #[.agg #[.string nm, .int .i64 ar, .slice a n c], .int .i64 i] w fun e w' => e = .returned (.int .i64 (Tab.dir ar i)) ∧ Kept w w' := by
 by_cases h1 : ar < 0
 ·have hd : Tab.dir ar i = 3 := by unfold Tab.dir; rw [if_pos h1]
  rw [hd]
  clear hd
  go_enter Tryz.func199, Tryz.ntmps199
  go_wp2_with fail
  go_ret
  exact ⟨rfl, (Kept.refl w).alloc _⟩
 ·by_cases h2 : (i : Int) < ar
  ·have hd : Tab.dir ar i = 2 := by unfold Tab.dir; rw [if_neg h1, if_pos h2]
   rw [hd]
   clear hd
   go_enter Tryz.func199, Tryz.ntmps199
   go_wp2_with fail
   go_ret
   exact ⟨rfl, (Kept.refl w).alloc _⟩
  ·have hd : Tab.dir ar i = 1 := by unfold Tab.dir; rw [if_neg h1, if_neg h2]
   rw [hd]
   clear hd
   go_enter Tryz.func199, Tryz.ntmps199
   go_wp2_with fail
   go_ret
   exact ⟨rfl, (Kept.refl w).alloc _⟩
def prC (x : Tab.Pr) : Array Value := #[.string x.1, .agg #[.int .i64 x.2.1, .int .i64 x.2.2.1, .int .i64 x.2.2.2]]
theorem any_statesIn {F : Fence} {n : Nat} {P : Program} {md : Region.Mode} {ops : Array Oper} {Q : Exit → Act → World → Prop} {f : Nat} {mask : Array Bool} {a : Act} {w : World} (k : ∀ G : Nat → Array Bool → Act → World → Prop, G = wpAnyIn F n P md ops Q → wpAnyIn F n P md ops Q f mask a w) : wpAnyIn F n P md ops Q f mask a w := k _ rfl
theorem any_eqIn {F : Fence} {n : Nat} {P : Program} {md : Region.Mode} {ops : Array Oper} {Q : Exit → Act → World → Prop} {G : Nat → Array Bool → Act → World → Prop} (hG : G = wpAnyIn F n P md ops Q) {f f' : Nat} {m m' : Array Bool} {a a' : Act} {w : World} (h1 : f = f') (h2 : m = m') (h3 : a = a') (h : G f' m' a' w) : wpAnyIn F n P md ops Q f m a w := by
 rw [← hG, h1, h2, h3]; exact h
set_option maxHeartbeats 4000000 in
theorem pairs1_own (n : Nat) (hn : 1 ≤ n) (L U : List (Tab.Mb Int)) (a a' : Option Addr) (c c' : Nat) (w0 : World) (bs bu : Nat) (V : Nat → Prop) (W1 : World)
  (h : ShpAt w0 (.slice a L.length c) L) (h' : ShpAt w0 (.slice a' U.length c') U) (hL : Tab.Asc L) (hU : Tab.Asc U) (hLU : Tab.hasB L U = true) (tL : ∀ x ∈ L, Tab.TL x) (tU : ∀ x ∈ U, Tab.TL x)
  (hk : Kept w0 W1) (hbs : Blk W1 bs 120 #[.slice a L.length c]) (hbu : Blk W1 bu 120 #[.slice a' U.length c'])
  (hV : ∀ k, V k → w0.heap.size ≤ k ∧ k < W1.heap.size ∧ k ≠ bs ∧ k ≠ bu) (hb1 : bs + 1 < W1.heap.size) (hb2 : bu + 1 < W1.heap.size) (h0W : w0.heap.size < W1.heap.size) :
  SeqOwn Fence.wide n Tryz.prog 198 #[.pointer (some ⟨bu, 0, none⟩), .pointer (some ⟨bs, 0, none⟩)] prC (fun _ => False) V (· = Tab.prs L U) (· <+: Tab.prs L U) (· <+: Tab.prs L U) 0 W1 := by
 intro l J Jx hl abJ abX hY hJ0
 have c0 := hbu.cell 0
 simp at c0
 have HAL := Lib.hid h
 obtain ⟨y1, y2, e, hlc, hcm, hat'⟩ := h'
 injection e with e1 _ e2
 subst e1 e2
 unfold maxLen at hcm
 have HAT := Lib.hid hat'
 have HY := Lib.hid hY
 have HV := Lib.hid hV
 have HJ := Lib.hid abJ
 have hLm : L.length ≤ 9223372036854775807 := by
  obtain ⟨_, _, e, q1, q2, _⟩ := h
  unfold maxLen at q2
  omega
 refine callsIn_of_wp Tryz.func198 rfl trivial ?_ rfl
 simp only [Tryz.ntmps198, List.size_toArray, List.length_cons, List.length_nil, Nat.reduceAdd, Nat.reduceSub, Array.replicate_succ, Array.replicate_zero, List.push_toArray, List.append_toArray, List.nil_append, List.cons_append]
 clear hY hV abJ hat' h
 gi_wp2
 gi_loopw [4, 11] (fun p q wr => ∃ k j : Nat, k ≤ L.length ∧ j ≤ U.length ∧ p = .int .i64 k ∧ q = .int .i64 j ∧ Kept w0 wr ∧ W1.heap.size ≤ wr.heap.size ∧ Tab.Ahead L k U j ∧ J ((U.take j).flatMap (Tab.prs1 L)) wr ∧ Blk wr bs 120 #[.slice a L.length c] ∧ Blk wr bu 120 #[.slice a' U.length c']) (fun p q wr => U.length - (intOf q).toNat)
 case atStart => exact ⟨0, 0, Nat.zero_le _, Nat.zero_le _, rfl, rfl, hk, Nat.le_refl _, Tab.Ahead.start _ _ _, by simpa using hJ0, hbs, hbu⟩
 case round =>
  obtain ⟨k, j, hk1, hj, rfl, rfl, hkp, hsz, hah, hJj, hB1, hB2⟩ := hrel
  have HKP := Lib.hid hkp
  have HAH := Lib.hid hah
  have HJJ := Lib.hid hJj
  have HB1 := Lib.hid hB1
  have HB2 := Lib.hid hB2
  clear hah hJj hJ0 hk
  obtain ⟨wo, rfl⟩ : ∃ wo, wo = wr := ⟨_, rfl⟩
  by_cases hlt : j < U.length
  ·have hx : U[j]? = some U[j] := List.getElem?_eq_getElem hlt
   obtain ⟨b, o, rfl, hm⟩ := HAT.out j _ hx
   have hTm := tU _ (List.getElem_mem hlt)
   generalize U[j] = m at hx hm hTm
   obtain ⟨m0', m1', ⟨mv, m2', hmv⟩, hms⟩ := hm
   have m0 := hkp.cell m0'
   have m1 := hkp.cell m1'
   have m2 := hkp.cell m2'
   clear m0' m1' m2'
   have HX := Lib.hid hx
   have hltI : (j : Int) < (U.length : Int) := by omega
   have HF := Lib.hid (fun W (kw : Kept w0 W) => cfind_c L a c k m.name W (shp_kept HAL.out kw) hk1)
   obtain ⟨va, vc, rfl, hvc, hvm, hvt⟩ := hmv
   unfold maxLen at hvm
   have HVT := Lib.hid hvt
   obtain ⟨kx, x, hx1, hx2, hx3⟩ := Tab.has1_of hLU HX.out
   have hsk : kx = Tab.seek L k m.name := Tab.seek_hit hL hk1 (HAH.out.at HX.out) hx1 hx2
   have hht : Tab.hit L kx m.name = true := by rw [Tab.hit_at hx1]; exact decide_eq_true hx2
   rw [← hsk, hht] at HF
   have b0 := (HB1.out.alloc (.cells #[.string m.name, .int .i64 m.ar, .slice va m.types.length vc] 170)).cell 0
   simp only [List.getElem?_toArray, List.getElem?_cons_zero] at b0
   have HNX := Lib.hid (Tab.Ahead.next hU HAH.out HX.out)
   rw [← hsk] at HNX
   have HX1 := Lib.hid hx1
   have HX2 := Lib.hid hx2
   have HX3 := Lib.hid hx3
   have hkx : kx < L.length := (List.getElem?_eq_some_iff.1 hx1).1
   have hkxI : (kx : Int) < (L.length : Int) := by omega
   have hTx := tL _ (List.mem_of_getElem? hx1)
   have hlen : x.types.length = m.types.length := by unfold Tab.TL at hTx hTm; rw [hTx, hTm, hx3]
   have HLEN := Lib.hid hlen
   clear hx hkp hms hvt hx1 hx2 hx3 hsk hht hTx hTm hlen
   gi_wp2
   refine ⟨trivial, (callsIn_wide.2 (HF.out _ (HKP.out.alloc _))).mono ?_⟩
   rintro e w1 ⟨rfl, k1⟩
   have hK1 := (HKP.out.alloc (.cells #[.string m.name, .int .i64 m.ar, .slice va m.types.length vc] 170)).trans k1
   have HM := Lib.hid ((Blk.new wo 170 #[.string m.name, .int .i64 m.ar, .slice va m.types.length vc]).kept k1)
   have z2 := HM.out.cell 2
   simp only [List.getElem?_toArray, List.getElem?_cons_zero, List.getElem?_cons_succ] at z2
   have hk2 := (HKP.out.alloc (.cells #[.string m.name, .int .i64 m.ar, .slice va m.types.length vc] 170)).trans k1
   have hO1 : Kept wo w1 := ((Kept.refl wo).alloc _).trans k1
   have hB1' := HB1.out.kept hO1
   have hB2' := HB2.out.kept hO1
   have hJ1 : J ((U.take j).flatMap (Tab.prs1 L)) w1 := HJ.out _ _ _ HJJ.out (Only.of_kept hO1)
   have hs1 : wo.heap.size < w1.heap.size := by have := HM.out.lt; omega
   have HJ1 := Lib.hid hJ1
   have HB1' := Lib.hid hB1'
   have HB2' := Lib.hid hB2'
   have HK2 := Lib.hid hk2
   clear hJ1 hB1' hB2' hk2 hK1 hO1 k1 m0 m1 m2 b0
   gi_wp2
   gi_loopw [26] (fun q wr => ∃ i : Nat, i ≤ m.types.length ∧ q = .int .i64 i ∧ Kept w0 wr ∧ w1.heap.size ≤ wr.heap.size ∧ J ((U.take j).flatMap (Tab.prs1 L) ++ (Tab.prs1 L m).take i) wr ∧ Blk wr bs 120 #[.slice a L.length c] ∧ Blk wr bu 120 #[.slice (some ⟨b, o, none⟩) U.length c'] ∧ Blk wr wo.heap.size 170 #[.string m.name, .int .i64 m.ar, .slice va m.types.length vc]) (fun q wr => m.types.length - (intOf q).toNat)
   case atStart => exact ⟨0, Nat.zero_le _, rfl, HK2.out, Nat.le_refl _, by simpa using HJ1.out, HB1'.out, HB2'.out, HM.out⟩
   case round =>
    obtain ⟨i, hi, rfl, hkr, hszr, hJr, hb1r, hb2r, hmr⟩ := hrel
    have HKR := Lib.hid hkr
    have HJR := Lib.hid hJr
    have HB1R := Lib.hid hb1r
    have HB2R := Lib.hid hb2r
    have HMR := Lib.hid hmr
    by_cases hil : i < m.types.length
    ·have hy : m.types[i]? = some m.types[i] := List.getElem?_eq_getElem hil
     have hilI : (i : Int) < (m.types.length : Int) := by omega
     obtain ⟨vb, vo, rfl, hvi⟩ := HVT.out _ _ hy
     have e1 : (vo + i * 1) = vo + i := by omega
     rw [e1] at hvi
     have hy' := hvi
     unfold IntAt at hy'
     have hv0 := hkr.cell hy'
     generalize m.types[i] = mt at hy hvi hy' hv0
     obtain ⟨sb, so, rfl, hxm⟩ : ∃ b2 o2, a = some ⟨b2, o2, none⟩ ∧ MbAt w0 b2 (o2 + kx * 3) x := by
      obtain ⟨y1, y2, e, _, _, q⟩ := HAL.out
      injection e with e1 _ _
      subst e1
      exact q _ _ HX1.out
     obtain ⟨_, _, ⟨xv, x2, hxv⟩, _⟩ := hxm.kept hkr
     obtain ⟨ta, tc, rfl, htc, htm, hxt⟩ := hxv
     unfold maxLen at htm
     have hix : i < x.types.length := by rw [HLEN.out]; exact hil
     have hz : x.types[i]? = some x.types[i] := List.getElem?_eq_getElem hix
     obtain ⟨tb, to, rfl, hti⟩ := hxt _ _ hz
     have e2 : (to + i * 1) = to + i := by omega
     rw [e2] at hti
     have hx0 := hti
     unfold IntAt at hx0
     generalize x.types[i] = xt at hz hti hx0
     have hixI : (i : Int) < (x.types.length : Int) := by omega
     have g0 := hb1r.cell 0
     have g1 := hmr.cell 0
     have g2 := hmr.cell 1
     have g3 := hmr.cell 2
     simp only [List.getElem?_toArray, List.getElem?_cons_zero, List.getElem?_cons_succ] at g0 g1 g2 g3
     have HP := Lib.hid (Tab.prs1_next hL HX1.out HX2.out hz hy)
     have HD := Lib.hid (fun W => cdir_c m.name m.ar (some ⟨vb, vo, none⟩) m.types.length vc i W)
     clear hkr hJr hb1r hb2r hmr hy hvi hy' hxm hxt hz hti hbs e1 e2
     gi_wp2
     clear HVT HF HAL HAT
     refine wpIn_region_any (by kernel_rfl) ?_
     change wpAnyIn _ _ _ _ _ _ _ _ _ (World.drew _)
     refine any_statesIn (fun G hG => ?_)
     have hs0' : ∀ w7, Kept wr.drew w7 → G 2 #[true, true, true, true, true, true, true, true, true, true, true, true, true, true, true, true, false, false] { tmps := #[.func (.yield l) #[] #[], .pointer (some ⟨bu, 0, none⟩), .pointer (some ⟨bs, 0, none⟩), undef, .int .i64 (kx : Nat), undef, .pointer (some ⟨wo.heap.size, 0, none⟩), .int .i64 (i : Nat), .int .i64 mt, .slice (some ⟨b, o, none⟩) U.length c', .int .i64 (U.length : Nat), .int .i64 (j : Nat), .bool true, .pointer (some ⟨b, o + j * 3, none⟩), .agg #[.string m.name, .int .i64 m.ar, .slice (some ⟨vb, vo, none⟩) m.types.length vc], .tuple #[.int .i64 (kx : Nat), .bool true], .slice (some ⟨sb, so, none⟩) L.length c, .int .i64 (k : Nat), .pointer (some ⟨wo.heap.size, 0, none⟩), .string m.name, .tuple #[.int .i64 (kx : Nat), .bool true], .int .i64 (kx : Nat), .bool true, .pointer (some ⟨wo.heap.size, 2, none⟩), .slice (some ⟨vb, vo, none⟩) m.types.length vc, .int .i64 (m.types.length : Nat), .int .i64 (i : Nat), .bool true, .int .i64 (i : Nat), .pointer (some ⟨vb, vo + i, none⟩), .int .i64 mt, .func (.yield l) #[] #[], .pointer (some ⟨wo.heap.size, 0, none⟩), .string m.name, .slice (some ⟨sb, so, none⟩) L.length c, .int .i64 (kx : Nat), .pointer (some ⟨sb, so + kx * 3, none⟩), .pointer (some ⟨sb, so + kx * 3 + 2, none⟩), .slice (some ⟨tb, to, none⟩) x.types.length tc, .int .i64 (i : Nat), .pointer (some ⟨tb, to + i, none⟩), .int .i64 xt, .int .i64 mt, .agg #[.string m.name, .int .i64 m.ar, .slice (some ⟨vb, vo, none⟩) m.types.length vc], .int .i64 (i : Nat), .int .i64 (Tab.dir m.ar i), .agg #[.int .i64 xt, .int .i64 mt, .int .i64 (Tab.dir m.ar i)], u47, u48, u49, u50], defers := [] } w7 := by
      intro w7 k7
      have q0 := k7.cell (w := wr.drew) g0
      have q1 := k7.cell (w := wr.drew) g1
      have q2 := k7.cell (w := wr.drew) g2
      have q3 := k7.cell (w := wr.drew) g3
      have q4 := k7.cell (w := wr.drew) x2
      have q5 := k7.cell (w := wr.drew) hx0
      have HK7 := Lib.hid k7
      clear k7
      rw [hG]
      have hJ7 : J ((U.take j).flatMap (Tab.prs1 L) ++ (Tab.prs1 L m).take i) w7 := HJ.out _ _ _ HJR.out (Only.of_kept (((Kept.refl wr).drew).trans HK7.out))
      have htk : (Tab.prs1 L m).take (i + 1) = (Tab.prs1 L m).take i ++ [(m.name, xt, mt, Tab.dir m.ar i)] := by rw [List.take_add_one, HP.out]; rfl
      have hpre := Tab.prs_pre L U (i := i + 1) HX.out
      rw [htk, ← List.append_assoc] at hpre
      have hs7 := HK7.out.size
      have hk7 := HKR.out.drew.trans HK7.out
      have hb17 := (HB1R.out.drew).kept HK7.out
      have hb27 := (HB2R.out.drew).kept HK7.out
      have hm7 := (HMR.out.drew).kept HK7.out
      have hsd : wr.drew.heap.size = wr.heap.size := rfl
      obtain ⟨fn, tmps, assign, body, hy, hR⟩ := HY.out _ (m.name, xt, mt, Tab.dir m.ar i) w7 hJ7 hpre (by omega)
      simp only [prC] at hy
      have HTK := Lib.hid htk
      have HPR := Lib.hid hpre
      have HK0 := Lib.hid hk7
      have HB17 := Lib.hid hb17
      have HB27 := Lib.hid hb27
      have HM7 := Lib.hid hm7
      clear hJ7 htk hpre hs7 hk7 hb17 hb27 hm7 hsd q0 q1 q2 q3 q4 q5
      refine wpAnyIn_ready (rs := [16]) (by kernel_rfl) (by simp) ?_
      refine AllReadyIn.cons rfl (fun K hK => ?_) ?_
      ·go_simp
       gi_wp2
       refine hR.mono ?_
       rintro e W3 (⟨rfl, hJ3, hk3⟩ | ⟨rfl, hJx3⟩)
       ·have hl0 : w0.heap.size ≤ l := by omega
        have hk8 := HK0.out.onlyS hk3 (fun k h => h.elim (fun h => (HV.out k h).1) (by omega))
        have hb8 := HB17.out.only hk3 (fun h => h.elim (fun h => (HV.out _ h).2.2.1 rfl) (by omega))
        have hb9 := HB27.out.only hk3 (fun h => h.elim (fun h => (HV.out _ h).2.2.2 rfl) (by omega))
        have hm9 := HM7.out.only hk3 (fun h => h.elim (fun h => by have := (HV.out _ h).2.1; omega) (by omega))
        have hs9 := hk3.size
        have hs7 := HK7.out.size
        have hsd : wr.drew.heap.size = wr.heap.size := rfl
        rw [List.append_assoc, ← HTK.out] at hJ3
        have HE := Lib.hid hJ3
        have HE1 := Lib.hid hk8
        have HE2 := Lib.hid hb8
        have HE3 := Lib.hid hb9
        have HE4 := Lib.hid hm9
        have hle : w1.heap.size ≤ W3.heap.size := by omega
        clear hJ3 hk3 hk8 hb8 hb9 hm9 hs9 hs7 hsd hR hl0
        gi_wp2
        refine wpAnyIn_take (i := 17) (v := .bool false) rfl rfl (by kernel_rfl) (by kernel_rfl) (by kernel_rfl) (fun _ _ _ h => h) ⟨Or.inl ⟨by kernel_rfl, by intro w; kernel_rfl⟩, fun _ => rfl⟩ ?_
        refine wpAnyIn_done (by kernel_rfl) ?_ _
        gi_wp2
        go_roundw
        case rel => exact ⟨i + 1, by omega, by go_num, HE1.out, hle, HE.out, HE2.out, HE3.out, HE4.out⟩
        case measure => simp [intOf]; omega
       ·gi_wp2
        refine wpAnyIn_take (i := 17) (v := .bool true) rfl rfl (by kernel_rfl) (by kernel_rfl) (by kernel_rfl) (fun _ _ _ h => h) ⟨Or.inl ⟨by kernel_rfl, by intro w; kernel_rfl⟩, fun _ => rfl⟩ ?_
        refine wpAnyIn_done (by kernel_rfl) ?_ _
        gi_wp2
        refine bodyPost_ret (results_none rfl _ _ _) rfl ?_
        exact ⟨⟨_, rfl⟩, .inr ⟨_, HPR.out, hJx3⟩⟩
      ·exact AllReadyIn.nil
     have hs0 := Lib.hid hs0'
     clear hs0'
     have hs1' : G 4 #[true, true, true, true, true, true, true, true, true, true, true, true, true, true, false, false, false, false] { tmps := #[.func (.yield l) #[] #[], .pointer (some ⟨bu, 0, none⟩), .pointer (some ⟨bs, 0, none⟩), undef, .int .i64 (kx : Nat), undef, .pointer (some ⟨wo.heap.size, 0, none⟩), .int .i64 (i : Nat), .int .i64 mt, .slice (some ⟨b, o, none⟩) U.length c', .int .i64 (U.length : Nat), .int .i64 (j : Nat), .bool true, .pointer (some ⟨b, o + j * 3, none⟩), .agg #[.string m.name, .int .i64 m.ar, .slice (some ⟨vb, vo, none⟩) m.types.length vc], .tuple #[.int .i64 (kx : Nat), .bool true], .slice (some ⟨sb, so, none⟩) L.length c, .int .i64 (k : Nat), .pointer (some ⟨wo.heap.size, 0, none⟩), .string m.name, .tuple #[.int .i64 (kx : Nat), .bool true], .int .i64 (kx : Nat), .bool true, .pointer (some ⟨wo.heap.size, 2, none⟩), .slice (some ⟨vb, vo, none⟩) m.types.length vc, .int .i64 (m.types.length : Nat), .int .i64 (i : Nat), .bool true, .int .i64 (i : Nat), .pointer (some ⟨vb, vo + i, none⟩), .int .i64 mt, .func (.yield l) #[] #[], .pointer (some ⟨wo.heap.size, 0, none⟩), .string m.name, .slice (some ⟨sb, so, none⟩) L.length c, .int .i64 (kx : Nat), .pointer (some ⟨sb, so + kx * 3, none⟩), .pointer (some ⟨sb, so + kx * 3 + 2, none⟩), .slice (some ⟨tb, to, none⟩) x.types.length tc, .int .i64 (i : Nat), .pointer (some ⟨tb, to + i, none⟩), .int .i64 xt, .int .i64 mt, .agg #[.string m.name, .int .i64 m.ar, .slice (some ⟨vb, vo, none⟩) m.types.length vc], .int .i64 (i : Nat), u45, u46, u47, u48, u49, u50], defers := [] } wr.drew := by
      rw [hG]
      refine wpAnyIn_ready (rs := [14]) (by kernel_rfl) (by simp) ?_
      refine AllReadyIn.cons rfl (fun K hK => ?_) ?_
      ·go_simp
       gi_wp2
       refine ⟨trivial, (callsIn_wide.2 (HD.out _)).mono ?_⟩
       rintro e w7 ⟨rfl, k7⟩
       have HK7 := Lib.hid k7
       clear k7
       dsimp only
       refine hK _ _ ?_; clear hK K
       refine wpAnyIn_take (i := 15) (v := .agg #[.int .i64 xt, .int .i64 mt, .int .i64 (Tab.dir m.ar i)]) rfl rfl (by kernel_rfl) (by kernel_rfl) (by kernel_rfl) (fun _ _ _ h => h) ⟨Or.inl ⟨by kernel_rfl, by intro w; kernel_rfl⟩, fun _ => rfl⟩ ?_
       exact aI hG (hs0.out _ HK7.out)
      exact AllReadyIn.nil
     have hs1 := Lib.hid hs1'
     clear hs1'
     have hs2' : G 5 #[true, true, true, true, true, true, true, true, true, true, true, true, false, true, false, false, false, false] { tmps := #[.func (.yield l) #[] #[], .pointer (some ⟨bu, 0, none⟩), .pointer (some ⟨bs, 0, none⟩), undef, .int .i64 (kx : Nat), undef, .pointer (some ⟨wo.heap.size, 0, none⟩), .int .i64 (i : Nat), .int .i64 mt, .slice (some ⟨b, o, none⟩) U.length c', .int .i64 (U.length : Nat), .int .i64 (j : Nat), .bool true, .pointer (some ⟨b, o + j * 3, none⟩), .agg #[.string m.name, .int .i64 m.ar, .slice (some ⟨vb, vo, none⟩) m.types.length vc], .tuple #[.int .i64 (kx : Nat), .bool true], .slice (some ⟨sb, so, none⟩) L.length c, .int .i64 (k : Nat), .pointer (some ⟨wo.heap.size, 0, none⟩), .string m.name, .tuple #[.int .i64 (kx : Nat), .bool true], .int .i64 (kx : Nat), .bool true, .pointer (some ⟨wo.heap.size, 2, none⟩), .slice (some ⟨vb, vo, none⟩) m.types.length vc, .int .i64 (m.types.length : Nat), .int .i64 (i : Nat), .bool true, .int .i64 (i : Nat), .pointer (some ⟨vb, vo + i, none⟩), .int .i64 mt, .func (.yield l) #[] #[], .pointer (some ⟨wo.heap.size, 0, none⟩), .string m.name, .slice (some ⟨sb, so, none⟩) L.length c, .int .i64 (kx : Nat), .pointer (some ⟨sb, so + kx * 3, none⟩), .pointer (some ⟨sb, so + kx * 3 + 2, none⟩), .slice (some ⟨tb, to, none⟩) x.types.length tc, .int .i64 (i : Nat), .pointer (some ⟨tb, to + i, none⟩), .int .i64 xt, .int .i64 mt, u43, .int .i64 (i : Nat), u45, u46, u47, u48, u49, u50], defers := [] } wr.drew := by
      rw [hG]
      refine wpAnyIn_ready (rs := [12]) (by kernel_rfl) (by simp) ?_
      refine AllReadyIn.cons rfl (fun K hK => ?_) ?_
      ·go_simp
       refine hK _ _ ?_; clear hK K
       exact aI hG hs1.out
      exact AllReadyIn.nil
     have hs2 := Lib.hid hs2'
     clear hs2'
     have hs3' : ∀ w7, Kept wr.drew w7 → G 4 #[true, true, true, true, true, true, true, true, true, true, false, true, true, true, true, false, false, false] { tmps := #[.func (.yield l) #[] #[], .pointer (some ⟨bu, 0, none⟩), .pointer (some ⟨bs, 0, none⟩), undef, .int .i64 (kx : Nat), undef, .pointer (some ⟨wo.heap.size, 0, none⟩), .int .i64 (i : Nat), .int .i64 mt, .slice (some ⟨b, o, none⟩) U.length c', .int .i64 (U.length : Nat), .int .i64 (j : Nat), .bool true, .pointer (some ⟨b, o + j * 3, none⟩), .agg #[.string m.name, .int .i64 m.ar, .slice (some ⟨vb, vo, none⟩) m.types.length vc], .tuple #[.int .i64 (kx : Nat), .bool true], .slice (some ⟨sb, so, none⟩) L.length c, .int .i64 (k : Nat), .pointer (some ⟨wo.heap.size, 0, none⟩), .string m.name, .tuple #[.int .i64 (kx : Nat), .bool true], .int .i64 (kx : Nat), .bool true, .pointer (some ⟨wo.heap.size, 2, none⟩), .slice (some ⟨vb, vo, none⟩) m.types.length vc, .int .i64 (m.types.length : Nat), .int .i64 (i : Nat), .bool true, .int .i64 (i : Nat), .pointer (some ⟨vb, vo + i, none⟩), .int .i64 mt, .func (.yield l) #[] #[], .pointer (some ⟨wo.heap.size, 0, none⟩), .string m.name, .slice (some ⟨sb, so, none⟩) L.length c, .int .i64 (kx : Nat), .pointer (some ⟨sb, so + kx * 3, none⟩), .pointer (some ⟨sb, so + kx * 3 + 2, none⟩), .slice (some ⟨tb, to, none⟩) x.types.length tc, .int .i64 (i : Nat), .pointer (some ⟨tb, to + i, none⟩), u41, .int .i64 mt, .agg #[.string m.name, .int .i64 m.ar, .slice (some ⟨vb, vo, none⟩) m.types.length vc], .int .i64 (i : Nat), .int .i64 (Tab.dir m.ar i), u46, u47, u48, u49, u50], defers := [] } w7 := by
      intro w7 k7
      have q0 := k7.cell (w := wr.drew) g0
      have q1 := k7.cell (w := wr.drew) g1
      have q2 := k7.cell (w := wr.drew) g2
      have q3 := k7.cell (w := wr.drew) g3
      have q4 := k7.cell (w := wr.drew) x2
      have q5 := k7.cell (w := wr.drew) hx0
      have HK7 := Lib.hid k7
      clear k7
      rw [hG]
      refine wpAnyIn_ready (rs := [10]) (by kernel_rfl) (by simp) ?_
      refine AllReadyIn.cons rfl (fun K hK => ?_) ?_
      ·go_simp
       refine hK _ _ ?_; clear hK K
       refine wpAnyIn_take (i := 15) (v := .agg #[.int .i64 xt, .int .i64 mt, .int .i64 (Tab.dir m.ar i)]) rfl rfl (by kernel_rfl) (by kernel_rfl) (by kernel_rfl) (fun _ _ _ h => h) ⟨Or.inl ⟨by kernel_rfl, by intro w; kernel_rfl⟩, fun _ => rfl⟩ ?_
       exact aI hG (hs0.out _ HK7.out)
      exact AllReadyIn.nil
     have hs3 := Lib.hid hs3'
     clear hs3'
     have hs4' : G 5 #[true, true, true, true, true, true, true, true, true, true, false, true, true, true, false, false, false, false] { tmps := #[.func (.yield l) #[] #[], .pointer (some ⟨bu, 0, none⟩), .pointer (some ⟨bs, 0, none⟩), undef, .int .i64 (kx : Nat), undef, .pointer (some ⟨wo.heap.size, 0, none⟩), .int .i64 (i : Nat), .int .i64 mt, .slice (some ⟨b, o, none⟩) U.length c', .int .i64 (U.length : Nat), .int .i64 (j : Nat), .bool true, .pointer (some ⟨b, o + j * 3, none⟩), .agg #[.string m.name, .int .i64 m.ar, .slice (some ⟨vb, vo, none⟩) m.types.length vc], .tuple #[.int .i64 (kx : Nat), .bool true], .slice (some ⟨sb, so, none⟩) L.length c, .int .i64 (k : Nat), .pointer (some ⟨wo.heap.size, 0, none⟩), .string m.name, .tuple #[.int .i64 (kx : Nat), .bool true], .int .i64 (kx : Nat), .bool true, .pointer (some ⟨wo.heap.size, 2, none⟩), .slice (some ⟨vb, vo, none⟩) m.types.length vc, .int .i64 (m.types.length : Nat), .int .i64 (i : Nat), .bool true, .int .i64 (i : Nat), .pointer (some ⟨vb, vo + i, none⟩), .int .i64 mt, .func (.yield l) #[] #[], .pointer (some ⟨wo.heap.size, 0, none⟩), .string m.name, .slice (some ⟨sb, so, none⟩) L.length c, .int .i64 (kx : Nat), .pointer (some ⟨sb, so + kx * 3, none⟩), .pointer (some ⟨sb, so + kx * 3 + 2, none⟩), .slice (some ⟨tb, to, none⟩) x.types.length tc, .int .i64 (i : Nat), .pointer (some ⟨tb, to + i, none⟩), u41, .int .i64 mt, .agg #[.string m.name, .int .i64 m.ar, .slice (some ⟨vb, vo, none⟩) m.types.length vc], .int .i64 (i : Nat), u45, u46, u47, u48, u49, u50], defers := [] } wr.drew := by
      rw [hG]
      refine wpAnyIn_ready (rs := [10, 14]) (by kernel_rfl) (by simp) ?_
      refine AllReadyIn.cons rfl (fun K hK => ?_) ?_
      ·go_simp
       refine hK _ _ ?_; clear hK K
       exact aI hG hs1.out
      refine AllReadyIn.cons rfl (fun K hK => ?_) ?_
      ·go_simp
       gi_wp2
       refine ⟨trivial, (callsIn_wide.2 (HD.out _)).mono ?_⟩
       rintro e w7 ⟨rfl, k7⟩
       have HK7 := Lib.hid k7
       clear k7
       dsimp only
       refine hK _ _ ?_; clear hK K
       exact aI hG (hs3.out _ HK7.out)
      exact AllReadyIn.nil
     have hs4 := Lib.hid hs4'
     clear hs4'
     have hs5' : G 6 #[true, true, true, true, true, true, true, true, true, true, false, true, false, true, false, false, false, false] { tmps := #[.func (.yield l) #[] #[], .pointer (some ⟨bu, 0, none⟩), .pointer (some ⟨bs, 0, none⟩), undef, .int .i64 (kx : Nat), undef, .pointer (some ⟨wo.heap.size, 0, none⟩), .int .i64 (i : Nat), .int .i64 mt, .slice (some ⟨b, o, none⟩) U.length c', .int .i64 (U.length : Nat), .int .i64 (j : Nat), .bool true, .pointer (some ⟨b, o + j * 3, none⟩), .agg #[.string m.name, .int .i64 m.ar, .slice (some ⟨vb, vo, none⟩) m.types.length vc], .tuple #[.int .i64 (kx : Nat), .bool true], .slice (some ⟨sb, so, none⟩) L.length c, .int .i64 (k : Nat), .pointer (some ⟨wo.heap.size, 0, none⟩), .string m.name, .tuple #[.int .i64 (kx : Nat), .bool true], .int .i64 (kx : Nat), .bool true, .pointer (some ⟨wo.heap.size, 2, none⟩), .slice (some ⟨vb, vo, none⟩) m.types.length vc, .int .i64 (m.types.length : Nat), .int .i64 (i : Nat), .bool true, .int .i64 (i : Nat), .pointer (some ⟨vb, vo + i, none⟩), .int .i64 mt, .func (.yield l) #[] #[], .pointer (some ⟨wo.heap.size, 0, none⟩), .string m.name, .slice (some ⟨sb, so, none⟩) L.length c, .int .i64 (kx : Nat), .pointer (some ⟨sb, so + kx * 3, none⟩), .pointer (some ⟨sb, so + kx * 3 + 2, none⟩), .slice (some ⟨tb, to, none⟩) x.types.length tc, .int .i64 (i : Nat), .pointer (some ⟨tb, to + i, none⟩), u41, .int .i64 mt, u43, .int .i64 (i : Nat), u45, u46, u47, u48, u49, u50], defers := [] } wr.drew := by
      rw [hG]
      refine wpAnyIn_ready (rs := [10, 12]) (by kernel_rfl) (by simp) ?_
      refine AllReadyIn.cons rfl (fun K hK => ?_) ?_
      ·go_simp
       refine hK _ _ ?_; clear hK K
       exact aI hG hs2.out
      refine AllReadyIn.cons rfl (fun K hK => ?_) ?_
      ·go_simp
       refine hK _ _ ?_; clear hK K
       exact aI hG hs4.out
      exact AllReadyIn.nil
     have hs5 := Lib.hid hs5'
     clear hs5'
     have hs6' : ∀ w7, Kept wr.drew w7 → G 6 #[true, true, true, true, true, true, true, false, true, false, false, true, true, true, true, false, false, false] { tmps := #[.func (.yield l) #[] #[], .pointer (some ⟨bu, 0, none⟩), .pointer (some ⟨bs, 0, none⟩), undef, .int .i64 (kx : Nat), undef, .pointer (some ⟨wo.heap.size, 0, none⟩), .int .i64 (i : Nat), .int .i64 mt, .slice (some ⟨b, o, none⟩) U.length c', .int .i64 (U.length : Nat), .int .i64 (j : Nat), .bool true, .pointer (some ⟨b, o + j * 3, none⟩), .agg #[.string m.name, .int .i64 m.ar, .slice (some ⟨vb, vo, none⟩) m.types.length vc], .tuple #[.int .i64 (kx : Nat), .bool true], .slice (some ⟨sb, so, none⟩) L.length c, .int .i64 (k : Nat), .pointer (some ⟨wo.heap.size, 0, none⟩), .string m.name, .tuple #[.int .i64 (kx : Nat), .bool true], .int .i64 (kx : Nat), .bool true, .pointer (some ⟨wo.heap.size, 2, none⟩), .slice (some ⟨vb, vo, none⟩) m.types.length vc, .int .i64 (m.types.length : Nat), .int .i64 (i : Nat), .bool true, .int .i64 (i : Nat), .pointer (some ⟨vb, vo + i, none⟩), .int .i64 mt, .func (.yield l) #[] #[], .pointer (some ⟨wo.heap.size, 0, none⟩), .string m.name, .slice (some ⟨sb, so, none⟩) L.length c, .int .i64 (kx : Nat), .pointer (some ⟨sb, so + kx * 3, none⟩), .pointer (some ⟨sb, so + kx * 3 + 2, none⟩), u38, .int .i64 (i : Nat), u40, u41, .int .i64 mt, .agg #[.string m.name, .int .i64 m.ar, .slice (some ⟨vb, vo, none⟩) m.types.length vc], .int .i64 (i : Nat), .int .i64 (Tab.dir m.ar i), u46, u47, u48, u49, u50], defers := [] } w7 := by
      intro w7 k7
      have q0 := k7.cell (w := wr.drew) g0
      have q1 := k7.cell (w := wr.drew) g1
      have q2 := k7.cell (w := wr.drew) g2
      have q3 := k7.cell (w := wr.drew) g3
      have q4 := k7.cell (w := wr.drew) x2
      have q5 := k7.cell (w := wr.drew) hx0
      have HK7 := Lib.hid k7
      clear k7
      rw [hG]
      refine wpAnyIn_ready (rs := [7]) (by kernel_rfl) (by simp) ?_
      refine AllReadyIn.cons rfl (fun K hK => ?_) ?_
      ·go_simp
       refine hK _ _ ?_; clear hK K
       refine wpAnyIn_take (i := 9) (v := .pointer (some ⟨tb, to + i, none⟩)) rfl rfl (by kernel_rfl) (by kernel_rfl) (by kernel_rfl) (fun _ _ _ h => h) ⟨Or.inl ⟨by kernel_rfl, by intro w; go_simp; try with_reducible rfl⟩, fun _ => rfl⟩ ?_
       exact aI hG (hs3.out _ HK7.out)
      exact AllReadyIn.nil
     have hs6 := Lib.hid hs6'
     clear hs6'
     have hs7' : G 7 #[true, true, true, true, true, true, true, false, true, false, false, true, true, true, false, false, false, false] { tmps := #[.func (.yield l) #[] #[], .pointer (some ⟨bu, 0, none⟩), .pointer (some ⟨bs, 0, none⟩), undef, .int .i64 (kx : Nat), undef, .pointer (some ⟨wo.heap.size, 0, none⟩), .int .i64 (i : Nat), .int .i64 mt, .slice (some ⟨b, o, none⟩) U.length c', .int .i64 (U.length : Nat), .int .i64 (j : Nat), .bool true, .pointer (some ⟨b, o + j * 3, none⟩), .agg #[.string m.name, .int .i64 m.ar, .slice (some ⟨vb, vo, none⟩) m.types.length vc], .tuple #[.int .i64 (kx : Nat), .bool true], .slice (some ⟨sb, so, none⟩) L.length c, .int .i64 (k : Nat), .pointer (some ⟨wo.heap.size, 0, none⟩), .string m.name, .tuple #[.int .i64 (kx : Nat), .bool true], .int .i64 (kx : Nat), .bool true, .pointer (some ⟨wo.heap.size, 2, none⟩), .slice (some ⟨vb, vo, none⟩) m.types.length vc, .int .i64 (m.types.length : Nat), .int .i64 (i : Nat), .bool true, .int .i64 (i : Nat), .pointer (some ⟨vb, vo + i, none⟩), .int .i64 mt, .func (.yield l) #[] #[], .pointer (some ⟨wo.heap.size, 0, none⟩), .string m.name, .slice (some ⟨sb, so, none⟩) L.length c, .int .i64 (kx : Nat), .pointer (some ⟨sb, so + kx * 3, none⟩), .pointer (some ⟨sb, so + kx * 3 + 2, none⟩), u38, .int .i64 (i : Nat), u40, u41, .int .i64 mt, .agg #[.string m.name, .int .i64 m.ar, .slice (some ⟨vb, vo, none⟩) m.types.length vc], .int .i64 (i : Nat), u45, u46, u47, u48, u49, u50], defers := [] } wr.drew := by
      rw [hG]
      refine wpAnyIn_ready (rs := [7, 14]) (by kernel_rfl) (by simp) ?_
      refine AllReadyIn.cons rfl (fun K hK => ?_) ?_
      ·go_simp
       refine hK _ _ ?_; clear hK K
       refine wpAnyIn_take (i := 9) (v := .pointer (some ⟨tb, to + i, none⟩)) rfl rfl (by kernel_rfl) (by kernel_rfl) (by kernel_rfl) (fun _ _ _ h => h) ⟨Or.inl ⟨by kernel_rfl, by intro w; go_simp; try with_reducible rfl⟩, fun _ => rfl⟩ ?_
       exact aI hG hs4.out
      refine AllReadyIn.cons rfl (fun K hK => ?_) ?_
      ·go_simp
       gi_wp2
       refine ⟨trivial, (callsIn_wide.2 (HD.out _)).mono ?_⟩
       rintro e w7 ⟨rfl, k7⟩
       have HK7 := Lib.hid k7
       clear k7
       dsimp only
       refine hK _ _ ?_; clear hK K
       exact aI hG (hs6.out _ HK7.out)
      exact AllReadyIn.nil
     have hs7 := Lib.hid hs7'
     clear hs7'
     have hs8' : G 8 #[true, true, true, true, true, true, true, false, true, false, false, true, false, true, false, false, false, false] { tmps := #[.func (.yield l) #[] #[], .pointer (some ⟨bu, 0, none⟩), .pointer (some ⟨bs, 0, none⟩), undef, .int .i64 (kx : Nat), undef, .pointer (some ⟨wo.heap.size, 0, none⟩), .int .i64 (i : Nat), .int .i64 mt, .slice (some ⟨b, o, none⟩) U.length c', .int .i64 (U.length : Nat), .int .i64 (j : Nat), .bool true, .pointer (some ⟨b, o + j * 3, none⟩), .agg #[.string m.name, .int .i64 m.ar, .slice (some ⟨vb, vo, none⟩) m.types.length vc], .tuple #[.int .i64 (kx : Nat), .bool true], .slice (some ⟨sb, so, none⟩) L.length c, .int .i64 (k : Nat), .pointer (some ⟨wo.heap.size, 0, none⟩), .string m.name, .tuple #[.int .i64 (kx : Nat), .bool true], .int .i64 (kx : Nat), .bool true, .pointer (some ⟨wo.heap.size, 2, none⟩), .slice (some ⟨vb, vo, none⟩) m.types.length vc, .int .i64 (m.types.length : Nat), .int .i64 (i : Nat), .bool true, .int .i64 (i : Nat), .pointer (some ⟨vb, vo + i, none⟩), .int .i64 mt, .func (.yield l) #[] #[], .pointer (some ⟨wo.heap.size, 0, none⟩), .string m.name, .slice (some ⟨sb, so, none⟩) L.length c, .int .i64 (kx : Nat), .pointer (some ⟨sb, so + kx * 3, none⟩), .pointer (some ⟨sb, so + kx * 3 + 2, none⟩), u38, .int .i64 (i : Nat), u40, u41, .int .i64 mt, u43, .int .i64 (i : Nat), u45, u46, u47, u48, u49, u50], defers := [] } wr.drew := by
      rw [hG]
      refine wpAnyIn_ready (rs := [7, 12]) (by kernel_rfl) (by simp) ?_
      refine AllReadyIn.cons rfl (fun K hK => ?_) ?_
      ·go_simp
       refine hK _ _ ?_; clear hK K
       refine wpAnyIn_take (i := 9) (v := .pointer (some ⟨tb, to + i, none⟩)) rfl rfl (by kernel_rfl) (by kernel_rfl) (by kernel_rfl) (fun _ _ _ h => h) ⟨Or.inl ⟨by kernel_rfl, by intro w; go_simp; try with_reducible rfl⟩, fun _ => rfl⟩ ?_
       exact aI hG hs5.out
      refine AllReadyIn.cons rfl (fun K hK => ?_) ?_
      ·go_simp
       refine hK _ _ ?_; clear hK K
       exact aI hG hs7.out
      exact AllReadyIn.nil
     have hs8 := Lib.hid hs8'
     clear hs8'
     have hs9' : ∀ w7, Kept wr.drew w7 → G 9 #[true, true, true, false, true, false, false, false, true, false, false, true, true, true, true, false, false, false] { tmps := #[.func (.yield l) #[] #[], .pointer (some ⟨bu, 0, none⟩), .pointer (some ⟨bs, 0, none⟩), undef, .int .i64 (kx : Nat), undef, .pointer (some ⟨wo.heap.size, 0, none⟩), .int .i64 (i : Nat), .int .i64 mt, .slice (some ⟨b, o, none⟩) U.length c', .int .i64 (U.length : Nat), .int .i64 (j : Nat), .bool true, .pointer (some ⟨b, o + j * 3, none⟩), .agg #[.string m.name, .int .i64 m.ar, .slice (some ⟨vb, vo, none⟩) m.types.length vc], .tuple #[.int .i64 (kx : Nat), .bool true], .slice (some ⟨sb, so, none⟩) L.length c, .int .i64 (k : Nat), .pointer (some ⟨wo.heap.size, 0, none⟩), .string m.name, .tuple #[.int .i64 (kx : Nat), .bool true], .int .i64 (kx : Nat), .bool true, .pointer (some ⟨wo.heap.size, 2, none⟩), .slice (some ⟨vb, vo, none⟩) m.types.length vc, .int .i64 (m.types.length : Nat), .int .i64 (i : Nat), .bool true, .int .i64 (i : Nat), .pointer (some ⟨vb, vo + i, none⟩), .int .i64 mt, .func (.yield l) #[] #[], .pointer (some ⟨wo.heap.size, 0, none⟩), .string m.name, u34, .int .i64 (kx : Nat), u36, u37, u38, .int .i64 (i : Nat), u40, u41, .int .i64 mt, .agg #[.string m.name, .int .i64 m.ar, .slice (some ⟨vb, vo, none⟩) m.types.length vc], .int .i64 (i : Nat), .int .i64 (Tab.dir m.ar i), u46, u47, u48, u49, u50], defers := [] } w7 := by
      intro w7 k7
      have q0 := k7.cell (w := wr.drew) g0
      have q1 := k7.cell (w := wr.drew) g1
      have q2 := k7.cell (w := wr.drew) g2
      have q3 := k7.cell (w := wr.drew) g3
      have q4 := k7.cell (w := wr.drew) x2
      have q5 := k7.cell (w := wr.drew) hx0
      have HK7 := Lib.hid k7
      clear k7
      rw [hG]
      refine wpAnyIn_ready (rs := [3]) (by kernel_rfl) (by simp) ?_
      refine AllReadyIn.cons rfl (fun K hK => ?_) ?_
      ·go_simp
       refine hK _ _ ?_; clear hK K
       refine wpAnyIn_take (i := 5) (v := .pointer (some ⟨sb, so + kx * 3, none⟩)) rfl rfl (by kernel_rfl) (by kernel_rfl) (by kernel_rfl) (fun _ _ _ h => h) ⟨Or.inl ⟨by kernel_rfl, by intro w; go_simp; try with_reducible rfl⟩, fun _ => rfl⟩ ?_
       refine wpAnyIn_take (i := 6) (v := .pointer (some ⟨sb, so + kx * 3 + 2, none⟩)) rfl rfl (by kernel_rfl) (by kernel_rfl) (by kernel_rfl) (fun _ _ _ h => h) ⟨Or.inl ⟨by kernel_rfl, by intro w; kernel_rfl⟩, fun _ => rfl⟩ ?_
       exact aI hG (hs6.out _ HK7.out)
      exact AllReadyIn.nil
     have hs9 := Lib.hid hs9'
     clear hs9'
     have hs10' : G 10 #[true, true, true, false, true, false, false, false, true, false, false, true, true, true, false, false, false, false] { tmps := #[.func (.yield l) #[] #[], .pointer (some ⟨bu, 0, none⟩), .pointer (some ⟨bs, 0, none⟩), undef, .int .i64 (kx : Nat), undef, .pointer (some ⟨wo.heap.size, 0, none⟩), .int .i64 (i : Nat), .int .i64 mt, .slice (some ⟨b, o, none⟩) U.length c', .int .i64 (U.length : Nat), .int .i64 (j : Nat), .bool true, .pointer (some ⟨b, o + j * 3, none⟩), .agg #[.string m.name, .int .i64 m.ar, .slice (some ⟨vb, vo, none⟩) m.types.length vc], .tuple #[.int .i64 (kx : Nat), .bool true], .slice (some ⟨sb, so, none⟩) L.length c, .int .i64 (k : Nat), .pointer (some ⟨wo.heap.size, 0, none⟩), .string m.name, .tuple #[.int .i64 (kx : Nat), .bool true], .int .i64 (kx : Nat), .bool true, .pointer (some ⟨wo.heap.size, 2, none⟩), .slice (some ⟨vb, vo, none⟩) m.types.length vc, .int .i64 (m.types.length : Nat), .int .i64 (i : Nat), .bool true, .int .i64 (i : Nat), .pointer (some ⟨vb, vo + i, none⟩), .int .i64 mt, .func (.yield l) #[] #[], .pointer (some ⟨wo.heap.size, 0, none⟩), .string m.name, u34, .int .i64 (kx : Nat), u36, u37, u38, .int .i64 (i : Nat), u40, u41, .int .i64 mt, .agg #[.string m.name, .int .i64 m.ar, .slice (some ⟨vb, vo, none⟩) m.types.length vc], .int .i64 (i : Nat), u45, u46, u47, u48, u49, u50], defers := [] } wr.drew := by
      rw [hG]
      refine wpAnyIn_ready (rs := [3, 14]) (by kernel_rfl) (by simp) ?_
      refine AllReadyIn.cons rfl (fun K hK => ?_) ?_
      ·go_simp
       refine hK _ _ ?_; clear hK K
       refine wpAnyIn_take (i := 5) (v := .pointer (some ⟨sb, so + kx * 3, none⟩)) rfl rfl (by kernel_rfl) (by kernel_rfl) (by kernel_rfl) (fun _ _ _ h => h) ⟨Or.inl ⟨by kernel_rfl, by intro w; go_simp; try with_reducible rfl⟩, fun _ => rfl⟩ ?_
       refine wpAnyIn_take (i := 6) (v := .pointer (some ⟨sb, so + kx * 3 + 2, none⟩)) rfl rfl (by kernel_rfl) (by kernel_rfl) (by kernel_rfl) (fun _ _ _ h => h) ⟨Or.inl ⟨by kernel_rfl, by intro w; kernel_rfl⟩, fun _ => rfl⟩ ?_
       exact aI hG hs7.out
      refine AllReadyIn.cons rfl (fun K hK => ?_) ?_
      ·go_simp
       gi_wp2
       refine ⟨trivial, (callsIn_wide.2 (HD.out _)).mono ?_⟩
       rintro e w7 ⟨rfl, k7⟩
       have HK7 := Lib.hid k7
       clear k7
       dsimp only
       refine hK _ _ ?_; clear hK K
       exact aI hG (hs9.out _ HK7.out)
      exact AllReadyIn.nil
     have hs10 := Lib.hid hs10'
     clear hs10'
     have hs11' : G 11 #[true, true, true, false, true, false, false, false, true, false, false, true, false, true, false, false, false, false] { tmps := #[.func (.yield l) #[] #[], .pointer (some ⟨bu, 0, none⟩), .pointer (some ⟨bs, 0, none⟩), undef, .int .i64 (kx : Nat), undef, .pointer (some ⟨wo.heap.size, 0, none⟩), .int .i64 (i : Nat), .int .i64 mt, .slice (some ⟨b, o, none⟩) U.length c', .int .i64 (U.length : Nat), .int .i64 (j : Nat), .bool true, .pointer (some ⟨b, o + j * 3, none⟩), .agg #[.string m.name, .int .i64 m.ar, .slice (some ⟨vb, vo, none⟩) m.types.length vc], .tuple #[.int .i64 (kx : Nat), .bool true], .slice (some ⟨sb, so, none⟩) L.length c, .int .i64 (k : Nat), .pointer (some ⟨wo.heap.size, 0, none⟩), .string m.name, .tuple #[.int .i64 (kx : Nat), .bool true], .int .i64 (kx : Nat), .bool true, .pointer (some ⟨wo.heap.size, 2, none⟩), .slice (some ⟨vb, vo, none⟩) m.types.length vc, .int .i64 (m.types.length : Nat), .int .i64 (i : Nat), .bool true, .int .i64 (i : Nat), .pointer (some ⟨vb, vo + i, none⟩), .int .i64 mt, .func (.yield l) #[] #[], .pointer (some ⟨wo.heap.size, 0, none⟩), .string m.name, u34, .int .i64 (kx : Nat), u36, u37, u38, .int .i64 (i : Nat), u40, u41, .int .i64 mt, u43, .int .i64 (i : Nat), u45, u46, u47, u48, u49, u50], defers := [] } wr.drew := by
      rw [hG]
      refine wpAnyIn_ready (rs := [3, 12]) (by kernel_rfl) (by simp) ?_
      refine AllReadyIn.cons rfl (fun K hK => ?_) ?_
      ·go_simp
       refine hK _ _ ?_; clear hK K
       refine wpAnyIn_take (i := 5) (v := .pointer (some ⟨sb, so + kx * 3, none⟩)) rfl rfl (by kernel_rfl) (by kernel_rfl) (by kernel_rfl) (fun _ _ _ h => h) ⟨Or.inl ⟨by kernel_rfl, by intro w; go_simp; try with_reducible rfl⟩, fun _ => rfl⟩ ?_
       refine wpAnyIn_take (i := 6) (v := .pointer (some ⟨sb, so + kx * 3 + 2, none⟩)) rfl rfl (by kernel_rfl) (by kernel_rfl) (by kernel_rfl) (fun _ _ _ h => h) ⟨Or.inl ⟨by kernel_rfl, by intro w; kernel_rfl⟩, fun _ => rfl⟩ ?_
       exact aI hG hs8.out
      refine AllReadyIn.cons rfl (fun K hK => ?_) ?_
      ·go_simp
       refine hK _ _ ?_; clear hK K
       exact aI hG hs10.out
      exact AllReadyIn.nil
     have hs11 := Lib.hid hs11'
     clear hs11'
     have hs12' : ∀ w7, Kept wr.drew w7 → G 3 #[true, true, false, true, true, true, true, true, true, true, true, true, true, true, true, true, false, false] { tmps := #[.func (.yield l) #[] #[], .pointer (some ⟨bu, 0, none⟩), .pointer (some ⟨bs, 0, none⟩), undef, .int .i64 (kx : Nat), undef, .pointer (some ⟨wo.heap.size, 0, none⟩), .int .i64 (i : Nat), .int .i64 mt, .slice (some ⟨b, o, none⟩) U.length c', .int .i64 (U.length : Nat), .int .i64 (j : Nat), .bool true, .pointer (some ⟨b, o + j * 3, none⟩), .agg #[.string m.name, .int .i64 m.ar, .slice (some ⟨vb, vo, none⟩) m.types.length vc], .tuple #[.int .i64 (kx : Nat), .bool true], .slice (some ⟨sb, so, none⟩) L.length c, .int .i64 (k : Nat), .pointer (some ⟨wo.heap.size, 0, none⟩), .string m.name, .tuple #[.int .i64 (kx : Nat), .bool true], .int .i64 (kx : Nat), .bool true, .pointer (some ⟨wo.heap.size, 2, none⟩), .slice (some ⟨vb, vo, none⟩) m.types.length vc, .int .i64 (m.types.length : Nat), .int .i64 (i : Nat), .bool true, .int .i64 (i : Nat), .pointer (some ⟨vb, vo + i, none⟩), .int .i64 mt, .func (.yield l) #[] #[], .pointer (some ⟨wo.heap.size, 0, none⟩), u33, .slice (some ⟨sb, so, none⟩) L.length c, .int .i64 (kx : Nat), .pointer (some ⟨sb, so + kx * 3, none⟩), .pointer (some ⟨sb, so + kx * 3 + 2, none⟩), .slice (some ⟨tb, to, none⟩) x.types.length tc, .int .i64 (i : Nat), .pointer (some ⟨tb, to + i, none⟩), .int .i64 xt, .int .i64 mt, .agg #[.string m.name, .int .i64 m.ar, .slice (some ⟨vb, vo, none⟩) m.types.length vc], .int .i64 (i : Nat), .int .i64 (Tab.dir m.ar i), .agg #[.int .i64 xt, .int .i64 mt, .int .i64 (Tab.dir m.ar i)], u47, u48, u49, u50], defers := [] } w7 := by
      intro w7 k7
      have q0 := k7.cell (w := wr.drew) g0
      have q1 := k7.cell (w := wr.drew) g1
      have q2 := k7.cell (w := wr.drew) g2
      have q3 := k7.cell (w := wr.drew) g3
      have q4 := k7.cell (w := wr.drew) x2
      have q5 := k7.cell (w := wr.drew) hx0
      have HK7 := Lib.hid k7
      clear k7
      rw [hG]
      refine wpAnyIn_ready (rs := [2]) (by kernel_rfl) (by simp) ?_
      refine AllReadyIn.cons rfl (fun K hK => ?_) ?_
      ·go_simp
       refine hK _ _ ?_; clear hK K
       exact aI hG (hs0.out _ HK7.out)
      exact AllReadyIn.nil
     have hs12 := Lib.hid hs12'
     clear hs12'
     have hs13' : G 5 #[true, true, false, true, true, true, true, true, true, true, true, true, true, true, false, false, false, false] { tmps := #[.func (.yield l) #[] #[], .pointer (some ⟨bu, 0, none⟩), .pointer (some ⟨bs, 0, none⟩), undef, .int .i64 (kx : Nat), undef, .pointer (some ⟨wo.heap.size, 0, none⟩), .int .i64 (i : Nat), .int .i64 mt, .slice (some ⟨b, o, none⟩) U.length c', .int .i64 (U.length : Nat), .int .i64 (j : Nat), .bool true, .pointer (some ⟨b, o + j * 3, none⟩), .agg #[.string m.name, .int .i64 m.ar, .slice (some ⟨vb, vo, none⟩) m.types.length vc], .tuple #[.int .i64 (kx : Nat), .bool true], .slice (some ⟨sb, so, none⟩) L.length c, .int .i64 (k : Nat), .pointer (some ⟨wo.heap.size, 0, none⟩), .string m.name, .tuple #[.int .i64 (kx : Nat), .bool true], .int .i64 (kx : Nat), .bool true, .pointer (some ⟨wo.heap.size, 2, none⟩), .slice (some ⟨vb, vo, none⟩) m.types.length vc, .int .i64 (m.types.length : Nat), .int .i64 (i : Nat), .bool true, .int .i64 (i : Nat), .pointer (some ⟨vb, vo + i, none⟩), .int .i64 mt, .func (.yield l) #[] #[], .pointer (some ⟨wo.heap.size, 0, none⟩), u33, .slice (some ⟨sb, so, none⟩) L.length c, .int .i64 (kx : Nat), .pointer (some ⟨sb, so + kx * 3, none⟩), .pointer (some ⟨sb, so + kx * 3 + 2, none⟩), .slice (some ⟨tb, to, none⟩) x.types.length tc, .int .i64 (i : Nat), .pointer (some ⟨tb, to + i, none⟩), .int .i64 xt, .int .i64 mt, .agg #[.string m.name, .int .i64 m.ar, .slice (some ⟨vb, vo, none⟩) m.types.length vc], .int .i64 (i : Nat), u45, u46, u47, u48, u49, u50], defers := [] } wr.drew := by
      rw [hG]
      refine wpAnyIn_ready (rs := [2, 14]) (by kernel_rfl) (by simp) ?_
      refine AllReadyIn.cons rfl (fun K hK => ?_) ?_
      ·go_simp
       refine hK _ _ ?_; clear hK K
       exact aI hG hs1.out
      refine AllReadyIn.cons rfl (fun K hK => ?_) ?_
      ·go_simp
       gi_wp2
       refine ⟨trivial, (callsIn_wide.2 (HD.out _)).mono ?_⟩
       rintro e w7 ⟨rfl, k7⟩
       have HK7 := Lib.hid k7
       clear k7
       dsimp only
       refine hK _ _ ?_; clear hK K
       refine wpAnyIn_take (i := 15) (v := .agg #[.int .i64 xt, .int .i64 mt, .int .i64 (Tab.dir m.ar i)]) rfl rfl (by kernel_rfl) (by kernel_rfl) (by kernel_rfl) (fun _ _ _ h => h) ⟨Or.inl ⟨by kernel_rfl, by intro w; kernel_rfl⟩, fun _ => rfl⟩ ?_
       exact aI hG (hs12.out _ HK7.out)
      exact AllReadyIn.nil
     have hs13 := Lib.hid hs13'
     clear hs13'
     have hs14' : G 6 #[true, true, false, true, true, true, true, true, true, true, true, true, false, true, false, false, false, false] { tmps := #[.func (.yield l) #[] #[], .pointer (some ⟨bu, 0, none⟩), .pointer (some ⟨bs, 0, none⟩), undef, .int .i64 (kx : Nat), undef, .pointer (some ⟨wo.heap.size, 0, none⟩), .int .i64 (i : Nat), .int .i64 mt, .slice (some ⟨b, o, none⟩) U.length c', .int .i64 (U.length : Nat), .int .i64 (j : Nat), .bool true, .pointer (some ⟨b, o + j * 3, none⟩), .agg #[.string m.name, .int .i64 m.ar, .slice (some ⟨vb, vo, none⟩) m.types.length vc], .tuple #[.int .i64 (kx : Nat), .bool true], .slice (some ⟨sb, so, none⟩) L.length c, .int .i64 (k : Nat), .pointer (some ⟨wo.heap.size, 0, none⟩), .string m.name, .tuple #[.int .i64 (kx : Nat), .bool true], .int .i64 (kx : Nat), .bool true, .pointer (some ⟨wo.heap.size, 2, none⟩), .slice (some ⟨vb, vo, none⟩) m.types.length vc, .int .i64 (m.types.length : Nat), .int .i64 (i : Nat), .bool true, .int .i64 (i : Nat), .pointer (some ⟨vb, vo + i, none⟩), .int .i64 mt, .func (.yield l) #[] #[], .pointer (some ⟨wo.heap.size, 0, none⟩), u33, .slice (some ⟨sb, so, none⟩) L.length c, .int .i64 (kx : Nat), .pointer (some ⟨sb, so + kx * 3, none⟩), .pointer (some ⟨sb, so + kx * 3 + 2, none⟩), .slice (some ⟨tb, to, none⟩) x.types.length tc, .int .i64 (i : Nat), .pointer (some ⟨tb, to + i, none⟩), .int .i64 xt, .int .i64 mt, u43, .int .i64 (i : Nat), u45, u46, u47, u48, u49, u50], defers := [] } wr.drew := by
      rw [hG]
      refine wpAnyIn_ready (rs := [2, 12]) (by kernel_rfl) (by simp) ?_
      refine AllReadyIn.cons rfl (fun K hK => ?_) ?_
      ·go_simp
       refine hK _ _ ?_; clear hK K
       exact aI hG hs2.out
      refine AllReadyIn.cons rfl (fun K hK => ?_) ?_
      ·go_simp
       refine hK _ _ ?_; clear hK K
       exact aI hG hs13.out
      exact AllReadyIn.nil
     have hs14 := Lib.hid hs14'
     clear hs14'
     have hs15' : ∀ w7, Kept wr.drew w7 → G 5 #[true, true, false, true, true, true, true, true, true, true, false, true, true, true, true, false, false, false] { tmps := #[.func (.yield l) #[] #[], .pointer (some ⟨bu, 0, none⟩), .pointer (some ⟨bs, 0, none⟩), undef, .int .i64 (kx : Nat), undef, .pointer (some ⟨wo.heap.size, 0, none⟩), .int .i64 (i : Nat), .int .i64 mt, .slice (some ⟨b, o, none⟩) U.length c', .int .i64 (U.length : Nat), .int .i64 (j : Nat), .bool true, .pointer (some ⟨b, o + j * 3, none⟩), .agg #[.string m.name, .int .i64 m.ar, .slice (some ⟨vb, vo, none⟩) m.types.length vc], .tuple #[.int .i64 (kx : Nat), .bool true], .slice (some ⟨sb, so, none⟩) L.length c, .int .i64 (k : Nat), .pointer (some ⟨wo.heap.size, 0, none⟩), .string m.name, .tuple #[.int .i64 (kx : Nat), .bool true], .int .i64 (kx : Nat), .bool true, .pointer (some ⟨wo.heap.size, 2, none⟩), .slice (some ⟨vb, vo, none⟩) m.types.length vc, .int .i64 (m.types.length : Nat), .int .i64 (i : Nat), .bool true, .int .i64 (i : Nat), .pointer (some ⟨vb, vo + i, none⟩), .int .i64 mt, .func (.yield l) #[] #[], .pointer (some ⟨wo.heap.size, 0, none⟩), u33, .slice (some ⟨sb, so, none⟩) L.length c, .int .i64 (kx : Nat), .pointer (some ⟨sb, so + kx * 3, none⟩), .pointer (some ⟨sb, so + kx * 3 + 2, none⟩), .slice (some ⟨tb, to, none⟩) x.types.length tc, .int .i64 (i : Nat), .pointer (some ⟨tb, to + i, none⟩), u41, .int .i64 mt, .agg #[.string m.name, .int .i64 m.ar, .slice (some ⟨vb, vo, none⟩) m.types.length vc], .int .i64 (i : Nat), .int .i64 (Tab.dir m.ar i), u46, u47, u48, u49, u50], defers := [] } w7 := by
      intro w7 k7
      have q0 := k7.cell (w := wr.drew) g0
      have q1 := k7.cell (w := wr.drew) g1
      have q2 := k7.cell (w := wr.drew) g2
      have q3 := k7.cell (w := wr.drew) g3
      have q4 := k7.cell (w := wr.drew) x2
      have q5 := k7.cell (w := wr.drew) hx0
      have HK7 := Lib.hid k7
      clear k7
      rw [hG]
      refine wpAnyIn_ready (rs := [2, 10]) (by kernel_rfl) (by simp) ?_
      refine AllReadyIn.cons rfl (fun K hK => ?_) ?_
      ·go_simp
       refine hK _ _ ?_; clear hK K
       exact aI hG (hs3.out _ HK7.out)
      refine AllReadyIn.cons rfl (fun K hK => ?_) ?_
      ·go_simp
       refine hK _ _ ?_; clear hK K
       refine wpAnyIn_take (i := 15) (v := .agg #[.int .i64 xt, .int .i64 mt, .int .i64 (Tab.dir m.ar i)]) rfl rfl (by kernel_rfl) (by kernel_rfl) (by kernel_rfl) (fun _ _ _ h => h) ⟨Or.inl ⟨by kernel_rfl, by intro w; kernel_rfl⟩, fun _ => rfl⟩ ?_
       exact aI hG (hs12.out _ HK7.out)
      exact AllReadyIn.nil
     have hs15 := Lib.hid hs15'
     clear hs15'
     have hs16' : G 6 #[true, true, false, true, true, true, true, true, true, true, false, true, true, true, false, false, false, false] { tmps := #[.func (.yield l) #[] #[], .pointer (some ⟨bu, 0, none⟩), .pointer (some ⟨bs, 0, none⟩), undef, .int .i64 (kx : Nat), undef, .pointer (some ⟨wo.heap.size, 0, none⟩), .int .i64 (i : Nat), .int .i64 mt, .slice (some ⟨b, o, none⟩) U.length c', .int .i64 (U.length : Nat), .int .i64 (j : Nat), .bool true, .pointer (some ⟨b, o + j * 3, none⟩), .agg #[.string m.name, .int .i64 m.ar, .slice (some ⟨vb, vo, none⟩) m.types.length vc], .tuple #[.int .i64 (kx : Nat), .bool true], .slice (some ⟨sb, so, none⟩) L.length c, .int .i64 (k : Nat), .pointer (some ⟨wo.heap.size, 0, none⟩), .string m.name, .tuple #[.int .i64 (kx : Nat), .bool true], .int .i64 (kx : Nat), .bool true, .pointer (some ⟨wo.heap.size, 2, none⟩), .slice (some ⟨vb, vo, none⟩) m.types.length vc, .int .i64 (m.types.length : Nat), .int .i64 (i : Nat), .bool true, .int .i64 (i : Nat), .pointer (some ⟨vb, vo + i, none⟩), .int .i64 mt, .func (.yield l) #[] #[], .pointer (some ⟨wo.heap.size, 0, none⟩), u33, .slice (some ⟨sb, so, none⟩) L.length c, .int .i64 (kx : Nat), .pointer (some ⟨sb, so + kx * 3, none⟩), .pointer (some ⟨sb, so + kx * 3 + 2, none⟩), .slice (some ⟨tb, to, none⟩) x.types.length tc, .int .i64 (i : Nat), .pointer (some ⟨tb, to + i, none⟩), u41, .int .i64 mt, .agg #[.string m.name, .int .i64 m.ar, .slice (some ⟨vb, vo, none⟩) m.types.length vc], .int .i64 (i : Nat), u45, u46, u47, u48, u49, u50], defers := [] } wr.drew := by
      rw [hG]
      refine wpAnyIn_ready (rs := [2, 10, 14]) (by kernel_rfl) (by simp) ?_
      refine AllReadyIn.cons rfl (fun K hK => ?_) ?_
      ·go_simp
       refine hK _ _ ?_; clear hK K
       exact aI hG hs4.out
      refine AllReadyIn.cons rfl (fun K hK => ?_) ?_
      ·go_simp
       refine hK _ _ ?_; clear hK K
       exact aI hG hs13.out
      refine AllReadyIn.cons rfl (fun K hK => ?_) ?_
      ·go_simp
       gi_wp2
       refine ⟨trivial, (callsIn_wide.2 (HD.out _)).mono ?_⟩
       rintro e w7 ⟨rfl, k7⟩
       have HK7 := Lib.hid k7
       clear k7
       dsimp only
       refine hK _ _ ?_; clear hK K
       exact aI hG (hs15.out _ HK7.out)
      exact AllReadyIn.nil
     have hs16 := Lib.hid hs16'
     clear hs16'
     have hs17' : G 7 #[true, true, false, true, true, true, true, true, true, true, false, true, false, true, false, false, false, false] { tmps := #[.func (.yield l) #[] #[], .pointer (some ⟨bu, 0, none⟩), .pointer (some ⟨bs, 0, none⟩), undef, .int .i64 (kx : Nat), undef, .pointer (some ⟨wo.heap.size, 0, none⟩), .int .i64 (i : Nat), .int .i64 mt, .slice (some ⟨b, o, none⟩) U.length c', .int .i64 (U.length : Nat), .int .i64 (j : Nat), .bool true, .pointer (some ⟨b, o + j * 3, none⟩), .agg #[.string m.name, .int .i64 m.ar, .slice (some ⟨vb, vo, none⟩) m.types.length vc], .tuple #[.int .i64 (kx : Nat), .bool true], .slice (some ⟨sb, so, none⟩) L.length c, .int .i64 (k : Nat), .pointer (some ⟨wo.heap.size, 0, none⟩), .string m.name, .tuple #[.int .i64 (kx : Nat), .bool true], .int .i64 (kx : Nat), .bool true, .pointer (some ⟨wo.heap.size, 2, none⟩), .slice (some ⟨vb, vo, none⟩) m.types.length vc, .int .i64 (m.types.length : Nat), .int .i64 (i : Nat), .bool true, .int .i64 (i : Nat), .pointer (some ⟨vb, vo + i, none⟩), .int .i64 mt, .func (.yield l) #[] #[], .pointer (some ⟨wo.heap.size, 0, none⟩), u33, .slice (some ⟨sb, so, none⟩) L.length c, .int .i64 (kx : Nat), .pointer (some ⟨sb, so + kx * 3, none⟩), .pointer (some ⟨sb, so + kx * 3 + 2, none⟩), .slice (some ⟨tb, to, none⟩) x.types.length tc, .int .i64 (i : Nat), .pointer (some ⟨tb, to + i, none⟩), u41, .int .i64 mt, u43, .int .i64 (i : Nat), u45, u46, u47, u48, u49, u50], defers := [] } wr.drew := by
      rw [hG]
      refine wpAnyIn_ready (rs := [2, 10, 12]) (by kernel_rfl) (by simp) ?_
      refine AllReadyIn.cons rfl (fun K hK => ?_) ?_
      ·go_simp
       refine hK _ _ ?_; clear hK K
       exact aI hG hs5.out
      refine AllReadyIn.cons rfl (fun K hK => ?_) ?_
      ·go_simp
       refine hK _ _ ?_; clear hK K
       exact aI hG hs14.out
      refine AllReadyIn.cons rfl (fun K hK => ?_) ?_
      ·go_simp
       refine hK _ _ ?_; clear hK K
       exact aI hG hs16.out
      exact AllReadyIn.nil
     have hs17 := Lib.hid hs17'
     clear hs17'
     have hs18' : ∀ w7, Kept wr.drew w7 → G 7 #[true, true, false, true, true, true, true, false, true, false, false, true, true, true, true, false, false, false] { tmps := #[.func (.yield l) #[] #[], .pointer (some ⟨bu, 0, none⟩), .pointer (some ⟨bs, 0, none⟩), undef, .int .i64 (kx : Nat), undef, .pointer (some ⟨wo.heap.size, 0, none⟩), .int .i64 (i : Nat), .int .i64 mt, .slice (some ⟨b, o, none⟩) U.length c', .int .i64 (U.length : Nat), .int .i64 (j : Nat), .bool true, .pointer (some ⟨b, o + j * 3, none⟩), .agg #[.string m.name, .int .i64 m.ar, .slice (some ⟨vb, vo, none⟩) m.types.length vc], .tuple #[.int .i64 (kx : Nat), .bool true], .slice (some ⟨sb, so, none⟩) L.length c, .int .i64 (k : Nat), .pointer (some ⟨wo.heap.size, 0, none⟩), .string m.name, .tuple #[.int .i64 (kx : Nat), .bool true], .int .i64 (kx : Nat), .bool true, .pointer (some ⟨wo.heap.size, 2, none⟩), .slice (some ⟨vb, vo, none⟩) m.types.length vc, .int .i64 (m.types.length : Nat), .int .i64 (i : Nat), .bool true, .int .i64 (i : Nat), .pointer (some ⟨vb, vo + i, none⟩), .int .i64 mt, .func (.yield l) #[] #[], .pointer (some ⟨wo.heap.size, 0, none⟩), u33, .slice (some ⟨sb, so, none⟩) L.length c, .int .i64 (kx : Nat), .pointer (some ⟨sb, so + kx * 3, none⟩), .pointer (some ⟨sb, so + kx * 3 + 2, none⟩), u38, .int .i64 (i : Nat), u40, u41, .int .i64 mt, .agg #[.string m.name, .int .i64 m.ar, .slice (some ⟨vb, vo, none⟩) m.types.length vc], .int .i64 (i : Nat), .int .i64 (Tab.dir m.ar i), u46, u47, u48, u49, u50], defers := [] } w7 := by
      intro w7 k7
      have q0 := k7.cell (w := wr.drew) g0
      have q1 := k7.cell (w := wr.drew) g1
      have q2 := k7.cell (w := wr.drew) g2
      have q3 := k7.cell (w := wr.drew) g3
      have q4 := k7.cell (w := wr.drew) x2
      have q5 := k7.cell (w := wr.drew) hx0
      have HK7 := Lib.hid k7
      clear k7
      rw [hG]
      refine wpAnyIn_ready (rs := [2, 7]) (by kernel_rfl) (by simp) ?_
      refine AllReadyIn.cons rfl (fun K hK => ?_) ?_
      ·go_simp
       refine hK _ _ ?_; clear hK K
       exact aI hG (hs6.out _ HK7.out)
      refine AllReadyIn.cons rfl (fun K hK => ?_) ?_
      ·go_simp
       refine hK _ _ ?_; clear hK K
       refine wpAnyIn_take (i := 9) (v := .pointer (some ⟨tb, to + i, none⟩)) rfl rfl (by kernel_rfl) (by kernel_rfl) (by kernel_rfl) (fun _ _ _ h => h) ⟨Or.inl ⟨by kernel_rfl, by intro w; go_simp; try with_reducible rfl⟩, fun _ => rfl⟩ ?_
       exact aI hG (hs15.out _ HK7.out)
      exact AllReadyIn.nil
     have hs18 := Lib.hid hs18'
     clear hs18'
     have hs19' : G 8 #[true, true, false, true, true, true, true, false, true, false, false, true, true, true, false, false, false, false] { tmps := #[.func (.yield l) #[] #[], .pointer (some ⟨bu, 0, none⟩), .pointer (some ⟨bs, 0, none⟩), undef, .int .i64 (kx : Nat), undef, .pointer (some ⟨wo.heap.size, 0, none⟩), .int .i64 (i : Nat), .int .i64 mt, .slice (some ⟨b, o, none⟩) U.length c', .int .i64 (U.length : Nat), .int .i64 (j : Nat), .bool true, .pointer (some ⟨b, o + j * 3, none⟩), .agg #[.string m.name, .int .i64 m.ar, .slice (some ⟨vb, vo, none⟩) m.types.length vc], .tuple #[.int .i64 (kx : Nat), .bool true], .slice (some ⟨sb, so, none⟩) L.length c, .int .i64 (k : Nat), .pointer (some ⟨wo.heap.size, 0, none⟩), .string m.name, .tuple #[.int .i64 (kx : Nat), .bool true], .int .i64 (kx : Nat), .bool true, .pointer (some ⟨wo.heap.size, 2, none⟩), .slice (some ⟨vb, vo, none⟩) m.types.length vc, .int .i64 (m.types.length : Nat), .int .i64 (i : Nat), .bool true, .int .i64 (i : Nat), .pointer (some ⟨vb, vo + i, none⟩), .int .i64 mt, .func (.yield l) #[] #[], .pointer (some ⟨wo.heap.size, 0, none⟩), u33, .slice (some ⟨sb, so, none⟩) L.length c, .int .i64 (kx : Nat), .pointer (some ⟨sb, so + kx * 3, none⟩), .pointer (some ⟨sb, so + kx * 3 + 2, none⟩), u38, .int .i64 (i : Nat), u40, u41, .int .i64 mt, .agg #[.string m.name, .int .i64 m.ar, .slice (some ⟨vb, vo, none⟩) m.types.length vc], .int .i64 (i : Nat), u45, u46, u47, u48, u49, u50], defers := [] } wr.drew := by
      rw [hG]
      refine wpAnyIn_ready (rs := [2, 7, 14]) (by kernel_rfl) (by simp) ?_
      refine AllReadyIn.cons rfl (fun K hK => ?_) ?_
      ·go_simp
       refine hK _ _ ?_; clear hK K
       exact aI hG hs7.out
      refine AllReadyIn.cons rfl (fun K hK => ?_) ?_
      ·go_simp
       refine hK _ _ ?_; clear hK K
       refine wpAnyIn_take (i := 9) (v := .pointer (some ⟨tb, to + i, none⟩)) rfl rfl (by kernel_rfl) (by kernel_rfl) (by kernel_rfl) (fun _ _ _ h => h) ⟨Or.inl ⟨by kernel_rfl, by intro w; go_simp; try with_reducible rfl⟩, fun _ => rfl⟩ ?_
       exact aI hG hs16.out
      refine AllReadyIn.cons rfl (fun K hK => ?_) ?_
      ·go_simp
       gi_wp2
       refine ⟨trivial, (callsIn_wide.2 (HD.out _)).mono ?_⟩
       rintro e w7 ⟨rfl, k7⟩
       have HK7 := Lib.hid k7
       clear k7
       dsimp only
       refine hK _ _ ?_; clear hK K
       exact aI hG (hs18.out _ HK7.out)
      exact AllReadyIn.nil
     have hs19 := Lib.hid hs19'
     clear hs19'
     have hs20' : G 9 #[true, true, false, true, true, true, true, false, true, false, false, true, false, true, false, false, false, false] { tmps := #[.func (.yield l) #[] #[], .pointer (some ⟨bu, 0, none⟩), .pointer (some ⟨bs, 0, none⟩), undef, .int .i64 (kx : Nat), undef, .pointer (some ⟨wo.heap.size, 0, none⟩), .int .i64 (i : Nat), .int .i64 mt, .slice (some ⟨b, o, none⟩) U.length c', .int .i64 (U.length : Nat), .int .i64 (j : Nat), .bool true, .pointer (some ⟨b, o + j * 3, none⟩), .agg #[.string m.name, .int .i64 m.ar, .slice (some ⟨vb, vo, none⟩) m.types.length vc], .tuple #[.int .i64 (kx : Nat), .bool true], .slice (some ⟨sb, so, none⟩) L.length c, .int .i64 (k : Nat), .pointer (some ⟨wo.heap.size, 0, none⟩), .string m.name, .tuple #[.int .i64 (kx : Nat), .bool true], .int .i64 (kx : Nat), .bool true, .pointer (some ⟨wo.heap.size, 2, none⟩), .slice (some ⟨vb, vo, none⟩) m.types.length vc, .int .i64 (m.types.length : Nat), .int .i64 (i : Nat), .bool true, .int .i64 (i : Nat), .pointer (some ⟨vb, vo + i, none⟩), .int .i64 mt, .func (.yield l) #[] #[], .pointer (some ⟨wo.heap.size, 0, none⟩), u33, .slice (some ⟨sb, so, none⟩) L.length c, .int .i64 (kx : Nat), .pointer (some ⟨sb, so + kx * 3, none⟩), .pointer (some ⟨sb, so + kx * 3 + 2, none⟩), u38, .int .i64 (i : Nat), u40, u41, .int .i64 mt, u43, .int .i64 (i : Nat), u45, u46, u47, u48, u49, u50], defers := [] } wr.drew := by
      rw [hG]
      refine wpAnyIn_ready (rs := [2, 7, 12]) (by kernel_rfl) (by simp) ?_
      refine AllReadyIn.cons rfl (fun K hK => ?_) ?_
      ·go_simp
       refine hK _ _ ?_; clear hK K
       exact aI hG hs8.out
      refine AllReadyIn.cons rfl (fun K hK => ?_) ?_
      ·go_simp
       refine hK _ _ ?_; clear hK K
       refine wpAnyIn_take (i := 9) (v := .pointer (some ⟨tb, to + i, none⟩)) rfl rfl (by kernel_rfl) (by kernel_rfl) (by kernel_rfl) (fun _ _ _ h => h) ⟨Or.inl ⟨by kernel_rfl, by intro w; go_simp; try with_reducible rfl⟩, fun _ => rfl⟩ ?_
       exact aI hG hs17.out
      refine AllReadyIn.cons rfl (fun K hK => ?_) ?_
      ·go_simp
       refine hK _ _ ?_; clear hK K
       exact aI hG hs19.out
      exact AllReadyIn.nil
     have hs20 := Lib.hid hs20'
     clear hs20'
     have hs21' : ∀ w7, Kept wr.drew w7 → G 10 #[true, true, false, false, true, false, false, false, true, false, false, true, true, true, true, false, false, false] { tmps := #[.func (.yield l) #[] #[], .pointer (some ⟨bu, 0, none⟩), .pointer (some ⟨bs, 0, none⟩), undef, .int .i64 (kx : Nat), undef, .pointer (some ⟨wo.heap.size, 0, none⟩), .int .i64 (i : Nat), .int .i64 mt, .slice (some ⟨b, o, none⟩) U.length c', .int .i64 (U.length : Nat), .int .i64 (j : Nat), .bool true, .pointer (some ⟨b, o + j * 3, none⟩), .agg #[.string m.name, .int .i64 m.ar, .slice (some ⟨vb, vo, none⟩) m.types.length vc], .tuple #[.int .i64 (kx : Nat), .bool true], .slice (some ⟨sb, so, none⟩) L.length c, .int .i64 (k : Nat), .pointer (some ⟨wo.heap.size, 0, none⟩), .string m.name, .tuple #[.int .i64 (kx : Nat), .bool true], .int .i64 (kx : Nat), .bool true, .pointer (some ⟨wo.heap.size, 2, none⟩), .slice (some ⟨vb, vo, none⟩) m.types.length vc, .int .i64 (m.types.length : Nat), .int .i64 (i : Nat), .bool true, .int .i64 (i : Nat), .pointer (some ⟨vb, vo + i, none⟩), .int .i64 mt, .func (.yield l) #[] #[], .pointer (some ⟨wo.heap.size, 0, none⟩), u33, u34, .int .i64 (kx : Nat), u36, u37, u38, .int .i64 (i : Nat), u40, u41, .int .i64 mt, .agg #[.string m.name, .int .i64 m.ar, .slice (some ⟨vb, vo, none⟩) m.types.length vc], .int .i64 (i : Nat), .int .i64 (Tab.dir m.ar i), u46, u47, u48, u49, u50], defers := [] } w7 := by
      intro w7 k7
      have q0 := k7.cell (w := wr.drew) g0
      have q1 := k7.cell (w := wr.drew) g1
      have q2 := k7.cell (w := wr.drew) g2
      have q3 := k7.cell (w := wr.drew) g3
      have q4 := k7.cell (w := wr.drew) x2
      have q5 := k7.cell (w := wr.drew) hx0
      have HK7 := Lib.hid k7
      clear k7
      rw [hG]
      refine wpAnyIn_ready (rs := [2, 3]) (by kernel_rfl) (by simp) ?_
      refine AllReadyIn.cons rfl (fun K hK => ?_) ?_
      ·go_simp
       refine hK _ _ ?_; clear hK K
       exact aI hG (hs9.out _ HK7.out)
      refine AllReadyIn.cons rfl (fun K hK => ?_) ?_
      ·go_simp
       refine hK _ _ ?_; clear hK K
       refine wpAnyIn_take (i := 5) (v := .pointer (some ⟨sb, so + kx * 3, none⟩)) rfl rfl (by kernel_rfl) (by kernel_rfl) (by kernel_rfl) (fun _ _ _ h => h) ⟨Or.inl ⟨by kernel_rfl, by intro w; go_simp; try with_reducible rfl⟩, fun _ => rfl⟩ ?_
       refine wpAnyIn_take (i := 6) (v := .pointer (some ⟨sb, so + kx * 3 + 2, none⟩)) rfl rfl (by kernel_rfl) (by kernel_rfl) (by kernel_rfl) (fun _ _ _ h => h) ⟨Or.inl ⟨by kernel_rfl, by intro w; kernel_rfl⟩, fun _ => rfl⟩ ?_
       exact aI hG (hs18.out _ HK7.out)
      exact AllReadyIn.nil
     have hs21 := Lib.hid hs21'
     clear hs21'
     have hs22' : G 11 #[true, true, false, false, true, false, false, false, true, false, false, true, true, true, false, false, false, false] { tmps := #[.func (.yield l) #[] #[], .pointer (some ⟨bu, 0, none⟩), .pointer (some ⟨bs, 0, none⟩), undef, .int .i64 (kx : Nat), undef, .pointer (some ⟨wo.heap.size, 0, none⟩), .int .i64 (i : Nat), .int .i64 mt, .slice (some ⟨b, o, none⟩) U.length c', .int .i64 (U.length : Nat), .int .i64 (j : Nat), .bool true, .pointer (some ⟨b, o + j * 3, none⟩), .agg #[.string m.name, .int .i64 m.ar, .slice (some ⟨vb, vo, none⟩) m.types.length vc], .tuple #[.int .i64 (kx : Nat), .bool true], .slice (some ⟨sb, so, none⟩) L.length c, .int .i64 (k : Nat), .pointer (some ⟨wo.heap.size, 0, none⟩), .string m.name, .tuple #[.int .i64 (kx : Nat), .bool true], .int .i64 (kx : Nat), .bool true, .pointer (some ⟨wo.heap.size, 2, none⟩), .slice (some ⟨vb, vo, none⟩) m.types.length vc, .int .i64 (m.types.length : Nat), .int .i64 (i : Nat), .bool true, .int .i64 (i : Nat), .pointer (some ⟨vb, vo + i, none⟩), .int .i64 mt, .func (.yield l) #[] #[], .pointer (some ⟨wo.heap.size, 0, none⟩), u33, u34, .int .i64 (kx : Nat), u36, u37, u38, .int .i64 (i : Nat), u40, u41, .int .i64 mt, .agg #[.string m.name, .int .i64 m.ar, .slice (some ⟨vb, vo, none⟩) m.types.length vc], .int .i64 (i : Nat), u45, u46, u47, u48, u49, u50], defers := [] } wr.drew := by
      rw [hG]
      refine wpAnyIn_ready (rs := [2, 3, 14]) (by kernel_rfl) (by simp) ?_
      refine AllReadyIn.cons rfl (fun K hK => ?_) ?_
      ·go_simp
       refine hK _ _ ?_; clear hK K
       exact aI hG hs10.out
      refine AllReadyIn.cons rfl (fun K hK => ?_) ?_
      ·go_simp
       refine hK _ _ ?_; clear hK K
       refine wpAnyIn_take (i := 5) (v := .pointer (some ⟨sb, so + kx * 3, none⟩)) rfl rfl (by kernel_rfl) (by kernel_rfl) (by kernel_rfl) (fun _ _ _ h => h) ⟨Or.inl ⟨by kernel_rfl, by intro w; go_simp; try with_reducible rfl⟩, fun _ => rfl⟩ ?_
       refine wpAnyIn_take (i := 6) (v := .pointer (some ⟨sb, so + kx * 3 + 2, none⟩)) rfl rfl (by kernel_rfl) (by kernel_rfl) (by kernel_rfl) (fun _ _ _ h => h) ⟨Or.inl ⟨by kernel_rfl, by intro w; kernel_rfl⟩, fun _ => rfl⟩ ?_
       exact aI hG hs19.out
      refine AllReadyIn.cons rfl (fun K hK => ?_) ?_
      ·go_simp
       gi_wp2
       refine ⟨trivial, (callsIn_wide.2 (HD.out _)).mono ?_⟩
       rintro e w7 ⟨rfl, k7⟩
       have HK7 := Lib.hid k7
       clear k7
       dsimp only
       refine hK _ _ ?_; clear hK K
       exact aI hG (hs21.out _ HK7.out)
      exact AllReadyIn.nil
     have hs22 := Lib.hid hs22'
     clear hs22'
     have hs23' : G 12 #[true, true, false, false, true, false, false, false, true, false, false, true, false, true, false, false, false, false] { tmps := #[.func (.yield l) #[] #[], .pointer (some ⟨bu, 0, none⟩), .pointer (some ⟨bs, 0, none⟩), undef, .int .i64 (kx : Nat), undef, .pointer (some ⟨wo.heap.size, 0, none⟩), .int .i64 (i : Nat), .int .i64 mt, .slice (some ⟨b, o, none⟩) U.length c', .int .i64 (U.length : Nat), .int .i64 (j : Nat), .bool true, .pointer (some ⟨b, o + j * 3, none⟩), .agg #[.string m.name, .int .i64 m.ar, .slice (some ⟨vb, vo, none⟩) m.types.length vc], .tuple #[.int .i64 (kx : Nat), .bool true], .slice (some ⟨sb, so, none⟩) L.length c, .int .i64 (k : Nat), .pointer (some ⟨wo.heap.size, 0, none⟩), .string m.name, .tuple #[.int .i64 (kx : Nat), .bool true], .int .i64 (kx : Nat), .bool true, .pointer (some ⟨wo.heap.size, 2, none⟩), .slice (some ⟨vb, vo, none⟩) m.types.length vc, .int .i64 (m.types.length : Nat), .int .i64 (i : Nat), .bool true, .int .i64 (i : Nat), .pointer (some ⟨vb, vo + i, none⟩), .int .i64 mt, .func (.yield l) #[] #[], .pointer (some ⟨wo.heap.size, 0, none⟩), u33, u34, .int .i64 (kx : Nat), u36, u37, u38, .int .i64 (i : Nat), u40, u41, .int .i64 mt, u43, .int .i64 (i : Nat), u45, u46, u47, u48, u49, u50], defers := [] } wr.drew := by
      rw [hG]
      refine wpAnyIn_ready (rs := [2, 3, 12]) (by kernel_rfl) (by simp) ?_
      refine AllReadyIn.cons rfl (fun K hK => ?_) ?_
      ·go_simp
       refine hK _ _ ?_; clear hK K
       exact aI hG hs11.out
      refine AllReadyIn.cons rfl (fun K hK => ?_) ?_
      ·go_simp
       refine hK _ _ ?_; clear hK K
       refine wpAnyIn_take (i := 5) (v := .pointer (some ⟨sb, so + kx * 3, none⟩)) rfl rfl (by kernel_rfl) (by kernel_rfl) (by kernel_rfl) (fun _ _ _ h => h) ⟨Or.inl ⟨by kernel_rfl, by intro w; go_simp; try with_reducible rfl⟩, fun _ => rfl⟩ ?_
       refine wpAnyIn_take (i := 6) (v := .pointer (some ⟨sb, so + kx * 3 + 2, none⟩)) rfl rfl (by kernel_rfl) (by kernel_rfl) (by kernel_rfl) (fun _ _ _ h => h) ⟨Or.inl ⟨by kernel_rfl, by intro w; kernel_rfl⟩, fun _ => rfl⟩ ?_
       exact aI hG hs20.out
      refine AllReadyIn.cons rfl (fun K hK => ?_) ?_
      ·go_simp
       refine hK _ _ ?_; clear hK K
       exact aI hG hs22.out
      exact AllReadyIn.nil
     have hs23 := Lib.hid hs23'
     clear hs23'
     refine wpAnyIn_take (i := 0) (v := .func (.yield l) #[] #[]) rfl rfl (by kernel_rfl) (by kernel_rfl) (by kernel_rfl) (fun _ _ _ h => h) ⟨Or.inl ⟨by kernel_rfl, by intro w; kernel_rfl⟩, fun _ => rfl⟩ ?_
     refine wpAnyIn_take (i := 1) (v := .pointer (some ⟨wo.heap.size, 0, none⟩)) rfl rfl (by kernel_rfl) (by kernel_rfl) (by kernel_rfl) (fun _ _ _ h => h) ⟨Or.inl ⟨by kernel_rfl, by intro w; kernel_rfl⟩, fun _ => rfl⟩ ?_
     refine wpAnyIn_take (i := 4) (v := .int .i64 (kx : Nat)) rfl rfl (by kernel_rfl) (by kernel_rfl) (by kernel_rfl) (fun _ _ _ h => h) ⟨Or.inl ⟨by kernel_rfl, by intro w; kernel_rfl⟩, fun _ => rfl⟩ ?_
     refine wpAnyIn_take (i := 8) (v := .int .i64 (i : Nat)) rfl rfl (by kernel_rfl) (by kernel_rfl) (by kernel_rfl) (fun _ _ _ h => h) ⟨Or.inl ⟨by kernel_rfl, by intro w; kernel_rfl⟩, fun _ => rfl⟩ ?_
     refine wpAnyIn_take (i := 11) (v := .int .i64 mt) rfl rfl (by kernel_rfl) (by kernel_rfl) (by kernel_rfl) (fun _ _ _ h => h) ⟨Or.inl ⟨by kernel_rfl, by intro w; kernel_rfl⟩, fun _ => rfl⟩ ?_
     refine wpAnyIn_take (i := 13) (v := .int .i64 (i : Nat)) rfl rfl (by kernel_rfl) (by kernel_rfl) (by kernel_rfl) (fun _ _ _ h => h) ⟨Or.inl ⟨by kernel_rfl, by intro w; kernel_rfl⟩, fun _ => rfl⟩ ?_
     exact aI hG hs23.out
    ·have hilI : ¬ (i : Int) < (m.types.length : Int) := by omega
     obtain rfl : i = m.types.length := by omega
     have hta : (Tab.prs1 L m).take m.types.length = Tab.prs1 L m := List.take_of_length_le (by rw [Tab.prs1_len hL HX1.out HX2.out]; exact Nat.le_refl _)
     rw [hta, ← Tab.prs_snoc L U HX.out] at hJr
     clear hta
     have HE := Lib.hid hJr
     clear hJr HJR
     gi_wp2
     go_roundw
     case rel => exact ⟨kx, j + 1, by omega, by omega, rfl, by go_num, HKR.out, by omega, HNX.out, HE.out, HB1R.out, HB2R.out⟩
     case measure => simp [intOf]; omega
  ·have hltI : ¬ (j : Int) < (U.length : Int) := by omega
   obtain rfl : j = U.length := by omega
   have hJe := HJJ.out
   rw [List.take_length] at hJe
   have HE := Lib.hid hJe
   clear hJe HJJ
   gi_wp2
   refine bodyPost_end (results_none rfl _ _ _) rfl ?_
   exact ⟨⟨_, rfl⟩, .inl HE.out⟩
end Go.Proofs.YtjdkegfckkbpeaaGreatDoor
namespace Go.Proofs.YtjdkegfckkbpeaaGreatDoor.Tab
/-- What a pair of types must keep. -/
def ptest (R : Int → Int → Bool) (p : Pr) : Bool := (decide (p.2.2.2 = 2) || R p.2.1 p.2.2.1) && (decide (p.2.2.2 = 1) || R p.2.2.1 p.2.1)
theorem dir_cases (ar : Int) (i : Nat) : dir ar i = 1 ∨ dir ar i = 2 ∨ dir ar i = 3 := by
 unfold dir
 split
 ·exact .inr (.inr rfl)
 ·split
  ·exact .inr (.inl rfl)
  ·exact .inl rfl
theorem prs_dir {L U : List (Mb Int)} {p : Pr} (h : p ∈ prs L U) : (p.2.2.2 = 1 ∨ p.2.2.2 = 2 ∨ p.2.2.2 = 3) ∧ ∃ m ∈ U, ∃ x ∈ L, p.2.1 = 0 ∨ p.2.1 ∈ x.types ∧ True := by
 unfold prs at h
 obtain ⟨m, hm, hp⟩ := List.mem_flatMap.1 h
 unfold prs1 at hp
 split at hp
 ·rename_i x hx
  obtain ⟨i, hi, rfl⟩ := List.mem_map.1 hp
  refine ⟨dir_cases _ _, m, hm, x, List.mem_of_find?_eq_some hx, ?_⟩
  dsimp only
  rw [List.getD_eq_getElem?_getD]
  cases e : x.types[i]? with
  | none => exact .inl rfl
  | some a => exact .inr ⟨List.mem_of_getElem? e, trivial⟩
 ·cases hp
theorem prs_bound {L U : List (Mb Int)} {b : Int} (hb : 0 < b) (hL : ∀ x ∈ L, ∀ a ∈ x.types, a < b) (hU : ∀ x ∈ U, ∀ a ∈ x.types, a < b) {p : Pr} (h : p ∈ prs L U) : p.2.1 < b ∧ p.2.2.1 < b := by
 unfold prs at h
 obtain ⟨m, hm, hp⟩ := List.mem_flatMap.1 h
 unfold prs1 at hp
 split at hp
 ·rename_i x hx
  obtain ⟨i, hi, rfl⟩ := List.mem_map.1 hp
  dsimp only
  rw [List.getD_eq_getElem?_getD, List.getD_eq_getElem?_getD]
  constructor
  ·cases e : x.types[i]? with
   | none => exact hb
   | some a => exact hL x (List.mem_of_find?_eq_some hx) a (List.mem_of_getElem? e)
  ·cases e : m.types[i]? with
   | none => exact hb
   | some a => exact hU m hm a (List.mem_of_getElem? e)
 ·cases hp
theorem ptest_ok (R : Int → Int → Bool) (nm : ByteArray) (ar : Int) (i : Nat) (a b : Int) : ptest R (nm, a, b, dir ar i) = okP R ar i a b := by
 unfold ptest okP fwd bwd dir
 by_cases h1 : ar < 0
 ·simp [h1]
 ·by_cases h2 : (i : Int) < ar
  ·simp [h1, h2]
  ·simp [h1, h2]
theorem all_range_okAt (R : Int → Int → Bool) (nm : ByteArray) (ar : Int) : ∀ (l u : List Int) (i : Nat), l.length = u.length →
  ((List.range u.length).all fun q => ptest R (nm, l.getD q 0, u.getD q 0, dir ar (i + q))) = okAt R ar i l u
 | [], [], i, _ => by unfold okAt; rfl
 | [], b :: u, i, h => by cases h
 | a :: l, [], i, h => by cases h
 | a :: l, b :: u, i, h => by
  have ih := all_range_okAt R nm ar l u (i + 1) (by simpa using h)
  rw [List.length_cons, List.range_succ_eq_map, List.all_cons, List.all_map]
  unfold okAt
  rw [← ih, ← ptest_ok R nm ar i a b]
  congr 1
  refine List.all_congr rfl fun q => ?_
  simp [Function.comp, Nat.add_assoc, Nat.add_comm 1 q]
theorem prs_holds {R : Int → Int → Bool} {L U : List (Mb Int)} (hA : Asc L) (hB : hasB L U = true) (tL : ∀ x ∈ L, TL x) (tU : ∀ x ∈ U, TL x) : (prs L U).all (ptest R) = holds R L U := by
 unfold prs holds
 rw [List.all_flatMap]
 refine Bool.eq_iff_iff.2 ?_
 rw [List.all_eq_true, List.all_eq_true]
 refine forall_congr' fun m => forall_congr' fun hm => ?_
 obtain ⟨j, hj, rfl⟩ := List.getElem_of_mem hm
 obtain ⟨k, x, hx, hn, har⟩ := has1_of hB (List.getElem?_eq_getElem hj)
 generalize U[j] = m at *
 have hlen : x.types.length = m.types.length := by
  have h1 := tL x (List.mem_of_getElem? hx)
  have h2 := tU m hm
  unfold TL at h1 h2
  rw [h1, h2, har]
 have e1 : (prs1 L m).all (ptest R) = okM R x m := by
  rw [prs1_at hA hx hn, List.all_map]
  have := all_range_okAt R m.name m.ar x.types m.types 0 hlen
  unfold okM
  rw [← this]
  refine List.all_congr rfl fun q => ?_
  simp
 rw [e1]
 constructor
 ·intro h
  exact List.any_eq_true.2 ⟨x, List.mem_of_getElem? hx, by simp [alike, hn, har, h]⟩
 ·intro h
  obtain ⟨y, hy, e⟩ := List.any_eq_true.1 h
  simp only [Bool.and_eq_true] at e
  have hy' : y = x := asc_eq hA hx hy (by
   have := e.1
   unfold alike at this
   simp only [Bool.and_eq_true, decide_eq_true_eq] at this
   exact this.1.trans hn.symm)
  rw [← hy']; exact e.2
end Go.Proofs.YtjdkegfckkbpeaaGreatDoor.Tab
namespace Go.Proofs.YtjdkegfckkbpeaaGreatDoor
open Go.ChangeShapes Go.WideShapes Go.ChangeAt Go.RowKit Go.Shelf
attribute [local go_sem] Oper.semAt_some
/-- A row of shapes. -/
def SlAt (w : World) (b o : Nat) (L : List (Tab.Mb Int)) : Prop := ∃ v, w.cell? ⟨b, o, none⟩ = some v ∧ ShpAt w v L
def prW (x : Tab.Pr) (W : World) : World := W.alloc (.cells #[.int .i64 x.2.1, .int .i64 x.2.2.1, .int .i64 x.2.2.2] 225)
theorem prW_kept (x : Tab.Pr) (W : World) : Kept W (prW x W) := (Kept.refl W).alloc _
theorem wpIn_range_pairs {g : Operand} {ps : Array Tmp} {assign body : Code} {Q : Exit → Act → World → Prop} {av : Act} {w w0 : World} {bs bu : Nat} (L U : List (Tab.Mb Int)) (a a' : Option Addr) (c c' : Nat) (B : Nat → Prop)
  (hg : av.eval g = .func (.func 198) #[] #[.pointer (some ⟨bu, 0, none⟩), .pointer (some ⟨bs, 0, none⟩)])
  (h : ShpAt w0 (.slice a L.length c) L) (h' : ShpAt w0 (.slice a' U.length c') U) (hL : Tab.Asc L) (hU : Tab.Asc U) (hLU : Tab.hasB L U = true) (tL : ∀ x ∈ L, Tab.TL x) (tU : ∀ x ∈ U, Tab.TL x)
  (hk : Kept w0 w) (hbs : Blk w bs 120 #[.slice a L.length c]) (hbu : Blk w bu 120 #[.slice a' U.length c'])
  (hB : ∀ k, B k → w0.heap.size ≤ k ∧ k < w.heap.size ∧ k ≠ bs ∧ k ≠ bu) (hps : ps.size = 2)
  (I : List Tab.Pr → World → Prop) (Ix : Code → List Tab.Pr → World → Prop)
  (hI : ∀ s A B, I s A → Only (fun k => w.heap.size ≤ k ∧ k < w.heap.size + 2) A B → I s B)
  (hIx : ∀ c s A B, Ix c s A → Only (fun k => w.heap.size ≤ k ∧ k < w.heap.size + 2) A B → Ix c s B)
  (h0 : I [] w) (a₁ : Tab.Pr → World → Act)
  (hassign : ∀ (l : Nat) (x : Tab.Pr) (W : World) (K : Act → World → Prop), K (a₁ x W) (prW x W) →
   assign.wpIn (Fence.wide.inRound l) 1 Tryz.prog (Exit.then K (fun _ _ _ => False)) { tmps := (ps.zip (prC x)).foldl (fun t (p, v) => t.setIfInBounds p v) av.tmps, defers := [] } W)
  (hbody : ∀ (l : Nat) (pre : List Tab.Pr) (x : Tab.Pr) (W0 W : World), l = w.heap.size + 1 → l < W0.heap.size → Only (· = l) (prW x W0) W → (∃ r, W.heap[l]? = some (.loop r)) → I pre W → (pre ++ [x]) <+: Tab.prs L U → w.heap.size + 2 ≤ W.heap.size →
   body.wpIn (Fence.wide.inRound l) 1 Tryz.prog (ownPostW B I Ix (pre ++ [x]) W) (a₁ x W0) W)
  (hdone : ∀ (D : Nat) (W : World), D = w.heap.size → I (Tab.prs L U) W → W.heap[D]? = some (.deferred (some [])) → Q .normal { av with defers := { target := .collected D, args := #[] } :: av.defers } W)
  (hstop : ∀ (D : Nat) (c : Code) (pre : List Tab.Pr) (W : World), D = w.heap.size → pre <+: Tab.prs L U → Ix c pre W → W.heap[D]? = some (.deferred (some [])) → c.wpIn Fence.wide 3 Tryz.prog Q { av with defers := { target := .collected D, args := #[] } :: av.defers } W) :
  (Code.rangeFunc g ps assign body).wpIn Fence.wide 3 Tryz.prog Q av w := by
 have l1 := hbs.lt
 have l2 := hbu.lt
 have l0 := hk.size
 refine wpIn_rangeFunc_ownA (F := Fence.wide) (n := 3) rfl (by omega) hg trivial (enters_of Tryz.func198 (by kernel_rfl) rfl)
  (It := fun _ => False) (U := B) (S := (· = Tab.prs L U)) (Sp := (· <+: Tab.prs L U)) (G := (· <+: Tab.prs L U)) (m := 0) (encs := prC)
  (fun W1 hk1 hs1 => pairs1_own (3 - 1) (by omega) L U a a' c c' w0 bs bu _ W1 h h' hL hU hLU tL tU (hk.trans hk1) (hbs.kept hk1) (hbu.kept hk1) (fun k h => by have := hB k h; omega) (by omega) (by omega) (by omega))
  (fun k e => e.elim) (fun k h => by have := hB k h; omega) (fun _ => hps.symm) I Ix (fun s A B h o => hI s A B h (o.mono fun k _ e => e.elim False.elim fun e => by omega)) (fun c s A B h o => hIx c s A B h (o.mono fun k _ e => e.elim False.elim fun e => by omega)) h0 a₁ prW prW_kept hassign ?_ ?_ ?_
 ·intro l pre x W0 W hl hlt ho hr hi hpre hsz
  exact hbody l pre x W0 W hl hlt ho hr hi hpre (by omega)
 ·rintro D xs W e rfl hi hd
  exact hdone D W e hi hd
 ·rintro D c pre W e hp hi hd
  exact hstop D c pre W e hp hi hd
/-- Within holds' loop. -/
def HoI (R : Int → Int → Bool) (g : Nat) (w : World) (pre : List Tab.Pr) (W : World) : Prop :=
 Blk W w.heap.size 99 #[.pointer (some ⟨g, 0, none⟩)] ∧ Blk W (w.heap.size + 1) 4 #[.bool false] ∧ Kept w W ∧ pre.all (Tab.ptest R) = true
theorem hoI_only {R : Int → Int → Bool} {g : Nat} {w A B : World} {pre : List Tab.Pr} {S : Nat → Prop} (h : HoI R g w pre A) (ho : Only S A B) (hs : ∀ k, S k → w.heap.size + 2 ≤ k) : HoI R g w pre B :=
 ⟨h.1.only ho (fun e => by have := hs _ e; omega), h.2.1.only ho (fun e => by have := hs _ e; omega), h.2.2.1.onlyS ho (fun k e => by have := hs k e; omega), h.2.2.2⟩
def HoX (R : Int → Int → Bool) (w : World) (c : Code) (pre : List Tab.Pr) (W : World) : Prop :=
 c = .ret ∧ Blk W (w.heap.size + 1) 4 #[.bool false] ∧ Kept w W ∧ pre.all (Tab.ptest R) = false
theorem hoX_only {R : Int → Int → Bool} {w A B : World} {c : Code} {pre : List Tab.Pr} {S : Nat → Prop} (h : HoX R w c pre A) (ho : Only S A B) (hs : ∀ k, S k → w.heap.size + 2 ≤ k) : HoX R w c pre B :=
 ⟨h.1, h.2.1.only ho (fun e => by have := hs _ e; omega), h.2.2.1.onlyS ho (fun k e => by have := hs k e; omega), h.2.2.2⟩
theorem ho_no {R : Int → Int → Bool} {g : Nat} {w W : World} {pre : List Tab.Pr} {x : Tab.Pr} (h : HoI R g w pre W) (hx : Tab.ptest R x = false) :
  Only (· = w.heap.size + 1) W (W.setCell ⟨w.heap.size + 1, 0, none⟩ (.bool false)) ∧ HoX R w .ret (pre ++ [x]) (W.setCell ⟨w.heap.size + 1, 0, none⟩ (.bool false)) := by
 have hO := (Only.refl (· = w.heap.size + 1) W).put 0 (.bool false)
 exact ⟨hO, rfl, h.2.1.put 0 _, h.2.2.1.onlyS hO (fun k e => by omega), by rw [List.all_append]; simp [hx]⟩
theorem ho_yes {R : Int → Int → Bool} {g : Nat} {w W : World} {pre : List Tab.Pr} {x : Tab.Pr} (h : HoI R g w pre W) (hx : Tab.ptest R x = true) :
  Only (· = w.heap.size + 1) W W ∧ HoI R g w (pre ++ [x]) W :=
 ⟨Only.refl _ _, h.1, h.2.1, h.2.2.1, by rw [List.all_append, h.2.2.2]; simp [hx]⟩
theorem ho_end {R : Int → Int → Bool} {g : Nat} {w W : World} {pre : List Tab.Pr} {D : Nat} (h : HoI R g w pre W) (hD : w.heap.size + 2 ≤ D) (hd : W.heap[D]? = some (.deferred (some []))) :
  (W.setCell ⟨w.heap.size + 1, 0, none⟩ (.bool true)).heap[D]? = some (.deferred (some [])) ∧
   ((W.setCell ⟨w.heap.size + 1, 0, none⟩ (.bool true)).putObj D (.deferred none)).cell? ⟨w.heap.size + 1, 0, none⟩ = some (.bool true) ∧
   Kept w ((W.setCell ⟨w.heap.size + 1, 0, none⟩ (.bool true)).putObj D (.deferred none)) := by
 have hO := (Only.refl (· = w.heap.size + 1) W).put 0 (.bool true)
 have h2 : Blk (W.setCell ⟨w.heap.size + 1, 0, none⟩ (.bool true)) (w.heap.size + 1) 4 #[.bool true] := h.2.1.put 0 _
 have hO2 := Only.putObj (Only.refl (· = D) (W.setCell ⟨w.heap.size + 1, 0, none⟩ (.bool true))) (.inl rfl) (.deferred none)
 have h3 := (h2.only hO2 (by omega)).cell 0
 simp at h3
 exact ⟨hO.same hd (by omega), h3, (h.2.2.1.onlyS hO (fun k e => by omega)).onlyS hO2 (fun k e => by omega)⟩
set_option maxHeartbeats 4000000 in
theorem holds_c (F : Nat → Nat → Bool) (S : List (List (Tab.Mb Int))) (sv : Value) (g s u : Nat) (L U : List (Tab.Mb Int)) (w : World) (hR : RelAt w g sv F) (hS : Row 1 SlAt w sv S) (hs : S[s]? = some L) (hu : S[u]? = some U)
  (hL : Tab.Asc L) (hU : Tab.Asc U) (hLU : Tab.hasB L U = true) (tL : ∀ x ∈ L, Tab.TL x) (tU : ∀ x ∈ U, Tab.TL x) (bL : ∀ x ∈ L, ∀ a ∈ x.types, a < 40) (bU : ∀ x ∈ U, ∀ a ∈ x.types, a < 40) :
  Calls Tryz.prog 122 #[.pointer (some ⟨g, 0, none⟩), .int .i64 s, .int .i64 u] w fun e w' => e = .returned (.bool (Tab.holds (Tab.goesN F) L U)) ∧ Kept w w' := by
 rw [← Tab.prs_holds hL hLU tL tU]
 have hgl := hR.lt
 have r0 := hR.shapes
 have HR := Lib.hid hR
 obtain ⟨sa, sc, rfl, hsc, hsm, hat⟩ := hS
 unfold maxLen at hsm
 have hsl : s < S.length := (List.getElem?_eq_some_iff.1 hs).1
 have hul : u < S.length := (List.getElem?_eq_some_iff.1 hu).1
 have hsI : (s : Int) < (S.length : Int) := by omega
 have huI : (u : Int) < (S.length : Int) := by omega
 obtain ⟨qb, qo, rfl, v1, c1, hv1⟩ := hat _ _ hs
 obtain ⟨qb', qo', e, v2, c2, hv2⟩ := hat _ _ hu
 injection e with e
 injection e with e1 e2
 subst e1 e2
 have es : qo + s * 1 = qo + s := by omega
 have eu : qo + u * 1 = qo + u := by omega
 rw [es] at c1
 rw [eu] at c2
 have HV1 := Lib.hid hv1
 have HV2 := Lib.hid hv2
 obtain ⟨a1, k1, rfl, _⟩ := hv1
 obtain ⟨a2, k2, rfl, _⟩ := hv2
 clear hat es eu hR hs hu
 refine (callsIn_wide (n := 3)).1 (callsIn_of_wp_marks Tryz.func122 rfl trivial (wpIn_wide.2 ?_) rfl)
 simp only [Tryz.ntmps122, List.size_toArray, List.length_cons, List.length_nil, Nat.reduceAdd, Nat.reduceSub, Array.replicate_succ, Array.replicate_zero, List.push_toArray, List.append_toArray, List.nil_append, List.cons_append]
 go_wp2_with fail
 obtain ⟨W1, hW1⟩ : ∃ W1, (w.alloc (.cells #[.pointer (some ⟨g, 0, none⟩)] 99)).alloc (.cells #[.bool false] 4) = W1 := ⟨_, rfl⟩
 have hI1 : HoI (Tab.goesN F) g w [] W1 := by
  rw [← hW1]
  have h2 := Blk.new (w.alloc (.cells #[.pointer (some ⟨g, 0, none⟩)] 99)) 4 #[.bool false]
  simp only [World.size_alloc] at h2
  exact ⟨(Blk.new w _ _).alloc _, h2, ((Kept.refl w).alloc _).alloc _, by simp⟩
 have hs1 : W1.heap.size = w.heap.size + 2 := by rw [← hW1]; simp
 have d0 := hI1.1.cell 0
 simp only [List.getElem?_toArray, List.getElem?_cons_zero] at d0
 have d1 := hI1.2.2.1.cell r0
 have d2 := hI1.2.2.1.cell c1
 have d3 := hI1.2.2.1.cell c2
 have HS1 := Lib.hid hs1
 have HI1 := Lib.hid hI1
 rw [hW1]
 clear hW1 hs1 hI1 r0 c1 c2
 go_still_tail 14, (by kernel_rfl)
 change wpList _ _ _ _ _ W1.drew
 have HC := Lib.hid (pairsC (.slice a1 L.length k1) (.slice a2 U.length k2) W1.drew ⟨_, _, _, rfl⟩ ⟨_, _, _, rfl⟩)
 clear d0 d1 d2 d3
 go_wp2_with fail
 refine HC.out.mono ?_
 rintro e w3 ⟨rfl, hw3⟩
 have HK3 := Lib.hid (show Kept W1 w3 by rw [hw3]; exact (((Kept.refl W1).drew).alloc _).alloc _)
 have HS3 := Lib.hid (show w3.heap.size = W1.heap.size + 2 by rw [hw3, World.size_alloc, World.size_alloc]; rfl)
 have HB1 := Lib.hid (show Blk w3 W1.heap.size 120 #[.slice a1 L.length k1] by rw [hw3]; exact (Blk.new W1.drew _ _).alloc _)
 have HB2 := Lib.hid (show Blk w3 (W1.heap.size + 1) 120 #[.slice a2 U.length k2] by
  rw [hw3]
  have := Blk.new (W1.drew.alloc (.cells #[.slice a1 L.length k1] 120)) 120 #[.slice a2 U.length k2]
  rw [World.size_alloc] at this
  exact this)
 clear hw3 HC
 have hdr : W1.drew.heap.size = W1.heap.size := rfl
 rw [hdr]
 clear hdr
 go_wp2_with fail
 have e1 : w.heap.size + 2 ≤ W1.heap.size := by have := HS1.out; omega
 have e3 : W1.heap.size + 2 ≤ w3.heap.size := by have := HS3.out; omega
 have hI3 : HoI (Tab.goesN F) g w [] w3 := hoI_only HI1.out (S := fun _ => False) (Only.of_kept HK3.out) (fun k h => h.elim)
 refine wpIn_wide.1 (wpIn_range_pairs (w0 := w) (bs := W1.heap.size) (bu := W1.heap.size + 1) L U a1 a2 k1 k2 (fun k => k = w.heap.size + 1) rfl HV1.out HV2.out hL hU hLU tL tU hI3.2.2.1 HB1.out HB2.out (fun k e => by omega) rfl
  (HoI (Tab.goesN F) g w) (HoX (Tab.goesN F) w) (fun pre A B h o => hoI_only h o (fun k h => by omega)) (fun c pre A B h o => hoX_only h o (fun k h => by omega)) hI3
  (fun x W => { tmps := #[.pointer (some ⟨g, 0, none⟩), .int .i64 s, .int .i64 u, .pointer (some ⟨w.heap.size, 0, none⟩), undef, undef, .pointer (some ⟨w.heap.size + 1, 0, none⟩), undef, .pointer (some ⟨W.heap.size, 0, none⟩),
     .pointer (some ⟨g, 0, none⟩), .pointer (some ⟨g, 0, none⟩), .pointer (some ⟨g, 0, none⟩), .slice (some ⟨qb, qo, none⟩) S.length sc, .int .i64 s, .pointer (some ⟨qb, qo + s, none⟩), .slice a1 L.length k1,
     .pointer (some ⟨g, 0, none⟩), .pointer (some ⟨g, 0, none⟩), .pointer (some ⟨g, 0, none⟩), .slice (some ⟨qb, qo, none⟩) S.length sc, .int .i64 u, .pointer (some ⟨qb, qo + u, none⟩), .slice a2 U.length k2,
     .func (.func 198) #[] #[.pointer (some ⟨W1.heap.size + 1, 0, none⟩), .pointer (some ⟨W1.heap.size, 0, none⟩)], .string x.1, .agg #[.int .i64 x.2.1, .int .i64 x.2.2.1, .int .i64 x.2.2.2],
     undef, undef, undef, undef, undef, undef, undef, undef, undef, undef, undef, undef, undef, undef, undef, undef, undef, undef, undef, undef, undef, undef, undef, undef, undef, undef, undef, undef], defers := [] }) ?assign ?body ?done ?stop)
 case assign =>
  intro l x W K hK
  unfold prW at hK
  simp only [prC]
  gi_wp2
  exact hK
 case body =>
  rintro l pre x W0 W hl hl0 hoW _ hIW hpre hsz
  have hBx := (Blk.new W0 225 #[.int .i64 x.2.1, .int .i64 x.2.2.1, .int .i64 x.2.2.2]).only (show Only (· = l) _ W from hoW) (by omega)
  have p0 := hBx.cell 0
  have p1 := hBx.cell 1
  have p2 := hBx.cell 2
  have n0 := hIW.1.cell 0
  have n1 := hIW.2.1.cell 0
  have f1 := hIW.2.1.frozen 0
  simp only [List.getElem?_toArray, List.getElem?_cons_zero, List.getElem?_cons_succ] at p0 p1 p2 n0 n1
  have hx := hpre.subset (show x ∈ pre ++ [x] by simp)
  obtain ⟨hq1, hq2⟩ := Tab.prs_bound (b := 40) (by omega) bL bU hx
  have hd := (Tab.prs_dir hx).1
  have HI := Lib.hid hIW
  have HG1 := Lib.hid (cgoes_c F (.slice (some ⟨qb, qo, none⟩) S.length sc) g x.2.1 x.2.2.1 W (HR.out.kept hIW.2.2.1) hq1 hq2)
  have HG2 := Lib.hid (cgoes_c F (.slice (some ⟨qb, qo, none⟩) S.length sc) g x.2.2.1 x.2.1 W (HR.out.kept hIW.2.2.1) hq2 hq1)
  obtain ⟨nm, xo, xt, xd⟩ := x
  dsimp only at *
  have HPT : Hid (∀ b1 b2, Tab.goesN F xo xt = b1 → Tab.goesN F xt xo = b2 → Tab.ptest (Tab.goesN F) (nm, xo, xt, xd) = ((decide (xd = 2) || b1) && (decide (xd = 1) || b2))) := Lib.hid (fun b1 b2 h1 h2 => by unfold Tab.ptest; rw [← h1, ← h2])
  clear hIW hI3 HI1 e1 e3 hsz hl hl0 hoW hpre hBx hx hq1 hq2
  have a11 : (bits BinOp.and IntKind.i64 1 1 != 0) = true := by decide +kernel
  have a12 : (bits BinOp.and IntKind.i64 1 2 != 0) = false := by decide +kernel
  have a21 : (bits BinOp.and IntKind.i64 2 1 != 0) = false := by decide +kernel
  have a22 : (bits BinOp.and IntKind.i64 2 2 != 0) = true := by decide +kernel
  have a31 : (bits BinOp.and IntKind.i64 3 1 != 0) = true := by decide +kernel
  have a32 : (bits BinOp.and IntKind.i64 3 2 != 0) = true := by decide +kernel
  cases hb1 : Tab.goesN F xo xt with
  | true =>
   rw [hb1] at HG1
   cases hb2 : Tab.goesN F xt xo with
   | true =>
    rw [hb2] at HG2
    have HQ := Lib.hid (HPT.out _ _ hb1 hb2)
    clear hb1 hb2 HPT
    rcases hd with rfl | rfl | rfl
    ·clear a21 a22 a31 a32
     gi_wp2
     refine ⟨trivial, (callsIn_wide.2 HG1.out).mono ?_⟩
     rintro e w7 ⟨rfl, rfl⟩
     gi_wp2
     refine ⟨trivial, ?_⟩
     gi_wp2
     exact ho_yes HI.out HQ.out
    ·clear a11 a12 a31 a32
     gi_wp2
     refine ⟨trivial, ?_⟩
     gi_wp2
     refine ⟨trivial, (callsIn_wide.2 HG2.out).mono ?_⟩
     rintro e w7 ⟨rfl, rfl⟩
     gi_wp2
     exact ho_yes HI.out HQ.out
    ·clear a11 a12 a21 a22
     gi_wp2
     refine ⟨trivial, (callsIn_wide.2 HG1.out).mono ?_⟩
     rintro e w7 ⟨rfl, rfl⟩
     gi_wp2
     refine ⟨trivial, (callsIn_wide.2 HG2.out).mono ?_⟩
     rintro e w7 ⟨rfl, rfl⟩
     gi_wp2
     exact ho_yes HI.out HQ.out
   | false =>
    rw [hb2] at HG2
    have HQ := Lib.hid (HPT.out _ _ hb1 hb2)
    clear hb1 hb2 HPT
    rcases hd with rfl | rfl | rfl
    ·clear a21 a22 a31 a32
     gi_wp2
     refine ⟨trivial, (callsIn_wide.2 HG1.out).mono ?_⟩
     rintro e w7 ⟨rfl, rfl⟩
     gi_wp2
     refine ⟨trivial, ?_⟩
     gi_wp2
     exact ho_yes HI.out HQ.out
    ·clear a11 a12 a31 a32
     gi_wp2
     refine ⟨trivial, ?_⟩
     gi_wp2
     refine ⟨trivial, (callsIn_wide.2 HG2.out).mono ?_⟩
     rintro e w7 ⟨rfl, rfl⟩
     gi_wp2
     exact ho_no HI.out HQ.out
    ·clear a11 a12 a21 a22
     gi_wp2
     refine ⟨trivial, (callsIn_wide.2 HG1.out).mono ?_⟩
     rintro e w7 ⟨rfl, rfl⟩
     gi_wp2
     refine ⟨trivial, (callsIn_wide.2 HG2.out).mono ?_⟩
     rintro e w7 ⟨rfl, rfl⟩
     gi_wp2
     exact ho_no HI.out HQ.out
  | false =>
   rw [hb1] at HG1
   cases hb2 : Tab.goesN F xt xo with
   | true =>
    rw [hb2] at HG2
    have HQ := Lib.hid (HPT.out _ _ hb1 hb2)
    clear hb1 hb2 HPT
    rcases hd with rfl | rfl | rfl
    ·clear a21 a22 a31 a32
     gi_wp2
     refine ⟨trivial, (callsIn_wide.2 HG1.out).mono ?_⟩
     rintro e w7 ⟨rfl, rfl⟩
     gi_wp2
     refine ⟨trivial, ?_⟩
     gi_wp2
     all_goals first
      | exact ho_no HI.out HQ.out
      | (exfalso; rename_i h1 h2; cases h1; done)
      | (gi_wp2; refine ⟨trivial, ?_⟩; gi_wp2; exact ho_no HI.out HQ.out)
    ·clear a11 a12 a31 a32
     gi_wp2
     refine ⟨trivial, ?_⟩
     gi_wp2
     refine ⟨trivial, (callsIn_wide.2 HG2.out).mono ?_⟩
     rintro e w7 ⟨rfl, rfl⟩
     gi_wp2
     exact ho_yes HI.out HQ.out
    ·clear a11 a12 a21 a22
     gi_wp2
     refine ⟨trivial, (callsIn_wide.2 HG1.out).mono ?_⟩
     rintro e w7 ⟨rfl, rfl⟩
     gi_wp2
     refine ⟨trivial, ?_⟩
     gi_wp2
     all_goals first
      | exact ho_no HI.out HQ.out
      | (exfalso; rename_i h1 h2; cases h1; done)
      | (gi_wp2; refine ⟨trivial, ?_⟩; gi_wp2; exact ho_no HI.out HQ.out)
   | false =>
    rw [hb2] at HG2
    have HQ := Lib.hid (HPT.out _ _ hb1 hb2)
    clear hb1 hb2 HPT
    rcases hd with rfl | rfl | rfl
    ·clear a21 a22 a31 a32
     gi_wp2
     refine ⟨trivial, (callsIn_wide.2 HG1.out).mono ?_⟩
     rintro e w7 ⟨rfl, rfl⟩
     gi_wp2
     refine ⟨trivial, ?_⟩
     gi_wp2
     all_goals first
      | exact ho_no HI.out HQ.out
      | (exfalso; rename_i h1 h2; cases h1; done)
      | (gi_wp2; refine ⟨trivial, ?_⟩; gi_wp2; exact ho_no HI.out HQ.out)
    ·clear a11 a12 a31 a32
     gi_wp2
     refine ⟨trivial, ?_⟩
     gi_wp2
     refine ⟨trivial, (callsIn_wide.2 HG2.out).mono ?_⟩
     rintro e w7 ⟨rfl, rfl⟩
     gi_wp2
     exact ho_no HI.out HQ.out
    ·clear a11 a12 a21 a22
     gi_wp2
     refine ⟨trivial, (callsIn_wide.2 HG1.out).mono ?_⟩
     rintro e w7 ⟨rfl, rfl⟩
     gi_wp2
     refine ⟨trivial, ?_⟩
     gi_wp2
     all_goals first
      | exact ho_no HI.out HQ.out
      | (exfalso; rename_i h1 h2; cases h1; done)
      | (gi_wp2; refine ⟨trivial, ?_⟩; gi_wp2; exact ho_no HI.out HQ.out)
 case done =>
  rintro D W hD hIW hd
  have hDn : w.heap.size + 2 ≤ D := by omega
  have hF := ho_end hIW hDn hd
  have n1 := hIW.2.1.cell 0
  have f1 := hIW.2.1.frozen 0
  simp at n1
  have HN := Lib.hid hIW.2.2.2
  have HF := Lib.hid hF
  clear hIW hD hI3 HI1 e1 e3 hF hDn hd
  go_wp2
  obtain ⟨hd', q, hk⟩ := HF.out
  refine ⟨by simp, .inl ⟨_, _, rfl, run_takeDeferred hd', ?_⟩⟩
  exact ⟨.bool true, by simp [results, Tryz.results122, go_sem, q], by rw [HN.out], hk⟩
 case stop =>
  rintro D c pre W hD hpre ⟨rfl, hb, hk, hin⟩ hd
  have hO := Only.putObj (Only.refl (· = D) W) (.inl rfl) (.deferred none)
  have hq := (hb.only hO (by omega)).cell 0
  simp at hq
  have hk2 := hk.onlyS hO (fun k e => by omega)
  have HIN := Lib.hid (show (Tab.prs L U).all (Tab.ptest (Tab.goesN F)) = false by
   rw [List.all_eq_false] at hin ⊢
   obtain ⟨x, hx, hp⟩ := hin
   exact ⟨x, hpre.subset hx, hp⟩)
  clear hI3 HI1 e1 e3 hD hb hk hin
  gi_wp2
  refine ⟨by simp, .inl ⟨_, _, rfl, run_takeDeferred hd, ?_⟩⟩
  exact ⟨.bool false, by simp [results, Tryz.results122, go_sem, hq], by rw [HIN.out], hk2⟩
end Go.Proofs.YtjdkegfckkbpeaaGreatDoor
namespace Go.Proofs.YtjdkegfckkbpeaaGreatDoor.Tab
/-- A pair at a place holds, if it is left. -/
def okQ (S : List (List (Mb Int))) (F : Nat → Nat → Bool) (q : Nat) : Prop :=
 ∀ i k, i < S.length → k < S.length → q = i * S.length + k → F i k = true → holds (goesN F) (shN S i) (shN S k) = true
/-- Of the last a pairs ahead of place p, all round, each holds. -/
def Askd (S : List (List (Mb Int))) (F : Nat → Nat → Bool) (N a p : Nat) : Prop := ∀ q, q < N → ((q < p ∧ p ≤ q + a) ∨ N + p ≤ q + a) → okQ S F q
def cnt (n : Nat) (F : Nat → Nat → Bool) : Nat := ((sqr n).filter fun p => F p.1 p.2).length
section
variable {S : List (List (Mb Int))} {F : Nat → Nat → Bool} {N a p : Nat}
theorem askd_zero : Askd S F N 0 p := fun q hq h => by omega
theorem askd_next (h : Askd S F N a p) (ho : okQ S F p) : Askd S F N (a + 1) (p + 1) := by
 intro q hq hh
 by_cases e : q = p
 ·rw [e]; exact ho
 ·exact h q hq (by omega)
theorem askd_turn (h : Askd S F N a N) : Askd S F N a 0 := fun q hq hh => h q hq (by omega)
theorem askd_all (h : Askd S F N N p) (hp : p ≤ N) : ∀ q, q < N → okQ S F q := fun q hq => h q hq (by omega)
end
theorem place_lt {n s u : Nat} (hs : s < n) (hu : u < n) : s * n + u < n * n := by
 have : (s + 1) * n ≤ n * n := Nat.mul_le_mul_right n hs
 rw [Nat.succ_mul] at this
 omega
theorem place_inj {n s u i k : Nat} (hu : u < n) (hk : k < n) (h : s * n + u = i * n + k) : i = s ∧ k = u := by
 have h1 : (s * n + u) / n = s := by rw [Nat.mul_comm, Nat.mul_add_div (by omega), Nat.div_eq_of_lt hu, Nat.add_zero]
 have h2 : (i * n + k) / n = i := by rw [Nat.mul_comm, Nat.mul_add_div (by omega), Nat.div_eq_of_lt hk, Nat.add_zero]
 have e : s = i := by rw [← h1, ← h2, h]
 subst e
 exact ⟨rfl, by omega⟩
theorem okQ_here {S : List (List (Mb Int))} {F : Nat → Nat → Bool} {s u : Nat} (hu : u < S.length) (h : F s u = true → holds (goesN F) (shN S s) (shN S u) = true) : okQ S F (s * S.length + u) := by
 intro i k hi hk e hF
 obtain ⟨rfl, rfl⟩ := place_inj hu hk e
 exact h hF
theorem closed_of {S : List (List (Mb Int))} {F : Nat → Nat → Bool} (hs : ∀ i k, F i k = true → i < S.length ∧ k < S.length ∧ hasB (shN S i) (shN S k) = true) (h : ∀ q, q < S.length * S.length → okQ S F q) : Closed S F := by
 intro i k hik
 obtain ⟨h1, h2, h3⟩ := hs i k hik
 exact ⟨h1, h2, h3, h _ (place_lt h1 h2) i k h1 h2 rfl hik⟩
/-- One pair struck out. -/
def off (F : Nat → Nat → Bool) (s u : Nat) : Nat → Nat → Bool := fun i k => if i = s ∧ k = u then false else F i k
theorem off_sub {F : Nat → Nat → Bool} {s u i k : Nat} (h : off F s u i k = true) : F i k = true ∧ ¬ (i = s ∧ k = u) := by
 unfold off at h
 by_cases e : i = s ∧ k = u
 ·rw [if_pos e] at h; cases h
 ·rw [if_neg e] at h; exact ⟨h, e⟩
theorem off_keep {S : List (List (Mb Int))} {F : Nat → Nat → Bool} {s u : Nat} (hk : ∀ i k, inL (gfp S) i k = true → F i k = true) (hn : holds (goesN F) (shN S s) (shN S u) = false) : ∀ i k, inL (gfp S) i k = true → off F s u i k = true := by
 intro i k h
 unfold off
 by_cases e : i = s ∧ k = u
 ·obtain ⟨rfl, rfl⟩ := e
  have := (gfp_closed S i k h).2.2.2
  rw [holds_mono (fun a b => goesN_mono hk) this] at hn
  cases hn
 ·rw [if_neg e]; exact hk i k h
theorem off_cnt {F : Nat → Nat → Bool} {n s u : Nat} (hs : s < n) (hu : u < n) (h : F s u = true) : cnt n (off F s u) < cnt n F := by
 unfold cnt
 have hsub : ((sqr n).filter fun p => off F s u p.1 p.2) = ((sqr n).filter fun p => F p.1 p.2).filter fun p => off F s u p.1 p.2 := by
  rw [List.filter_filter]
  refine List.filter_congr fun p _ => ?_
  cases e : off F s u p.1 p.2 with
  | false => simp
  | true => simp [(off_sub e).1]
 rw [hsub]
 refine Nat.lt_of_le_of_ne (List.length_filter_le _ _) fun e => ?_
 have := List.length_filter_eq_length_iff.1 e (s, u) (List.mem_filter.2 ⟨mem_sqr.2 ⟨hs, hu⟩, h⟩)
 exact (off_sub this).2 ⟨rfl, rfl⟩
end Go.Proofs.YtjdkegfckkbpeaaGreatDoor.Tab
namespace Go.Proofs.YtjdkegfckkbpeaaGreatDoor
open Go.ChangeShapes Go.WideShapes Go.ChangeAt Go.RowKit Go.Shelf
/-- Within strike. -/
def StI (S : List (List (Tab.Mb Int))) (g : Nat) (sv : Value) (w : World) (F : Nat → Nat → Bool) (N a p G : Nat) (wr : World) : Prop :=
 RelAt wr g sv F ∧ Only (· = g) w wr ∧ (∀ i k, F i k = true → i < S.length ∧ k < S.length ∧ Tab.hasB (Tab.shN S i) (Tab.shN S k) = true) ∧ (∀ i k, Tab.inL (Tab.gfp S) i k = true → F i k = true) ∧
  Tab.Askd S F N a p ∧ Tab.cnt S.length F < G ∧ (Tab.cnt S.length F + 1 < G ∨ p ≤ a)
/-- What strike leaves. -/
def StE (S : List (List (Tab.Mb Int))) (g : Nat) (sv : Value) (w wr : World) : Prop := Only (· = g) w wr ∧ RelAt wr g sv (Tab.inL (Tab.gfp S))
theorem StI.done {S : List (List (Tab.Mb Int))} {g : Nat} {sv : Value} {w wr : World} {F : Nat → Nat → Bool} {p G : Nat} (h : StI S g sv w F (S.length * S.length) (S.length * S.length) p G wr) (hp : p ≤ S.length * S.length) : StE S g sv w wr := by
 obtain ⟨h1, h2, h3, h4, h5, _⟩ := h
 have hc := Tab.closed_of h3 (Tab.askd_all h5 hp)
 have e : F = Tab.inL (Tab.gfp S) := funext fun i => funext fun k => Tab.gfp_eq hc h4 i k
 rw [e] at h1
 exact ⟨h2, h1⟩
theorem StI.kept {S : List (List (Tab.Mb Int))} {g : Nat} {sv : Value} {w wr w1 : World} {F : Nat → Nat → Bool} {N a p G : Nat} (h : StI S g sv w F N a p G wr) (k : Kept wr w1) : StI S g sv w F N a p G w1 :=
 ⟨h.1.kept k, h.2.1.trans (Only.of_kept k), h.2.2⟩
theorem StI.next {S : List (List (Tab.Mb Int))} {g : Nat} {sv : Value} {w wr : World} {F : Nat → Nat → Bool} {N a p G : Nat} (h : StI S g sv w F N a p G wr) (ho : Tab.okQ S F p) : StI S g sv w F N (a + 1) (p + 1) G wr := by
 obtain ⟨h1, h2, h3, h4, h5, h6, h7⟩ := h
 exact ⟨h1, h2, h3, h4, Tab.askd_next h5 ho, h6, by omega⟩
theorem StI.strike {S : List (List (Tab.Mb Int))} {g : Nat} {sv : Value} {w wr : World} {F : Nat → Nat → Bool} {N a p G s u : Nat} (h : StI S g sv w F N a p G wr) (hn : S.length ≤ 40) (hF : F s u = true) (hh : Tab.holds (Tab.goesN F) (Tab.shN S s) (Tab.shN S u) = false) :
  StI S g sv w (Tab.off F s u) N 0 (p + 1) G (wr.setCell ⟨g, 1 + s * 40 + u, none⟩ (.bool false)) := by
 obtain ⟨h1, h2, h3, h4, h5, h6, h7⟩ := h
 obtain ⟨hs, hu, _⟩ := h3 s u hF
 have hc := Tab.off_cnt hs hu hF
 refine ⟨h1.put (by omega) (by omega) false, h2.trans ((Only.refl (· = g) wr).put _ _), fun i k e => h3 i k (Tab.off_sub e).1, Tab.off_keep h4 hh, Tab.askd_zero, by omega, .inl (by omega)⟩
theorem StI.turn {S : List (List (Tab.Mb Int))} {g : Nat} {sv : Value} {w wr : World} {F : Nat → Nat → Bool} {N a G : Nat} (h : StI S g sv w F N a N (G + 1) wr) (ha : a < N) : StI S g sv w F N a 0 G wr := by
 obtain ⟨h1, h2, h3, h4, h5, h6, h7⟩ := h
 exact ⟨h1, h2, h3, h4, Tab.askd_turn h5, by omega, .inr (Nat.zero_le _)⟩
theorem shN_at {S : List (List (Tab.Mb Int))} {i : Nat} (h : i < S.length) : S[i]? = some (Tab.shN S i) := by
 unfold Tab.shN
 rw [List.getD_eq_getElem?_getD, List.getElem?_eq_getElem h]; rfl
/-- What a shape must be. -/
structure Shape (L : List (Tab.Mb Int)) : Prop where
 asc : Tab.Asc L
 tl : ∀ x ∈ L, Tab.TL x
 bd : ∀ x ∈ L, ∀ a ∈ x.types, a < 40
set_option maxHeartbeats 8000000 in
theorem strike_c (F0 : Nat → Nat → Bool) (S : List (List (Tab.Mb Int))) (a0 : Option Addr) (c0 g : Nat) (w : World) (hR : RelAt w g (.slice a0 S.length c0) F0) (hS : ∀ w', Only (· = g) w w' → Row 1 SlAt w' (.slice a0 S.length c0) S) (hn : S.length ≤ 40)
  (hSh : ∀ L ∈ S, Shape L) (h3 : ∀ i k, F0 i k = true → i < S.length ∧ k < S.length ∧ Tab.hasB (Tab.shN S i) (Tab.shN S k) = true) (h4 : ∀ i k, Tab.inL (Tab.gfp S) i k = true → F0 i k = true) :
  Calls Tryz.prog 86 #[.pointer (some ⟨g, 0, none⟩)] w fun e w' => e = .returned (.tuple #[]) ∧ StE S g (.slice a0 S.length c0) w w' := by
 have r0 := hR.shapes
 obtain ⟨n, hnn⟩ : ∃ n, n = S.length := ⟨_, rfl⟩
 obtain ⟨N, hN⟩ : ∃ N, N = n * n := ⟨_, rfl⟩
 have hN1 : N ≤ 1600 := by rw [hN, hnn]; exact Nat.mul_le_mul hn hn
 have hmul : IntKind.i64.wrap ((S.length : Int) * (S.length : Int)) = (N : Int) := by
  have e : ((S.length : Int) * (S.length : Int)) = (N : Int) := by rw [hN, hnn]; simp
  rw [e]
  exact IntWalk.i64_in _ (by omega)
 have HI0 : Hid (StI S g (.slice a0 S.length c0) w F0 N 0 0 (Tab.cnt S.length F0 + 1) w) := Lib.hid ⟨hR, Only.refl _ _, h3, h4, Tab.askd_zero, by omega, .inr (Nat.le_refl _)⟩
 have HS := Lib.hid hS
 have HSH := Lib.hid hSh
 have HN := Lib.hid (show N = S.length * S.length by rw [hN, hnn])
 have HRK := Lib.hid hR
 have hns : S.length = n := hnn.symm
 rw [hns] at hmul r0 ⊢
 have HNN := Lib.hid hns
 clear hS hSh h3 h4 hR hN hnn
 have hn40 : n ≤ 40 := by omega
 clear hns
 go_enter Tryz.func86, Tryz.ntmps86
 go_wp2_with fail
 go_step3
 go_wp2_with fail
 go_quiet (fail)
 go_wp2_with fail
 go_step3
 go_wp2_with fail
 rw [HNN.out] at HI0
 have FIN : Hid (∀ (F : Nat → Nat → Bool) (a q G : Nat) (wr : World), q < N → a + 1 = N → StI S g (.slice a0 n c0) w F N (a + 1) (q + 1) G wr → StE S g (.slice a0 n c0) w wr) := Lib.hid (by
  intro F a q G wr hq ha h
  rw [ha] at h
  rw [HN.out] at h hq
  exact h.done hq)
 go_loopg [3] (Tab.cnt n F0 + 1) (fun G v3 wr => ∃ (F : Nat → Nat → Bool) (a : Nat), v3 = .int .i64 a ∧ (a < N ∨ N = 0) ∧ a ≤ N ∧ StI S g (.slice a0 n c0) w F N a 0 G wr)
 case atStart => exact ⟨F0, 0, rfl, by omega, by omega, HI0.out.kept ((Kept.refl w).drewN _)⟩
 case round =>
  obtain ⟨F, a, rfl, ha, haN, hI⟩ := hrel
  by_cases hlt : a < N
  ·have hltI : (a : Int) < (N : Int) := by omega
   obtain ⟨G, rfl⟩ : ∃ G, gk = G + 1 := ⟨gk - 1, by have := hI.2.2.2.2.2.1; omega⟩
   obtain ⟨wo, rfl⟩ : ∃ wo, wo = wr := ⟨_, rfl⟩
   have d0 := hI.1.shapes
   have HI := Lib.hid hI
   clear hI ha
   go_wp2_with fail
   go_loopg [3, 25] n (fun h v3 v25 wr => ∃ (F : Nat → Nat → Bool) (a s : Nat), h = n - s ∧ s ≤ n ∧ v25 = .int .i64 s ∧ v3 = .int .i64 a ∧ a < N ∧ StI S g (.slice a0 n c0) w F N a (s * n) (G + 1) wr)
   case atStart => exact ⟨F, a, 0, by omega, Nat.zero_le _, rfl, rfl, hlt, by rw [Nat.zero_mul]; exact HI.out⟩
   case round =>
    clear HI hlt hltI haN
    obtain ⟨F, a, s, rfl, hs, rfl, rfl, ha, hI⟩ := hrel
    obtain ⟨wm, rfl⟩ : ∃ wm, wm = wr := ⟨_, rfl⟩
    have HI := Lib.hid hI
    by_cases hsn : s < n
    ·have hsnI : (s : Int) < (n : Int) := by omega
     have d1 := hI.1.shapes
     clear hI
     go_wp2_with fail
     go_loopg [3, 33] n (fun h v3 v33 wr => ∃ (F : Nat → Nat → Bool) (a u : Nat), h = n - u ∧ u ≤ n ∧ v33 = .int .i64 u ∧ v3 = .int .i64 a ∧ a < N ∧ StI S g (.slice a0 n c0) w F N a (s * n + u) (G + 1) wr)
     case atStart => exact ⟨F, a, 0, by omega, Nat.zero_le _, rfl, rfl, ha, HI.out⟩
     case round =>
      clear HI ha
      obtain ⟨F, a, u, rfl, hu, rfl, rfl, ha, hI⟩ := hrel
      have HI := Lib.hid hI
      by_cases hun : u < n
      ·have hunI : (u : Int) < (n : Int) := by omega
       have hp : s * n + u < N := by
        rw [HN.out, HNN.out]; exact Tab.place_lt hsn hun
       have d2 := hI.1.at (i := s) (k := u) (by omega) (by omega)
       have d3 := (hI.1.kept (Kept.refl wr)).shapes
       have hw1 : 1 + s * 40 + u = 1 + s * 40 + u := rfl
       clear hI hw1
       cases hF : F s u with
       | false =>
        rw [hF] at d2
        have HX := Lib.hid (HI.out.next (by rw [← HNN.out]; exact Tab.okQ_here (by rw [HNN.out]; exact hun) (fun h => by rw [hF] at h; cases h)))
        clear hF HI
        by_cases hfin : a + 1 = N
        ·have hfinI : ((a : Int) + 1 == (N : Int)) = true := by simp; omega
         go_wp2_with fail
         rw [Exit.noGoto_normal]
         refine bodyPost_end (results_none rfl _ _ _) rfl ?_
         exact ⟨rfl, FIN.out _ _ _ _ _ hp hfin HX.out⟩
        ·have hfinI : ((a : Int) + 1 == (N : Int)) = false := by simp; omega
         go_wp2_with fail
         go_roundg (n - (u + 1))
         case measure => omega
         case rel => exact ⟨F, a + 1, u + 1, rfl, by omega, by go_num, by go_num, by omega, HX.out⟩
       | true =>
        rw [hF] at d2
        have hsS : s < S.length := by rw [HNN.out]; exact hsn
        have huS : u < S.length := by rw [HNN.out]; exact hun
        have eS := shN_at hsS
        have eU := shN_at huS
        have gS := HSH.out _ (List.mem_of_getElem? eS)
        have gU := HSH.out _ (List.mem_of_getElem? eU)
        have HC := Lib.hid (holds_c F S (.slice a0 n c0) g s u (Tab.shN S s) (Tab.shN S u) wr HI.out.1 (by have := HS.out wr HI.out.2.1; rwa [HNN.out] at this) eS eU gS.asc gU.asc (HI.out.2.2.1 s u hF).2.2 gS.tl gU.tl gS.bd gU.bd)
        have HFF := Lib.hid hF
        cases hh : Tab.holds (Tab.goesN F) (Tab.shN S s) (Tab.shN S u) with
        | true =>
         rw [hh] at HC
         have HX := Lib.hid (HI.out.next (by rw [← HNN.out]; exact Tab.okQ_here huS (fun _ => hh)))
         clear hh hF HI HFF eS eU gS gU hsS huS
         by_cases hfin : a + 1 = N
         ·have hfinI : ((a : Int) + 1 == (N : Int)) = true := by simp; omega
          go_wp2_with fail
          refine HC.out.mono ?_
          rintro e w1 ⟨rfl, k1⟩
          have HY := Lib.hid (HX.out.kept k1)
          clear k1
          go_wp2_with fail
          rw [Exit.noGoto_normal]
          refine bodyPost_end (results_none rfl _ _ _) rfl ?_
          exact ⟨rfl, FIN.out _ _ _ _ _ hp hfin HY.out⟩
         ·have hfinI : ((a : Int) + 1 == (N : Int)) = false := by simp; omega
          go_wp2_with fail
          refine HC.out.mono ?_
          rintro e w1 ⟨rfl, k1⟩
          have HY := Lib.hid (HX.out.kept k1)
          clear k1
          go_wp2_with fail
          go_roundg (n - (u + 1))
          case measure => omega
          case rel => exact ⟨F, a + 1, u + 1, rfl, by omega, by go_num, by go_num, by omega, HY.out⟩
        | false =>
         rw [hh] at HC
         have HHH := Lib.hid hh
         clear hh hF eS eU gS gU hsS huS
         go_wp2_with fail
         refine HC.out.mono ?_
         rintro e w1 ⟨rfl, k1⟩
         have hI1 := HI.out.kept k1
         have HY := Lib.hid (hI1.strike (by rw [HNN.out]; exact hn40) HFF.out HHH.out)
         have d4 := hI1.1.at (i := s) (k := u) (by omega) (by omega)
         rw [HFF.out] at d4
         obtain ⟨cs, hcs, _⟩ := hI1.1
         have f4 := hcs.frozen (1 + s * 40 + u)
         clear hI1 k1 hcs HI
         go_wp2_with fail
         go_roundg (n - (u + 1))
         case measure => omega
         case rel => exact ⟨Tab.off F s u, 0, u + 1, rfl, by omega, by go_num, rfl, by omega, HY.out⟩
      ·have hunI : ¬ (u : Int) < (n : Int) := by omega
       obtain rfl : u = n := by omega
       have HX := Lib.hid (show StI S g (.slice a0 u c0) w F N a ((s + 1) * u) (G + 1) wr by rw [Nat.succ_mul]; exact HI.out)
       clear hI
       go_wp2_with fail
       go_roundg (u - (s + 1))
       case measure => omega
       case rel => exact ⟨F, a, s + 1, rfl, by omega, by go_num, rfl, ha, HX.out⟩
    ·have hsnI : ¬ (s : Int) < (n : Int) := by omega
     obtain rfl : s = n := by omega
     have HX := Lib.hid (StI.turn (by have h := HI.out; rw [show s * s = N by rw [HN.out, HNN.out]] at h; exact h) ha)
     clear hI
     go_wp2_with fail
     go_roundg G
     case measure => omega
     case rel => exact ⟨F, a, rfl, .inl ha, by omega, HX.out⟩
  ·have hltI : ¬ (a : Int) < (N : Int) := by omega
   have hN0 : N = 0 := by omega
   obtain rfl : a = N := by omega
   have HX := Lib.hid (show StE S g (.slice a0 n c0) w wr by
    have h := hI
    have hq := Nat.zero_le a
    rw [HN.out] at h hq
    exact h.done hq)
   clear hI
   go_wp2_with fail
   refine bodyPost_end (results_none rfl _ _ _) rfl ?_
   exact ⟨rfl, HX.out⟩
end Go.Proofs.YtjdkegfckkbpeaaGreatDoor
