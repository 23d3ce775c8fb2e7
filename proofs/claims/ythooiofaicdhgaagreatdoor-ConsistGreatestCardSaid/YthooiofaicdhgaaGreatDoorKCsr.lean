/- The contract of consist.numbersOf: the numbers of a valid table's types, as a map. The contracts of cmp.Compare at strings and of the closure that compares two members by name. A row of one's own of things of some type, beside others: what appending leaves as it was; and the members that shapeOf collects. -/
import Derived.Test.YthooiofaicdhgaaGreatDoorKCfn
import Derived.Test.YthooiofaicdhgaaGreatDoorKMpl
import Derived.Test.YthooiofaicdhgaaGreatDoorKTbf
import Derived.Test.YthooiofaicdhgaaGreatDoorKLnr
import Derived.Sort.Grow
import Derived.Test.YthooiofaicdhgaaGreatDoorKMem
set_option linter.unusedSimpArgs false
set_option linter.unusedVariables false
set_option maxRecDepth 100000
namespace Go.Proofs.YthooiofaicdhgaaGreatDoor.Tab
def numB (s : ByteArray) : Option Int := if s = ⟨#[117, 110, 105, 116]⟩ then some (-6) else if s = ⟨#[115, 116, 114]⟩ then some (-5) else if s = ⟨#[98, 111, 111, 108]⟩ then some (-4) else if s = ⟨#[114, 101, 97, 108]⟩ then some (-3) else if s = ⟨#[105, 110, 116]⟩ then some (-2) else if s = ⟨#[63]⟩ then some (-1) else none
/-- The numbers, when the first j classes have been gone through. -/
def numJ (t : List C) (j : Nat) (s : ByteArray) : Option Int := match ix C.name (t.take j) s with
 | some k => some (k : Int)
 | none => numB s
theorem numB_getD (s : ByteArray) : (numB s).getD 0 = if s = ⟨#[63]⟩ then -1 else if s = ⟨#[105, 110, 116]⟩ then -2 else if s = ⟨#[114, 101, 97, 108]⟩ then -3 else if s = ⟨#[98, 111, 111, 108]⟩ then -4 else if s = ⟨#[115, 116, 114]⟩ then -5 else if s = ⟨#[117, 110, 105, 116]⟩ then -6 else 0 := by
 by_cases h1 : s = ⟨#[63]⟩
 ·subst h1; decide
 ·by_cases h2 : s = ⟨#[105, 110, 116]⟩
  ·subst h2; decide
  ·by_cases h3 : s = ⟨#[114, 101, 97, 108]⟩
   ·subst h3; decide
   ·by_cases h4 : s = ⟨#[98, 111, 111, 108]⟩
    ·subst h4; decide
    ·by_cases h5 : s = ⟨#[115, 116, 114]⟩
     ·subst h5; decide
     ·by_cases h6 : s = ⟨#[117, 110, 105, 116]⟩
      ·subst h6; decide
      ·unfold numB; simp [h1, h2, h3, h4, h5, h6]
theorem numJ_all (t : List C) (s : ByteArray) : (numJ t t.length s).getD 0 = numOf t s := by
 unfold numJ numOf at'
 rw [List.take_length]
 cases ix C.name t s with
 | some k => rfl
 | none => exact numB_getD s
theorem numJ_zero (t : List C) (s : ByteArray) : numJ t 0 s = numB s := by unfold numJ; rfl
theorem ixC_snoc {l : List C} {c : C} (h : ix C.name l c.name = none) (s : ByteArray) : ix C.name (l ++ [c]) s = if s = c.name then some l.length else ix C.name l s := by
 unfold ix
 rw [List.findIdx?_append]
 by_cases hs : s = c.name
 ·subst hs
  rw [if_pos rfl, show l.findIdx? (fun x => decide (x.name = c.name)) = none from h]
  simp
 ·rw [if_neg hs]
  have : ¬ c.name = s := fun e => hs e.symm
  simp [this]
theorem numJ_next {t : List C} (hv : Valid t) {j : Nat} (hj : j < t.length) (s : ByteArray) : numJ t (j + 1) s = if s = (nth t j).name then some (j : Int) else numJ t j s := by
 have hf : ix C.name (t.take j) (nth t j).name = none := ix_none (hv.fresh hj)
 unfold numJ
 rw [List.take_add_one, of_nth hj]
 show (match ix C.name (t.take j ++ [nth t j]) s with | some k => some (k : Int) | none => numB s) = _
 rw [ixC_snoc hf]
 by_cases hs : s = (nth t j).name
 ·rw [if_pos hs, if_pos hs, List.length_take, Nat.min_eq_left (by omega)]
 ·rw [if_neg hs, if_neg hs]
end Go.Proofs.YthooiofaicdhgaaGreatDoor.Tab
namespace Go.Proofs.YthooiofaicdhgaaGreatDoor
open Go.ChangeShapes Go.WideShapes Go.ChangeAt Go.RowKit Go.Shelf
open Go.Maps (Keyed)
theorem MapF.look1 {P : Program} {k e t : TypeId} {b n : Nat} {f : ByteArray → Option Value} {W : World} (h : MapF P k b n f W) (K : Keyed P k) (ht : P.underlying t = some (.map k e)) {z : Value} (hz : (zeroValue e).run P W = .ok z W) (s : ByteArray) (hkey : keyOf P k (.string s) = some (.string s.data.toList)) :
  (Instr.lookup t (.map (some b)) (.string s) false).run P W = .ok ((f s).getD z) W := by
 obtain ⟨D, h1, h2, h3⟩ := h
 obtain ⟨v, ps, hr, hv⟩ := h1.lookup K ht hz (zd := .held z) (zp := []) rfl hkey
 rw [hr]
 cases e : f s with
 | none =>
  rw [Maps.atKey_of_not_has (by rw [(h3 s).1, e]; rfl)] at hv
  rw [selfElem_inv hv]
  rfl
 | some x =>
  rw [(h3 s).2 x e] at hv
  rw [selfElem_inv hv]
  rfl
theorem wpList_insert_F {P : Program} (w : World) {ops : Array Oper} {rest : List Oper} {o : Oper} {a : Act} {Q : Exit → Act → World → Prop}
  (hg : o.guard = none) (m x v : Operand) (t : TypeId) (hop : o.op = Op.insert t m x v)
  (k e : TypeId) (K : Keyed P k) (ht : P.underlying t = some (.map k e)) (b n : Nat) (f : ByteArray → Option Value)
  (hm : a.eval m = .map (some b)) (hown : MapF P k b n f w) (hn : n < maxLen) (s : ByteArray) (val : Value) (hx : a.eval x = .string s) (hv : a.eval v = val) (hkey : keyOf P k (.string s) = some (.string s.data.toList))
  (hK : ∀ w', MapF P k b (n + 1) (fun y => if y = s then some val else f y) w' → w.grownBy w' (some b) → wpList P ops Q rest (a.put o.dst undef) w') :
  wpList P ops Q (o :: rest) a w := by
 refine wpList_plain hg fun K' hK' => ?_
 obtain ⟨w', hrun, r1, r2⟩ := hown.store K ht hn s val hkey
 unfold Oper.wp
 simp [execOp, hop, hm, hx, hv, hrun, Result.andThen]
 exact hK' _ _ (hK w' r1 r2)
/-- The numbers as a map's elements. -/
def numV (t : List Tab.C) (j : Nat) (s : ByteArray) : Option Value := (Tab.numJ t j s).map (.int .i64 ·)
/-- Block b holds the numbers of a table's types. -/
def NumAt (t : List Tab.C) (b : Nat) (W : World) : Prop := MapF Tryz.prog 9 b (6 + t.length) (numV t t.length) W
theorem zero_int (W : World) : (zeroValue 3).run Tryz.prog W = .ok (.int .i64 0) W := by kernel_rfl
theorem NumAt.only {t : List Tab.C} {b : Nat} {W W' : World} {S : Nat → Prop} (h : NumAt t b W) (ho : Only S W W') (hs : ¬ S b) : NumAt t b W' := MapF.only h ho hs
theorem NumAt.kept {t : List Tab.C} {b : Nat} {W W' : World} (h : NumAt t b W) (k : Kept W W') : NumAt t b W' := h.only (S := fun _ => False) (Only.of_kept k) (fun h => h)
theorem NumAt.look {t : List Tab.C} {b : Nat} {W : World} (h : NumAt t b W) (s : ByteArray) (hs : s.size ≤ maxLen) :
  (Instr.lookup 95 (.map (some b)) (.string s) false).run Tryz.prog W = .ok (.int .i64 (Tab.numOf t s)) W := by
 have hr := MapF.look1 h (t := 95) (e := 3) (Maps.string_keyed Tryz.underlying9) Tryz.underlying95 (zero_int W) s (WideMaps.keyOf_string_mk Tryz.underlying9 hs)
 rw [hr, ← Tab.numJ_all]
 unfold numV
 cases Tab.numJ t t.length s <;> rfl
set_option maxHeartbeats 4000000 in
theorem numbers_c (t : List Tab.C) (a : Option Addr) (c : Nat) (w : World) (hT : TabAt w (.slice a t.length c) t) (hv : Tab.Valid t) (ht : t.length ≤ 1000) :
  Calls Tryz.prog 87 #[.slice a t.length c] w fun e w' => e = .returned (.map (some w.heap.size)) ∧ NumAt t w.heap.size w' ∧ Kept w w' := by
 have law := Maps.string_keyed (P := Tryz.prog) Tryz.underlying9
 have h0 := MapF.made w Tryz.prog 9
 have hmm := @run_makeMap Tryz.prog
 have HT := Lib.hid hT
 have hcm : c ≤ 9223372036854775807 := by
  obtain ⟨_, _, e, _, q, _⟩ := hT
  injection e with _ _ e
  subst e
  unfold maxLen at q; omega
 clear hT
 go_enter Tryz.func87, Tryz.ntmps87
 go_wp2_with (first
  | (refine wpList_insert_F _ rfl _ _ _ 95 rfl 9 3 law Tryz.underlying95 w.heap.size 0 _ rfl h0 (by unfold maxLen; omega) _ _ rfl rfl (WideMaps.keyOf_string_mk Tryz.underlying9 (by unfold maxLen; decide)) ?_; intro w1 h1 g1)
  | (refine wpList_insert_F _ rfl _ _ _ 95 rfl 9 3 law Tryz.underlying95 w.heap.size 1 _ rfl h1 (by unfold maxLen; omega) _ _ rfl rfl (WideMaps.keyOf_string_mk Tryz.underlying9 (by unfold maxLen; decide)) ?_; intro w2 h2 g2)
  | (refine wpList_insert_F _ rfl _ _ _ 95 rfl 9 3 law Tryz.underlying95 w.heap.size 2 _ rfl h2 (by unfold maxLen; omega) _ _ rfl rfl (WideMaps.keyOf_string_mk Tryz.underlying9 (by unfold maxLen; decide)) ?_; intro w3 h3 g3)
  | (refine wpList_insert_F _ rfl _ _ _ 95 rfl 9 3 law Tryz.underlying95 w.heap.size 3 _ rfl h3 (by unfold maxLen; omega) _ _ rfl rfl (WideMaps.keyOf_string_mk Tryz.underlying9 (by unfold maxLen; decide)) ?_; intro w4 h4 g4)
  | (refine wpList_insert_F _ rfl _ _ _ 95 rfl 9 3 law Tryz.underlying95 w.heap.size 4 _ rfl h4 (by unfold maxLen; omega) _ _ rfl rfl (WideMaps.keyOf_string_mk Tryz.underlying9 (by unfold maxLen; decide)) ?_; intro w5 h5 g5)
  | (refine wpList_insert_F _ rfl _ _ _ 95 rfl 9 3 law Tryz.underlying95 w.heap.size 5 _ rfl h5 (by unfold maxLen; omega) _ _ rfl rfl (WideMaps.keyOf_string_mk Tryz.underlying9 (by unfold maxLen; decide)) ?_; intro w6 h6 g6))
 have hk : Kept w w6 := by
  have hb1 := (((Below.refl w.heap.size w).alloc (Nat.le_refl _) (.map #[] 0)).grown g1 (by simp) (fun k e => by cases e; exact Nat.le_refl _))
  have hb2 := hb1.grown g2 hb1.size (fun k e => by cases e; exact Nat.le_refl _)
  have hb3 := hb2.grown g3 hb2.size (fun k e => by cases e; exact Nat.le_refl _)
  have hb4 := hb3.grown g4 hb3.size (fun k e => by cases e; exact Nat.le_refl _)
  have hb5 := hb4.grown g5 hb4.size (fun k e => by cases e; exact Nat.le_refl _)
  have hb6 := hb5.grown g6 hb5.size (fun k e => by cases e; exact Nat.le_refl _)
  exact Kept.of_below hb6
 have hm : MapF Tryz.prog 9 w.heap.size (6 + 0) (numV t 0) w6 := by
  have e : numV t 0 = _ := funext fun s => show numV t 0 s = (if s = ⟨#[117, 110, 105, 116]⟩ then some (.int .i64 (-6)) else if s = ⟨#[115, 116, 114]⟩ then some (.int .i64 (-5)) else if s = ⟨#[98, 111, 111, 108]⟩ then some (.int .i64 (-4)) else if s = ⟨#[114, 101, 97, 108]⟩ then some (.int .i64 (-3)) else if s = ⟨#[105, 110, 116]⟩ then some (.int .i64 (-2)) else if s = ⟨#[63]⟩ then some (.int .i64 (-1)) else none) by
   unfold numV
   rw [Tab.numJ_zero]
   unfold Tab.numB
   repeat' split
   all_goals rfl
  rw [e]
  exact h6
 have HK := Lib.hid hk
 have HM := Lib.hid hm
 clear h0 h1 h2 h3 h4 h5 h6 g1 g2 g3 g4 g5 g6 hk hm law
 go_loopw [9] (fun q wr => ∃ j : Nat, j ≤ t.length ∧ q = .int .i64 j ∧ Kept w wr ∧ MapF Tryz.prog 9 w.heap.size (6 + j) (numV t j) wr) (fun q wr => t.length - (intOf q).toNat)
 case atStart => exact ⟨0, Nat.zero_le _, rfl, HK.out, HM.out⟩
 case round =>
  obtain ⟨j, hj, rfl, hkp, hmp⟩ := hrel
  by_cases hlt : j < t.length
  ·have hltI : (j : Int) < (t.length : Int) := by omega
   obtain ⟨b, o, rfl, hcl⟩ := Row.cellsC (tab_kept HT.out hkp) hlt
   obtain ⟨q0, _, _, _, q1, _⟩ := hcl
   obtain ⟨W', hup, hm', hg'⟩ := hmp.store (t := 95) (e := 3) (Maps.string_keyed Tryz.underlying9) Tryz.underlying95 (by unfold maxLen; omega) (Tab.nth t j).name (.int .i64 j) (WideMaps.keyOf_string_mk Tryz.underlying9 q1)
   have HK2 := Lib.hid (hkp.grown hg' (fun k e => by cases e; exact Nat.le_refl _))
   have HM2 : Hid (MapF Tryz.prog 9 w.heap.size (6 + (j + 1)) (numV t (j + 1)) W') := Lib.hid (by
    have e : numV t (j + 1) = fun s => if s = (Tab.nth t j).name then some (.int .i64 j) else numV t j s := funext fun s => by
     unfold numV
     rw [Tab.numJ_next hv hlt]
     split <;> rfl
    rw [e]; exact hm')
   clear hkp hmp hm' hg' q1
   go_wp2_with fail
   go_roundw
   case rel => exact ⟨j + 1, by omega, by go_num, HK2.out, HM2.out⟩
   case measure => simp [intOf]; omega
  ·have hltI : ¬ (j : Int) < (t.length : Int) := by omega
   obtain rfl : j = t.length := by omega
   have HK2 := Lib.hid hkp
   have HM2 := Lib.hid hmp
   clear hkp hmp
   go_wp2_with fail
   go_ret
   exact ⟨rfl, HM2.out, HK2.out⟩
end Go.Proofs.YthooiofaicdhgaaGreatDoor
namespace Go.Proofs.YthooiofaicdhgaaGreatDoor.Tab
/-- cmp.Compare of two texts. -/
def cfS (a b : ByteArray) : Int := if lt a b then -1 else if lt b a then 1 else 0
theorem cfS_lt (a b : ByteArray) : decide (cfS a b < 0) = lt a b := by
 unfold cfS
 cases h : lt a b with
 | true => simp
 | false => cases k : lt b a <;> simp
/-- A member, and where its types lie. -/
structure Mq where
 m : Mb Int
 a : Option Addr
 n : Nat
 c : Nat
instance : Inhabited Mq := ⟨⟨default, none, 0, 0⟩⟩
end Go.Proofs.YthooiofaicdhgaaGreatDoor.Tab
namespace Go.Proofs.YthooiofaicdhgaaGreatDoor
open Go.ChangeShapes Go.WideShapes Go.ChangeAt Go.RowKit
def cCells (x : Tab.Mq) : List Value := [.string x.m.name, .int .i64 x.m.ar, .slice x.a x.n x.c]
theorem cCells_len (x : Tab.Mq) : (cCells x).length = 3 := rfl
theorem cmpS_c (a b : ByteArray) (w : World) :
  Calls Tryz.prog 138 #[.string a, .string b] w fun e w' => e = .returned (.int .i64 (Tab.cfS a b)) ∧ w' = w := by
 have ha : (a.toList == a.toList) = true := beq_self_eq_true _
 have hb : (b.toList == b.toList) = true := beq_self_eq_true _
 cases h : Tab.lt a b with
 | true =>
  have hq : Tab.cfS a b = -1 := by unfold Tab.cfS; simp [h]
  have h' : Op.bytesLess a.toList b.toList = true := h
  rw [hq]
  clear hq h
  go_enter Tryz.func138, Tryz.ntmps138
  go_wp2
  go_ret
  exact ⟨rfl, rfl⟩
 | false =>
  have h' : Op.bytesLess a.toList b.toList = false := h
  cases k : Tab.lt b a with
  | true =>
   have hq : Tab.cfS a b = 1 := by unfold Tab.cfS; simp [h, k]
   have hne : ¬ a = b := by rintro rfl; rw [h] at k; cases k
   have h2 : (a.toList == b.toList) = false := beq_no hne
   rw [hq]
   clear hq h k hne
   go_enter Tryz.func138, Tryz.ntmps138
   go_wp2
   go_ret
   exact ⟨rfl, rfl⟩
  | false =>
   have hq : Tab.cfS a b = 0 := by unfold Tab.cfS; simp [h, k]
   have he : a = b := Tab.lt_total h k
   have h2 : (a.toList == b.toList) = true := beq_yes he
   rw [hq]
   clear hq h k he
   go_enter Tryz.func138, Tryz.ntmps138
   go_wp2
   go_ret
   exact ⟨rfl, rfl⟩
theorem clo_c (x y : Tab.Mq) (w : World) :
  Calls Tryz.prog 137 #[.agg #[.string x.m.name, .int .i64 x.m.ar, .slice x.a x.n x.c], .agg #[.string y.m.name, .int .i64 y.m.ar, .slice y.a y.n y.c]] w fun e w' =>
   e = .returned (.int .i64 (Tab.cfS x.m.name y.m.name)) ∧ ∃ q os', w' = Go.Sort.grow (w.drewN q) os' := by
 have HC := Lib.hid (fun W => cmpS_c x.m.name y.m.name W)
 generalize Tab.cfS x.m.name y.m.name = r at HC ⊢
 go_enter Tryz.func137, Tryz.ntmps137
 go_wp2_with fail
 refine (HC.out _).mono ?_
 rintro e w1 ⟨rfl, rfl⟩
 go_wp2_with fail
 go_ret
 exact ⟨rfl, 0, _, by rw [Go.Sort.alloc_eq_grow, Go.Sort.alloc_eq_grow, Go.Sort.grow_grow]; rfl⟩
end Go.Proofs.YthooiofaicdhgaaGreatDoor
namespace Go.Proofs.YthooiofaicdhgaaGreatDoor
open Go.ChangeShapes Go.WideShapes Go.ChangeAt Go.RowKit Go.Shelf
/-- A row of one's own; nothing but it has turned since w1. -/
def RR {α : Type} (e : TypeId) (k : Nat) (f : α → List Value) (n₁ : Nat) (w1 : World) (l : List α) (v : Value) (W : World) : Prop :=
 W.ownsRow n₁ e k v l.length (l.flatMap f) ∧ Only (fun g => (n₁ ≤ g ∧ ∃ cs fr, w1.heap[g]? = some (.cells cs e fr)) ∨ w1.heap.size ≤ g) w1 W ∧
  ∀ g, v.ownBlock = some g → (n₁ ≤ g ∧ ∃ cs fr, w1.heap[g]? = some (.cells cs e fr)) ∨ w1.heap.size ≤ g
section
variable {α : Type} {e : TypeId} {k : Nat} {f : α → List Value} {n₁ : Nat} {w1 W X w2 : World} {l : List α} {v v' : Value}
theorem RR.next {x : α} (h : RR e k f n₁ w1 l v W) (hk : Kept W X)
  (hr : w2.ownsRow n₁ e k v' (l.length + 1) (l.flatMap f ++ f x)) (hg : X.grownBy w2 v.ownBlock) (hl : v'.ownBlock = v.ownBlock ∨ v'.ownBlock = some X.heap.size) : RR e k f n₁ w1 (l ++ [x]) v' w2 := by
 refine ⟨by rw [List.length_append, List.flatMap_append]; simpa using hr, (h.2.1.trans (Only.of_kept hk)).grown hg fun k e => .inl (h.2.2 k e), fun g e => ?_⟩
 rcases hl with hl | hl
 ·exact h.2.2 g (by rw [← hl]; exact e)
 ·rw [hl] at e
  injection e with e
  have := h.2.1.size
  have := hk.size
  exact .inr (by omega)
theorem RR.keep (h : RR e k f n₁ w1 l v W) (hk : Kept W X) : RR e k f n₁ w1 l v X :=
 ⟨owns_only (S := fun _ => False) h.1 (Only.of_kept hk) (fun _ _ h => h), h.2.1.trans (Only.of_kept hk), h.2.2⟩
theorem RR.from (h : RR e k f n₁ w1 l v W) : RR e k f n₁ W l v W := by
 refine ⟨h.1, Only.refl _ _, fun g e => .inl ?_⟩
 rcases h.1.2 with ⟨rfl, _⟩ | ⟨g', cap, cur, rfl, hb, hh, _⟩
 ·simp [Value.ownBlock] at e
 ·obtain rfl : g' = g := by simpa [Value.ownBlock] using e
  exact ⟨hb, _, _, hh⟩
theorem RR.other (h : RR e k f n₁ w1 l v W) {base k' n : Nat} {e' : TypeId} {u : Value} {xs : List Value} (he : e' ≠ e) (hr : w1.ownsRow base e' k' u n xs) : W.ownsRow base e' k' u n xs := by
 refine ⟨hr.1, ?_⟩
 rcases hr.2 with hn | ⟨g, cap, cur, rfl, hb, hgg, rest⟩
 ·exact .inl hn
 ·refine .inr ⟨g, cap, cur, rfl, hb, h.2.1.same hgg ?_, rest⟩
  rintro (⟨_, cs, fr, hc⟩ | hl)
  ·rw [hgg] at hc
   injection hc with hc
   injection hc with _ h2
   exact he h2
  ·have := (Array.getElem?_eq_some_iff.1 hgg).1
   omega
theorem RR.kept {w : World} (h : RR e k f n₁ w1 l v W) (hk : Kept w w1) (hn : w.heap.size ≤ n₁) : Kept w W :=
 hk.onlyS h.2.1 fun k e => by
  have := hk.size
  rcases e with ⟨e, _⟩ | e <;> omega
theorem RR.start (e : TypeId) (k : Nat) (f : α → List Value) (n₁ : Nat) (w1 : World) : RR e k f n₁ w1 [] (.slice none 0 0) w1 := ⟨World.ownsRow_nil _ _ _ _, Only.refl _ _, fun g e => by simp [Value.ownBlock] at e⟩
/-- A row of another type, when the row has grown. -/
theorem row_grown {base k' n m : Nat} {e' : TypeId} {u : Value} {xs ys : List Value} (hr : X.ownsRow base e' k' u n xs) (ho : X.ownsRow n₁ e k v m ys) (he : e' ≠ e) (hg : X.grownBy w2 v.ownBlock) : w2.ownsRow base e' k' u n xs := by
 refine owns_typed (S := fun g => v.ownBlock = some g) hr ((Only.refl _ X).grown hg fun k e => .inl e) fun g cs fr hs hc => ?_
 rcases ho.2 with ⟨rfl, _⟩ | ⟨g', cap, cur, rfl, hb, hh, _⟩
 ·simp [Value.ownBlock] at hs
 ·obtain rfl : g' = g := by simpa [Value.ownBlock] using hs
  rw [hh] at hc
  injection hc with hc
  injection hc with _ h2
  exact he h2.symm
end
def iCells (n : Int) : List Value := [.int .i64 n]
theorem iCells_len (n : Int) : (iCells n).length = 1 := rfl
/-- The types of a member. -/
def TyAt (n₁ : Nat) (W : World) (x : Tab.Mq) : Prop := W.ownsRow n₁ 3 1 (.slice x.a x.n x.c) x.m.types.length (x.m.types.flatMap iCells)
/-- The members so far, and their types. -/
def ShR (n₁ : Nat) (w1 : World) (l : List Tab.Mq) (v : Value) (W : World) : Prop := RR 160 3 cCells n₁ w1 l v W ∧ ∀ x ∈ l, TyAt n₁ W x
theorem ShR.start (n₁ : Nat) (w1 : World) : ShR n₁ w1 [] (.slice none 0 0) w1 := ⟨RR.start _ _ _ _ _, fun x h => by cases h⟩
theorem ShR.keep {n₁ : Nat} {w1 W X : World} {l : List Tab.Mq} {v : Value} (h : ShR n₁ w1 l v W) (hk : Kept W X) : ShR n₁ w1 l v X :=
 ⟨h.1.keep hk, fun x hx => owns_only (S := fun _ => False) (h.2 x hx) (Only.of_kept hk) (fun _ _ h => h)⟩
theorem ShR.from {n₁ : Nat} {w1 W : World} {l : List Tab.Mq} {v : Value} (h : ShR n₁ w1 l v W) : ShR n₁ W l v W := ⟨h.1.from, h.2⟩
theorem ShR.next {n₁ : Nat} {w1 X w2 : World} {l : List Tab.Mq} {v v' : Value} {x : Tab.Mq} (h : ShR n₁ w1 l v X) (hx : TyAt n₁ X x)
  (hr : w2.ownsRow n₁ 160 3 v' (l.length + 1) (l.flatMap cCells ++ cCells x)) (hg : X.grownBy w2 v.ownBlock) (hl : v'.ownBlock = v.ownBlock ∨ v'.ownBlock = some X.heap.size) : ShR n₁ w1 (l ++ [x]) v' w2 := by
 refine ⟨h.1.next (Kept.refl _) hr hg hl, fun y hy => ?_⟩
 rcases List.mem_append.1 hy with hy | hy
 ·exact row_grown (h.2 y hy) h.1.1 (by decide) hg
 ·simp at hy
  subst hy
  exact row_grown hx h.1.1 (by decide) hg
theorem info_mbr : (Tryz.prog.info? 160).map (fun i => (i.zero, i.size, i.bytes)) = some (some (.agg #[.string ⟨#[]⟩, .int .i64 0, .slice none 0 0]), 3, 48) := by kernel_rfl
theorem info_int : (Tryz.prog.info? 3).map (fun i => (i.zero, i.size, i.bytes)) = some (some (.int .i64 0), 1, 8) := by kernel_rfl
theorem src_mbr (w : World) (x : Tab.Mq) : Src Tryz.prog 3 98 (.slice (some ⟨w.heap.size, 0, none⟩) 1 1) 1 (cCells x) (w.alloc (.cells #[.string x.m.name, .int .i64 x.m.ar, .slice x.a x.n x.c] 160)) := by
 refine Src.ofSlice _ Tryz.underlying98 ⟨w.heap.size, 0, none⟩ 1 1 (cCells x) rfl ?_ ?_
 ·intro j u hu
  rw [addr_plain, (Blk.new w _ _).cell, Nat.zero_add]
  simpa [cCells] using hu
 ·intro u hu
  simp [cCells] at hu
  rcases hu with rfl | rfl | rfl <;> rfl
theorem src_int (w : World) (n : Int) : Src Tryz.prog 1 158 (.slice (some ⟨w.heap.size, 0, none⟩) 1 1) 1 (iCells n) (w.alloc (.cells #[.int .i64 n] 3)) := by
 refine Src.ofSlice _ Tryz.underlying158 ⟨w.heap.size, 0, none⟩ 1 1 (iCells n) rfl ?_ ?_
 ·intro j u hu
  rw [addr_plain, (Blk.new w _ _).cell, Nat.zero_add]
  simpa [iCells] using hu
 ·intro u hu
  simp [iCells] at hu
  subst hu; rfl
/-- One type of one's own. -/
theorem ty_one (w : World) (n₁ : Nat) (hn : n₁ ≤ w.heap.size) (nm : ByteArray) (ar n : Int) : TyAt n₁ (w.alloc (.cells #[.int .i64 n] 3)) ⟨⟨nm, ar, [n]⟩, some ⟨w.heap.size, 0, none⟩, 1, 1⟩ := by
 refine ⟨rfl, .inr ⟨w.heap.size, 1, _, rfl, hn, heap_alloc_new w _, Nat.le_refl _, by unfold maxLen; omega, rfl, rfl⟩⟩
end Go.Proofs.YthooiofaicdhgaaGreatDoor
