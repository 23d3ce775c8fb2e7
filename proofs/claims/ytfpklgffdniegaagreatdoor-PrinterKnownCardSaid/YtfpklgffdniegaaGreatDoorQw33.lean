/- A printer in memory, and what adds a token to it. Written by hand; the rows of held regions by wip/tools/hexp.py. -/
import Derived.Test.YtfpklgffdniegaaGreatDoorQw32
import Derived.Test.YtfpklgffdniegaaGreatDoorQw3
import Derived.Test.YtfpklgffdniegaaGreatDoorQw18
import Derived.Test.YtfpklgffdniegaaGreatDoorQHlt
import Derived.Maps.Keyed
set_option linter.unusedSimpArgs false
set_option linter.unusedVariables false
set_option maxRecDepth 100000
namespace Go.Proofs.YtfpklgffdniegaaGreatDoor
open Go.ChangeShapes Go.WideShapes Go.ChangeAt Go.RowKit
open Go.Maps (Keyed)
attribute [local go_sem] Oper.semAt_some
/-- Block b holds a map from ints that tells f. -/
def MapI (P : Program) (k : TypeId) (b n : Nat) (f : Int → Option Value) (W : World) : Prop :=
 ∃ D : DataW Value, W.ownsMap P k selfElem b n D ∧ Maps.IsMap D ∧ ∀ s, Maps.has D (.int .i64 s) = (f s).isSome ∧ ∀ v, f s = some v → ∀ z, D.atKey (.int .i64 s) z = .held v
section
variable {P : Program} {k e t : TypeId} {b n : Nat} {f : Int → Option Value} {W : World}
theorem MapI.made (W : World) (P : Program) (k : TypeId) : MapI P k W.heap.size 0 (fun _ => none) (W.alloc (.map #[] 0)) :=
 ⟨.map [], World.ownsMap_made W P k selfElem, Maps.isMap_empty, fun s => ⟨rfl, fun v h => by cases h⟩⟩
theorem MapI.lt (h : MapI P k b n f W) : b < W.heap.size := by obtain ⟨D, h1, _⟩ := h; exact h1.lt
theorem MapI.only {S : Nat → Prop} {W' : World} (h : MapI P k b n f W) (ho : Only S W W') (hs : ¬ S b) : MapI P k b n f W' := by
 obtain ⟨D, ⟨es, clock, hb, rest⟩, h2⟩ := h
 exact ⟨D, ⟨es, clock, (ho.block b (Array.getElem?_eq_some_iff.1 hb).1 hs).trans hb, rest⟩, h2⟩
theorem MapI.look (h : MapI P k b n f W) (K : Keyed P k) (ht : P.underlying t = some (.map k e)) {z : Value} (hz : (zeroValue e).run P W = .ok z W) (s : Int) (hkey : keyOf P k (.int .i64 s) = some (.int .i64 s)) :
  (Instr.lookup t (.map (some b)) (.int .i64 s) false).run P W = .ok ((f s).getD z) W := by
 obtain ⟨D, h1, h2, h3⟩ := h
 obtain ⟨v, ps, hr, hv⟩ := h1.lookup K ht hz (zd := .held z) (zp := []) rfl hkey
 rw [hr]
 cases e : f s with
 | none =>
  rw [Maps.atKey_of_not_has (by rw [(h3 s).1, e]; rfl)] at hv
  rw [selfElem_inv hv]
  rfl
 | some x =>
  rw [(h3 s).2 x e] at hv
  rw [selfElem_inv hv]
  rfl
end
theorem int_ne {a b : Int} (h : ¬ a = b) : (Lit.int .i64 a) ≠ .int .i64 b := by
 intro e
 injection e with e e2
 exact h e2
theorem wpList_insertI {P : Program} {w : World} {ops : Array Oper} {rest : List Oper} {o : Oper} {a : Act} {Q : Exit → Act → World → Prop} {f : Int → Option Value}
  (hg : o.guard = none) (m x v : Operand) (t : TypeId) (hop : o.op = Op.insert t m x v) (k e : TypeId) (K : Maps.Keyed P k) (ht : P.underlying t = some (.map k e)) (b n : Nat)
  (hm : a.eval m = .map (some b)) (h : MapI P k b n f w) (hn : n < maxLen) (s : Int) (val : Value) (hx : a.eval x = .int .i64 s) (hv : a.eval v = val) (hkey : keyOf P k (.int .i64 s) = some (.int .i64 s))
  (hK : ∀ w', MapI P k b (n + 1) (fun y => if y = s then some val else f y) w' → w.grownBy w' (some b) → wpList P ops Q rest (a.put o.dst undef) w') : wpList P ops Q (o :: rest) a w := by
 obtain ⟨D, h1, h2, h3⟩ := h
 refine wpList_insert_own w hg m x v t hop k e K ht b n D hm h1 hn (.int .i64 s) val (.int .i64 s) hx hv hkey (fun w' ho hgr => hK w' ⟨_, ho, h2.put _ _, fun y => ?_⟩ hgr)
 by_cases hy : y = s
 ·subst hy
  refine ⟨by rw [Maps.has_put_same (k := Lit.int .i64 y) h2 trivial]; simp, fun u hu z => ?_⟩
  rw [Maps.atKey_put_same (k := Lit.int .i64 y) h2 trivial]
  simp at hu
  rw [hu]
 ·refine ⟨by rw [Maps.has_put_other (int_ne hy)]; simp [hy, (h3 y).1], fun u hu z => ?_⟩
  rw [Maps.atKey_put_other (int_ne hy)]
  simp [hy] at hu
  exact (h3 y).2 u hu z
/-- Which way prints which kind. -/
def wayI (k : Int) : Option Value :=
 if k = 28 then some (.func (.func 86) #[] #[]) else
 if k = 29 then some (.func (.func 85) #[] #[]) else
 if k = 27 then some (.func (.func 84) #[] #[]) else
 if k = 26 then some (.func (.func 83) #[] #[]) else
 if k = 25 then some (.func (.func 82) #[] #[]) else
 if k = 24 then some (.func (.func 81) #[] #[]) else
 if k = 23 then some (.func (.func 80) #[] #[]) else
 if k = 22 then some (.func (.func 79) #[] #[]) else
 if k = 21 then some (.func (.func 78) #[] #[]) else
 if k = 20 then some (.func (.func 77) #[] #[]) else
 if k = 19 then some (.func (.func 76) #[] #[]) else
 if k = 17 then some (.func (.func 75) #[] #[]) else
 if k = 18 then some (.func (.func 74) #[] #[]) else
 if k = 16 then some (.func (.func 73) #[] #[]) else
 if k = 14 then some (.func (.func 72) #[] #[]) else
 if k = 12 then some (.func (.func 71) #[] #[]) else
 if k = 13 then some (.func (.func 70) #[] #[]) else
 if k = 11 then some (.func (.func 69) #[] #[]) else
 if k = 10 then some (.func (.func 68) #[] #[]) else
 if k = 9 then some (.func (.func 67) #[] #[]) else
 if k = 8 then some (.func (.func 66) #[] #[]) else
 if k = 7 then some (.func (.func 65) #[] #[]) else
 if k = 15 then some (.func (.func 64) #[] #[]) else
 if k = 6 then some (.func (.func 63) #[] #[]) else
 if k = 5 then some (.func (.func 62) #[] #[]) else
 if k = 4 then some (.func (.func 61) #[] #[]) else
 if k = 3 then some (.func (.func 60) #[] #[]) else
 if k = 2 then some (.func (.func 59) #[] #[]) else
 if k = 1 then some (.func (.func 58) #[] #[]) else
 none
abbrev prT : TypeId := 76
theorem rown_ltP {w : World} {base k : Nat} {e : TypeId} {v : Value} {n : Nat} {xs : List Value} (h : w.ownsRow base e k v n xs) {g : Nat} (hg : v.ownBlock = some g) : g < w.heap.size := by
 rcases h.2 with ⟨rfl, _⟩ | ⟨g', cap, cur, rfl, _, hh, _⟩
 ·simp [Value.ownBlock] at hg
 ·have : g' = g := by simpa [Value.ownBlock] using hg
  subst this
  exact (Array.getElem?_eq_some_iff.1 hh).1
/-- A printer: its block g, the block mb of its map; v is its tokens' slice. -/
structure PrS (g mb : Nat) (L : List Lx.T) (v : Value) (W : World) : Prop where
 blk : Blk W g prT #[v, .map (some mb)]
 row : W.ownsRow (g + 1) 50 4 v L.length (L.flatMap tCells)
 lt : mb < g
 map : MapI Tryz.prog 3 mb 29 wayI W
/-- What is turned: the printer, and the row that its tokens lay in. -/
def PrR (g : Nat) (v : Value) (w : World) (v' : Value) (w' : World) : Prop :=
 Only (fun b => b = g ∨ v.ownBlock = some b) w w' ∧ ∀ b, v'.ownBlock = some b → v.ownBlock = some b ∨ w.heap.size ≤ b
def PrPost (g mb : Nat) (L : List Lx.T) (v : Value) (w : World) (e : Ending) (w' : World) : Prop :=
 e = .returned (.pointer (some ⟨g, 0, none⟩)) ∧ ∃ v', PrS g mb L v' w' ∧ PrR g v w v' w'
section
variable {g mb : Nat} {L : List Lx.T} {v v' v2 : Value} {w w' w2 : World}
theorem PrS.own (h : PrS g mb L v w) {b : Nat} (hb : v.ownBlock = some b) : g < b ∧ b < w.heap.size := by
 refine ⟨?_, rown_ltP h.row hb⟩
 have := owns_block0 h.row hb
 omega
theorem PrR.refl (g : Nat) (v : Value) (w : World) : PrR g v w v w := ⟨Only.refl _ _, fun b h => .inl h⟩
theorem PrR.trans (h : PrR g v w v' w') (k : PrR g v' w' v2 w2) : PrR g v w v2 w2 := by
 refine ⟨⟨k.1.os.trans h.1.os, k.1.output.trans h.1.output, Nat.le_trans h.1.size k.1.size, fun b hb hs => ?_⟩, fun b hb => ?_⟩
 ·have h1 := h.1.block b hb hs
  refine (k.1.block b (Nat.lt_of_lt_of_le hb h.1.size) ?_).trans h1
  rintro (e | e)
  ·exact hs (.inl e)
  ·rcases h.2 b e with e | e
   ·exact hs (.inr e)
   ·omega
 ·rcases k.2 b hb with e | e
  ·exact h.2 b e
  ·exact .inr (Nat.le_trans h.1.size e)
/-- A box that was made before lives on. -/
theorem PrR.blk {q : Nat} {t : TypeId} {cs : Array Value} (h : PrR g v w v' w') (hb : Blk w q t cs) (hg : q ≠ g) (hv : v.ownBlock ≠ some q) : Blk w' q t cs := hb.only h.1 (fun e => e.elim hg hv)
theorem PrR.low {D : Nat → Prop} {b o : Nat} {x : Nd} (h : PrR g v w v' w') (hp : PrS g mb L v w) (hx : NdD (fun k => k < mb) w b o x) : NdD (fun k => k < mb) w' b o x :=
 hx.only h.1 (fun k hk e => by
  have := hp.lt
  rcases e with e | e
  ·omega
  ·have := (hp.own e).1; omega)
theorem PrR.kids {s : Value} {l : List Nd} (h : PrR g v w v' w') (hp : PrS g mb L v w) (hx : KidsD (fun k => k < mb) w s l) : KidsD (fun k => k < mb) w' s l :=
 KidsD.only hx h.1 (fun k hk e => by
  have := hp.lt
  rcases e with e | e
  ·omega
  ·have := (hp.own e).1; omega)
theorem PrS.kept (h : PrS g mb L v w) (k : Kept w w') : PrS g mb L v w' := ⟨h.blk.kept k, owns_keptT h.row k, h.lt, h.map.only (S := fun _ => False) (Only.of_kept k) (fun h => h)⟩
theorem PrS.only {S : Nat → Prop} (h : PrS g mb L v w) (k : Only S w w') (h1 : ¬ S g) (h2 : ∀ b, v.ownBlock = some b → ¬ S b) (h3 : ¬ S mb) : PrS g mb L v w' := ⟨h.blk.only k h1, owns_only0 h.row k h2, h.lt, h.map.only k h3⟩
theorem PrS.drew (h : PrS g mb L v w) : PrS g mb L v w.drew := h.kept (Kept.refl w).drew
theorem PrR.of_kept (k : Kept w w') (v : Value) : PrR g v w v w' := ⟨Only.of_kept k, fun b h => .inl h⟩
end
theorem tok1_src (x : Lx.T) {W : World} {g : Nat} (h : Blk W g 50 #[.int .i64 x.kind, .string x.text, .int .i64 x.n, .int .i64 x.pos]) : Src Tryz.prog 4 45 (.slice (some ⟨g, 0, none⟩) 1 1) 1 (tCells x) W := by
 refine Src.ofSlice W Tryz.underlying45 ⟨g, 0, none⟩ 1 1 _ rfl ?_ ?_
 ·intro j u hu
  rw [addr_plainT, Nat.zero_add, h.cell j]
  have : (#[Value.int .i64 x.kind, .string x.text, .int .i64 x.n, .int .i64 x.pos] : Array Value)[j]? = (tCells x)[j]? := by rw [← Array.getElem?_toList]; rfl
  rw [this, hu]
 ·intro u hu
  simp [tCells] at hu
  rcases hu with rfl | rfl | rfl | rfl <;> rfl
set_option maxHeartbeats 4000000 in
theorem padd_c (g mb : Nat) (L : List Lx.T) (v : Value) (x : Lx.T) (w : World) (h : PrS g mb L v w) (hn : L.length ≤ 1000000000) :
  Calls Tryz.prog 126 #[.pointer (some ⟨g, 0, none⟩), .agg #[.int .i64 x.kind, .string x.text, .int .i64 x.n, .int .i64 x.pos]] w (PrPost g mb (L ++ [x]) v w) := by
 obtain ⟨i0, hi, hz0, hzz1, hzz2⟩ := info_parts info_tok
 obtain ⟨W1, hW1⟩ : ∃ W, w.alloc (.cells #[.int .i64 x.kind, .string x.text, .int .i64 x.n, .int .i64 x.pos] 50) = W := ⟨_, rfl⟩
 have k1 : Kept w W1 := by rw [← hW1]; exact (Kept.refl _).alloc _
 have b1 : Blk W1 w.heap.size 50 #[.int .i64 x.kind, .string x.text, .int .i64 x.n, .int .i64 x.pos] := by rw [← hW1]; exact Blk.new _ _ _
 have HS := Lib.hid (h.kept k1)
 have HK1 := Lib.hid k1
 have HB1 := Lib.hid b1
 have HW1 := Lib.hid hW1
 have HNN := Lib.hid hn
 have HN0 := Lib.hid (show ∀ b : Nat, v.ownBlock = some b → b < w.heap.size from fun b e => (h.own e).2)
 have s0 := b1.cell 0
 have s1 := b1.cell 1
 have s2 := b1.cell 2
 have s3 := b1.cell 3
 have g0 := HS.out.blk.cell 0
 have q0 := HS.out.blk.frozen 0
 clear h k1 b1 hW1 hn
 go_enter Tryz.func126, Tryz.ntmps126
 go_wp2_with (rw [HW1.out])
 refine wp_region_till (S := (fun W => W.cell? ⟨g, 0, none⟩ = some v ∧ W.frozen? ⟨g, 0, none⟩ = false ∧ W.cell? ⟨w.heap.size, 0, none⟩ = some (.int .i64 x.kind) ∧ W.cell? ⟨w.heap.size, 1, none⟩ = some (.string x.text) ∧ W.cell? ⟨w.heap.size, 2, none⟩ = some (.int .i64 x.n) ∧ W.cell? ⟨w.heap.size, 3, none⟩ = some (.int .i64 x.pos))) 10 (by kernel_rfl) ⟨HS.out.drew.blk.cell 0, HS.out.drew.blk.frozen 0, HB1.out.drew.cell 0, HB1.out.drew.cell 1, HB1.out.drew.cell 2, HB1.out.drew.cell 3⟩ (fun hHeld0 => ?_)
 refine wpAnyT_take (i := 0) (v := ?_) rfl (by kernel_rfl) (by kernel_rfl) (by kernel_rfl) (fun _ _ _ h => h) (Or.inl ⟨by kernel_rfl, ?_⟩) (by assumption) ?_
 rotate_left
 ·intro w hSw; (try dsimp only at hSw); go_simp; (try with_reducible rfl)
 (try simp only [Act.put, List.getElem_toArray, List.getElem_cons_zero, List.getElem_cons_succ, List.setIfInBounds_toArray, List.set_cons_zero, List.set_cons_succ])
 refine wpAnyT_take (i := 1) (v := ?_) rfl (by kernel_rfl) (by kernel_rfl) (by kernel_rfl) (fun _ _ _ h => h) (Or.inl ⟨by kernel_rfl, ?_⟩) (by assumption) ?_
 rotate_left
 ·intro w hSw; (try dsimp only at hSw); go_simp; (try with_reducible rfl)
 (try simp only [Act.put, List.getElem_toArray, List.getElem_cons_zero, List.getElem_cons_succ, List.setIfInBounds_toArray, List.set_cons_zero, List.set_cons_succ])
 refine wpAnyT_take (i := 2) (v := ?_) rfl (by kernel_rfl) (by kernel_rfl) (by kernel_rfl) (fun _ _ _ h => h) (Or.inl ⟨by kernel_rfl, ?_⟩) (by assumption) ?_
 rotate_left
 ·intro w hSw; (try dsimp only at hSw); go_simp; (try with_reducible rfl)
 (try simp only [Act.put, List.getElem_toArray, List.getElem_cons_zero, List.getElem_cons_succ, List.setIfInBounds_toArray, List.set_cons_zero, List.set_cons_succ])
 refine wpAnyT_take (i := 3) (v := ?_) rfl (by kernel_rfl) (by kernel_rfl) (by kernel_rfl) (fun _ _ _ h => h) (Or.inl ⟨by kernel_rfl, ?_⟩) (by assumption) ?_
 rotate_left
 ·intro w hSw; (try dsimp only at hSw); go_simp; (try with_reducible rfl)
 (try simp only [Act.put, List.getElem_toArray, List.getElem_cons_zero, List.getElem_cons_succ, List.setIfInBounds_toArray, List.set_cons_zero, List.set_cons_succ])
 refine wpAnyT_take (i := 4) (v := ?_) rfl (by kernel_rfl) (by kernel_rfl) (by kernel_rfl) (fun _ _ _ h => h) (Or.inl ⟨by kernel_rfl, ?_⟩) (by assumption) ?_
 rotate_left
 ·intro w hSw; (try dsimp only at hSw); go_simp; (try with_reducible rfl)
 (try simp only [Act.put, List.getElem_toArray, List.getElem_cons_zero, List.getElem_cons_succ, List.setIfInBounds_toArray, List.set_cons_zero, List.set_cons_succ])
 refine wpAnyT_take (i := 5) (v := ?_) rfl (by kernel_rfl) (by kernel_rfl) (by kernel_rfl) (fun _ _ _ h => h) (Or.inl ⟨by kernel_rfl, ?_⟩) (by assumption) ?_
 rotate_left
 ·intro w hSw; (try dsimp only at hSw); go_simp; (try with_reducible rfl)
 (try simp only [Act.put, List.getElem_toArray, List.getElem_cons_zero, List.getElem_cons_succ, List.setIfInBounds_toArray, List.set_cons_zero, List.set_cons_succ])
 refine wpAnyT_ready (rs := [6]) (by kernel_rfl) (by simp) ?_
 refine AllReadyT.cons rfl (fun K hK => ?_) AllReadyT.nil
 go_simp
 obtain ⟨W2, hW2⟩ : ∃ W, (W1.alloc (.cells #[.int .i64 x.kind, .string x.text, .int .i64 x.n, .int .i64 x.pos] 50)).drew = W := ⟨_, rfl⟩
 have k2 : Kept W1 W2 := by rw [← hW2]; exact ((Kept.refl _).alloc _).drew
 have b2 : Blk W2 W1.heap.size 50 #[.int .i64 x.kind, .string x.text, .int .i64 x.n, .int .i64 x.pos] := by rw [← hW2]; exact (Blk.new _ _ _).drew
 rw [hW2]
 clear hW2
 have HS2 := Lib.hid (HS.out.kept k2)
 have HB2 := Lib.hid (HB1.out.kept k2)
 refine hK.out _ _ ⟨HS2.out.blk.cell 0, HS2.out.blk.frozen 0, HB2.out.cell 0, HB2.out.cell 1, HB2.out.cell 2, HB2.out.cell 3⟩ (fun hHeld1 => ?_)
 clear hK K
 (try simp only [Act.put, List.getElem_toArray, List.getElem_cons_zero, List.getElem_cons_succ, List.setIfInBounds_toArray, List.set_cons_zero, List.set_cons_succ])
 clear hHeld0
 refine wpAnyT_ready (rs := [7]) (by kernel_rfl) (by simp) ?_
 refine AllReadyT.cons rfl (fun K hK => ?_) AllReadyT.nil
 refine step_apk rfl _ _ 45 45 rfl (g + 1) 4 50 i0 _ 40 Tryz.underlying45 hi hz0 hzz1 hzz2 rfl rfl HS2.out.row rfl (tok1_src x b2) (by unfold maxLen; have := HNN.out; omega) (by have := HNN.out; omega) (by have := HS2.out.blk.lt; omega) ?_
 intro v' w3 hown hgrow _ hlies
 obtain ⟨va, vc, rfl⟩ := slice_of_owns0 hown
 have o3 : Only (fun k => v.ownBlock = some k) W2 w3 := (Only.refl _ W2).grown hgrow fun k hk => .inl hk
 have hgv : ¬ v.ownBlock = some g := fun e => by have := (HS2.out.own e).1; omega
 have hxv : ¬ v.ownBlock = some w.heap.size := fun e => by
  have h1 := HS.out.own e
  have h2 := HN0.out _ e
  omega
 have b3 := HS2.out.blk.only o3 hgv
 have c3 := HB2.out.only o3 hxv
 have m3 := HS2.out.map.only o3 (fun e => by have := (HS2.out.own e).1; have := HS2.out.lt; omega)
 have g3 := b3.cell 0
 have q3 := b3.frozen 0
 refine hK.out _ _ ⟨b3.cell 0, b3.frozen 0, c3.cell 0, c3.cell 1, c3.cell 2, c3.cell 3⟩ (fun hHeld2 => ?_)
 clear hK K
 (try simp only [Act.put, List.getElem_toArray, List.getElem_cons_zero, List.getElem_cons_succ, List.setIfInBounds_toArray, List.set_cons_zero, List.set_cons_succ])
 clear hHeld1
 refine wpAnyT_take (i := 8) (v := ?_) rfl (by kernel_rfl) (by kernel_rfl) (by kernel_rfl) (fun _ _ _ h => h) (Or.inl ⟨by kernel_rfl, ?_⟩) (by assumption) ?_
 rotate_left
 ·intro w hSw; (try dsimp only at hSw); go_simp; (try with_reducible rfl)
 (try simp only [Act.put, List.getElem_toArray, List.getElem_cons_zero, List.getElem_cons_succ, List.setIfInBounds_toArray, List.set_cons_zero, List.set_cons_succ])
 refine wpAnyT_take (i := 9) (v := ?_) rfl (by kernel_rfl) (by kernel_rfl) (by kernel_rfl) (fun _ _ _ h => h) (Or.inl ⟨by kernel_rfl, ?_⟩) (by assumption) ?_
 rotate_left
 ·intro w hSw; (try dsimp only at hSw); go_simp; (try with_reducible rfl)
 (try simp only [Act.put, List.getElem_toArray, List.getElem_cons_zero, List.getElem_cons_succ, List.setIfInBounds_toArray, List.set_cons_zero, List.set_cons_succ])
 refine wpAnyT_ready (rs := [10]) (by kernel_rfl) (by simp) ?_
 refine AllReadyT.fin rfl (fun K hK => ?_)
 go_simp
 refine hK.out _ _ ?_
 clear hK K
 refine wpAnyT_done (by kernel_rfl) ?_ _
 clear hHeld2
 go_wp2_with fail
 go_ret
 have hgb : ∀ b, (Value.slice va (L.length + 1) vc).ownBlock = some b → g < b := by
  intro b hb
  rcases hlies with e | e
  ·exact (HS2.out.own (e.symm.trans hb)).1
  ·have := HS2.out.blk.lt
   rw [e] at hb
   injection hb with hb
   omega
 have o4 : Only (· = g) w3 (w3.setCell ⟨g, 0, none⟩ (.slice va (L.length + 1) vc)) := (Only.refl _ _).put 0 _
 refine ⟨rfl, (.slice va (L.length + 1) vc), ⟨?_, ?_, HS2.out.lt, m3.only o4 (fun e => by have := HS2.out.lt; omega)⟩, ?_, ?_⟩
 ·have := b3.put 0 (.slice va (L.length + 1) vc)
  simpa using this
 ·rw [List.length_append, List.flatMap_append]
  have := owns_only0 hown o4 (fun b hb e => by have := hgb b hb; omega)
  simpa using this
 ·refine ((Only.of_kept (HK1.out.trans k2)).trans (o3.mono fun k _ hk => .inr hk)).trans (o4.mono fun k _ hk => .inl hk)
 ·intro b hb
  rcases hlies with e | e
  ·exact .inl (e.symm.trans hb)
  ·right
   rw [e] at hb
   injection hb with hb
   have h1 := HK1.out.size
   have h2 := k2.size
   omega
end Go.Proofs.YtfpklgffdniegaaGreatDoor
namespace Go.Proofs.YtfpklgffdniegaaGreatDoor
open Go.ChangeShapes Go.WideShapes Go.ChangeAt Go.RowKit
attribute [local go_sem] Oper.semAt_some
open Pr (key sgn nam tk toks typT ann)
section
variable {g mb : Nat} {L : List Lx.T} {v : Value} {w : World}
theorem pkey_c (s : ByteArray) (h : PrS g mb L v w) (hn : L.length ≤ 1000000000) : Calls Tryz.prog 120 #[.pointer (some ⟨g, 0, none⟩), .string s] w (PrPost g mb (L ++ [key s]) v w) := by
 have HA := Lib.hid (padd_c g mb L v (key s) w h hn)
 clear h hn
 go_enter Tryz.func120, Tryz.ntmps120
 go_wp2_with fail
 refine HA.out.mono ?_
 rintro e w1 ⟨rfl, hp⟩
 go_wp2_with fail
 go_ret
 exact ⟨rfl, hp⟩
theorem psign_c (s : ByteArray) (h : PrS g mb L v w) (hn : L.length ≤ 1000000000) : Calls Tryz.prog 123 #[.pointer (some ⟨g, 0, none⟩), .string s] w (PrPost g mb (L ++ [sgn s]) v w) := by
 have HA := Lib.hid (padd_c g mb L v (sgn s) w h hn)
 clear h hn
 go_enter Tryz.func123, Tryz.ntmps123
 go_wp2_with fail
 refine HA.out.mono ?_
 rintro e w1 ⟨rfl, hp⟩
 go_wp2_with fail
 go_ret
 exact ⟨rfl, hp⟩
theorem pname_c (s : ByteArray) (h : PrS g mb L v w) (hn : L.length ≤ 1000000000) : Calls Tryz.prog 124 #[.pointer (some ⟨g, 0, none⟩), .string s] w (PrPost g mb (L ++ [nam s]) v w) := by
 have HA := Lib.hid (padd_c g mb L v (nam s) w h hn)
 clear h hn
 go_enter Tryz.func124, Tryz.ntmps124
 go_wp2_with fail
 refine HA.out.mono ?_
 rintro e w1 ⟨rfl, hp⟩
 go_wp2_with fail
 go_ret
 exact ⟨rfl, hp⟩
set_option maxHeartbeats 2000000 in
theorem ptyp_cP (y : ByteArray) (h : PrS g mb L v w) (hn : L.length ≤ 1000000000) : Calls Tryz.prog 121 #[.pointer (some ⟨g, 0, none⟩), .string y] w (PrPost g mb (L ++ [typT y]) v w) := by
 by_cases hb : Pr.isBase y = true
 ·have e : typT y = key y := by unfold typT; rw [hb, if_pos rfl]
  have HA := Lib.hid (pkey_c y h hn)
  rw [e]
  clear h hn e
  unfold Pr.isBase at hb
  simp only [Bool.or_eq_true, decide_eq_true_eq] at hb
  rcases hb with (((rfl | rfl) | rfl) | rfl) | rfl
  ·have c1 : ((⟨#[105, 110, 116]⟩ : ByteArray).toList == [105, 110, 116]) = true := by kernel_rfl
   go_enter Tryz.func121, Tryz.ntmps121
   go_wp2_with fail
   refine HA.out.mono ?_
   rintro e w1 ⟨rfl, hp⟩
   go_wp2_with fail
   go_ret
   exact ⟨rfl, hp⟩
  ·have c1 : ((⟨#[114, 101, 97, 108]⟩ : ByteArray).toList == [105, 110, 116]) = false := by kernel_rfl
   have c2 : ((⟨#[114, 101, 97, 108]⟩ : ByteArray).toList == [114, 101, 97, 108]) = true := by kernel_rfl
   go_enter Tryz.func121, Tryz.ntmps121
   go_wp2_with fail
   refine HA.out.mono ?_
   rintro e w1 ⟨rfl, hp⟩
   go_wp2_with fail
   go_ret
   exact ⟨rfl, hp⟩
  ·have c1 : ((⟨#[98, 111, 111, 108]⟩ : ByteArray).toList == [105, 110, 116]) = false := by kernel_rfl
   have c2 : ((⟨#[98, 111, 111, 108]⟩ : ByteArray).toList == [114, 101, 97, 108]) = false := by kernel_rfl
   have c3 : ((⟨#[98, 111, 111, 108]⟩ : ByteArray).toList == [98, 111, 111, 108]) = true := by kernel_rfl
   go_enter Tryz.func121, Tryz.ntmps121
   go_wp2_with fail
   refine HA.out.mono ?_
   rintro e w1 ⟨rfl, hp⟩
   go_wp2_with fail
   go_ret
   exact ⟨rfl, hp⟩
  ·have c1 : ((⟨#[115, 116, 114]⟩ : ByteArray).toList == [105, 110, 116]) = false := by kernel_rfl
   have c2 : ((⟨#[115, 116, 114]⟩ : ByteArray).toList == [114, 101, 97, 108]) = false := by kernel_rfl
   have c3 : ((⟨#[115, 116, 114]⟩ : ByteArray).toList == [98, 111, 111, 108]) = false := by kernel_rfl
   have c4 : ((⟨#[115, 116, 114]⟩ : ByteArray).toList == [115, 116, 114]) = true := by kernel_rfl
   go_enter Tryz.func121, Tryz.ntmps121
   go_wp2_with fail
   refine HA.out.mono ?_
   rintro e w1 ⟨rfl, hp⟩
   go_wp2_with fail
   go_ret
   exact ⟨rfl, hp⟩
  ·have c1 : ((⟨#[117, 110, 105, 116]⟩ : ByteArray).toList == [105, 110, 116]) = false := by kernel_rfl
   have c2 : ((⟨#[117, 110, 105, 116]⟩ : ByteArray).toList == [114, 101, 97, 108]) = false := by kernel_rfl
   have c3 : ((⟨#[117, 110, 105, 116]⟩ : ByteArray).toList == [98, 111, 111, 108]) = false := by kernel_rfl
   have c4 : ((⟨#[117, 110, 105, 116]⟩ : ByteArray).toList == [115, 116, 114]) = false := by kernel_rfl
   have c5 : ((⟨#[117, 110, 105, 116]⟩ : ByteArray).toList == [117, 110, 105, 116]) = true := by kernel_rfl
   go_enter Tryz.func121, Tryz.ntmps121
   go_wp2_with fail
   refine HA.out.mono ?_
   rintro e w1 ⟨rfl, hp⟩
   go_wp2_with fail
   go_ret
   exact ⟨rfl, hp⟩
 ·have hb0 : Pr.isBase y = false := by simpa using hb
  have hb1 := hb
  unfold Pr.isBase at hb1
  simp only [Bool.or_eq_true, decide_eq_true_eq, not_or] at hb1
  have c1 : (y.toList == [105, 110, 116]) = false := lit_no hb1.1.1.1.1
  have c2 : (y.toList == [114, 101, 97, 108]) = false := lit_no hb1.1.1.1.2
  have c3 : (y.toList == [98, 111, 111, 108]) = false := lit_no hb1.1.1.2
  have c4 : (y.toList == [115, 116, 114]) = false := lit_no hb1.1.2
  have c5 : (y.toList == [117, 110, 105, 116]) = false := lit_no hb1.2
  by_cases ha : y = Ps.kAny
  ·have e : typT y = sgn y := by unfold typT; rw [hb0, if_neg (by decide), if_pos ha]
   have HA := Lib.hid (psign_c y h hn)
   rw [e]
   clear h hn e hb hb0 hb1 c1 c2 c3 c4 c5
   subst ha
   have c1 : ((⟨#[63]⟩ : ByteArray).toList == [105, 110, 116]) = false := by kernel_rfl
   have c2 : ((⟨#[63]⟩ : ByteArray).toList == [114, 101, 97, 108]) = false := by kernel_rfl
   have c3 : ((⟨#[63]⟩ : ByteArray).toList == [98, 111, 111, 108]) = false := by kernel_rfl
   have c4 : ((⟨#[63]⟩ : ByteArray).toList == [115, 116, 114]) = false := by kernel_rfl
   have c5 : ((⟨#[63]⟩ : ByteArray).toList == [117, 110, 105, 116]) = false := by kernel_rfl
   have c6 : ((⟨#[63]⟩ : ByteArray).toList == [63]) = true := by kernel_rfl
   go_enter Tryz.func121, Tryz.ntmps121
   go_wp2_with fail
   refine HA.out.mono ?_
   rintro e w1 ⟨rfl, hp⟩
   go_wp2_with fail
   go_ret
   exact ⟨rfl, hp⟩
  ·have e : typT y = tk 2 y 0 := by unfold typT; rw [hb0, if_neg (by decide), if_neg ha]
   have HA := Lib.hid (padd_c g mb L v (tk 2 y 0) w h hn)
   rw [e]
   have c6 : (y.toList == [63]) = false := lit_no ha
   clear h hn e hb hb0 hb1 ha
   go_enter Tryz.func121, Tryz.ntmps121
   go_wp2_with fail
   refine HA.out.mono ?_
   rintro e w1 ⟨rfl, hp⟩
   go_wp2_with fail
   go_ret
   exact ⟨rfl, hp⟩
theorem pann_c (y om : ByteArray) (h : PrS g mb L v w) (hn : L.length + (ann y om).length ≤ 1000000000) : Calls Tryz.prog 122 #[.pointer (some ⟨g, 0, none⟩), .string y, .string om] w (PrPost g mb (L ++ ann y om) v w) := by
 by_cases hy : y = om
 ·have e : ann y om = [] := by unfold ann; rw [if_pos hy]
  rw [e, List.append_nil]
  have hc : (y.toList == om.toList) = true := by rw [hy]; simp
  have HS := Lib.hid h
  clear h e hy
  go_enter Tryz.func122, Tryz.ntmps122
  go_wp2_with fail
  go_ret
  exact ⟨rfl, v, HS.out, PrR.refl _ _ _⟩
 ·have e : ann y om = [sgn Ps.kColon, typT y] := by unfold ann; rw [if_neg hy]
  rw [e] at hn ⊢
  simp only [List.length_cons, List.length_nil] at hn
  have hc : (y.toList == om.toList) = false := beq_no hy
  have HA := Lib.hid (psign_c Ps.kColon h (by omega))
  clear h e hy
  have HN := Lib.hid hn
  clear hn
  go_enter Tryz.func122, Tryz.ntmps122
  go_wp2_with fail
  refine HA.out.mono ?_
  rintro e w1 ⟨rfl, v1, h1, r1⟩
  have HB := Lib.hid (ptyp_cP y h1 (by rw [List.length_append]; have := HN.out; simp; omega))
  have HR := Lib.hid r1
  clear HA h1 r1
  go_wp2_with fail
  refine HB.out.mono ?_
  rintro e w2 ⟨rfl, v2, h2, r2⟩
  have HE := Lib.hid (And.intro h2 (HR.out.trans r2))
  clear h2 r2
  go_wp2_with fail
  go_ret
  exact ⟨rfl, v2, by have := HE.out.1; rw [List.append_assoc] at this; exact this, HE.out.2⟩
end
end Go.Proofs.YtfpklgffdniegaaGreatDoor
namespace Go.Proofs.YtfpklgffdniegaaGreatDoor
open Go.ChangeShapes Go.WideShapes Go.ChangeAt Go.RowKit
attribute [local go_sem] Oper.semAt_some
set_option maxHeartbeats 4000000 in
theorem levelOf_cP (t : ByteArray) (w : World) : Calls Tryz.prog 24 #[.string t] w fun e w' => e = .returned (.int .i64 (Pr.opLv t)) ∧ w' = w := by
 by_cases h0 : t = ⟨#[124, 124]⟩
 ·subst h0
  have c0 : ((⟨#[124, 124]⟩ : ByteArray).toList == [124, 124]) = true := by kernel_rfl
  go_enter Tryz.func24, Tryz.ntmps24
  go_wp2_with fail
  go_ret
  exact ⟨rfl, rfl⟩
 by_cases h1 : t = ⟨#[38, 38]⟩
 ·subst h1
  clear h0
  have c0 : ((⟨#[38, 38]⟩ : ByteArray).toList == [124, 124]) = false := by kernel_rfl
  have c1 : ((⟨#[38, 38]⟩ : ByteArray).toList == [38, 38]) = true := by kernel_rfl
  go_enter Tryz.func24, Tryz.ntmps24
  go_wp2_with fail
  go_ret
  exact ⟨rfl, rfl⟩
 by_cases h2 : t = ⟨#[61, 61]⟩
 ·subst h2
  clear h0
  clear h1
  have c0 : ((⟨#[61, 61]⟩ : ByteArray).toList == [124, 124]) = false := by kernel_rfl
  have c1 : ((⟨#[61, 61]⟩ : ByteArray).toList == [38, 38]) = false := by kernel_rfl
  have c2 : ((⟨#[61, 61]⟩ : ByteArray).toList == [61, 61]) = true := by kernel_rfl
  go_enter Tryz.func24, Tryz.ntmps24
  go_wp2_with fail
  go_ret
  exact ⟨rfl, rfl⟩
 by_cases h3 : t = ⟨#[33, 61]⟩
 ·subst h3
  clear h0
  clear h1
  clear h2
  have c0 : ((⟨#[33, 61]⟩ : ByteArray).toList == [124, 124]) = false := by kernel_rfl
  have c1 : ((⟨#[33, 61]⟩ : ByteArray).toList == [38, 38]) = false := by kernel_rfl
  have c2 : ((⟨#[33, 61]⟩ : ByteArray).toList == [61, 61]) = false := by kernel_rfl
  have c3 : ((⟨#[33, 61]⟩ : ByteArray).toList == [33, 61]) = true := by kernel_rfl
  go_enter Tryz.func24, Tryz.ntmps24
  go_wp2_with fail
  go_ret
  exact ⟨rfl, rfl⟩
 by_cases h4 : t = ⟨#[60]⟩
 ·subst h4
  clear h0
  clear h1
  clear h2
  clear h3
  have c0 : ((⟨#[60]⟩ : ByteArray).toList == [124, 124]) = false := by kernel_rfl
  have c1 : ((⟨#[60]⟩ : ByteArray).toList == [38, 38]) = false := by kernel_rfl
  have c2 : ((⟨#[60]⟩ : ByteArray).toList == [61, 61]) = false := by kernel_rfl
  have c3 : ((⟨#[60]⟩ : ByteArray).toList == [33, 61]) = false := by kernel_rfl
  have c4 : ((⟨#[60]⟩ : ByteArray).toList == [60]) = true := by kernel_rfl
  go_enter Tryz.func24, Tryz.ntmps24
  go_wp2_with fail
  go_ret
  exact ⟨rfl, rfl⟩
 by_cases h5 : t = ⟨#[60, 61]⟩
 ·subst h5
  clear h0
  clear h1
  clear h2
  clear h3
  clear h4
  have c0 : ((⟨#[60, 61]⟩ : ByteArray).toList == [124, 124]) = false := by kernel_rfl
  have c1 : ((⟨#[60, 61]⟩ : ByteArray).toList == [38, 38]) = false := by kernel_rfl
  have c2 : ((⟨#[60, 61]⟩ : ByteArray).toList == [61, 61]) = false := by kernel_rfl
  have c3 : ((⟨#[60, 61]⟩ : ByteArray).toList == [33, 61]) = false := by kernel_rfl
  have c4 : ((⟨#[60, 61]⟩ : ByteArray).toList == [60]) = false := by kernel_rfl
  have c5 : ((⟨#[60, 61]⟩ : ByteArray).toList == [60, 61]) = true := by kernel_rfl
  go_enter Tryz.func24, Tryz.ntmps24
  go_wp2_with fail
  go_ret
  exact ⟨rfl, rfl⟩
 by_cases h6 : t = ⟨#[43]⟩
 ·subst h6
  clear h0
  clear h1
  clear h2
  clear h3
  clear h4
  clear h5
  have c0 : ((⟨#[43]⟩ : ByteArray).toList == [124, 124]) = false := by kernel_rfl
  have c1 : ((⟨#[43]⟩ : ByteArray).toList == [38, 38]) = false := by kernel_rfl
  have c2 : ((⟨#[43]⟩ : ByteArray).toList == [61, 61]) = false := by kernel_rfl
  have c3 : ((⟨#[43]⟩ : ByteArray).toList == [33, 61]) = false := by kernel_rfl
  have c4 : ((⟨#[43]⟩ : ByteArray).toList == [60]) = false := by kernel_rfl
  have c5 : ((⟨#[43]⟩ : ByteArray).toList == [60, 61]) = false := by kernel_rfl
  have c6 : ((⟨#[43]⟩ : ByteArray).toList == [43]) = true := by kernel_rfl
  go_enter Tryz.func24, Tryz.ntmps24
  go_wp2_with fail
  go_ret
  exact ⟨rfl, rfl⟩
 by_cases h7 : t = ⟨#[45]⟩
 ·subst h7
  clear h0
  clear h1
  clear h2
  clear h3
  clear h4
  clear h5
  clear h6
  have c0 : ((⟨#[45]⟩ : ByteArray).toList == [124, 124]) = false := by kernel_rfl
  have c1 : ((⟨#[45]⟩ : ByteArray).toList == [38, 38]) = false := by kernel_rfl
  have c2 : ((⟨#[45]⟩ : ByteArray).toList == [61, 61]) = false := by kernel_rfl
  have c3 : ((⟨#[45]⟩ : ByteArray).toList == [33, 61]) = false := by kernel_rfl
  have c4 : ((⟨#[45]⟩ : ByteArray).toList == [60]) = false := by kernel_rfl
  have c5 : ((⟨#[45]⟩ : ByteArray).toList == [60, 61]) = false := by kernel_rfl
  have c6 : ((⟨#[45]⟩ : ByteArray).toList == [43]) = false := by kernel_rfl
  have c7 : ((⟨#[45]⟩ : ByteArray).toList == [45]) = true := by kernel_rfl
  go_enter Tryz.func24, Tryz.ntmps24
  go_wp2_with fail
  go_ret
  exact ⟨rfl, rfl⟩
 have e : Pr.opLv t = 6 := by unfold Pr.opLv; simp only [h0, h1, h2, h3, h4, h5, h6, h7, or_self, if_false]
 rw [e]
 have c0 : (t.toList == [124, 124]) = false := lit_no h0
 have c1 : (t.toList == [38, 38]) = false := lit_no h1
 have c2 : (t.toList == [61, 61]) = false := lit_no h2
 have c3 : (t.toList == [33, 61]) = false := lit_no h3
 have c4 : (t.toList == [60]) = false := lit_no h4
 have c5 : (t.toList == [60, 61]) = false := lit_no h5
 have c6 : (t.toList == [43]) = false := lit_no h6
 have c7 : (t.toList == [45]) = false := lit_no h7
 clear e h0 h1 h2 h3 h4 h5 h6 h7
 go_enter Tryz.func24, Tryz.ntmps24
 go_wp2_with fail
 go_ret
 exact ⟨rfl, rfl⟩
set_option maxHeartbeats 4000000 in
theorem level_cP (x : Nd) (s : Value) (w : World) : Calls Tryz.prog 14 #[ndV x s] w fun e w' => e = .returned (.int .i64 (Pr.lv x)) ∧ Kept w w' := by
 obtain ⟨W1, hW1⟩ : ∃ W, w.alloc (.cells #[.int .i64 x.kind, .string x.text, .string x.typ, .string x.frm, .int .i64 x.n, s] 24) = W := ⟨_, rfl⟩
 have k1 : Kept w W1 := by rw [← hW1]; exact (Kept.refl _).alloc _
 have b1 : Blk W1 w.heap.size 24 #[.int .i64 x.kind, .string x.text, .string x.typ, .string x.frm, .int .i64 x.n, s] := by rw [← hW1]; exact Blk.new _ _ _
 have c0 := b1.cell 0
 have c1 := b1.cell 1
 have HK1 := Lib.hid k1
 have HW1 := Lib.hid hW1
 have HV := Lib.hid (show Pr.lv x = Pr.lvK x.kind x.text from rfl)
 clear k1 b1 hW1
 unfold ndV
 generalize Pr.lv x = V at *
 generalize x.kind = k at *
 generalize x.text = t at *
 by_cases h16 : k = 16
 ·subst h16
  have HE := Lib.hid (show V = 0 from HV.out)
  go_enter Tryz.func14, Tryz.ntmps14
  go_wp2_with (rw [HW1.out])
  go_ret
  exact ⟨congrArg (fun z => Ending.returned (.int .i64 z)) HE.out.symm, HK1.out⟩
 by_cases h18 : k = 18
 ·subst h18
  have HE := Lib.hid (show V = 0 from HV.out)
  go_enter Tryz.func14, Tryz.ntmps14
  go_wp2_with (rw [HW1.out])
  go_ret
  exact ⟨congrArg (fun z => Ending.returned (.int .i64 z)) HE.out.symm, HK1.out⟩
 by_cases h25 : k = 25
 ·subst h25
  have HE := Lib.hid (show V = Pr.opLv t from HV.out)
  have HLV := Lib.hid (levelOf_cP t)
  go_enter Tryz.func14, Tryz.ntmps14
  go_wp2_with (rw [HW1.out])
  refine (HLV.out _).mono ?_
  rintro e w2 ⟨rfl, rfl⟩
  go_wp2_with fail
  go_ret
  exact ⟨congrArg (fun z => Ending.returned (.int .i64 z)) HE.out.symm, HK1.out⟩
 by_cases h24 : k = 24
 ·subst h24
  have HE := Lib.hid (show V = 7 from HV.out)
  go_enter Tryz.func14, Tryz.ntmps14
  go_wp2_with (rw [HW1.out])
  go_ret
  exact ⟨congrArg (fun z => Ending.returned (.int .i64 z)) HE.out.symm, HK1.out⟩
 have HE := Lib.hid (show V = 8 by rw [HV.out, Pr.lvK, if_neg (fun e => e.elim h16 h18), if_neg h25, if_neg h24])
 have b16 : (k == 16) = false := by simp [h16]
 have b18 : (k == 18) = false := by simp [h18]
 have b25 : (k == 25) = false := by simp [h25]
 have b24 : (k == 24) = false := by simp [h24]
 clear h16 h18 h25 h24
 go_enter Tryz.func14, Tryz.ntmps14
 go_wp2_with (rw [HW1.out])
 go_ret
 exact ⟨congrArg (fun z => Ending.returned (.int .i64 z)) HE.out.symm, HK1.out⟩
end Go.Proofs.YtfpklgffdniegaaGreatDoor
namespace Go.Proofs.YtfpklgffdniegaaGreatDoor
open Go.ChangeShapes Go.WideShapes Go.ChangeAt Go.RowKit
attribute [local go_sem] Oper.semAt_some
open Pr (key sgn nam tk toks typT ann sep brk)
abbrev kdM (y : Nd) : Pr.Kd := (Pr.lv y, toks y)
/-- A node is printed as its tokens. -/
def NodeC (g mb : Nat) (y : Nd) : Prop := ∀ (L : List Lx.T) (v : Value) (w : World) (ad : Option Addr) (ck : Nat), PrS g mb L v w → KidsD (fun k => k < mb) w (.slice ad y.kids.length ck) y.kids → L.length + (toks y).length ≤ 1000000000 →
 Calls Tryz.prog 36 #[.pointer (some ⟨g, 0, none⟩), ndV y (.slice ad y.kids.length ck)] w (PrPost g mb (L ++ toks y) v w)
def sepS (s : ByteArray) : List Lx.T := if s = Ps.e0 then [] else [sgn s]
theorem sep_all (s : List Lx.T) : ∀ (p : Pr.Kd) (r : List Pr.Kd), sep s (p :: r) = p.2 ++ r.flatMap fun q => s ++ q.2
 | p, [] => by simp [sep]
 | p, q :: r => by rw [sep, sep_all s q r]; simp [List.append_assoc]
theorem sep_snoc (s : List Lx.T) (l : List Nd) (y : Nd) : sep s ((l ++ [y]).map kdM) = sep s (l.map kdM) ++ (if l.length = 0 then [] else s) ++ toks y := by
 cases l with
 | nil => simp [sep]
 | cons x r =>
  rw [List.cons_append, List.map_cons, sep_all, List.map_cons, sep_all, List.map_append, List.flatMap_append, if_neg (by simp)]
  simp
theorem sep_le (s : List Lx.T) (l m : List Nd) : (sep s (l.map kdM)).length ≤ (sep s ((l ++ m).map kdM)).length := by
 cases l with
 | nil => simp [sep]
 | cons x r =>
  rw [List.cons_append, List.map_cons, sep_all, List.map_cons, sep_all, List.map_append, List.flatMap_append]
  simp only [List.length_append]; omega
theorem nd_cells {D : Nat → Prop} {w : World} {a : Option Addr} {c : Nat} {l : List Nd} (h : KidsD D w (.slice a l.length c) l) {i : Nat} {y : Nd} (hy : l[i]? = some y) :
  ∃ b o ad ck, a = some ⟨b, o, none⟩ ∧ D b ∧ (w.cell? ⟨b, o + i * 6, none⟩ = some (.int .i64 y.kind) ∧ w.cell? ⟨b, o + i * 6 + 1, none⟩ = some (.string y.text) ∧ w.cell? ⟨b, o + i * 6 + 2, none⟩ = some (.string y.typ) ∧ w.cell? ⟨b, o + i * 6 + 3, none⟩ = some (.string y.frm) ∧ w.cell? ⟨b, o + i * 6 + 4, none⟩ = some (.int .i64 y.n) ∧ w.cell? ⟨b, o + i * 6 + 5, none⟩ = some (.slice ad y.kids.length ck)) ∧ KidsD D w (.slice ad y.kids.length ck) y.kids ∧ l.length ≤ c ∧ c ≤ maxLen := by
 obtain ⟨a', c', e, hl, hm, hs⟩ := h
 injection e with e1 e2 e3
 subst e1 e3
 obtain ⟨b, o, rfl, hn⟩ := hs i y hy
 obtain ⟨ad, ck, hc, _, hk, hd⟩ := hn.cells
 exact ⟨b, o, ad, ck, rfl, hd, hc, hk, hl, hm⟩
theorem emp_yes0 : ((⟨#[]⟩ : ByteArray).toList == []) = true := by kernel_rfl
set_option maxHeartbeats 8000000 in
theorem plist_c (g mb : Nat) (s : ByteArray) (l : List Nd) (a : Option Addr) (c : Nat) (L : List Lx.T) (v : Value) (w : World) (H : ∀ y ∈ l, NodeC g mb y) (h : PrS g mb L v w) (hk : KidsD (fun k => k < mb) w (.slice a l.length c) l)
  (hn : L.length + (sep (sepS s) (l.map kdM)).length ≤ 1000000000) :
  Calls Tryz.prog 149 #[.pointer (some ⟨g, 0, none⟩), .slice a l.length c, .string s, .func (.func 36) #[] #[]] w (PrPost g mb (L ++ sep (sepS s) (l.map kdM)) v w) := by
 have eg : ∀ args w, (callFunc 36 args).run Tryz.prog w = .ok (.enter 36 args) w := enters_of Tryz.func36 (by kernel_rfl) rfl
 have HN := Lib.hid hn
 have HH := Lib.hid H
 have HS := Lib.hid h
 have HKD := Lib.hid hk
 have hcap : l.length ≤ c ∧ c ≤ maxLen := by
  obtain ⟨a', c', e, h1, h2, _⟩ := hk
  injection e with e1 e2 e3
  subst e1 e3
  exact ⟨h1, h2⟩
 unfold maxLen at hcap
 clear h hk hn H
 go_enter Tryz.func149, Tryz.ntmps149
 go_wp2_with fail
 go_loopw [13] (fun i wr => ∃ (k : Nat) (vk : Value), k ≤ l.length ∧ i = .int .i64 k ∧ Hid (PrS g mb (L ++ sep (sepS s) ((l.take k).map kdM)) vk wr) ∧ Hid (PrR g v w vk wr)) (fun i wr => l.length - (intOf i).toNat)
 case atStart => exact ⟨0, v, Nat.zero_le _, rfl, Lib.hid (by rw [List.take_zero]; simpa [sep] using HS.out), Lib.hid (PrR.refl _ _ _)⟩
 case round =>
  obtain ⟨k, vk, hk, rfl, HSk, HRk⟩ := hrel
  by_cases hlt : k < l.length
  ·have hltI : (k : Int) < (l.length : Int) := by omega
   obtain ⟨b, o, ad, ck, rfl, hD, ⟨d0, d1, d2, d3, d4, d5⟩, hkk, _, _⟩ := nd_cells (HRk.out.kids HS.out HKD.out) (List.getElem?_eq_getElem hlt)
   have HTK := Lib.hid (show l.take (k + 1) = l.take k ++ [l[k]] from List.take_succ_eq_append_getElem hlt)
   have HNC := Lib.hid (HH.out l[k] (List.getElem_mem hlt))
   have HKK := Lib.hid hkk
   have hle := sep_le (sepS s) (l.take (k + 1)) (l.drop (k + 1))
   rw [List.take_append_drop] at hle
   rw [HTK.out, sep_snoc, List.length_take_of_le (by omega)] at hle
   rw [List.length_append, List.length_append] at hle
   have HLE := Lib.hid hle
   have HSN := Lib.hid (show sep (sepS s) ((l.take (k + 1)).map kdM) = sep (sepS s) ((l.take k).map kdM) ++ (if k = 0 then [] else sepS s) ++ toks l[k] by rw [HTK.out, sep_snoc, List.length_take_of_le (by omega)])
   clear hle hkk
   generalize sep (sepS s) ((l.take k).map kdM) = P at *
   generalize l[k] = y at *
   obtain ⟨W1, hW1⟩ : ∃ W, wr.alloc (.cells #[.int .i64 y.kind, .string y.text, .string y.typ, .string y.frm, .int .i64 y.n, .slice ad y.kids.length ck] 24) = W := ⟨_, rfl⟩
   have k1 : Kept wr W1 := by rw [← hW1]; exact (Kept.refl _).alloc _
   have b1 : Blk W1 wr.heap.size 24 #[.int .i64 y.kind, .string y.text, .string y.typ, .string y.frm, .int .i64 y.n, .slice ad y.kids.length ck] := by rw [← hW1]; exact Blk.new _ _ _
   have HW1 := Lib.hid hW1
   have HS1 := Lib.hid (HSk.out.kept k1)
   have HR1 := Lib.hid (HRk.out.trans (PrR.of_kept k1 vk))
   have HK1 := Lib.hid (KidsD.kept HKK.out k1)
   have HB1 := Lib.hid b1
   have HO1 := Lib.hid (show wr.heap.size ≠ g ∧ vk.ownBlock ≠ some wr.heap.size from ⟨by have := HSk.out.blk.lt; omega, fun e => by have := (HSk.out.own e).2; omega⟩)
   obtain ⟨⟨y0, y1, y2, y3, y4, y5⟩, f0, f1, f2, f3, f4, f5⟩ := nd_six b1
   clear k1 b1 hW1 hD
   by_cases h0 : k = 0
   ·have h0I : ¬ (0 : Int) < (k : Int) := by omega
    have HC := Lib.hid (HNC.out _ _ _ ad ck HS1.out HK1.out (by have := HLE.out; have := HN.out; rw [List.length_append]; omega))
    have HE := Lib.hid (show L ++ sep (sepS s) ((l.take (k + 1)).map kdM) = L ++ P ++ toks y by rw [HSN.out, if_pos h0, List.append_nil, List.append_assoc])
    clear HNC h0
    go_wp2_with (rw [HW1.out])
    refine HC.out.mono ?_
    rintro e w5 ⟨rfl, v5, h5, r5⟩
    have HF := Lib.hid (And.intro h5 (HR1.out.trans r5))
    clear h5 r5 HC y0 y1 y2 y3 y4 y5 f0 f1 f2 f3 f4 f5
    go_wp2_with fail
    go_roundw
    case rel => exact ⟨k + 1, v5, by omega, by go_num, Lib.hid (by rw [HE.out]; exact HF.out.1), Lib.hid HF.out.2⟩
    case measure => simp [intOf]; omega
   have h0I : (0 : Int) < (k : Int) := by omega
   by_cases hs : s = Ps.e0
   ·have hse : (s.toList == []) = true := by rw [hs]; exact emp_yes0
    have HC := Lib.hid (HNC.out _ _ _ ad ck HS1.out HK1.out (by have := HLE.out; have := HN.out; rw [List.length_append]; omega))
    have HE := Lib.hid (show L ++ sep (sepS s) ((l.take (k + 1)).map kdM) = L ++ P ++ toks y by rw [HSN.out, if_neg h0, sepS, if_pos hs, List.append_nil, List.append_assoc])
    clear HNC h0 hs
    go_wp2_with (rw [HW1.out])
    refine HC.out.mono ?_
    rintro e w5 ⟨rfl, v5, h5, r5⟩
    have HF := Lib.hid (And.intro h5 (HR1.out.trans r5))
    clear h5 r5 HC y0 y1 y2 y3 y4 y5 f0 f1 f2 f3 f4 f5
    go_wp2_with fail
    go_roundw
    case rel => exact ⟨k + 1, v5, by omega, by go_num, Lib.hid (by rw [HE.out]; exact HF.out.1), Lib.hid HF.out.2⟩
    case measure => simp [intOf]; omega
   ·have hse : (s.toList == []) = false := lit_no hs
    have e1 : sepS s = [sgn s] := by rw [sepS, if_neg hs]
    have HE := Lib.hid (show L ++ sep (sepS s) ((l.take (k + 1)).map kdM) = L ++ P ++ [sgn s] ++ toks y by rw [HSN.out, if_neg h0, e1]; simp)
    have HL2 := Lib.hid (show L.length + P.length + 1 + (toks y).length ≤ 1000000000 by
     have := HLE.out
     rw [if_neg h0, e1] at this
     have := HN.out
     rw [e1] at *
     simp only [List.length_singleton] at *
     omega)
    have HC0 := Lib.hid (psign_c s HS1.out (by rw [List.length_append]; have := HL2.out; omega))
    clear h0 hs e1
    go_wp2_with (rw [HW1.out])
    refine HC0.out.mono ?_
    rintro e w4 ⟨rfl, v4, h4, r4⟩
    have HC := Lib.hid (HNC.out _ _ _ ad ck h4 (r4.kids HS1.out HK1.out) (by have := HL2.out; simp only [List.length_append, List.length_singleton]; omega))
    have HR4 := Lib.hid (HR1.out.trans r4)
    have b4 := r4.blk HB1.out HO1.out.1 HO1.out.2
    clear y0 y1 y2 y3 y4 y5 f0 f1 f2 f3 f4 f5 h4 r4 HNC HC0
    obtain ⟨⟨y0, y1, y2, y3, y4, y5⟩, f0, f1, f2, f3, f4, f5⟩ := nd_six b4
    clear b4
    go_wp2_with fail
    refine HC.out.mono ?_
    rintro e w5 ⟨rfl, v5, h5, r5⟩
    have HF := Lib.hid (And.intro h5 (HR4.out.trans r5))
    clear h5 r5 HC y0 y1 y2 y3 y4 y5 f0 f1 f2 f3 f4 f5
    go_wp2_with fail
    go_roundw
    case rel => exact ⟨k + 1, v5, by omega, by go_num, Lib.hid (by rw [HE.out]; exact HF.out.1), Lib.hid HF.out.2⟩
    case measure => simp [intOf]; omega
  ·obtain rfl : k = l.length := by omega
   have hltI : ¬ (l.length : Int) < (l.length : Int) := by omega
   rw [List.take_length] at HSk
   clear hlt hk
   go_wp2_with fail
   go_ret
   exact ⟨rfl, vk, HSk.out, HRk.out⟩
end Go.Proofs.YtfpklgffdniegaaGreatDoor
namespace Go.Proofs.YtfpklgffdniegaaGreatDoor
open Go.ChangeShapes Go.WideShapes Go.ChangeAt Go.RowKit
attribute [local go_sem] Oper.semAt_some
open Pr (key sgn nam tk toks typT ann sep brk)
theorem pnodes_c (g mb : Nat) (s : ByteArray) (l : List Nd) (a : Option Addr) (c : Nat) (L : List Lx.T) (v : Value) (w : World) (H : ∀ y ∈ l, NodeC g mb y) (h : PrS g mb L v w) (hk : KidsD (fun k => k < mb) w (.slice a l.length c) l)
  (hn : L.length + (sep (sepS s) (l.map kdM)).length ≤ 1000000000) :
  Calls Tryz.prog 119 #[.pointer (some ⟨g, 0, none⟩), .slice a l.length c, .string s] w (PrPost g mb (L ++ sep (sepS s) (l.map kdM)) v w) := by
 have HC := Lib.hid (plist_c g mb s l a c L v w H h hk hn)
 clear H h hk hn
 go_enter Tryz.func119, Tryz.ntmps119
 go_wp2_with fail
 refine HC.out.mono ?_
 rintro e w1 ⟨rfl, hp⟩
 go_wp2_with fail
 go_ret
 exact ⟨rfl, hp⟩
theorem pbrackets_cP (g mb : Nat) (l : List Nd) (a : Option Addr) (c : Nat) (L : List Lx.T) (v : Value) (w : World) (H : ∀ y ∈ l, NodeC g mb y) (h : PrS g mb L v w) (hk : KidsD (fun k => k < mb) w (.slice a l.length c) l)
  (hn : L.length + (brk (l.map kdM)).length ≤ 1000000000) :
  Calls Tryz.prog 125 #[.pointer (some ⟨g, 0, none⟩), .slice a l.length c] w (PrPost g mb (L ++ brk (l.map kdM)) v w) := by
 have hl : (brk (l.map kdM)).length = (sep [sgn Ps.kComma] (l.map kdM)).length + 2 := by unfold brk; simp
 have HN := Lib.hid (show L.length + (sep [sgn Ps.kComma] (l.map kdM)).length + 2 ≤ 1000000000 by omega)
 have HC1 := Lib.hid (psign_c Ps.kOpen h (by omega))
 have HKD := Lib.hid hk
 have HS := Lib.hid h
 have HH := Lib.hid H
 have HE := Lib.hid (show L ++ brk (l.map kdM) = L ++ [sgn Ps.kOpen] ++ sep [sgn Ps.kComma] (l.map kdM) ++ [sgn Ps.kShut] by unfold brk; simp)
 clear H h hk hn hl
 go_enter Tryz.func125, Tryz.ntmps125
 go_wp2_with fail
 refine HC1.out.mono ?_
 rintro e w1 ⟨rfl, v1, h1, r1⟩
 have HC2 := Lib.hid (pnodes_c g mb Ps.kComma l a c _ v1 w1 HH.out h1 (r1.kids HS.out HKD.out) (by have := HN.out; have e : sepS Ps.kComma = [sgn Ps.kComma] := rfl; rw [e]; simp only [List.length_append, List.length_singleton]; omega))
 have HR1 := Lib.hid r1
 clear h1 r1 HC1
 go_wp2_with fail
 refine HC2.out.mono ?_
 rintro e w2 ⟨rfl, v2, h2, r2⟩
 have HC3 := Lib.hid (psign_c Ps.kShut h2 (by have := HN.out; have e : sepS Ps.kComma = [sgn Ps.kComma] := rfl; rw [e]; simp only [List.length_append, List.length_singleton]; omega))
 have HR2 := Lib.hid (HR1.out.trans r2)
 clear h2 r2 HC2
 go_wp2_with fail
 refine HC3.out.mono ?_
 rintro e w3 ⟨rfl, v3, h3, r3⟩
 have HR3 := Lib.hid (And.intro h3 (HR2.out.trans r3))
 clear h3 r3 HC3
 go_wp2_with fail
 go_ret
 exact ⟨rfl, v3, by rw [HE.out]; exact HR3.out.1, HR3.out.2⟩
theorem PrR.low1 {g mb : Nat} {L : List Lx.T} {v v' : Value} {w w' : World} (h : PrR g v w v' w') (hp : PrS g mb L v w) {b o : Nat} {x : Value} (hb : b < mb) (hc : w.cell? ⟨b, o, none⟩ = some x) : w'.cell? ⟨b, o, none⟩ = some x := by
 have hlt : b < w.heap.size := World.block_lt_of_cell? w ⟨b, o, none⟩ hc
 rw [World.cell?_of_block (w := w) (a := ⟨b, o, none⟩) (h.1.block b hlt (fun e => by
  have := hp.lt
  rcases e with e | e
  ·omega
  ·have := (hp.own e).1; omega))]
 exact hc
theorem nd_base {D : Nat → Prop} {w : World} {a : Option Addr} {n c : Nat} {l : List Nd} (h : KidsD D w (.slice a n c) l) {i : Nat} {y : Nd} (hy : l[i]? = some y) : ∃ b o, a = some ⟨b, o, none⟩ ∧ D b := by
 obtain ⟨a', c', e, hl, hm, hs⟩ := h
 injection e with e1 e2 e3
 subst e1 e3
 obtain ⟨b, o, rfl, hn⟩ := hs i y hy
 obtain ⟨ad, ck, hc, _, hk, hd⟩ := hn.cells
 exact ⟨b, o, rfl, hd⟩
theorem nd_at {D : Nat → Prop} {w : World} {b o n c : Nat} {l : List Nd} (h : KidsD D w (.slice (some ⟨b, o, none⟩) n c) l) {i : Nat} {y : Nd} (hy : l[i]? = some y) :
  ∃ ad ck, (w.cell? ⟨b, o + i * 6, none⟩ = some (.int .i64 y.kind) ∧ w.cell? ⟨b, o + i * 6 + 1, none⟩ = some (.string y.text) ∧ w.cell? ⟨b, o + i * 6 + 2, none⟩ = some (.string y.typ) ∧ w.cell? ⟨b, o + i * 6 + 3, none⟩ = some (.string y.frm) ∧ w.cell? ⟨b, o + i * 6 + 4, none⟩ = some (.int .i64 y.n) ∧ w.cell? ⟨b, o + i * 6 + 5, none⟩ = some (.slice ad y.kids.length ck)) ∧ KidsD D w (.slice ad y.kids.length ck) y.kids := by
 obtain ⟨a', c', e, hl, hm, hs⟩ := h
 injection e with e1 e2 e3
 subst e1 e3
 obtain ⟨b', o', e, hn⟩ := hs i y hy
 injection e with e
 injection e with e1 e2
 subst e1 e2
 obtain ⟨ad, ck, hc, _, hk, hd⟩ := hn.cells
 exact ⟨ad, ck, hc, hk⟩
theorem nd_take {D : Nat → Prop} {w : World} {a : Option Addr} {c : Nat} {l : List Nd} {b : Nd} (h : KidsD D w (.slice a (l.length + 1) c) (l ++ [b])) : KidsD D w (.slice a l.length c) l := by
 obtain ⟨a', c', e, hl, hm, hs⟩ := h
 injection e with e1 e2 e3
 subst e1 e3
 refine ⟨a, c, rfl, by simp at hl; omega, hm, fun i y hy => hs i y ?_⟩
 have hi := (List.getElem?_eq_some_iff.1 hy).1
 rw [List.getElem?_append_left hi]
 exact hy
abbrev opV (x : Nd) (s : Value) (i : Int) : Value := .agg #[.int .i64 x.kind, .string x.text, .string x.typ, .string x.frm, .int .i64 x.n, s, .int .i64 i]
set_option maxHeartbeats 4000000 in
theorem poper_c (g mb : Nat) (x : Nd) (i : Int) (ad : Option Addr) (ck : Nat) (L : List Lx.T) (v : Value) (w : World) (H : NodeC g mb x) (h : PrS g mb L v w) (hk : KidsD (fun k => k < mb) w (.slice ad x.kids.length ck) x.kids)
  (hn : L.length + (Pr.at1 i (kdM x)).length ≤ 1000000000) :
  Calls Tryz.prog 128 #[.pointer (some ⟨g, 0, none⟩), opV x (.slice ad x.kids.length ck) i] w (PrPost g mb (L ++ Pr.at1 i (kdM x)) v w) := by
 obtain ⟨W1, hW1⟩ : ∃ W, w.alloc (.cells #[.int .i64 x.kind, .string x.text, .string x.typ, .string x.frm, .int .i64 x.n, .slice ad x.kids.length ck, .int .i64 i] 141) = W := ⟨_, rfl⟩
 have k1 : Kept w W1 := by rw [← hW1]; exact (Kept.refl _).alloc _
 have b1 : Blk W1 w.heap.size 141 #[.int .i64 x.kind, .string x.text, .string x.typ, .string x.frm, .int .i64 x.n, .slice ad x.kids.length ck, .int .i64 i] := by rw [← hW1]; exact Blk.new _ _ _
 have HO := Lib.hid (show w.heap.size ≠ g ∧ v.ownBlock ≠ some w.heap.size from ⟨by have := h.blk.lt; omega, fun e => by have := (h.own e).2; omega⟩)
 have HS1 := Lib.hid (h.kept k1)
 have HK1 := Lib.hid k1
 have HD1 := Lib.hid (KidsD.kept hk k1)
 have HB1 := Lib.hid b1
 have HW1 := Lib.hid hW1
 have HC := Lib.hid H
 have HN0 := Lib.hid hn
 have HLV := Lib.hid (level_cP x (.slice ad x.kids.length ck))
 clear h hk k1 b1 hW1 H hn
 unfold opV
 go_enter Tryz.func128, Tryz.ntmps128
 go_wp2_with (rw [HW1.out])
 refine wp_region_held_drew (S := (fun W => W.cell? ⟨w.heap.size, 0, none⟩ = some (.int .i64 x.kind) ∧ W.cell? ⟨w.heap.size, 1, none⟩ = some (.string x.text) ∧ W.cell? ⟨w.heap.size, 2, none⟩ = some (.string x.typ) ∧ W.cell? ⟨w.heap.size, 3, none⟩ = some (.string x.frm) ∧ W.cell? ⟨w.heap.size, 4, none⟩ = some (.int .i64 x.n) ∧ W.cell? ⟨w.heap.size, 5, none⟩ = some (.slice ad x.kids.length ck) ∧ W.cell? ⟨w.heap.size, 6, none⟩ = some (.int .i64 i))) (by kernel_rfl) ⟨HB1.out.drew.cell 0, HB1.out.drew.cell 1, HB1.out.drew.cell 2, HB1.out.drew.cell 3, HB1.out.drew.cell 4, HB1.out.drew.cell 5, HB1.out.drew.cell 6⟩ (fun hHeld0 => ?_)
 refine wpAnyH_take (i := 0) (v := ?_) rfl (by kernel_rfl) (by kernel_rfl) (by kernel_rfl) (fun _ _ _ h => h) (Or.inl ⟨by kernel_rfl, ?_⟩) (by assumption) ?_
 rotate_left
 ·intro w hSw; (try dsimp only at hSw); go_simp; (try with_reducible rfl)
 (try simp only [Act.put, List.getElem_toArray, List.getElem_cons_zero, List.getElem_cons_succ, List.setIfInBounds_toArray, List.set_cons_zero, List.set_cons_succ])
 refine wpAnyH_take (i := 1) (v := ?_) rfl (by kernel_rfl) (by kernel_rfl) (by kernel_rfl) (fun _ _ _ h => h) (Or.inl ⟨by kernel_rfl, ?_⟩) (by assumption) ?_
 rotate_left
 ·intro w hSw; (try dsimp only at hSw); go_simp; (try with_reducible rfl)
 (try simp only [Act.put, List.getElem_toArray, List.getElem_cons_zero, List.getElem_cons_succ, List.setIfInBounds_toArray, List.set_cons_zero, List.set_cons_succ])
 refine wpAnyH_take (i := 3) (v := ?_) rfl (by kernel_rfl) (by kernel_rfl) (by kernel_rfl) (fun _ _ _ h => h) (Or.inl ⟨by kernel_rfl, ?_⟩) (by assumption) ?_
 rotate_left
 ·intro w hSw; (try dsimp only at hSw); go_simp; (try with_reducible rfl)
 (try simp only [Act.put, List.getElem_toArray, List.getElem_cons_zero, List.getElem_cons_succ, List.setIfInBounds_toArray, List.set_cons_zero, List.set_cons_succ])
 refine wpAnyH_take (i := 4) (v := ?_) rfl (by kernel_rfl) (by kernel_rfl) (by kernel_rfl) (fun _ _ _ h => h) (Or.inl ⟨by kernel_rfl, ?_⟩) (by assumption) ?_
 rotate_left
 ·intro w hSw; (try dsimp only at hSw); go_simp; (try with_reducible rfl)
 (try simp only [Act.put, List.getElem_toArray, List.getElem_cons_zero, List.getElem_cons_succ, List.setIfInBounds_toArray, List.set_cons_zero, List.set_cons_succ])
 refine wpAnyH_ready (rs := [2]) (by kernel_rfl) (by simp) ?_
 refine AllReadyH.cons rfl (fun K hK => ?_) AllReadyH.nil
 go_simp
 refine (HLV.out _).mono ?_
 rintro e w2 ⟨rfl, k2⟩
 have HK2 := Lib.hid ((Kept.refl W1).drew.trans k2)
 have HB2 := Lib.hid (HB1.out.kept HK2.out)
 clear k2
 refine hK.out _ _ ⟨HB2.out.cell 0, HB2.out.cell 1, HB2.out.cell 2, HB2.out.cell 3, HB2.out.cell 4, HB2.out.cell 5, HB2.out.cell 6⟩ (fun hHeld1 => ?_)
 clear hK K
 (try simp only [Act.put, List.getElem_toArray, List.getElem_cons_zero, List.getElem_cons_succ, List.setIfInBounds_toArray, List.set_cons_zero, List.set_cons_succ])
 clear hHeld0
 refine wpAnyH_take (i := 5) (v := ?_) rfl (by kernel_rfl) (by kernel_rfl) (by kernel_rfl) (fun _ _ _ h => h) (Or.inl ⟨by kernel_rfl, ?_⟩) (by assumption) ?_
 rotate_left
 ·intro w hSw; (try dsimp only at hSw); go_simp; (try with_reducible rfl)
 (try simp only [Act.put, List.getElem_toArray, List.getElem_cons_zero, List.getElem_cons_succ, List.setIfInBounds_toArray, List.set_cons_zero, List.set_cons_succ])
 refine wpAnyH_done (by kernel_rfl) ?_ _
 clear hHeld1
 have HS2 := Lib.hid (HS1.out.kept HK2.out)
 have HD2 := Lib.hid (KidsD.kept HD1.out HK2.out)
 have HR2 := Lib.hid (PrR.of_kept (g := g) (HK1.out.trans HK2.out) v)
 by_cases hlt : Pr.lv x < i
 ·have HE := Lib.hid (show L ++ Pr.at1 i (kdM x) = L ++ [sgn Ps.kOpen] ++ toks x ++ [sgn Ps.kShut] by unfold Pr.at1; rw [if_pos hlt]; simp)
  have HN := Lib.hid (show (L ++ [sgn Ps.kOpen] ++ toks x ++ [sgn Ps.kShut]).length ≤ 1000000000 by rw [← HE.out, List.length_append]; exact HN0.out)
  have hdt : decide (Pr.lv x < i) = true := decide_eq_true hlt
  go_wp2_with fail
  refine wp_region_held_drew (S := (fun W => W.cell? ⟨w.heap.size, 0, none⟩ = some (.int .i64 x.kind) ∧ W.cell? ⟨w.heap.size, 1, none⟩ = some (.string x.text) ∧ W.cell? ⟨w.heap.size, 2, none⟩ = some (.string x.typ) ∧ W.cell? ⟨w.heap.size, 3, none⟩ = some (.string x.frm) ∧ W.cell? ⟨w.heap.size, 4, none⟩ = some (.int .i64 x.n) ∧ W.cell? ⟨w.heap.size, 5, none⟩ = some (.slice ad x.kids.length ck) ∧ W.cell? ⟨w.heap.size, 6, none⟩ = some (.int .i64 i))) (by kernel_rfl) ⟨HB2.out.drew.cell 0, HB2.out.drew.cell 1, HB2.out.drew.cell 2, HB2.out.drew.cell 3, HB2.out.drew.cell 4, HB2.out.drew.cell 5, HB2.out.drew.cell 6⟩ (fun hHeld0 => ?_)
  refine wpAnyH_take (i := 0) (v := ?_) rfl (by kernel_rfl) (by kernel_rfl) (by kernel_rfl) (fun _ _ _ h => h) (Or.inl ⟨by kernel_rfl, ?_⟩) (by assumption) ?_
  rotate_left
  ·intro w hSw; (try dsimp only at hSw); go_simp; (try with_reducible rfl)
  (try simp only [Act.put, List.getElem_toArray, List.getElem_cons_zero, List.getElem_cons_succ, List.setIfInBounds_toArray, List.set_cons_zero, List.set_cons_succ])
  refine wpAnyH_take (i := 2) (v := ?_) rfl (by kernel_rfl) (by kernel_rfl) (by kernel_rfl) (fun _ _ _ h => h) (Or.inl ⟨by kernel_rfl, ?_⟩) (by assumption) ?_
  rotate_left
  ·intro w hSw; (try dsimp only at hSw); go_simp; (try with_reducible rfl)
  (try simp only [Act.put, List.getElem_toArray, List.getElem_cons_zero, List.getElem_cons_succ, List.setIfInBounds_toArray, List.set_cons_zero, List.set_cons_succ])
  refine wpAnyH_take (i := 3) (v := ?_) rfl (by kernel_rfl) (by kernel_rfl) (by kernel_rfl) (fun _ _ _ h => h) (Or.inl ⟨by kernel_rfl, ?_⟩) (by assumption) ?_
  rotate_left
  ·intro w hSw; (try dsimp only at hSw); go_simp; (try with_reducible rfl)
  (try simp only [Act.put, List.getElem_toArray, List.getElem_cons_zero, List.getElem_cons_succ, List.setIfInBounds_toArray, List.set_cons_zero, List.set_cons_succ])
  refine wpAnyH_ready (rs := [1]) (by kernel_rfl) (by simp) ?_
  refine AllReadyH.cons rfl (fun K hK => ?_) AllReadyH.nil
  go_simp
  refine (psign_c Ps.kOpen HS2.out.drew (by have := HN.out; simp only [List.length_append, List.length_cons, List.length_nil] at this ⊢; omega)).mono ?_
  rintro e w3 ⟨rfl, v3, h3, r3⟩
  have HQ3 := Lib.hid ((PrR.of_kept (Kept.refl w2).drew v).trans r3)
  have HS3 := Lib.hid h3
  have HB3 := Lib.hid (HQ3.out.blk HB2.out HO.out.1 HO.out.2)
  clear h3 r3
  refine hK.out _ _ ⟨HB3.out.cell 0, HB3.out.cell 1, HB3.out.cell 2, HB3.out.cell 3, HB3.out.cell 4, HB3.out.cell 5, HB3.out.cell 6⟩ (fun hHeld1 => ?_)
  clear hK K
  (try simp only [Act.put, List.getElem_toArray, List.getElem_cons_zero, List.getElem_cons_succ, List.setIfInBounds_toArray, List.set_cons_zero, List.set_cons_succ])
  clear hHeld0
  refine wpAnyH_ready (rs := [4]) (by kernel_rfl) (by simp) ?_
  refine AllReadyH.cons rfl (fun K hK => ?_) AllReadyH.nil
  go_simp
  refine (HC.out _ _ _ ad ck HS3.out (HQ3.out.kids HS2.out HD2.out) (by have := HN.out; simp only [List.length_append, List.length_cons, List.length_nil] at this ⊢; omega)).mono ?_
  rintro e w4 ⟨rfl, v4, h4, r4⟩
  have HQ4 := Lib.hid (HQ3.out.trans r4)
  have HS4 := Lib.hid h4
  have HB4 := Lib.hid (HQ4.out.blk HB2.out HO.out.1 HO.out.2)
  clear h4 r4
  refine hK.out _ _ ⟨HB4.out.cell 0, HB4.out.cell 1, HB4.out.cell 2, HB4.out.cell 3, HB4.out.cell 4, HB4.out.cell 5, HB4.out.cell 6⟩ (fun hHeld2 => ?_)
  clear hK K
  (try simp only [Act.put, List.getElem_toArray, List.getElem_cons_zero, List.getElem_cons_succ, List.setIfInBounds_toArray, List.set_cons_zero, List.set_cons_succ])
  clear hHeld1
  refine wpAnyH_ready (rs := [5]) (by kernel_rfl) (by simp) ?_
  refine AllReadyH.cons rfl (fun K hK => ?_) AllReadyH.nil
  go_simp
  refine (psign_c Ps.kShut HS4.out (by have := HN.out; simp only [List.length_append, List.length_cons, List.length_nil] at this ⊢; omega)).mono ?_
  rintro e w5 ⟨rfl, v5, h5, r5⟩
  have HQ5 := Lib.hid (HQ4.out.trans r5)
  have HS5 := Lib.hid h5
  have HB5 := Lib.hid (HQ5.out.blk HB2.out HO.out.1 HO.out.2)
  clear h5 r5
  refine hK.out _ _ ⟨HB5.out.cell 0, HB5.out.cell 1, HB5.out.cell 2, HB5.out.cell 3, HB5.out.cell 4, HB5.out.cell 5, HB5.out.cell 6⟩ (fun hHeld3 => ?_)
  clear hK K
  (try simp only [Act.put, List.getElem_toArray, List.getElem_cons_zero, List.getElem_cons_succ, List.setIfInBounds_toArray, List.set_cons_zero, List.set_cons_succ])
  clear hHeld2
  refine wpAnyH_take (i := 6) (v := ?_) rfl (by kernel_rfl) (by kernel_rfl) (by kernel_rfl) (fun _ _ _ h => h) (Or.inl ⟨by kernel_rfl, ?_⟩) (by assumption) ?_
  rotate_left
  ·intro w hSw; (try dsimp only at hSw); go_simp; (try with_reducible rfl)
  (try simp only [Act.put, List.getElem_toArray, List.getElem_cons_zero, List.getElem_cons_succ, List.setIfInBounds_toArray, List.set_cons_zero, List.set_cons_succ])
  refine wpAnyH_done (by kernel_rfl) ?_ _
  clear hHeld3
  go_wp2_with fail
  go_ret
  exact ⟨rfl, v5, by rw [HE.out]; exact HS5.out, HR2.out.trans HQ5.out⟩
 ·have HE := Lib.hid (show Pr.at1 i (kdM x) = toks x by unfold Pr.at1; rw [if_neg hlt])
  have hdt : decide (Pr.lv x < i) = false := decide_eq_false hlt
  have c0 := HB2.out.cell 0
  have c1 := HB2.out.cell 1
  have c2 := HB2.out.cell 2
  have c3 := HB2.out.cell 3
  have c4 := HB2.out.cell 4
  have c5 := HB2.out.cell 5
  have HX := Lib.hid (HC.out _ _ _ ad ck HS2.out HD2.out (by rw [← HE.out]; exact HN0.out))
  go_wp2_with fail
  refine HX.out.mono ?_
  rintro e w3 ⟨rfl, v3, h3, r3⟩
  have HF := Lib.hid (And.intro h3 (HR2.out.trans r3))
  clear h3 r3
  go_wp2_with fail
  go_ret
  exact ⟨rfl, v3, by rw [HE.out]; exact HF.out.1, HF.out.2⟩
set_option maxHeartbeats 4000000 in
theorem pof_c (g mb : Nat) (x : Nd) (ad : Option Addr) (ck : Nat) (L : List Lx.T) (v : Value) (w : World) (H : NodeC g mb x) (h : PrS g mb L v w) (hk : KidsD (fun k => k < mb) w (.slice ad x.kids.length ck) x.kids)
  (hn : L.length + (Pr.at1 8 (kdM x)).length + 1 ≤ 1000000000) :
  Calls Tryz.prog 127 #[.pointer (some ⟨g, 0, none⟩), ndV x (.slice ad x.kids.length ck)] w (PrPost g mb (L ++ (Pr.at1 8 (kdM x) ++ [sgn Ps.kDot])) v w) := by
 obtain ⟨W1, hW1⟩ : ∃ W, w.alloc (.cells #[.int .i64 x.kind, .string x.text, .string x.typ, .string x.frm, .int .i64 x.n, .slice ad x.kids.length ck] 24) = W := ⟨_, rfl⟩
 have k1 : Kept w W1 := by rw [← hW1]; exact (Kept.refl _).alloc _
 have b1 : Blk W1 w.heap.size 24 #[.int .i64 x.kind, .string x.text, .string x.typ, .string x.frm, .int .i64 x.n, .slice ad x.kids.length ck] := by rw [← hW1]; exact Blk.new _ _ _
 have HS1 := Lib.hid (h.kept k1)
 have HX := Lib.hid (poper_c g mb x 8 ad ck L v W1 H HS1.out (KidsD.kept hk k1) (by omega))
 have HR1 := Lib.hid (PrR.of_kept (g := g) k1 v)
 have HW1 := Lib.hid hW1
 have HN := Lib.hid hn
 obtain ⟨⟨y0, y1, y2, y3, y4, y5⟩, f0, f1, f2, f3, f4, f5⟩ := nd_six b1
 clear h hk k1 b1 hW1 H hn
 go_enter Tryz.func127, Tryz.ntmps127
 go_wp2_with (rw [HW1.out])
 refine HX.out.mono ?_
 rintro e w2 ⟨rfl, v2, h2, r2⟩
 have HX2 := Lib.hid (psign_c Ps.kDot h2 (by have := HN.out; simp only [List.length_append]; omega))
 have HR2 := Lib.hid (HR1.out.trans r2)
 clear h2 r2 HX y0 y1 y2 y3 y4 y5 f0 f1 f2 f3 f4 f5
 go_wp2_with fail
 refine HX2.out.mono ?_
 rintro e w3 ⟨rfl, v3, h3, r3⟩
 have HF := Lib.hid (And.intro h3 (HR2.out.trans r3))
 clear h3 r3
 go_wp2_with fail
 go_ret
 exact ⟨rfl, v3, by rw [← List.append_assoc]; exact HF.out.1, HF.out.2⟩
end Go.Proofs.YtfpklgffdniegaaGreatDoor
namespace Go.Proofs.YtfpklgffdniegaaGreatDoor
open Go.ChangeShapes Go.WideShapes Go.ChangeAt Go.RowKit
theorem pm_prep {g mb : Nat} {L : List Lx.T} {v : Value} {w : World} {ad : Option Addr} {ck N : Nat} (k : Int) (t y f : ByteArray) (n : Int) {ks : List Nd} (h : PrS g mb L v w) (hk : KidsD (fun k => k < mb) w (.slice ad N ck) ks) (hN : N = ks.length) :
  ∃ W1, Hid (w.alloc (.cells #[.int .i64 k, .string t, .string y, .string f, .int .i64 n, .slice ad N ck] 24) = W1) ∧ Hid (Kept w W1) ∧ Hid (Blk W1 w.heap.size 24 #[.int .i64 k, .string t, .string y, .string f, .int .i64 n, .slice ad N ck]) ∧
   Hid (w.heap.size ≠ g ∧ v.ownBlock ≠ some w.heap.size) ∧ Hid (PrS g mb L v W1) ∧ Hid (KidsD (fun k => k < mb) W1 (.slice ad N ck) ks) ∧ Hid (PrR g v W1 v W1) ∧ (N ≤ ck ∧ ck ≤ maxLen) ∧
   W1.cell? ⟨w.heap.size, 0, none⟩ = some (.int .i64 k) ∧ W1.cell? ⟨w.heap.size, 1, none⟩ = some (.string t) ∧ W1.cell? ⟨w.heap.size, 2, none⟩ = some (.string y) ∧ W1.cell? ⟨w.heap.size, 3, none⟩ = some (.string f) ∧ W1.cell? ⟨w.heap.size, 4, none⟩ = some (.int .i64 n) ∧ W1.cell? ⟨w.heap.size, 5, none⟩ = some (.slice ad N ck) := by
 have hcap : N ≤ ck ∧ ck ≤ maxLen := by
  obtain ⟨a', c', e, h1, h2, _⟩ := hk
  injection e with e1 e2 e3
  subst e1 e3
  exact ⟨by rw [hN]; exact h1, h2⟩
 obtain ⟨W1, hW1⟩ : ∃ W, w.alloc (.cells #[.int .i64 k, .string t, .string y, .string f, .int .i64 n, .slice ad N ck] 24) = W := ⟨_, rfl⟩
 have k1 : Kept w W1 := by rw [← hW1]; exact (Kept.refl _).alloc _
 have b1 : Blk W1 w.heap.size 24 #[.int .i64 k, .string t, .string y, .string f, .int .i64 n, .slice ad N ck] := by rw [← hW1]; exact Blk.new _ _ _
 exact ⟨W1, Lib.hid hW1, Lib.hid k1, Lib.hid b1, Lib.hid ⟨by have := h.blk.lt; omega, fun e => by have := (h.own e).2; omega⟩, Lib.hid (h.kept k1), Lib.hid (KidsD.kept hk k1), Lib.hid (PrR.refl g v W1), hcap, b1.cell 0, b1.cell 1, b1.cell 2, b1.cell 3, b1.cell 4, b1.cell 5⟩
end Go.Proofs.YtfpklgffdniegaaGreatDoor
namespace Go.Proofs.YtfpklgffdniegaaGreatDoor
open Go.ChangeShapes Go.WideShapes Go.ChangeAt Go.RowKit
attribute [local go_sem] Oper.semAt_some
open Pr (key sgn nam tk toks typT ann sep brk at1)
set_option maxHeartbeats 4000000 in
theorem pm_field (g mb : Nat) (t y f : ByteArray) (n : Int) (L : List Lx.T) (v : Value) (w : World) (ad : Option Addr) (ck : Nat) (h : PrS g mb L v w) (hk : KidsD (fun k => k < mb) w (.slice ad 0 ck) [])
  (hn : L.length + (Pr.form 3 t y n ([].map kdM)).length ≤ 1000000000) :
  Calls Tryz.prog 60 #[.pointer (some ⟨g, 0, none⟩), .agg #[.int .i64 3, .string t, .string y, .string f, .int .i64 n, .slice ad 0 ck]] w (PrPost g mb (L ++ Pr.form 3 t y n ([].map kdM)) v w) := by
 have HE := Lib.hid (show L ++ Pr.form 3 t y n ([].map kdM) = L ++ [key ⟨#[118, 97, 114]⟩] ++ [nam t] ++ ann y Ps.kAny ++ [sgn Ps.kSemi] from by
  show L ++ (key ⟨#[118, 97, 114]⟩ :: nam t :: ann y Ps.kAny ++ [sgn Ps.kSemi]) = _
  first | rfl | (simp only [List.append_assoc, List.cons_append, List.nil_append, List.append_nil]; done) | (simp only [List.append_assoc, List.cons_append, List.nil_append, List.append_nil]; rfl))
 have HN := Lib.hid (show (L ++ [key ⟨#[118, 97, 114]⟩] ++ [nam t] ++ ann y Ps.kAny ++ [sgn Ps.kSemi]).length ≤ 1000000000 by rw [← HE.out, List.length_append]; exact hn)
 obtain ⟨W1, HW1, HK1, HB1, HO, HS1, HD1, HR1, hcap, y0, y1, y2, y3, y4, y5⟩ := pm_prep 3 t y f n h hk (by simp)
 unfold maxLen at hcap
 clear h hk hn
 go_enter Tryz.func60, Tryz.ntmps60
 go_wp2_with (rw [HW1.out])
 refine wp_region_held_drew (S := (fun W => W.cell? ⟨w.heap.size, 0, none⟩ = some (.int .i64 3) ∧ W.cell? ⟨w.heap.size, 1, none⟩ = some (.string t) ∧ W.cell? ⟨w.heap.size, 2, none⟩ = some (.string y) ∧ W.cell? ⟨w.heap.size, 3, none⟩ = some (.string f) ∧ W.cell? ⟨w.heap.size, 4, none⟩ = some (.int .i64 n) ∧ W.cell? ⟨w.heap.size, 5, none⟩ = some (.slice ad 0 ck))) (by kernel_rfl) ⟨((Lib.hid (HR1.out.trans (PrR.of_kept (Kept.refl _).drew _))).out.blk HB1.out HO.out.1 HO.out.2).cell 0, ((Lib.hid (HR1.out.trans (PrR.of_kept (Kept.refl _).drew _))).out.blk HB1.out HO.out.1 HO.out.2).cell 1, ((Lib.hid (HR1.out.trans (PrR.of_kept (Kept.refl _).drew _))).out.blk HB1.out HO.out.1 HO.out.2).cell 2, ((Lib.hid (HR1.out.trans (PrR.of_kept (Kept.refl _).drew _))).out.blk HB1.out HO.out.1 HO.out.2).cell 3, ((Lib.hid (HR1.out.trans (PrR.of_kept (Kept.refl _).drew _))).out.blk HB1.out HO.out.1 HO.out.2).cell 4, ((Lib.hid (HR1.out.trans (PrR.of_kept (Kept.refl _).drew _))).out.blk HB1.out HO.out.1 HO.out.2).cell 5⟩ (fun hHeld0 => ?_)
 refine wpAnyH_take (i := 0) (v := ?_) rfl (by kernel_rfl) (by kernel_rfl) (by kernel_rfl) (fun _ _ _ h => h) (Or.inl ⟨by kernel_rfl, ?_⟩) (by assumption) ?_
 rotate_left
 ·intro w hSw; (try dsimp only at hSw); go_simp; (try with_reducible rfl)
 (try simp only [Act.put, List.getElem_toArray, List.getElem_cons_zero, List.getElem_cons_succ, List.setIfInBounds_toArray, List.set_cons_zero, List.set_cons_succ])
 refine wpAnyH_take (i := 2) (v := ?_) rfl (by kernel_rfl) (by kernel_rfl) (by kernel_rfl) (fun _ _ _ h => h) (Or.inl ⟨by kernel_rfl, ?_⟩) (by assumption) ?_
 rotate_left
 ·intro w hSw; (try dsimp only at hSw); go_simp; (try with_reducible rfl)
 (try simp only [Act.put, List.getElem_toArray, List.getElem_cons_zero, List.getElem_cons_succ, List.setIfInBounds_toArray, List.set_cons_zero, List.set_cons_succ])
 refine wpAnyH_take (i := 3) (v := ?_) rfl (by kernel_rfl) (by kernel_rfl) (by kernel_rfl) (fun _ _ _ h => h) (Or.inl ⟨by kernel_rfl, ?_⟩) (by assumption) ?_
 rotate_left
 ·intro w hSw; (try dsimp only at hSw); go_simp; (try with_reducible rfl)
 (try simp only [Act.put, List.getElem_toArray, List.getElem_cons_zero, List.getElem_cons_succ, List.setIfInBounds_toArray, List.set_cons_zero, List.set_cons_succ])
 refine wpAnyH_take (i := 5) (v := ?_) rfl (by kernel_rfl) (by kernel_rfl) (by kernel_rfl) (fun _ _ _ h => h) (Or.inl ⟨by kernel_rfl, ?_⟩) (by assumption) ?_
 rotate_left
 ·intro w hSw; (try dsimp only at hSw); go_simp; (try with_reducible rfl)
 (try simp only [Act.put, List.getElem_toArray, List.getElem_cons_zero, List.getElem_cons_succ, List.setIfInBounds_toArray, List.set_cons_zero, List.set_cons_succ])
 refine wpAnyH_take (i := 6) (v := ?_) rfl (by kernel_rfl) (by kernel_rfl) (by kernel_rfl) (fun _ _ _ h => h) (Or.inl ⟨by kernel_rfl, ?_⟩) (by assumption) ?_
 rotate_left
 ·intro w hSw; (try dsimp only at hSw); go_simp; (try with_reducible rfl)
 (try simp only [Act.put, List.getElem_toArray, List.getElem_cons_zero, List.getElem_cons_succ, List.setIfInBounds_toArray, List.set_cons_zero, List.set_cons_succ])
 refine wpAnyH_ready (rs := [1]) (by kernel_rfl) (by simp) ?_
 refine AllReadyH.cons rfl (fun K hK => ?_) AllReadyH.nil
 go_simp
 refine (pkey_c ⟨#[118, 97, 114]⟩ HS1.out.drew (by have := HN.out; simp only [List.length_append, List.length_cons, List.length_nil] at this ⊢; omega)).mono ?_
 rintro e w2 ⟨rfl, v2, hs, hr⟩
 have HR2 := Lib.hid ((HR1.out.trans (PrR.of_kept (Kept.refl _).drew _)).trans hr)
 have HS2 := Lib.hid hs
 clear hs hr
 refine hK.out _ _ ⟨(HR2.out.blk HB1.out HO.out.1 HO.out.2).cell 0, (HR2.out.blk HB1.out HO.out.1 HO.out.2).cell 1, (HR2.out.blk HB1.out HO.out.1 HO.out.2).cell 2, (HR2.out.blk HB1.out HO.out.1 HO.out.2).cell 3, (HR2.out.blk HB1.out HO.out.1 HO.out.2).cell 4, (HR2.out.blk HB1.out HO.out.1 HO.out.2).cell 5⟩ (fun hHeld1 => ?_)
 clear hK K
 (try simp only [Act.put, List.getElem_toArray, List.getElem_cons_zero, List.getElem_cons_succ, List.setIfInBounds_toArray, List.set_cons_zero, List.set_cons_succ])
 clear hHeld0
 refine wpAnyH_ready (rs := [4]) (by kernel_rfl) (by simp) ?_
 refine AllReadyH.cons rfl (fun K hK => ?_) AllReadyH.nil
 go_simp
 refine (pname_c t HS2.out (by have := HN.out; simp only [List.length_append, List.length_cons, List.length_nil] at this ⊢; omega)).mono ?_
 rintro e w3 ⟨rfl, v3, hs, hr⟩
 have HR3 := Lib.hid (HR2.out.trans hr)
 have HS3 := Lib.hid hs
 clear hs hr
 refine hK.out _ _ ⟨(HR3.out.blk HB1.out HO.out.1 HO.out.2).cell 0, (HR3.out.blk HB1.out HO.out.1 HO.out.2).cell 1, (HR3.out.blk HB1.out HO.out.1 HO.out.2).cell 2, (HR3.out.blk HB1.out HO.out.1 HO.out.2).cell 3, (HR3.out.blk HB1.out HO.out.1 HO.out.2).cell 4, (HR3.out.blk HB1.out HO.out.1 HO.out.2).cell 5⟩ (fun hHeld2 => ?_)
 clear hK K
 (try simp only [Act.put, List.getElem_toArray, List.getElem_cons_zero, List.getElem_cons_succ, List.setIfInBounds_toArray, List.set_cons_zero, List.set_cons_succ])
 clear hHeld1
 refine wpAnyH_ready (rs := [7]) (by kernel_rfl) (by simp) ?_
 refine AllReadyH.cons rfl (fun K hK => ?_) AllReadyH.nil
 go_simp
 refine (pann_c y Ps.kAny HS3.out (by have := HN.out; simp only [List.length_append, List.length_cons, List.length_nil] at this ⊢; omega)).mono ?_
 rintro e w4 ⟨rfl, v4, hs, hr⟩
 have HR4 := Lib.hid (HR3.out.trans hr)
 have HS4 := Lib.hid hs
 clear hs hr
 refine hK.out _ _ ⟨(HR4.out.blk HB1.out HO.out.1 HO.out.2).cell 0, (HR4.out.blk HB1.out HO.out.1 HO.out.2).cell 1, (HR4.out.blk HB1.out HO.out.1 HO.out.2).cell 2, (HR4.out.blk HB1.out HO.out.1 HO.out.2).cell 3, (HR4.out.blk HB1.out HO.out.1 HO.out.2).cell 4, (HR4.out.blk HB1.out HO.out.1 HO.out.2).cell 5⟩ (fun hHeld3 => ?_)
 clear hK K
 (try simp only [Act.put, List.getElem_toArray, List.getElem_cons_zero, List.getElem_cons_succ, List.setIfInBounds_toArray, List.set_cons_zero, List.set_cons_succ])
 clear hHeld2
 refine wpAnyH_ready (rs := [8]) (by kernel_rfl) (by simp) ?_
 refine AllReadyH.cons rfl (fun K hK => ?_) AllReadyH.nil
 go_simp
 refine (psign_c Ps.kSemi HS4.out (by have := HN.out; simp only [List.length_append, List.length_cons, List.length_nil] at this ⊢; omega)).mono ?_
 rintro e w5 ⟨rfl, v5, hs, hr⟩
 have HR5 := Lib.hid (HR4.out.trans hr)
 have HS5 := Lib.hid hs
 clear hs hr
 refine hK.out _ _ ⟨(HR5.out.blk HB1.out HO.out.1 HO.out.2).cell 0, (HR5.out.blk HB1.out HO.out.1 HO.out.2).cell 1, (HR5.out.blk HB1.out HO.out.1 HO.out.2).cell 2, (HR5.out.blk HB1.out HO.out.1 HO.out.2).cell 3, (HR5.out.blk HB1.out HO.out.1 HO.out.2).cell 4, (HR5.out.blk HB1.out HO.out.1 HO.out.2).cell 5⟩ (fun hHeld4 => ?_)
 clear hK K
 (try simp only [Act.put, List.getElem_toArray, List.getElem_cons_zero, List.getElem_cons_succ, List.setIfInBounds_toArray, List.set_cons_zero, List.set_cons_succ])
 clear hHeld3
 refine wpAnyH_take (i := 9) (v := ?_) rfl (by kernel_rfl) (by kernel_rfl) (by kernel_rfl) (fun _ _ _ h => h) (Or.inl ⟨by kernel_rfl, ?_⟩) (by assumption) ?_
 rotate_left
 ·intro w hSw; (try dsimp only at hSw); go_simp; (try with_reducible rfl)
 (try simp only [Act.put, List.getElem_toArray, List.getElem_cons_zero, List.getElem_cons_succ, List.setIfInBounds_toArray, List.set_cons_zero, List.set_cons_succ])
 refine wpAnyH_done (by kernel_rfl) ?_ _
 clear hHeld4
 go_wp2_with fail
 go_ret
 exact ⟨rfl, _, by rw [HE.out]; exact HS5.out, (PrR.of_kept HK1.out v).trans HR5.out⟩
set_option maxHeartbeats 4000000 in
theorem pm_param (g mb : Nat) (t y f : ByteArray) (n : Int) (L : List Lx.T) (v : Value) (w : World) (ad : Option Addr) (ck : Nat) (h : PrS g mb L v w) (hk : KidsD (fun k => k < mb) w (.slice ad 0 ck) [])
  (hn : L.length + (Pr.form 5 t y n ([].map kdM)).length ≤ 1000000000) :
  Calls Tryz.prog 62 #[.pointer (some ⟨g, 0, none⟩), .agg #[.int .i64 5, .string t, .string y, .string f, .int .i64 n, .slice ad 0 ck]] w (PrPost g mb (L ++ Pr.form 5 t y n ([].map kdM)) v w) := by
 have HE := Lib.hid (show L ++ Pr.form 5 t y n ([].map kdM) = L ++ [nam t] ++ ann y Ps.kAny from by
  show L ++ (nam t :: ann y Ps.kAny) = _
  first | rfl | (simp only [List.append_assoc, List.cons_append, List.nil_append, List.append_nil]; done) | (simp only [List.append_assoc, List.cons_append, List.nil_append, List.append_nil]; rfl))
 have HN := Lib.hid (show (L ++ [nam t] ++ ann y Ps.kAny).length ≤ 1000000000 by rw [← HE.out, List.length_append]; exact hn)
 obtain ⟨W1, HW1, HK1, HB1, HO, HS1, HD1, HR1, hcap, y0, y1, y2, y3, y4, y5⟩ := pm_prep 5 t y f n h hk (by simp)
 unfold maxLen at hcap
 clear h hk hn
 go_enter Tryz.func62, Tryz.ntmps62
 go_wp2_with (rw [HW1.out])
 refine wp_region_held_drew (S := (fun W => W.cell? ⟨w.heap.size, 0, none⟩ = some (.int .i64 5) ∧ W.cell? ⟨w.heap.size, 1, none⟩ = some (.string t) ∧ W.cell? ⟨w.heap.size, 2, none⟩ = some (.string y) ∧ W.cell? ⟨w.heap.size, 3, none⟩ = some (.string f) ∧ W.cell? ⟨w.heap.size, 4, none⟩ = some (.int .i64 n) ∧ W.cell? ⟨w.heap.size, 5, none⟩ = some (.slice ad 0 ck))) (by kernel_rfl) ⟨((Lib.hid (HR1.out.trans (PrR.of_kept (Kept.refl _).drew _))).out.blk HB1.out HO.out.1 HO.out.2).cell 0, ((Lib.hid (HR1.out.trans (PrR.of_kept (Kept.refl _).drew _))).out.blk HB1.out HO.out.1 HO.out.2).cell 1, ((Lib.hid (HR1.out.trans (PrR.of_kept (Kept.refl _).drew _))).out.blk HB1.out HO.out.1 HO.out.2).cell 2, ((Lib.hid (HR1.out.trans (PrR.of_kept (Kept.refl _).drew _))).out.blk HB1.out HO.out.1 HO.out.2).cell 3, ((Lib.hid (HR1.out.trans (PrR.of_kept (Kept.refl _).drew _))).out.blk HB1.out HO.out.1 HO.out.2).cell 4, ((Lib.hid (HR1.out.trans (PrR.of_kept (Kept.refl _).drew _))).out.blk HB1.out HO.out.1 HO.out.2).cell 5⟩ (fun hHeld0 => ?_)
 refine wpAnyH_take (i := 0) (v := ?_) rfl (by kernel_rfl) (by kernel_rfl) (by kernel_rfl) (fun _ _ _ h => h) (Or.inl ⟨by kernel_rfl, ?_⟩) (by assumption) ?_
 rotate_left
 ·intro w hSw; (try dsimp only at hSw); go_simp; (try with_reducible rfl)
 (try simp only [Act.put, List.getElem_toArray, List.getElem_cons_zero, List.getElem_cons_succ, List.setIfInBounds_toArray, List.set_cons_zero, List.set_cons_succ])
 refine wpAnyH_take (i := 1) (v := ?_) rfl (by kernel_rfl) (by kernel_rfl) (by kernel_rfl) (fun _ _ _ h => h) (Or.inl ⟨by kernel_rfl, ?_⟩) (by assumption) ?_
 rotate_left
 ·intro w hSw; (try dsimp only at hSw); go_simp; (try with_reducible rfl)
 (try simp only [Act.put, List.getElem_toArray, List.getElem_cons_zero, List.getElem_cons_succ, List.setIfInBounds_toArray, List.set_cons_zero, List.set_cons_succ])
 refine wpAnyH_take (i := 2) (v := ?_) rfl (by kernel_rfl) (by kernel_rfl) (by kernel_rfl) (fun _ _ _ h => h) (Or.inl ⟨by kernel_rfl, ?_⟩) (by assumption) ?_
 rotate_left
 ·intro w hSw; (try dsimp only at hSw); go_simp; (try with_reducible rfl)
 (try simp only [Act.put, List.getElem_toArray, List.getElem_cons_zero, List.getElem_cons_succ, List.setIfInBounds_toArray, List.set_cons_zero, List.set_cons_succ])
 refine wpAnyH_take (i := 4) (v := ?_) rfl (by kernel_rfl) (by kernel_rfl) (by kernel_rfl) (fun _ _ _ h => h) (Or.inl ⟨by kernel_rfl, ?_⟩) (by assumption) ?_
 rotate_left
 ·intro w hSw; (try dsimp only at hSw); go_simp; (try with_reducible rfl)
 (try simp only [Act.put, List.getElem_toArray, List.getElem_cons_zero, List.getElem_cons_succ, List.setIfInBounds_toArray, List.set_cons_zero, List.set_cons_succ])
 refine wpAnyH_take (i := 5) (v := ?_) rfl (by kernel_rfl) (by kernel_rfl) (by kernel_rfl) (fun _ _ _ h => h) (Or.inl ⟨by kernel_rfl, ?_⟩) (by assumption) ?_
 rotate_left
 ·intro w hSw; (try dsimp only at hSw); go_simp; (try with_reducible rfl)
 (try simp only [Act.put, List.getElem_toArray, List.getElem_cons_zero, List.getElem_cons_succ, List.setIfInBounds_toArray, List.set_cons_zero, List.set_cons_succ])
 refine wpAnyH_ready (rs := [3]) (by kernel_rfl) (by simp) ?_
 refine AllReadyH.cons rfl (fun K hK => ?_) AllReadyH.nil
 go_simp
 refine (pname_c t HS1.out.drew (by have := HN.out; simp only [List.length_append, List.length_cons, List.length_nil] at this ⊢; omega)).mono ?_
 rintro e w2 ⟨rfl, v2, hs, hr⟩
 have HR2 := Lib.hid ((HR1.out.trans (PrR.of_kept (Kept.refl _).drew _)).trans hr)
 have HS2 := Lib.hid hs
 clear hs hr
 refine hK.out _ _ ⟨(HR2.out.blk HB1.out HO.out.1 HO.out.2).cell 0, (HR2.out.blk HB1.out HO.out.1 HO.out.2).cell 1, (HR2.out.blk HB1.out HO.out.1 HO.out.2).cell 2, (HR2.out.blk HB1.out HO.out.1 HO.out.2).cell 3, (HR2.out.blk HB1.out HO.out.1 HO.out.2).cell 4, (HR2.out.blk HB1.out HO.out.1 HO.out.2).cell 5⟩ (fun hHeld1 => ?_)
 clear hK K
 (try simp only [Act.put, List.getElem_toArray, List.getElem_cons_zero, List.getElem_cons_succ, List.setIfInBounds_toArray, List.set_cons_zero, List.set_cons_succ])
 clear hHeld0
 refine wpAnyH_ready (rs := [6]) (by kernel_rfl) (by simp) ?_
 refine AllReadyH.cons rfl (fun K hK => ?_) AllReadyH.nil
 go_simp
 refine (pann_c y Ps.kAny HS2.out (by have := HN.out; simp only [List.length_append, List.length_cons, List.length_nil] at this ⊢; omega)).mono ?_
 rintro e w3 ⟨rfl, v3, hs, hr⟩
 have HR3 := Lib.hid (HR2.out.trans hr)
 have HS3 := Lib.hid hs
 clear hs hr
 refine hK.out _ _ ⟨(HR3.out.blk HB1.out HO.out.1 HO.out.2).cell 0, (HR3.out.blk HB1.out HO.out.1 HO.out.2).cell 1, (HR3.out.blk HB1.out HO.out.1 HO.out.2).cell 2, (HR3.out.blk HB1.out HO.out.1 HO.out.2).cell 3, (HR3.out.blk HB1.out HO.out.1 HO.out.2).cell 4, (HR3.out.blk HB1.out HO.out.1 HO.out.2).cell 5⟩ (fun hHeld2 => ?_)
 clear hK K
 (try simp only [Act.put, List.getElem_toArray, List.getElem_cons_zero, List.getElem_cons_succ, List.setIfInBounds_toArray, List.set_cons_zero, List.set_cons_succ])
 clear hHeld1
 refine wpAnyH_take (i := 7) (v := ?_) rfl (by kernel_rfl) (by kernel_rfl) (by kernel_rfl) (fun _ _ _ h => h) (Or.inl ⟨by kernel_rfl, ?_⟩) (by assumption) ?_
 rotate_left
 ·intro w hSw; (try dsimp only at hSw); go_simp; (try with_reducible rfl)
 (try simp only [Act.put, List.getElem_toArray, List.getElem_cons_zero, List.getElem_cons_succ, List.setIfInBounds_toArray, List.set_cons_zero, List.set_cons_succ])
 refine wpAnyH_done (by kernel_rfl) ?_ _
 clear hHeld2
 go_wp2_with fail
 go_ret
 exact ⟨rfl, _, by rw [HE.out]; exact HS3.out, (PrR.of_kept HK1.out v).trans HR3.out⟩
set_option maxHeartbeats 4000000 in
theorem pm_this (g mb : Nat) (t y f : ByteArray) (n : Int) (L : List Lx.T) (v : Value) (w : World) (ad : Option Addr) (ck : Nat) (h : PrS g mb L v w) (hk : KidsD (fun k => k < mb) w (.slice ad 0 ck) [])
  (hn : L.length + (Pr.form 13 t y n ([].map kdM)).length ≤ 1000000000) :
  Calls Tryz.prog 70 #[.pointer (some ⟨g, 0, none⟩), .agg #[.int .i64 13, .string t, .string y, .string f, .int .i64 n, .slice ad 0 ck]] w (PrPost g mb (L ++ Pr.form 13 t y n ([].map kdM)) v w) := by
 have HE := Lib.hid (show L ++ Pr.form 13 t y n ([].map kdM) = L ++ [key ⟨#[116, 104, 105, 115]⟩] from by
  show L ++ ([key ⟨#[116, 104, 105, 115]⟩]) = _
  first | rfl | (simp only [List.append_assoc, List.cons_append, List.nil_append, List.append_nil]; done) | (simp only [List.append_assoc, List.cons_append, List.nil_append, List.append_nil]; rfl))
 have HN := Lib.hid (show (L ++ [key ⟨#[116, 104, 105, 115]⟩]).length ≤ 1000000000 by rw [← HE.out, List.length_append]; exact hn)
 obtain ⟨W1, HW1, HK1, HB1, HO, HS1, HD1, HR1, hcap, y0, y1, y2, y3, y4, y5⟩ := pm_prep 13 t y f n h hk (by simp)
 unfold maxLen at hcap
 clear h hk hn
 go_enter Tryz.func70, Tryz.ntmps70
 go_wp2_with (rw [HW1.out])
 refine (pkey_c ⟨#[116, 104, 105, 115]⟩ HS1.out (by have := HN.out; simp only [List.length_append, List.length_cons, List.length_nil] at this ⊢; omega)).mono ?_
 rintro e w2 ⟨rfl, v2, hs, hr⟩
 have HR2 := Lib.hid (HR1.out.trans hr)
 have HS2 := Lib.hid hs
 clear hs hr
 clear y0 y1 y2 y3 y4 y5
 obtain ⟨y0, y1, y2, y3, y4, y5⟩ : w2.cell? ⟨w.heap.size, 0, none⟩ = some (.int .i64 13) ∧ w2.cell? ⟨w.heap.size, 1, none⟩ = some (.string t) ∧ w2.cell? ⟨w.heap.size, 2, none⟩ = some (.string y) ∧ w2.cell? ⟨w.heap.size, 3, none⟩ = some (.string f) ∧ w2.cell? ⟨w.heap.size, 4, none⟩ = some (.int .i64 n) ∧ w2.cell? ⟨w.heap.size, 5, none⟩ = some (.slice ad 0 ck) := ⟨(HR2.out.blk HB1.out HO.out.1 HO.out.2).cell 0, (HR2.out.blk HB1.out HO.out.1 HO.out.2).cell 1, (HR2.out.blk HB1.out HO.out.1 HO.out.2).cell 2, (HR2.out.blk HB1.out HO.out.1 HO.out.2).cell 3, (HR2.out.blk HB1.out HO.out.1 HO.out.2).cell 4, (HR2.out.blk HB1.out HO.out.1 HO.out.2).cell 5⟩
 go_wp2_with fail
 go_ret
 exact ⟨rfl, _, by rw [HE.out]; exact HS2.out, (PrR.of_kept HK1.out v).trans HR2.out⟩
set_option maxHeartbeats 4000000 in
theorem pm_whole (g mb : Nat) (t y f : ByteArray) (n : Int) (L : List Lx.T) (v : Value) (w : World) (ad : Option Addr) (ck : Nat) (h : PrS g mb L v w) (hk : KidsD (fun k => k < mb) w (.slice ad 0 ck) [])
  (hn : L.length + (Pr.form 7 t y n ([].map kdM)).length ≤ 1000000000) :
  Calls Tryz.prog 65 #[.pointer (some ⟨g, 0, none⟩), .agg #[.int .i64 7, .string t, .string y, .string f, .int .i64 n, .slice ad 0 ck]] w (PrPost g mb (L ++ Pr.form 7 t y n ([].map kdM)) v w) := by
 have HE := Lib.hid (show L ++ Pr.form 7 t y n ([].map kdM) = L ++ [tk 4 Ps.e0 n] from by
  show L ++ ([tk 4 Ps.e0 n]) = _
  first | rfl | (simp only [List.append_assoc, List.cons_append, List.nil_append, List.append_nil]; done) | (simp only [List.append_assoc, List.cons_append, List.nil_append, List.append_nil]; rfl))
 have HN := Lib.hid (show (L ++ [tk 4 Ps.e0 n]).length ≤ 1000000000 by rw [← HE.out, List.length_append]; exact hn)
 obtain ⟨W1, HW1, HK1, HB1, HO, HS1, HD1, HR1, hcap, y0, y1, y2, y3, y4, y5⟩ := pm_prep 7 t y f n h hk (by simp)
 unfold maxLen at hcap
 clear h hk hn
 go_enter Tryz.func65, Tryz.ntmps65
 go_wp2_with (rw [HW1.out])
 refine (padd_c g mb _ _ (tk 4 Ps.e0 n) _ HS1.out (by have := HN.out; simp only [List.length_append, List.length_cons, List.length_nil] at this ⊢; omega)).mono ?_
 rintro e w2 ⟨rfl, v2, hs, hr⟩
 have HR2 := Lib.hid (HR1.out.trans hr)
 have HS2 := Lib.hid hs
 clear hs hr
 clear y0 y1 y2 y3 y4 y5
 obtain ⟨y0, y1, y2, y3, y4, y5⟩ : w2.cell? ⟨w.heap.size, 0, none⟩ = some (.int .i64 7) ∧ w2.cell? ⟨w.heap.size, 1, none⟩ = some (.string t) ∧ w2.cell? ⟨w.heap.size, 2, none⟩ = some (.string y) ∧ w2.cell? ⟨w.heap.size, 3, none⟩ = some (.string f) ∧ w2.cell? ⟨w.heap.size, 4, none⟩ = some (.int .i64 n) ∧ w2.cell? ⟨w.heap.size, 5, none⟩ = some (.slice ad 0 ck) := ⟨(HR2.out.blk HB1.out HO.out.1 HO.out.2).cell 0, (HR2.out.blk HB1.out HO.out.1 HO.out.2).cell 1, (HR2.out.blk HB1.out HO.out.1 HO.out.2).cell 2, (HR2.out.blk HB1.out HO.out.1 HO.out.2).cell 3, (HR2.out.blk HB1.out HO.out.1 HO.out.2).cell 4, (HR2.out.blk HB1.out HO.out.1 HO.out.2).cell 5⟩
 go_wp2_with fail
 go_ret
 exact ⟨rfl, _, by rw [HE.out]; exact HS2.out, (PrR.of_kept HK1.out v).trans HR2.out⟩
set_option maxHeartbeats 4000000 in
theorem pm_text (g mb : Nat) (t y f : ByteArray) (n : Int) (L : List Lx.T) (v : Value) (w : World) (ad : Option Addr) (ck : Nat) (h : PrS g mb L v w) (hk : KidsD (fun k => k < mb) w (.slice ad 0 ck) [])
  (hn : L.length + (Pr.form 10 t y n ([].map kdM)).length ≤ 1000000000) :
  Calls Tryz.prog 68 #[.pointer (some ⟨g, 0, none⟩), .agg #[.int .i64 10, .string t, .string y, .string f, .int .i64 n, .slice ad 0 ck]] w (PrPost g mb (L ++ Pr.form 10 t y n ([].map kdM)) v w) := by
 have HE := Lib.hid (show L ++ Pr.form 10 t y n ([].map kdM) = L ++ [tk 6 t 0] from by
  show L ++ ([tk 6 t 0]) = _
  first | rfl | (simp only [List.append_assoc, List.cons_append, List.nil_append, List.append_nil]; done) | (simp only [List.append_assoc, List.cons_append, List.nil_append, List.append_nil]; rfl))
 have HN := Lib.hid (show (L ++ [tk 6 t 0]).length ≤ 1000000000 by rw [← HE.out, List.length_append]; exact hn)
 obtain ⟨W1, HW1, HK1, HB1, HO, HS1, HD1, HR1, hcap, y0, y1, y2, y3, y4, y5⟩ := pm_prep 10 t y f n h hk (by simp)
 unfold maxLen at hcap
 clear h hk hn
 go_enter Tryz.func68, Tryz.ntmps68
 go_wp2_with (rw [HW1.out])
 refine (padd_c g mb _ _ (tk 6 t 0) _ HS1.out (by have := HN.out; simp only [List.length_append, List.length_cons, List.length_nil] at this ⊢; omega)).mono ?_
 rintro e w2 ⟨rfl, v2, hs, hr⟩
 have HR2 := Lib.hid (HR1.out.trans hr)
 have HS2 := Lib.hid hs
 clear hs hr
 clear y0 y1 y2 y3 y4 y5
 obtain ⟨y0, y1, y2, y3, y4, y5⟩ : w2.cell? ⟨w.heap.size, 0, none⟩ = some (.int .i64 10) ∧ w2.cell? ⟨w.heap.size, 1, none⟩ = some (.string t) ∧ w2.cell? ⟨w.heap.size, 2, none⟩ = some (.string y) ∧ w2.cell? ⟨w.heap.size, 3, none⟩ = some (.string f) ∧ w2.cell? ⟨w.heap.size, 4, none⟩ = some (.int .i64 n) ∧ w2.cell? ⟨w.heap.size, 5, none⟩ = some (.slice ad 0 ck) := ⟨(HR2.out.blk HB1.out HO.out.1 HO.out.2).cell 0, (HR2.out.blk HB1.out HO.out.1 HO.out.2).cell 1, (HR2.out.blk HB1.out HO.out.1 HO.out.2).cell 2, (HR2.out.blk HB1.out HO.out.1 HO.out.2).cell 3, (HR2.out.blk HB1.out HO.out.1 HO.out.2).cell 4, (HR2.out.blk HB1.out HO.out.1 HO.out.2).cell 5⟩
 go_wp2_with fail
 go_ret
 exact ⟨rfl, _, by rw [HE.out]; exact HS2.out, (PrR.of_kept HK1.out v).trans HR2.out⟩
set_option maxHeartbeats 4000000 in
theorem pm_unit (g mb : Nat) (t y f : ByteArray) (n : Int) (L : List Lx.T) (v : Value) (w : World) (ad : Option Addr) (ck : Nat) (h : PrS g mb L v w) (hk : KidsD (fun k => k < mb) w (.slice ad 0 ck) [])
  (hn : L.length + (Pr.form 11 t y n ([].map kdM)).length ≤ 1000000000) :
  Calls Tryz.prog 69 #[.pointer (some ⟨g, 0, none⟩), .agg #[.int .i64 11, .string t, .string y, .string f, .int .i64 n, .slice ad 0 ck]] w (PrPost g mb (L ++ Pr.form 11 t y n ([].map kdM)) v w) := by
 have HE := Lib.hid (show L ++ Pr.form 11 t y n ([].map kdM) = L ++ brk (([] : List Nd).map kdM) from by
  show L ++ (brk []) = _
  first | rfl | (simp only [List.append_assoc, List.cons_append, List.nil_append, List.append_nil]; done) | (simp only [List.append_assoc, List.cons_append, List.nil_append, List.append_nil]; rfl))
 have HN := Lib.hid (show (L ++ brk (([] : List Nd).map kdM)).length ≤ 1000000000 by rw [← HE.out, List.length_append]; exact hn)
 obtain ⟨W1, HW1, HK1, HB1, HO, HS1, HD1, HR1, hcap, y0, y1, y2, y3, y4, y5⟩ := pm_prep 11 t y f n h hk (by simp)
 unfold maxLen at hcap
 clear h hk hn
 go_enter Tryz.func69, Tryz.ntmps69
 go_wp2_with (rw [HW1.out])
 refine (pbrackets_cP g mb [] none 0 _ _ _ (fun y hy => by cases hy) HS1.out Row.nil (by have := HN.out; simp only [List.length_append, List.length_cons, List.length_nil] at this ⊢; omega)).mono ?_
 rintro e w2 ⟨rfl, v2, hs, hr⟩
 have HR2 := Lib.hid (HR1.out.trans hr)
 have HS2 := Lib.hid hs
 clear hs hr
 clear y0 y1 y2 y3 y4 y5
 obtain ⟨y0, y1, y2, y3, y4, y5⟩ : w2.cell? ⟨w.heap.size, 0, none⟩ = some (.int .i64 11) ∧ w2.cell? ⟨w.heap.size, 1, none⟩ = some (.string t) ∧ w2.cell? ⟨w.heap.size, 2, none⟩ = some (.string y) ∧ w2.cell? ⟨w.heap.size, 3, none⟩ = some (.string f) ∧ w2.cell? ⟨w.heap.size, 4, none⟩ = some (.int .i64 n) ∧ w2.cell? ⟨w.heap.size, 5, none⟩ = some (.slice ad 0 ck) := ⟨(HR2.out.blk HB1.out HO.out.1 HO.out.2).cell 0, (HR2.out.blk HB1.out HO.out.1 HO.out.2).cell 1, (HR2.out.blk HB1.out HO.out.1 HO.out.2).cell 2, (HR2.out.blk HB1.out HO.out.1 HO.out.2).cell 3, (HR2.out.blk HB1.out HO.out.1 HO.out.2).cell 4, (HR2.out.blk HB1.out HO.out.1 HO.out.2).cell 5⟩
 go_wp2_with fail
 go_ret
 exact ⟨rfl, _, by rw [HE.out]; exact HS2.out, (PrR.of_kept HK1.out v).trans HR2.out⟩
set_option maxHeartbeats 4000000 in
theorem pm_none (g mb : Nat) (t y f : ByteArray) (n : Int) (L : List Lx.T) (v : Value) (w : World) (ad : Option Addr) (ck : Nat) (h : PrS g mb L v w) (hk : KidsD (fun k => k < mb) w (.slice ad 0 ck) [])
  (hn : L.length + (Pr.form 12 t y n ([].map kdM)).length ≤ 1000000000) :
  Calls Tryz.prog 71 #[.pointer (some ⟨g, 0, none⟩), .agg #[.int .i64 12, .string t, .string y, .string f, .int .i64 n, .slice ad 0 ck]] w (PrPost g mb (L ++ Pr.form 12 t y n ([].map kdM)) v w) := by
 have HE := Lib.hid (show L ++ Pr.form 12 t y n ([].map kdM) = L ++ [key ⟨#[110, 111, 110, 101]⟩] ++ [typT y] from by
  show L ++ ([key ⟨#[110, 111, 110, 101]⟩, typT y]) = _
  first | rfl | (simp only [List.append_assoc, List.cons_append, List.nil_append, List.append_nil]; done) | (simp only [List.append_assoc, List.cons_append, List.nil_append, List.append_nil]; rfl))
 have HN := Lib.hid (show (L ++ [key ⟨#[110, 111, 110, 101]⟩] ++ [typT y]).length ≤ 1000000000 by rw [← HE.out, List.length_append]; exact hn)
 obtain ⟨W1, HW1, HK1, HB1, HO, HS1, HD1, HR1, hcap, y0, y1, y2, y3, y4, y5⟩ := pm_prep 12 t y f n h hk (by simp)
 unfold maxLen at hcap
 clear h hk hn
 go_enter Tryz.func71, Tryz.ntmps71
 go_wp2_with (rw [HW1.out])
 refine wp_region_held_drew (S := (fun W => W.cell? ⟨w.heap.size, 0, none⟩ = some (.int .i64 12) ∧ W.cell? ⟨w.heap.size, 1, none⟩ = some (.string t) ∧ W.cell? ⟨w.heap.size, 2, none⟩ = some (.string y) ∧ W.cell? ⟨w.heap.size, 3, none⟩ = some (.string f) ∧ W.cell? ⟨w.heap.size, 4, none⟩ = some (.int .i64 n) ∧ W.cell? ⟨w.heap.size, 5, none⟩ = some (.slice ad 0 ck))) (by kernel_rfl) ⟨((Lib.hid (HR1.out.trans (PrR.of_kept (Kept.refl _).drew _))).out.blk HB1.out HO.out.1 HO.out.2).cell 0, ((Lib.hid (HR1.out.trans (PrR.of_kept (Kept.refl _).drew _))).out.blk HB1.out HO.out.1 HO.out.2).cell 1, ((Lib.hid (HR1.out.trans (PrR.of_kept (Kept.refl _).drew _))).out.blk HB1.out HO.out.1 HO.out.2).cell 2, ((Lib.hid (HR1.out.trans (PrR.of_kept (Kept.refl _).drew _))).out.blk HB1.out HO.out.1 HO.out.2).cell 3, ((Lib.hid (HR1.out.trans (PrR.of_kept (Kept.refl _).drew _))).out.blk HB1.out HO.out.1 HO.out.2).cell 4, ((Lib.hid (HR1.out.trans (PrR.of_kept (Kept.refl _).drew _))).out.blk HB1.out HO.out.1 HO.out.2).cell 5⟩ (fun hHeld0 => ?_)
 refine wpAnyH_take (i := 0) (v := ?_) rfl (by kernel_rfl) (by kernel_rfl) (by kernel_rfl) (fun _ _ _ h => h) (Or.inl ⟨by kernel_rfl, ?_⟩) (by assumption) ?_
 rotate_left
 ·intro w hSw; (try dsimp only at hSw); go_simp; (try with_reducible rfl)
 (try simp only [Act.put, List.getElem_toArray, List.getElem_cons_zero, List.getElem_cons_succ, List.setIfInBounds_toArray, List.set_cons_zero, List.set_cons_succ])
 refine wpAnyH_take (i := 2) (v := ?_) rfl (by kernel_rfl) (by kernel_rfl) (by kernel_rfl) (fun _ _ _ h => h) (Or.inl ⟨by kernel_rfl, ?_⟩) (by assumption) ?_
 rotate_left
 ·intro w hSw; (try dsimp only at hSw); go_simp; (try with_reducible rfl)
 (try simp only [Act.put, List.getElem_toArray, List.getElem_cons_zero, List.getElem_cons_succ, List.setIfInBounds_toArray, List.set_cons_zero, List.set_cons_succ])
 refine wpAnyH_take (i := 3) (v := ?_) rfl (by kernel_rfl) (by kernel_rfl) (by kernel_rfl) (fun _ _ _ h => h) (Or.inl ⟨by kernel_rfl, ?_⟩) (by assumption) ?_
 rotate_left
 ·intro w hSw; (try dsimp only at hSw); go_simp; (try with_reducible rfl)
 (try simp only [Act.put, List.getElem_toArray, List.getElem_cons_zero, List.getElem_cons_succ, List.setIfInBounds_toArray, List.set_cons_zero, List.set_cons_succ])
 refine wpAnyH_ready (rs := [1]) (by kernel_rfl) (by simp) ?_
 refine AllReadyH.cons rfl (fun K hK => ?_) AllReadyH.nil
 go_simp
 refine (pkey_c ⟨#[110, 111, 110, 101]⟩ HS1.out.drew (by have := HN.out; simp only [List.length_append, List.length_cons, List.length_nil] at this ⊢; omega)).mono ?_
 rintro e w2 ⟨rfl, v2, hs, hr⟩
 have HR2 := Lib.hid ((HR1.out.trans (PrR.of_kept (Kept.refl _).drew _)).trans hr)
 have HS2 := Lib.hid hs
 clear hs hr
 refine hK.out _ _ ⟨(HR2.out.blk HB1.out HO.out.1 HO.out.2).cell 0, (HR2.out.blk HB1.out HO.out.1 HO.out.2).cell 1, (HR2.out.blk HB1.out HO.out.1 HO.out.2).cell 2, (HR2.out.blk HB1.out HO.out.1 HO.out.2).cell 3, (HR2.out.blk HB1.out HO.out.1 HO.out.2).cell 4, (HR2.out.blk HB1.out HO.out.1 HO.out.2).cell 5⟩ (fun hHeld1 => ?_)
 clear hK K
 (try simp only [Act.put, List.getElem_toArray, List.getElem_cons_zero, List.getElem_cons_succ, List.setIfInBounds_toArray, List.set_cons_zero, List.set_cons_succ])
 clear hHeld0
 refine wpAnyH_ready (rs := [4]) (by kernel_rfl) (by simp) ?_
 refine AllReadyH.cons rfl (fun K hK => ?_) AllReadyH.nil
 go_simp
 refine (ptyp_cP y HS2.out (by have := HN.out; simp only [List.length_append, List.length_cons, List.length_nil] at this ⊢; omega)).mono ?_
 rintro e w3 ⟨rfl, v3, hs, hr⟩
 have HR3 := Lib.hid (HR2.out.trans hr)
 have HS3 := Lib.hid hs
 clear hs hr
 refine hK.out _ _ ⟨(HR3.out.blk HB1.out HO.out.1 HO.out.2).cell 0, (HR3.out.blk HB1.out HO.out.1 HO.out.2).cell 1, (HR3.out.blk HB1.out HO.out.1 HO.out.2).cell 2, (HR3.out.blk HB1.out HO.out.1 HO.out.2).cell 3, (HR3.out.blk HB1.out HO.out.1 HO.out.2).cell 4, (HR3.out.blk HB1.out HO.out.1 HO.out.2).cell 5⟩ (fun hHeld2 => ?_)
 clear hK K
 (try simp only [Act.put, List.getElem_toArray, List.getElem_cons_zero, List.getElem_cons_succ, List.setIfInBounds_toArray, List.set_cons_zero, List.set_cons_succ])
 clear hHeld1
 refine wpAnyH_take (i := 5) (v := ?_) rfl (by kernel_rfl) (by kernel_rfl) (by kernel_rfl) (fun _ _ _ h => h) (Or.inl ⟨by kernel_rfl, ?_⟩) (by assumption) ?_
 rotate_left
 ·intro w hSw; (try dsimp only at hSw); go_simp; (try with_reducible rfl)
 (try simp only [Act.put, List.getElem_toArray, List.getElem_cons_zero, List.getElem_cons_succ, List.setIfInBounds_toArray, List.set_cons_zero, List.set_cons_succ])
 refine wpAnyH_done (by kernel_rfl) ?_ _
 clear hHeld2
 go_wp2_with fail
 go_ret
 exact ⟨rfl, _, by rw [HE.out]; exact HS3.out, (PrR.of_kept HK1.out v).trans HR3.out⟩
set_option maxHeartbeats 4000000 in
theorem pm_variable (g mb : Nat) (t y f : ByteArray) (n : Int) (L : List Lx.T) (v : Value) (w : World) (ad : Option Addr) (ck : Nat) (h : PrS g mb L v w) (hk : KidsD (fun k => k < mb) w (.slice ad 0 ck) [])
  (hn : L.length + (Pr.form 14 t y n ([].map kdM)).length ≤ 1000000000) :
  Calls Tryz.prog 72 #[.pointer (some ⟨g, 0, none⟩), .agg #[.int .i64 14, .string t, .string y, .string f, .int .i64 n, .slice ad 0 ck]] w (PrPost g mb (L ++ Pr.form 14 t y n ([].map kdM)) v w) := by
 have HE := Lib.hid (show L ++ Pr.form 14 t y n ([].map kdM) = L ++ [nam t] from by
  show L ++ ([nam t]) = _
  first | rfl | (simp only [List.append_assoc, List.cons_append, List.nil_append, List.append_nil]; done) | (simp only [List.append_assoc, List.cons_append, List.nil_append, List.append_nil]; rfl))
 have HN := Lib.hid (show (L ++ [nam t]).length ≤ 1000000000 by rw [← HE.out, List.length_append]; exact hn)
 obtain ⟨W1, HW1, HK1, HB1, HO, HS1, HD1, HR1, hcap, y0, y1, y2, y3, y4, y5⟩ := pm_prep 14 t y f n h hk (by simp)
 unfold maxLen at hcap
 clear h hk hn
 go_enter Tryz.func72, Tryz.ntmps72
 go_wp2_with (rw [HW1.out])
 refine (pname_c t HS1.out (by have := HN.out; simp only [List.length_append, List.length_cons, List.length_nil] at this ⊢; omega)).mono ?_
 rintro e w2 ⟨rfl, v2, hs, hr⟩
 have HR2 := Lib.hid (HR1.out.trans hr)
 have HS2 := Lib.hid hs
 clear hs hr
 clear y0 y1 y2 y3 y4 y5
 obtain ⟨y0, y1, y2, y3, y4, y5⟩ : w2.cell? ⟨w.heap.size, 0, none⟩ = some (.int .i64 14) ∧ w2.cell? ⟨w.heap.size, 1, none⟩ = some (.string t) ∧ w2.cell? ⟨w.heap.size, 2, none⟩ = some (.string y) ∧ w2.cell? ⟨w.heap.size, 3, none⟩ = some (.string f) ∧ w2.cell? ⟨w.heap.size, 4, none⟩ = some (.int .i64 n) ∧ w2.cell? ⟨w.heap.size, 5, none⟩ = some (.slice ad 0 ck) := ⟨(HR2.out.blk HB1.out HO.out.1 HO.out.2).cell 0, (HR2.out.blk HB1.out HO.out.1 HO.out.2).cell 1, (HR2.out.blk HB1.out HO.out.1 HO.out.2).cell 2, (HR2.out.blk HB1.out HO.out.1 HO.out.2).cell 3, (HR2.out.blk HB1.out HO.out.1 HO.out.2).cell 4, (HR2.out.blk HB1.out HO.out.1 HO.out.2).cell 5⟩
 go_wp2_with fail
 go_ret
 exact ⟨rfl, _, by rw [HE.out]; exact HS2.out, (PrR.of_kept HK1.out v).trans HR2.out⟩
set_option maxHeartbeats 4000000 in
theorem pm_read (g mb : Nat) (t y f : ByteArray) (n : Int) (L : List Lx.T) (v : Value) (w : World) (ad : Option Addr) (ck : Nat) (h : PrS g mb L v w) (hk : KidsD (fun k => k < mb) w (.slice ad 0 ck) [])
  (hn : L.length + (Pr.form 26 t y n ([].map kdM)).length ≤ 1000000000) :
  Calls Tryz.prog 83 #[.pointer (some ⟨g, 0, none⟩), .agg #[.int .i64 26, .string t, .string y, .string f, .int .i64 n, .slice ad 0 ck]] w (PrPost g mb (L ++ Pr.form 26 t y n ([].map kdM)) v w) := by
 have HE := Lib.hid (show L ++ Pr.form 26 t y n ([].map kdM) = L ++ [key ⟨#[114, 101, 97, 100]⟩] ++ brk (([] : List Nd).map kdM) from by
  show L ++ (key ⟨#[114, 101, 97, 100]⟩ :: brk []) = _
  first | rfl | (simp only [List.append_assoc, List.cons_append, List.nil_append, List.append_nil]; done) | (simp only [List.append_assoc, List.cons_append, List.nil_append, List.append_nil]; rfl))
 have HN := Lib.hid (show (L ++ [key ⟨#[114, 101, 97, 100]⟩] ++ brk (([] : List Nd).map kdM)).length ≤ 1000000000 by rw [← HE.out, List.length_append]; exact hn)
 obtain ⟨W1, HW1, HK1, HB1, HO, HS1, HD1, HR1, hcap, y0, y1, y2, y3, y4, y5⟩ := pm_prep 26 t y f n h hk (by simp)
 unfold maxLen at hcap
 clear h hk hn
 go_enter Tryz.func83, Tryz.ntmps83
 go_wp2_with (rw [HW1.out])
 refine (pkey_c ⟨#[114, 101, 97, 100]⟩ HS1.out (by have := HN.out; simp only [List.length_append, List.length_cons, List.length_nil] at this ⊢; omega)).mono ?_
 rintro e w2 ⟨rfl, v2, hs, hr⟩
 have HR2 := Lib.hid (HR1.out.trans hr)
 have HS2 := Lib.hid hs
 clear hs hr
 clear y0 y1 y2 y3 y4 y5
 obtain ⟨y0, y1, y2, y3, y4, y5⟩ : w2.cell? ⟨w.heap.size, 0, none⟩ = some (.int .i64 26) ∧ w2.cell? ⟨w.heap.size, 1, none⟩ = some (.string t) ∧ w2.cell? ⟨w.heap.size, 2, none⟩ = some (.string y) ∧ w2.cell? ⟨w.heap.size, 3, none⟩ = some (.string f) ∧ w2.cell? ⟨w.heap.size, 4, none⟩ = some (.int .i64 n) ∧ w2.cell? ⟨w.heap.size, 5, none⟩ = some (.slice ad 0 ck) := ⟨(HR2.out.blk HB1.out HO.out.1 HO.out.2).cell 0, (HR2.out.blk HB1.out HO.out.1 HO.out.2).cell 1, (HR2.out.blk HB1.out HO.out.1 HO.out.2).cell 2, (HR2.out.blk HB1.out HO.out.1 HO.out.2).cell 3, (HR2.out.blk HB1.out HO.out.1 HO.out.2).cell 4, (HR2.out.blk HB1.out HO.out.1 HO.out.2).cell 5⟩
 go_wp2_with fail
 refine (pbrackets_cP g mb [] none 0 _ _ _ (fun y hy => by cases hy) HS2.out Row.nil (by have := HN.out; simp only [List.length_append, List.length_cons, List.length_nil] at this ⊢; omega)).mono ?_
 rintro e w3 ⟨rfl, v3, hs, hr⟩
 have HR3 := Lib.hid (HR2.out.trans hr)
 have HS3 := Lib.hid hs
 clear hs hr
 clear y0 y1 y2 y3 y4 y5
 obtain ⟨y0, y1, y2, y3, y4, y5⟩ : w3.cell? ⟨w.heap.size, 0, none⟩ = some (.int .i64 26) ∧ w3.cell? ⟨w.heap.size, 1, none⟩ = some (.string t) ∧ w3.cell? ⟨w.heap.size, 2, none⟩ = some (.string y) ∧ w3.cell? ⟨w.heap.size, 3, none⟩ = some (.string f) ∧ w3.cell? ⟨w.heap.size, 4, none⟩ = some (.int .i64 n) ∧ w3.cell? ⟨w.heap.size, 5, none⟩ = some (.slice ad 0 ck) := ⟨(HR3.out.blk HB1.out HO.out.1 HO.out.2).cell 0, (HR3.out.blk HB1.out HO.out.1 HO.out.2).cell 1, (HR3.out.blk HB1.out HO.out.1 HO.out.2).cell 2, (HR3.out.blk HB1.out HO.out.1 HO.out.2).cell 3, (HR3.out.blk HB1.out HO.out.1 HO.out.2).cell 4, (HR3.out.blk HB1.out HO.out.1 HO.out.2).cell 5⟩
 go_wp2_with fail
 go_ret
 exact ⟨rfl, _, by rw [HE.out]; exact HS3.out, (PrR.of_kept HK1.out v).trans HR3.out⟩
set_option maxHeartbeats 4000000 in
theorem pm_class (g mb : Nat) (t y f : ByteArray) (n : Int) (l : List Nd) (L : List Lx.T) (v : Value) (w : World) (ad : Option Addr) (ck : Nat) (Hl : ∀ y ∈ l, NodeC g mb y) (h : PrS g mb L v w) (hk : KidsD (fun k => k < mb) w (.slice ad l.length ck) l)
  (hn : L.length + (Pr.form 2 t y n (l.map kdM)).length ≤ 1000000000) :
  Calls Tryz.prog 59 #[.pointer (some ⟨g, 0, none⟩), .agg #[.int .i64 2, .string t, .string y, .string f, .int .i64 n, .slice ad l.length ck]] w (PrPost g mb (L ++ Pr.form 2 t y n (l.map kdM)) v w) := by
 have HCl := Lib.hid Hl
 have HE := Lib.hid (show L ++ Pr.form 2 t y n (l.map kdM) = L ++ [key ⟨#[99, 108, 97, 115, 115]⟩] ++ [typT t] ++ ann y Ps.e0 ++ [sgn Ps.kLeft] ++ sep (sepS Ps.e0) (l.map kdM) ++ [sgn Ps.kRight] from by
  show L ++ (key ⟨#[99, 108, 97, 115, 115]⟩ :: typT t :: ann y Ps.e0 ++ sgn Ps.kLeft :: sep [] (l.map kdM) ++ [sgn Ps.kRight]) = _
  first | rfl | (simp only [List.append_assoc, List.cons_append, List.nil_append, List.append_nil]; done) | (simp only [List.append_assoc, List.cons_append, List.nil_append, List.append_nil]; rfl))
 have HN := Lib.hid (show (L ++ [key ⟨#[99, 108, 97, 115, 115]⟩] ++ [typT t] ++ ann y Ps.e0 ++ [sgn Ps.kLeft] ++ sep (sepS Ps.e0) (l.map kdM) ++ [sgn Ps.kRight]).length ≤ 1000000000 by rw [← HE.out, List.length_append]; exact hn)
 obtain ⟨W1, HW1, HK1, HB1, HO, HS1, HD1, HR1, hcap, y0, y1, y2, y3, y4, y5⟩ := pm_prep 2 t y f n h hk (by simp)
 unfold maxLen at hcap
 clear h hk hn Hl
 go_enter Tryz.func59, Tryz.ntmps59
 go_wp2_with (rw [HW1.out])
 refine wp_region_held_drew (S := (fun W => W.cell? ⟨w.heap.size, 0, none⟩ = some (.int .i64 2) ∧ W.cell? ⟨w.heap.size, 1, none⟩ = some (.string t) ∧ W.cell? ⟨w.heap.size, 2, none⟩ = some (.string y) ∧ W.cell? ⟨w.heap.size, 3, none⟩ = some (.string f) ∧ W.cell? ⟨w.heap.size, 4, none⟩ = some (.int .i64 n) ∧ W.cell? ⟨w.heap.size, 5, none⟩ = some (.slice ad l.length ck))) (by kernel_rfl) ⟨((Lib.hid (HR1.out.trans (PrR.of_kept (Kept.refl _).drew _))).out.blk HB1.out HO.out.1 HO.out.2).cell 0, ((Lib.hid (HR1.out.trans (PrR.of_kept (Kept.refl _).drew _))).out.blk HB1.out HO.out.1 HO.out.2).cell 1, ((Lib.hid (HR1.out.trans (PrR.of_kept (Kept.refl _).drew _))).out.blk HB1.out HO.out.1 HO.out.2).cell 2, ((Lib.hid (HR1.out.trans (PrR.of_kept (Kept.refl _).drew _))).out.blk HB1.out HO.out.1 HO.out.2).cell 3, ((Lib.hid (HR1.out.trans (PrR.of_kept (Kept.refl _).drew _))).out.blk HB1.out HO.out.1 HO.out.2).cell 4, ((Lib.hid (HR1.out.trans (PrR.of_kept (Kept.refl _).drew _))).out.blk HB1.out HO.out.1 HO.out.2).cell 5⟩ (fun hHeld0 => ?_)
 refine wpAnyH_take (i := 0) (v := ?_) rfl (by kernel_rfl) (by kernel_rfl) (by kernel_rfl) (fun _ _ _ h => h) (Or.inl ⟨by kernel_rfl, ?_⟩) (by assumption) ?_
 rotate_left
 ·intro w hSw; (try dsimp only at hSw); go_simp; (try with_reducible rfl)
 (try simp only [Act.put, List.getElem_toArray, List.getElem_cons_zero, List.getElem_cons_succ, List.setIfInBounds_toArray, List.set_cons_zero, List.set_cons_succ])
 refine wpAnyH_take (i := 2) (v := ?_) rfl (by kernel_rfl) (by kernel_rfl) (by kernel_rfl) (fun _ _ _ h => h) (Or.inl ⟨by kernel_rfl, ?_⟩) (by assumption) ?_
 rotate_left
 ·intro w hSw; (try dsimp only at hSw); go_simp; (try with_reducible rfl)
 (try simp only [Act.put, List.getElem_toArray, List.getElem_cons_zero, List.getElem_cons_succ, List.setIfInBounds_toArray, List.set_cons_zero, List.set_cons_succ])
 refine wpAnyH_take (i := 3) (v := ?_) rfl (by kernel_rfl) (by kernel_rfl) (by kernel_rfl) (fun _ _ _ h => h) (Or.inl ⟨by kernel_rfl, ?_⟩) (by assumption) ?_
 rotate_left
 ·intro w hSw; (try dsimp only at hSw); go_simp; (try with_reducible rfl)
 (try simp only [Act.put, List.getElem_toArray, List.getElem_cons_zero, List.getElem_cons_succ, List.setIfInBounds_toArray, List.set_cons_zero, List.set_cons_succ])
 refine wpAnyH_take (i := 5) (v := ?_) rfl (by kernel_rfl) (by kernel_rfl) (by kernel_rfl) (fun _ _ _ h => h) (Or.inl ⟨by kernel_rfl, ?_⟩) (by assumption) ?_
 rotate_left
 ·intro w hSw; (try dsimp only at hSw); go_simp; (try with_reducible rfl)
 (try simp only [Act.put, List.getElem_toArray, List.getElem_cons_zero, List.getElem_cons_succ, List.setIfInBounds_toArray, List.set_cons_zero, List.set_cons_succ])
 refine wpAnyH_take (i := 6) (v := ?_) rfl (by kernel_rfl) (by kernel_rfl) (by kernel_rfl) (fun _ _ _ h => h) (Or.inl ⟨by kernel_rfl, ?_⟩) (by assumption) ?_
 rotate_left
 ·intro w hSw; (try dsimp only at hSw); go_simp; (try with_reducible rfl)
 (try simp only [Act.put, List.getElem_toArray, List.getElem_cons_zero, List.getElem_cons_succ, List.setIfInBounds_toArray, List.set_cons_zero, List.set_cons_succ])
 refine wpAnyH_take (i := 9) (v := ?_) rfl (by kernel_rfl) (by kernel_rfl) (by kernel_rfl) (fun _ _ _ h => h) (Or.inl ⟨by kernel_rfl, ?_⟩) (by assumption) ?_
 rotate_left
 ·intro w hSw; (try dsimp only at hSw); go_simp; (try with_reducible rfl)
 (try simp only [Act.put, List.getElem_toArray, List.getElem_cons_zero, List.getElem_cons_succ, List.setIfInBounds_toArray, List.set_cons_zero, List.set_cons_succ])
 refine wpAnyH_take (i := 10) (v := ?_) rfl (by kernel_rfl) (by kernel_rfl) (by kernel_rfl) (fun _ _ _ h => h) (Or.inl ⟨by kernel_rfl, ?_⟩) (by assumption) ?_
 rotate_left
 ·intro w hSw; (try dsimp only at hSw); go_simp; (try with_reducible rfl)
 (try simp only [Act.put, List.getElem_toArray, List.getElem_cons_zero, List.getElem_cons_succ, List.setIfInBounds_toArray, List.set_cons_zero, List.set_cons_succ])
 refine wpAnyH_ready (rs := [1]) (by kernel_rfl) (by simp) ?_
 refine AllReadyH.cons rfl (fun K hK => ?_) AllReadyH.nil
 go_simp
 refine (pkey_c ⟨#[99, 108, 97, 115, 115]⟩ HS1.out.drew (by have := HN.out; simp only [List.length_append, List.length_cons, List.length_nil] at this ⊢; omega)).mono ?_
 rintro e w2 ⟨rfl, v2, hs, hr⟩
 have HR2 := Lib.hid ((HR1.out.trans (PrR.of_kept (Kept.refl _).drew _)).trans hr)
 have HS2 := Lib.hid hs
 clear hs hr
 refine hK.out _ _ ⟨(HR2.out.blk HB1.out HO.out.1 HO.out.2).cell 0, (HR2.out.blk HB1.out HO.out.1 HO.out.2).cell 1, (HR2.out.blk HB1.out HO.out.1 HO.out.2).cell 2, (HR2.out.blk HB1.out HO.out.1 HO.out.2).cell 3, (HR2.out.blk HB1.out HO.out.1 HO.out.2).cell 4, (HR2.out.blk HB1.out HO.out.1 HO.out.2).cell 5⟩ (fun hHeld1 => ?_)
 clear hK K
 (try simp only [Act.put, List.getElem_toArray, List.getElem_cons_zero, List.getElem_cons_succ, List.setIfInBounds_toArray, List.set_cons_zero, List.set_cons_succ])
 clear hHeld0
 refine wpAnyH_ready (rs := [4]) (by kernel_rfl) (by simp) ?_
 refine AllReadyH.cons rfl (fun K hK => ?_) AllReadyH.nil
 go_simp
 refine (ptyp_cP t HS2.out (by have := HN.out; simp only [List.length_append, List.length_cons, List.length_nil] at this ⊢; omega)).mono ?_
 rintro e w3 ⟨rfl, v3, hs, hr⟩
 have HR3 := Lib.hid (HR2.out.trans hr)
 have HS3 := Lib.hid hs
 clear hs hr
 refine hK.out _ _ ⟨(HR3.out.blk HB1.out HO.out.1 HO.out.2).cell 0, (HR3.out.blk HB1.out HO.out.1 HO.out.2).cell 1, (HR3.out.blk HB1.out HO.out.1 HO.out.2).cell 2, (HR3.out.blk HB1.out HO.out.1 HO.out.2).cell 3, (HR3.out.blk HB1.out HO.out.1 HO.out.2).cell 4, (HR3.out.blk HB1.out HO.out.1 HO.out.2).cell 5⟩ (fun hHeld2 => ?_)
 clear hK K
 (try simp only [Act.put, List.getElem_toArray, List.getElem_cons_zero, List.getElem_cons_succ, List.setIfInBounds_toArray, List.set_cons_zero, List.set_cons_succ])
 clear hHeld1
 refine wpAnyH_ready (rs := [7]) (by kernel_rfl) (by simp) ?_
 refine AllReadyH.cons rfl (fun K hK => ?_) AllReadyH.nil
 go_simp
 refine (pann_c y Ps.e0 HS3.out (by have := HN.out; simp only [List.length_append, List.length_cons, List.length_nil] at this ⊢; omega)).mono ?_
 rintro e w4 ⟨rfl, v4, hs, hr⟩
 have HR4 := Lib.hid (HR3.out.trans hr)
 have HS4 := Lib.hid hs
 clear hs hr
 refine hK.out _ _ ⟨(HR4.out.blk HB1.out HO.out.1 HO.out.2).cell 0, (HR4.out.blk HB1.out HO.out.1 HO.out.2).cell 1, (HR4.out.blk HB1.out HO.out.1 HO.out.2).cell 2, (HR4.out.blk HB1.out HO.out.1 HO.out.2).cell 3, (HR4.out.blk HB1.out HO.out.1 HO.out.2).cell 4, (HR4.out.blk HB1.out HO.out.1 HO.out.2).cell 5⟩ (fun hHeld3 => ?_)
 clear hK K
 (try simp only [Act.put, List.getElem_toArray, List.getElem_cons_zero, List.getElem_cons_succ, List.setIfInBounds_toArray, List.set_cons_zero, List.set_cons_succ])
 clear hHeld2
 refine wpAnyH_ready (rs := [8]) (by kernel_rfl) (by simp) ?_
 refine AllReadyH.cons rfl (fun K hK => ?_) AllReadyH.nil
 go_simp
 refine (psign_c Ps.kLeft HS4.out (by have := HN.out; simp only [List.length_append, List.length_cons, List.length_nil] at this ⊢; omega)).mono ?_
 rintro e w5 ⟨rfl, v5, hs, hr⟩
 have HR5 := Lib.hid (HR4.out.trans hr)
 have HS5 := Lib.hid hs
 clear hs hr
 refine hK.out _ _ ⟨(HR5.out.blk HB1.out HO.out.1 HO.out.2).cell 0, (HR5.out.blk HB1.out HO.out.1 HO.out.2).cell 1, (HR5.out.blk HB1.out HO.out.1 HO.out.2).cell 2, (HR5.out.blk HB1.out HO.out.1 HO.out.2).cell 3, (HR5.out.blk HB1.out HO.out.1 HO.out.2).cell 4, (HR5.out.blk HB1.out HO.out.1 HO.out.2).cell 5⟩ (fun hHeld4 => ?_)
 clear hK K
 (try simp only [Act.put, List.getElem_toArray, List.getElem_cons_zero, List.getElem_cons_succ, List.setIfInBounds_toArray, List.set_cons_zero, List.set_cons_succ])
 clear hHeld3
 refine wpAnyH_ready (rs := [11]) (by kernel_rfl) (by simp) ?_
 refine AllReadyH.cons rfl (fun K hK => ?_) AllReadyH.nil
 go_simp
 refine (pnodes_c g mb Ps.e0 _ _ _ _ _ _ HCl.out HS5.out (HR5.out.kids HS1.out HD1.out) (by have := HN.out; simp only [List.length_append, List.length_cons, List.length_nil] at this ⊢; omega)).mono ?_
 rintro e w6 ⟨rfl, v6, hs, hr⟩
 have HR6 := Lib.hid (HR5.out.trans hr)
 have HS6 := Lib.hid hs
 clear hs hr
 refine hK.out _ _ ⟨(HR6.out.blk HB1.out HO.out.1 HO.out.2).cell 0, (HR6.out.blk HB1.out HO.out.1 HO.out.2).cell 1, (HR6.out.blk HB1.out HO.out.1 HO.out.2).cell 2, (HR6.out.blk HB1.out HO.out.1 HO.out.2).cell 3, (HR6.out.blk HB1.out HO.out.1 HO.out.2).cell 4, (HR6.out.blk HB1.out HO.out.1 HO.out.2).cell 5⟩ (fun hHeld5 => ?_)
 clear hK K
 (try simp only [Act.put, List.getElem_toArray, List.getElem_cons_zero, List.getElem_cons_succ, List.setIfInBounds_toArray, List.set_cons_zero, List.set_cons_succ])
 clear hHeld4
 refine wpAnyH_ready (rs := [12]) (by kernel_rfl) (by simp) ?_
 refine AllReadyH.cons rfl (fun K hK => ?_) AllReadyH.nil
 go_simp
 refine (psign_c Ps.kRight HS6.out (by have := HN.out; simp only [List.length_append, List.length_cons, List.length_nil] at this ⊢; omega)).mono ?_
 rintro e w7 ⟨rfl, v7, hs, hr⟩
 have HR7 := Lib.hid (HR6.out.trans hr)
 have HS7 := Lib.hid hs
 clear hs hr
 refine hK.out _ _ ⟨(HR7.out.blk HB1.out HO.out.1 HO.out.2).cell 0, (HR7.out.blk HB1.out HO.out.1 HO.out.2).cell 1, (HR7.out.blk HB1.out HO.out.1 HO.out.2).cell 2, (HR7.out.blk HB1.out HO.out.1 HO.out.2).cell 3, (HR7.out.blk HB1.out HO.out.1 HO.out.2).cell 4, (HR7.out.blk HB1.out HO.out.1 HO.out.2).cell 5⟩ (fun hHeld6 => ?_)
 clear hK K
 (try simp only [Act.put, List.getElem_toArray, List.getElem_cons_zero, List.getElem_cons_succ, List.setIfInBounds_toArray, List.set_cons_zero, List.set_cons_succ])
 clear hHeld5
 refine wpAnyH_take (i := 13) (v := ?_) rfl (by kernel_rfl) (by kernel_rfl) (by kernel_rfl) (fun _ _ _ h => h) (Or.inl ⟨by kernel_rfl, ?_⟩) (by assumption) ?_
 rotate_left
 ·intro w hSw; (try dsimp only at hSw); go_simp; (try with_reducible rfl)
 (try simp only [Act.put, List.getElem_toArray, List.getElem_cons_zero, List.getElem_cons_succ, List.setIfInBounds_toArray, List.set_cons_zero, List.set_cons_succ])
 refine wpAnyH_done (by kernel_rfl) ?_ _
 clear hHeld6
 go_wp2_with fail
 go_ret
 exact ⟨rfl, _, by rw [HE.out]; exact HS7.out, (PrR.of_kept HK1.out v).trans HR7.out⟩
set_option maxHeartbeats 4000000 in
theorem pm_block (g mb : Nat) (t y f : ByteArray) (n : Int) (l : List Nd) (L : List Lx.T) (v : Value) (w : World) (ad : Option Addr) (ck : Nat) (Hl : ∀ y ∈ l, NodeC g mb y) (h : PrS g mb L v w) (hk : KidsD (fun k => k < mb) w (.slice ad l.length ck) l)
  (hn : L.length + (Pr.form 6 t y n (l.map kdM)).length ≤ 1000000000) :
  Calls Tryz.prog 63 #[.pointer (some ⟨g, 0, none⟩), .agg #[.int .i64 6, .string t, .string y, .string f, .int .i64 n, .slice ad l.length ck]] w (PrPost g mb (L ++ Pr.form 6 t y n (l.map kdM)) v w) := by
 have HCl := Lib.hid Hl
 have HE := Lib.hid (show L ++ Pr.form 6 t y n (l.map kdM) = L ++ [sgn Ps.kLeft] ++ sep (sepS Ps.kSemi) (l.map kdM) ++ [sgn Ps.kRight] from by
  show L ++ (sgn Ps.kLeft :: sep [sgn Ps.kSemi] (l.map kdM) ++ [sgn Ps.kRight]) = _
  first | rfl | (simp only [List.append_assoc, List.cons_append, List.nil_append, List.append_nil]; done) | (simp only [List.append_assoc, List.cons_append, List.nil_append, List.append_nil]; rfl))
 have HN := Lib.hid (show (L ++ [sgn Ps.kLeft] ++ sep (sepS Ps.kSemi) (l.map kdM) ++ [sgn Ps.kRight]).length ≤ 1000000000 by rw [← HE.out, List.length_append]; exact hn)
 obtain ⟨W1, HW1, HK1, HB1, HO, HS1, HD1, HR1, hcap, y0, y1, y2, y3, y4, y5⟩ := pm_prep 6 t y f n h hk (by simp)
 unfold maxLen at hcap
 clear h hk hn Hl
 go_enter Tryz.func63, Tryz.ntmps63
 go_wp2_with (rw [HW1.out])
 refine wp_region_held_drew (S := (fun W => W.cell? ⟨w.heap.size, 0, none⟩ = some (.int .i64 6) ∧ W.cell? ⟨w.heap.size, 1, none⟩ = some (.string t) ∧ W.cell? ⟨w.heap.size, 2, none⟩ = some (.string y) ∧ W.cell? ⟨w.heap.size, 3, none⟩ = some (.string f) ∧ W.cell? ⟨w.heap.size, 4, none⟩ = some (.int .i64 n) ∧ W.cell? ⟨w.heap.size, 5, none⟩ = some (.slice ad l.length ck))) (by kernel_rfl) ⟨((Lib.hid (HR1.out.trans (PrR.of_kept (Kept.refl _).drew _))).out.blk HB1.out HO.out.1 HO.out.2).cell 0, ((Lib.hid (HR1.out.trans (PrR.of_kept (Kept.refl _).drew _))).out.blk HB1.out HO.out.1 HO.out.2).cell 1, ((Lib.hid (HR1.out.trans (PrR.of_kept (Kept.refl _).drew _))).out.blk HB1.out HO.out.1 HO.out.2).cell 2, ((Lib.hid (HR1.out.trans (PrR.of_kept (Kept.refl _).drew _))).out.blk HB1.out HO.out.1 HO.out.2).cell 3, ((Lib.hid (HR1.out.trans (PrR.of_kept (Kept.refl _).drew _))).out.blk HB1.out HO.out.1 HO.out.2).cell 4, ((Lib.hid (HR1.out.trans (PrR.of_kept (Kept.refl _).drew _))).out.blk HB1.out HO.out.1 HO.out.2).cell 5⟩ (fun hHeld0 => ?_)
 refine wpAnyH_take (i := 0) (v := ?_) rfl (by kernel_rfl) (by kernel_rfl) (by kernel_rfl) (fun _ _ _ h => h) (Or.inl ⟨by kernel_rfl, ?_⟩) (by assumption) ?_
 rotate_left
 ·intro w hSw; (try dsimp only at hSw); go_simp; (try with_reducible rfl)
 (try simp only [Act.put, List.getElem_toArray, List.getElem_cons_zero, List.getElem_cons_succ, List.setIfInBounds_toArray, List.set_cons_zero, List.set_cons_succ])
 refine wpAnyH_take (i := 2) (v := ?_) rfl (by kernel_rfl) (by kernel_rfl) (by kernel_rfl) (fun _ _ _ h => h) (Or.inl ⟨by kernel_rfl, ?_⟩) (by assumption) ?_
 rotate_left
 ·intro w hSw; (try dsimp only at hSw); go_simp; (try with_reducible rfl)
 (try simp only [Act.put, List.getElem_toArray, List.getElem_cons_zero, List.getElem_cons_succ, List.setIfInBounds_toArray, List.set_cons_zero, List.set_cons_succ])
 refine wpAnyH_take (i := 3) (v := ?_) rfl (by kernel_rfl) (by kernel_rfl) (by kernel_rfl) (fun _ _ _ h => h) (Or.inl ⟨by kernel_rfl, ?_⟩) (by assumption) ?_
 rotate_left
 ·intro w hSw; (try dsimp only at hSw); go_simp; (try with_reducible rfl)
 (try simp only [Act.put, List.getElem_toArray, List.getElem_cons_zero, List.getElem_cons_succ, List.setIfInBounds_toArray, List.set_cons_zero, List.set_cons_succ])
 refine wpAnyH_ready (rs := [1]) (by kernel_rfl) (by simp) ?_
 refine AllReadyH.cons rfl (fun K hK => ?_) AllReadyH.nil
 go_simp
 refine (psign_c Ps.kLeft HS1.out.drew (by have := HN.out; simp only [List.length_append, List.length_cons, List.length_nil] at this ⊢; omega)).mono ?_
 rintro e w2 ⟨rfl, v2, hs, hr⟩
 have HR2 := Lib.hid ((HR1.out.trans (PrR.of_kept (Kept.refl _).drew _)).trans hr)
 have HS2 := Lib.hid hs
 clear hs hr
 refine hK.out _ _ ⟨(HR2.out.blk HB1.out HO.out.1 HO.out.2).cell 0, (HR2.out.blk HB1.out HO.out.1 HO.out.2).cell 1, (HR2.out.blk HB1.out HO.out.1 HO.out.2).cell 2, (HR2.out.blk HB1.out HO.out.1 HO.out.2).cell 3, (HR2.out.blk HB1.out HO.out.1 HO.out.2).cell 4, (HR2.out.blk HB1.out HO.out.1 HO.out.2).cell 5⟩ (fun hHeld1 => ?_)
 clear hK K
 (try simp only [Act.put, List.getElem_toArray, List.getElem_cons_zero, List.getElem_cons_succ, List.setIfInBounds_toArray, List.set_cons_zero, List.set_cons_succ])
 clear hHeld0
 refine wpAnyH_ready (rs := [4]) (by kernel_rfl) (by simp) ?_
 refine AllReadyH.cons rfl (fun K hK => ?_) AllReadyH.nil
 go_simp
 refine (pnodes_c g mb Ps.kSemi _ _ _ _ _ _ HCl.out HS2.out (HR2.out.kids HS1.out HD1.out) (by have := HN.out; simp only [List.length_append, List.length_cons, List.length_nil] at this ⊢; omega)).mono ?_
 rintro e w3 ⟨rfl, v3, hs, hr⟩
 have HR3 := Lib.hid (HR2.out.trans hr)
 have HS3 := Lib.hid hs
 clear hs hr
 refine hK.out _ _ ⟨(HR3.out.blk HB1.out HO.out.1 HO.out.2).cell 0, (HR3.out.blk HB1.out HO.out.1 HO.out.2).cell 1, (HR3.out.blk HB1.out HO.out.1 HO.out.2).cell 2, (HR3.out.blk HB1.out HO.out.1 HO.out.2).cell 3, (HR3.out.blk HB1.out HO.out.1 HO.out.2).cell 4, (HR3.out.blk HB1.out HO.out.1 HO.out.2).cell 5⟩ (fun hHeld2 => ?_)
 clear hK K
 (try simp only [Act.put, List.getElem_toArray, List.getElem_cons_zero, List.getElem_cons_succ, List.setIfInBounds_toArray, List.set_cons_zero, List.set_cons_succ])
 clear hHeld1
 refine wpAnyH_ready (rs := [5]) (by kernel_rfl) (by simp) ?_
 refine AllReadyH.cons rfl (fun K hK => ?_) AllReadyH.nil
 go_simp
 refine (psign_c Ps.kRight HS3.out (by have := HN.out; simp only [List.length_append, List.length_cons, List.length_nil] at this ⊢; omega)).mono ?_
 rintro e w4 ⟨rfl, v4, hs, hr⟩
 have HR4 := Lib.hid (HR3.out.trans hr)
 have HS4 := Lib.hid hs
 clear hs hr
 refine hK.out _ _ ⟨(HR4.out.blk HB1.out HO.out.1 HO.out.2).cell 0, (HR4.out.blk HB1.out HO.out.1 HO.out.2).cell 1, (HR4.out.blk HB1.out HO.out.1 HO.out.2).cell 2, (HR4.out.blk HB1.out HO.out.1 HO.out.2).cell 3, (HR4.out.blk HB1.out HO.out.1 HO.out.2).cell 4, (HR4.out.blk HB1.out HO.out.1 HO.out.2).cell 5⟩ (fun hHeld3 => ?_)
 clear hK K
 (try simp only [Act.put, List.getElem_toArray, List.getElem_cons_zero, List.getElem_cons_succ, List.setIfInBounds_toArray, List.set_cons_zero, List.set_cons_succ])
 clear hHeld2
 refine wpAnyH_take (i := 6) (v := ?_) rfl (by kernel_rfl) (by kernel_rfl) (by kernel_rfl) (fun _ _ _ h => h) (Or.inl ⟨by kernel_rfl, ?_⟩) (by assumption) ?_
 rotate_left
 ·intro w hSw; (try dsimp only at hSw); go_simp; (try with_reducible rfl)
 (try simp only [Act.put, List.getElem_toArray, List.getElem_cons_zero, List.getElem_cons_succ, List.setIfInBounds_toArray, List.set_cons_zero, List.set_cons_succ])
 refine wpAnyH_done (by kernel_rfl) ?_ _
 clear hHeld3
 go_wp2_with fail
 go_ret
 exact ⟨rfl, _, by rw [HE.out]; exact HS4.out, (PrR.of_kept HK1.out v).trans HR4.out⟩
set_option maxHeartbeats 4000000 in
theorem pm_super (g mb : Nat) (t y f : ByteArray) (n : Int) (l : List Nd) (L : List Lx.T) (v : Value) (w : World) (ad : Option Addr) (ck : Nat) (Hl : ∀ y ∈ l, NodeC g mb y) (h : PrS g mb L v w) (hk : KidsD (fun k => k < mb) w (.slice ad l.length ck) l)
  (hn : L.length + (Pr.form 20 t y n (l.map kdM)).length ≤ 1000000000) :
  Calls Tryz.prog 77 #[.pointer (some ⟨g, 0, none⟩), .agg #[.int .i64 20, .string t, .string y, .string f, .int .i64 n, .slice ad l.length ck]] w (PrPost g mb (L ++ Pr.form 20 t y n (l.map kdM)) v w) := by
 have HCl := Lib.hid Hl
 have HE := Lib.hid (show L ++ Pr.form 20 t y n (l.map kdM) = L ++ [key ⟨#[115, 117, 112, 101, 114]⟩] ++ [sgn Ps.kDot] ++ [nam t] ++ brk (l.map kdM) from by
  show L ++ (key ⟨#[115, 117, 112, 101, 114]⟩ :: sgn Ps.kDot :: nam t :: brk (l.map kdM)) = _
  first | rfl | (simp only [List.append_assoc, List.cons_append, List.nil_append, List.append_nil]; done) | (simp only [List.append_assoc, List.cons_append, List.nil_append, List.append_nil]; rfl))
 have HN := Lib.hid (show (L ++ [key ⟨#[115, 117, 112, 101, 114]⟩] ++ [sgn Ps.kDot] ++ [nam t] ++ brk (l.map kdM)).length ≤ 1000000000 by rw [← HE.out, List.length_append]; exact hn)
 obtain ⟨W1, HW1, HK1, HB1, HO, HS1, HD1, HR1, hcap, y0, y1, y2, y3, y4, y5⟩ := pm_prep 20 t y f n h hk (by simp)
 unfold maxLen at hcap
 clear h hk hn Hl
 go_enter Tryz.func77, Tryz.ntmps77
 go_wp2_with (rw [HW1.out])
 refine wp_region_held_drew (S := (fun W => W.cell? ⟨w.heap.size, 0, none⟩ = some (.int .i64 20) ∧ W.cell? ⟨w.heap.size, 1, none⟩ = some (.string t) ∧ W.cell? ⟨w.heap.size, 2, none⟩ = some (.string y) ∧ W.cell? ⟨w.heap.size, 3, none⟩ = some (.string f) ∧ W.cell? ⟨w.heap.size, 4, none⟩ = some (.int .i64 n) ∧ W.cell? ⟨w.heap.size, 5, none⟩ = some (.slice ad l.length ck))) (by kernel_rfl) ⟨((Lib.hid (HR1.out.trans (PrR.of_kept (Kept.refl _).drew _))).out.blk HB1.out HO.out.1 HO.out.2).cell 0, ((Lib.hid (HR1.out.trans (PrR.of_kept (Kept.refl _).drew _))).out.blk HB1.out HO.out.1 HO.out.2).cell 1, ((Lib.hid (HR1.out.trans (PrR.of_kept (Kept.refl _).drew _))).out.blk HB1.out HO.out.1 HO.out.2).cell 2, ((Lib.hid (HR1.out.trans (PrR.of_kept (Kept.refl _).drew _))).out.blk HB1.out HO.out.1 HO.out.2).cell 3, ((Lib.hid (HR1.out.trans (PrR.of_kept (Kept.refl _).drew _))).out.blk HB1.out HO.out.1 HO.out.2).cell 4, ((Lib.hid (HR1.out.trans (PrR.of_kept (Kept.refl _).drew _))).out.blk HB1.out HO.out.1 HO.out.2).cell 5⟩ (fun hHeld0 => ?_)
 refine wpAnyH_take (i := 0) (v := ?_) rfl (by kernel_rfl) (by kernel_rfl) (by kernel_rfl) (fun _ _ _ h => h) (Or.inl ⟨by kernel_rfl, ?_⟩) (by assumption) ?_
 rotate_left
 ·intro w hSw; (try dsimp only at hSw); go_simp; (try with_reducible rfl)
 (try simp only [Act.put, List.getElem_toArray, List.getElem_cons_zero, List.getElem_cons_succ, List.setIfInBounds_toArray, List.set_cons_zero, List.set_cons_succ])
 refine wpAnyH_take (i := 3) (v := ?_) rfl (by kernel_rfl) (by kernel_rfl) (by kernel_rfl) (fun _ _ _ h => h) (Or.inl ⟨by kernel_rfl, ?_⟩) (by assumption) ?_
 rotate_left
 ·intro w hSw; (try dsimp only at hSw); go_simp; (try with_reducible rfl)
 (try simp only [Act.put, List.getElem_toArray, List.getElem_cons_zero, List.getElem_cons_succ, List.setIfInBounds_toArray, List.set_cons_zero, List.set_cons_succ])
 refine wpAnyH_take (i := 4) (v := ?_) rfl (by kernel_rfl) (by kernel_rfl) (by kernel_rfl) (fun _ _ _ h => h) (Or.inl ⟨by kernel_rfl, ?_⟩) (by assumption) ?_
 rotate_left
 ·intro w hSw; (try dsimp only at hSw); go_simp; (try with_reducible rfl)
 (try simp only [Act.put, List.getElem_toArray, List.getElem_cons_zero, List.getElem_cons_succ, List.setIfInBounds_toArray, List.set_cons_zero, List.set_cons_succ])
 refine wpAnyH_take (i := 6) (v := ?_) rfl (by kernel_rfl) (by kernel_rfl) (by kernel_rfl) (fun _ _ _ h => h) (Or.inl ⟨by kernel_rfl, ?_⟩) (by assumption) ?_
 rotate_left
 ·intro w hSw; (try dsimp only at hSw); go_simp; (try with_reducible rfl)
 (try simp only [Act.put, List.getElem_toArray, List.getElem_cons_zero, List.getElem_cons_succ, List.setIfInBounds_toArray, List.set_cons_zero, List.set_cons_succ])
 refine wpAnyH_take (i := 7) (v := ?_) rfl (by kernel_rfl) (by kernel_rfl) (by kernel_rfl) (fun _ _ _ h => h) (Or.inl ⟨by kernel_rfl, ?_⟩) (by assumption) ?_
 rotate_left
 ·intro w hSw; (try dsimp only at hSw); go_simp; (try with_reducible rfl)
 (try simp only [Act.put, List.getElem_toArray, List.getElem_cons_zero, List.getElem_cons_succ, List.setIfInBounds_toArray, List.set_cons_zero, List.set_cons_succ])
 refine wpAnyH_ready (rs := [1]) (by kernel_rfl) (by simp) ?_
 refine AllReadyH.cons rfl (fun K hK => ?_) AllReadyH.nil
 go_simp
 refine (pkey_c ⟨#[115, 117, 112, 101, 114]⟩ HS1.out.drew (by have := HN.out; simp only [List.length_append, List.length_cons, List.length_nil] at this ⊢; omega)).mono ?_
 rintro e w2 ⟨rfl, v2, hs, hr⟩
 have HR2 := Lib.hid ((HR1.out.trans (PrR.of_kept (Kept.refl _).drew _)).trans hr)
 have HS2 := Lib.hid hs
 clear hs hr
 refine hK.out _ _ ⟨(HR2.out.blk HB1.out HO.out.1 HO.out.2).cell 0, (HR2.out.blk HB1.out HO.out.1 HO.out.2).cell 1, (HR2.out.blk HB1.out HO.out.1 HO.out.2).cell 2, (HR2.out.blk HB1.out HO.out.1 HO.out.2).cell 3, (HR2.out.blk HB1.out HO.out.1 HO.out.2).cell 4, (HR2.out.blk HB1.out HO.out.1 HO.out.2).cell 5⟩ (fun hHeld1 => ?_)
 clear hK K
 (try simp only [Act.put, List.getElem_toArray, List.getElem_cons_zero, List.getElem_cons_succ, List.setIfInBounds_toArray, List.set_cons_zero, List.set_cons_succ])
 clear hHeld0
 refine wpAnyH_ready (rs := [2]) (by kernel_rfl) (by simp) ?_
 refine AllReadyH.cons rfl (fun K hK => ?_) AllReadyH.nil
 go_simp
 refine (psign_c Ps.kDot HS2.out (by have := HN.out; simp only [List.length_append, List.length_cons, List.length_nil] at this ⊢; omega)).mono ?_
 rintro e w3 ⟨rfl, v3, hs, hr⟩
 have HR3 := Lib.hid (HR2.out.trans hr)
 have HS3 := Lib.hid hs
 clear hs hr
 refine hK.out _ _ ⟨(HR3.out.blk HB1.out HO.out.1 HO.out.2).cell 0, (HR3.out.blk HB1.out HO.out.1 HO.out.2).cell 1, (HR3.out.blk HB1.out HO.out.1 HO.out.2).cell 2, (HR3.out.blk HB1.out HO.out.1 HO.out.2).cell 3, (HR3.out.blk HB1.out HO.out.1 HO.out.2).cell 4, (HR3.out.blk HB1.out HO.out.1 HO.out.2).cell 5⟩ (fun hHeld2 => ?_)
 clear hK K
 (try simp only [Act.put, List.getElem_toArray, List.getElem_cons_zero, List.getElem_cons_succ, List.setIfInBounds_toArray, List.set_cons_zero, List.set_cons_succ])
 clear hHeld1
 refine wpAnyH_ready (rs := [5]) (by kernel_rfl) (by simp) ?_
 refine AllReadyH.cons rfl (fun K hK => ?_) AllReadyH.nil
 go_simp
 refine (pname_c t HS3.out (by have := HN.out; simp only [List.length_append, List.length_cons, List.length_nil] at this ⊢; omega)).mono ?_
 rintro e w4 ⟨rfl, v4, hs, hr⟩
 have HR4 := Lib.hid (HR3.out.trans hr)
 have HS4 := Lib.hid hs
 clear hs hr
 refine hK.out _ _ ⟨(HR4.out.blk HB1.out HO.out.1 HO.out.2).cell 0, (HR4.out.blk HB1.out HO.out.1 HO.out.2).cell 1, (HR4.out.blk HB1.out HO.out.1 HO.out.2).cell 2, (HR4.out.blk HB1.out HO.out.1 HO.out.2).cell 3, (HR4.out.blk HB1.out HO.out.1 HO.out.2).cell 4, (HR4.out.blk HB1.out HO.out.1 HO.out.2).cell 5⟩ (fun hHeld3 => ?_)
 clear hK K
 (try simp only [Act.put, List.getElem_toArray, List.getElem_cons_zero, List.getElem_cons_succ, List.setIfInBounds_toArray, List.set_cons_zero, List.set_cons_succ])
 clear hHeld2
 refine wpAnyH_ready (rs := [8]) (by kernel_rfl) (by simp) ?_
 refine AllReadyH.cons rfl (fun K hK => ?_) AllReadyH.nil
 go_simp
 refine (pbrackets_cP g mb l _ _ _ _ _ HCl.out HS4.out (HR4.out.kids HS1.out HD1.out) (by have := HN.out; simp only [List.length_append, List.length_cons, List.length_nil] at this ⊢; omega)).mono ?_
 rintro e w5 ⟨rfl, v5, hs, hr⟩
 have HR5 := Lib.hid (HR4.out.trans hr)
 have HS5 := Lib.hid hs
 clear hs hr
 refine hK.out _ _ ⟨(HR5.out.blk HB1.out HO.out.1 HO.out.2).cell 0, (HR5.out.blk HB1.out HO.out.1 HO.out.2).cell 1, (HR5.out.blk HB1.out HO.out.1 HO.out.2).cell 2, (HR5.out.blk HB1.out HO.out.1 HO.out.2).cell 3, (HR5.out.blk HB1.out HO.out.1 HO.out.2).cell 4, (HR5.out.blk HB1.out HO.out.1 HO.out.2).cell 5⟩ (fun hHeld4 => ?_)
 clear hK K
 (try simp only [Act.put, List.getElem_toArray, List.getElem_cons_zero, List.getElem_cons_succ, List.setIfInBounds_toArray, List.set_cons_zero, List.set_cons_succ])
 clear hHeld3
 refine wpAnyH_take (i := 9) (v := ?_) rfl (by kernel_rfl) (by kernel_rfl) (by kernel_rfl) (fun _ _ _ h => h) (Or.inl ⟨by kernel_rfl, ?_⟩) (by assumption) ?_
 rotate_left
 ·intro w hSw; (try dsimp only at hSw); go_simp; (try with_reducible rfl)
 (try simp only [Act.put, List.getElem_toArray, List.getElem_cons_zero, List.getElem_cons_succ, List.setIfInBounds_toArray, List.set_cons_zero, List.set_cons_succ])
 refine wpAnyH_done (by kernel_rfl) ?_ _
 clear hHeld4
 go_wp2_with fail
 go_ret
 exact ⟨rfl, _, by rw [HE.out]; exact HS5.out, (PrR.of_kept HK1.out v).trans HR5.out⟩
set_option maxHeartbeats 4000000 in
theorem pm_object (g mb : Nat) (t y f : ByteArray) (n : Int) (l : List Nd) (L : List Lx.T) (v : Value) (w : World) (ad : Option Addr) (ck : Nat) (Hl : ∀ y ∈ l, NodeC g mb y) (h : PrS g mb L v w) (hk : KidsD (fun k => k < mb) w (.slice ad l.length ck) l)
  (hn : L.length + (Pr.form 21 t y n (l.map kdM)).length ≤ 1000000000) :
  Calls Tryz.prog 78 #[.pointer (some ⟨g, 0, none⟩), .agg #[.int .i64 21, .string t, .string y, .string f, .int .i64 n, .slice ad l.length ck]] w (PrPost g mb (L ++ Pr.form 21 t y n (l.map kdM)) v w) := by
 have HCl := Lib.hid Hl
 have HE := Lib.hid (show L ++ Pr.form 21 t y n (l.map kdM) = L ++ [key ⟨#[110, 101, 119]⟩] ++ [typT y] ++ brk (l.map kdM) from by
  show L ++ (key ⟨#[110, 101, 119]⟩ :: typT y :: brk (l.map kdM)) = _
  first | rfl | (simp only [List.append_assoc, List.cons_append, List.nil_append, List.append_nil]; done) | (simp only [List.append_assoc, List.cons_append, List.nil_append, List.append_nil]; rfl))
 have HN := Lib.hid (show (L ++ [key ⟨#[110, 101, 119]⟩] ++ [typT y] ++ brk (l.map kdM)).length ≤ 1000000000 by rw [← HE.out, List.length_append]; exact hn)
 obtain ⟨W1, HW1, HK1, HB1, HO, HS1, HD1, HR1, hcap, y0, y1, y2, y3, y4, y5⟩ := pm_prep 21 t y f n h hk (by simp)
 unfold maxLen at hcap
 clear h hk hn Hl
 go_enter Tryz.func78, Tryz.ntmps78
 go_wp2_with (rw [HW1.out])
 refine wp_region_held_drew (S := (fun W => W.cell? ⟨w.heap.size, 0, none⟩ = some (.int .i64 21) ∧ W.cell? ⟨w.heap.size, 1, none⟩ = some (.string t) ∧ W.cell? ⟨w.heap.size, 2, none⟩ = some (.string y) ∧ W.cell? ⟨w.heap.size, 3, none⟩ = some (.string f) ∧ W.cell? ⟨w.heap.size, 4, none⟩ = some (.int .i64 n) ∧ W.cell? ⟨w.heap.size, 5, none⟩ = some (.slice ad l.length ck))) (by kernel_rfl) ⟨((Lib.hid (HR1.out.trans (PrR.of_kept (Kept.refl _).drew _))).out.blk HB1.out HO.out.1 HO.out.2).cell 0, ((Lib.hid (HR1.out.trans (PrR.of_kept (Kept.refl _).drew _))).out.blk HB1.out HO.out.1 HO.out.2).cell 1, ((Lib.hid (HR1.out.trans (PrR.of_kept (Kept.refl _).drew _))).out.blk HB1.out HO.out.1 HO.out.2).cell 2, ((Lib.hid (HR1.out.trans (PrR.of_kept (Kept.refl _).drew _))).out.blk HB1.out HO.out.1 HO.out.2).cell 3, ((Lib.hid (HR1.out.trans (PrR.of_kept (Kept.refl _).drew _))).out.blk HB1.out HO.out.1 HO.out.2).cell 4, ((Lib.hid (HR1.out.trans (PrR.of_kept (Kept.refl _).drew _))).out.blk HB1.out HO.out.1 HO.out.2).cell 5⟩ (fun hHeld0 => ?_)
 refine wpAnyH_take (i := 0) (v := ?_) rfl (by kernel_rfl) (by kernel_rfl) (by kernel_rfl) (fun _ _ _ h => h) (Or.inl ⟨by kernel_rfl, ?_⟩) (by assumption) ?_
 rotate_left
 ·intro w hSw; (try dsimp only at hSw); go_simp; (try with_reducible rfl)
 (try simp only [Act.put, List.getElem_toArray, List.getElem_cons_zero, List.getElem_cons_succ, List.setIfInBounds_toArray, List.set_cons_zero, List.set_cons_succ])
 refine wpAnyH_take (i := 2) (v := ?_) rfl (by kernel_rfl) (by kernel_rfl) (by kernel_rfl) (fun _ _ _ h => h) (Or.inl ⟨by kernel_rfl, ?_⟩) (by assumption) ?_
 rotate_left
 ·intro w hSw; (try dsimp only at hSw); go_simp; (try with_reducible rfl)
 (try simp only [Act.put, List.getElem_toArray, List.getElem_cons_zero, List.getElem_cons_succ, List.setIfInBounds_toArray, List.set_cons_zero, List.set_cons_succ])
 refine wpAnyH_take (i := 3) (v := ?_) rfl (by kernel_rfl) (by kernel_rfl) (by kernel_rfl) (fun _ _ _ h => h) (Or.inl ⟨by kernel_rfl, ?_⟩) (by assumption) ?_
 rotate_left
 ·intro w hSw; (try dsimp only at hSw); go_simp; (try with_reducible rfl)
 (try simp only [Act.put, List.getElem_toArray, List.getElem_cons_zero, List.getElem_cons_succ, List.setIfInBounds_toArray, List.set_cons_zero, List.set_cons_succ])
 refine wpAnyH_take (i := 5) (v := ?_) rfl (by kernel_rfl) (by kernel_rfl) (by kernel_rfl) (fun _ _ _ h => h) (Or.inl ⟨by kernel_rfl, ?_⟩) (by assumption) ?_
 rotate_left
 ·intro w hSw; (try dsimp only at hSw); go_simp; (try with_reducible rfl)
 (try simp only [Act.put, List.getElem_toArray, List.getElem_cons_zero, List.getElem_cons_succ, List.setIfInBounds_toArray, List.set_cons_zero, List.set_cons_succ])
 refine wpAnyH_take (i := 6) (v := ?_) rfl (by kernel_rfl) (by kernel_rfl) (by kernel_rfl) (fun _ _ _ h => h) (Or.inl ⟨by kernel_rfl, ?_⟩) (by assumption) ?_
 rotate_left
 ·intro w hSw; (try dsimp only at hSw); go_simp; (try with_reducible rfl)
 (try simp only [Act.put, List.getElem_toArray, List.getElem_cons_zero, List.getElem_cons_succ, List.setIfInBounds_toArray, List.set_cons_zero, List.set_cons_succ])
 refine wpAnyH_ready (rs := [1]) (by kernel_rfl) (by simp) ?_
 refine AllReadyH.cons rfl (fun K hK => ?_) AllReadyH.nil
 go_simp
 refine (pkey_c ⟨#[110, 101, 119]⟩ HS1.out.drew (by have := HN.out; simp only [List.length_append, List.length_cons, List.length_nil] at this ⊢; omega)).mono ?_
 rintro e w2 ⟨rfl, v2, hs, hr⟩
 have HR2 := Lib.hid ((HR1.out.trans (PrR.of_kept (Kept.refl _).drew _)).trans hr)
 have HS2 := Lib.hid hs
 clear hs hr
 refine hK.out _ _ ⟨(HR2.out.blk HB1.out HO.out.1 HO.out.2).cell 0, (HR2.out.blk HB1.out HO.out.1 HO.out.2).cell 1, (HR2.out.blk HB1.out HO.out.1 HO.out.2).cell 2, (HR2.out.blk HB1.out HO.out.1 HO.out.2).cell 3, (HR2.out.blk HB1.out HO.out.1 HO.out.2).cell 4, (HR2.out.blk HB1.out HO.out.1 HO.out.2).cell 5⟩ (fun hHeld1 => ?_)
 clear hK K
 (try simp only [Act.put, List.getElem_toArray, List.getElem_cons_zero, List.getElem_cons_succ, List.setIfInBounds_toArray, List.set_cons_zero, List.set_cons_succ])
 clear hHeld0
 refine wpAnyH_ready (rs := [4]) (by kernel_rfl) (by simp) ?_
 refine AllReadyH.cons rfl (fun K hK => ?_) AllReadyH.nil
 go_simp
 refine (ptyp_cP y HS2.out (by have := HN.out; simp only [List.length_append, List.length_cons, List.length_nil] at this ⊢; omega)).mono ?_
 rintro e w3 ⟨rfl, v3, hs, hr⟩
 have HR3 := Lib.hid (HR2.out.trans hr)
 have HS3 := Lib.hid hs
 clear hs hr
 refine hK.out _ _ ⟨(HR3.out.blk HB1.out HO.out.1 HO.out.2).cell 0, (HR3.out.blk HB1.out HO.out.1 HO.out.2).cell 1, (HR3.out.blk HB1.out HO.out.1 HO.out.2).cell 2, (HR3.out.blk HB1.out HO.out.1 HO.out.2).cell 3, (HR3.out.blk HB1.out HO.out.1 HO.out.2).cell 4, (HR3.out.blk HB1.out HO.out.1 HO.out.2).cell 5⟩ (fun hHeld2 => ?_)
 clear hK K
 (try simp only [Act.put, List.getElem_toArray, List.getElem_cons_zero, List.getElem_cons_succ, List.setIfInBounds_toArray, List.set_cons_zero, List.set_cons_succ])
 clear hHeld1
 refine wpAnyH_ready (rs := [7]) (by kernel_rfl) (by simp) ?_
 refine AllReadyH.cons rfl (fun K hK => ?_) AllReadyH.nil
 go_simp
 refine (pbrackets_cP g mb l _ _ _ _ _ HCl.out HS3.out (HR3.out.kids HS1.out HD1.out) (by have := HN.out; simp only [List.length_append, List.length_cons, List.length_nil] at this ⊢; omega)).mono ?_
 rintro e w4 ⟨rfl, v4, hs, hr⟩
 have HR4 := Lib.hid (HR3.out.trans hr)
 have HS4 := Lib.hid hs
 clear hs hr
 refine hK.out _ _ ⟨(HR4.out.blk HB1.out HO.out.1 HO.out.2).cell 0, (HR4.out.blk HB1.out HO.out.1 HO.out.2).cell 1, (HR4.out.blk HB1.out HO.out.1 HO.out.2).cell 2, (HR4.out.blk HB1.out HO.out.1 HO.out.2).cell 3, (HR4.out.blk HB1.out HO.out.1 HO.out.2).cell 4, (HR4.out.blk HB1.out HO.out.1 HO.out.2).cell 5⟩ (fun hHeld3 => ?_)
 clear hK K
 (try simp only [Act.put, List.getElem_toArray, List.getElem_cons_zero, List.getElem_cons_succ, List.setIfInBounds_toArray, List.set_cons_zero, List.set_cons_succ])
 clear hHeld2
 refine wpAnyH_take (i := 8) (v := ?_) rfl (by kernel_rfl) (by kernel_rfl) (by kernel_rfl) (fun _ _ _ h => h) (Or.inl ⟨by kernel_rfl, ?_⟩) (by assumption) ?_
 rotate_left
 ·intro w hSw; (try dsimp only at hSw); go_simp; (try with_reducible rfl)
 (try simp only [Act.put, List.getElem_toArray, List.getElem_cons_zero, List.getElem_cons_succ, List.setIfInBounds_toArray, List.set_cons_zero, List.set_cons_succ])
 refine wpAnyH_done (by kernel_rfl) ?_ _
 clear hHeld3
 go_wp2_with fail
 go_ret
 exact ⟨rfl, _, by rw [HE.out]; exact HS4.out, (PrR.of_kept HK1.out v).trans HR4.out⟩
set_option maxHeartbeats 4000000 in
theorem pm_loop (g mb : Nat) (t y f : ByteArray) (n : Int) (l : List Nd) (L : List Lx.T) (v : Value) (w : World) (ad : Option Addr) (ck : Nat) (Hl : ∀ y ∈ l, NodeC g mb y) (h : PrS g mb L v w) (hk : KidsD (fun k => k < mb) w (.slice ad l.length ck) l)
  (hn : L.length + (Pr.form 23 t y n (l.map kdM)).length ≤ 1000000000) :
  Calls Tryz.prog 80 #[.pointer (some ⟨g, 0, none⟩), .agg #[.int .i64 23, .string t, .string y, .string f, .int .i64 n, .slice ad l.length ck]] w (PrPost g mb (L ++ Pr.form 23 t y n (l.map kdM)) v w) := by
 have HCl := Lib.hid Hl
 have HE := Lib.hid (show L ++ Pr.form 23 t y n (l.map kdM) = L ++ [key ⟨#[119, 104, 105, 108, 101]⟩] ++ sep (sepS Ps.e0) (l.map kdM) from by
  show L ++ (key ⟨#[119, 104, 105, 108, 101]⟩ :: sep [] (l.map kdM)) = _
  first | rfl | (simp only [List.append_assoc, List.cons_append, List.nil_append, List.append_nil]; done) | (simp only [List.append_assoc, List.cons_append, List.nil_append, List.append_nil]; rfl))
 have HN := Lib.hid (show (L ++ [key ⟨#[119, 104, 105, 108, 101]⟩] ++ sep (sepS Ps.e0) (l.map kdM)).length ≤ 1000000000 by rw [← HE.out, List.length_append]; exact hn)
 obtain ⟨W1, HW1, HK1, HB1, HO, HS1, HD1, HR1, hcap, y0, y1, y2, y3, y4, y5⟩ := pm_prep 23 t y f n h hk (by simp)
 unfold maxLen at hcap
 clear h hk hn Hl
 go_enter Tryz.func80, Tryz.ntmps80
 go_wp2_with (rw [HW1.out])
 refine wp_region_held_drew (S := (fun W => W.cell? ⟨w.heap.size, 0, none⟩ = some (.int .i64 23) ∧ W.cell? ⟨w.heap.size, 1, none⟩ = some (.string t) ∧ W.cell? ⟨w.heap.size, 2, none⟩ = some (.string y) ∧ W.cell? ⟨w.heap.size, 3, none⟩ = some (.string f) ∧ W.cell? ⟨w.heap.size, 4, none⟩ = some (.int .i64 n) ∧ W.cell? ⟨w.heap.size, 5, none⟩ = some (.slice ad l.length ck))) (by kernel_rfl) ⟨((Lib.hid (HR1.out.trans (PrR.of_kept (Kept.refl _).drew _))).out.blk HB1.out HO.out.1 HO.out.2).cell 0, ((Lib.hid (HR1.out.trans (PrR.of_kept (Kept.refl _).drew _))).out.blk HB1.out HO.out.1 HO.out.2).cell 1, ((Lib.hid (HR1.out.trans (PrR.of_kept (Kept.refl _).drew _))).out.blk HB1.out HO.out.1 HO.out.2).cell 2, ((Lib.hid (HR1.out.trans (PrR.of_kept (Kept.refl _).drew _))).out.blk HB1.out HO.out.1 HO.out.2).cell 3, ((Lib.hid (HR1.out.trans (PrR.of_kept (Kept.refl _).drew _))).out.blk HB1.out HO.out.1 HO.out.2).cell 4, ((Lib.hid (HR1.out.trans (PrR.of_kept (Kept.refl _).drew _))).out.blk HB1.out HO.out.1 HO.out.2).cell 5⟩ (fun hHeld0 => ?_)
 refine wpAnyH_take (i := 0) (v := ?_) rfl (by kernel_rfl) (by kernel_rfl) (by kernel_rfl) (fun _ _ _ h => h) (Or.inl ⟨by kernel_rfl, ?_⟩) (by assumption) ?_
 rotate_left
 ·intro w hSw; (try dsimp only at hSw); go_simp; (try with_reducible rfl)
 (try simp only [Act.put, List.getElem_toArray, List.getElem_cons_zero, List.getElem_cons_succ, List.setIfInBounds_toArray, List.set_cons_zero, List.set_cons_succ])
 refine wpAnyH_take (i := 2) (v := ?_) rfl (by kernel_rfl) (by kernel_rfl) (by kernel_rfl) (fun _ _ _ h => h) (Or.inl ⟨by kernel_rfl, ?_⟩) (by assumption) ?_
 rotate_left
 ·intro w hSw; (try dsimp only at hSw); go_simp; (try with_reducible rfl)
 (try simp only [Act.put, List.getElem_toArray, List.getElem_cons_zero, List.getElem_cons_succ, List.setIfInBounds_toArray, List.set_cons_zero, List.set_cons_succ])
 refine wpAnyH_take (i := 3) (v := ?_) rfl (by kernel_rfl) (by kernel_rfl) (by kernel_rfl) (fun _ _ _ h => h) (Or.inl ⟨by kernel_rfl, ?_⟩) (by assumption) ?_
 rotate_left
 ·intro w hSw; (try dsimp only at hSw); go_simp; (try with_reducible rfl)
 (try simp only [Act.put, List.getElem_toArray, List.getElem_cons_zero, List.getElem_cons_succ, List.setIfInBounds_toArray, List.set_cons_zero, List.set_cons_succ])
 refine wpAnyH_ready (rs := [1]) (by kernel_rfl) (by simp) ?_
 refine AllReadyH.cons rfl (fun K hK => ?_) AllReadyH.nil
 go_simp
 refine (pkey_c ⟨#[119, 104, 105, 108, 101]⟩ HS1.out.drew (by have := HN.out; simp only [List.length_append, List.length_cons, List.length_nil] at this ⊢; omega)).mono ?_
 rintro e w2 ⟨rfl, v2, hs, hr⟩
 have HR2 := Lib.hid ((HR1.out.trans (PrR.of_kept (Kept.refl _).drew _)).trans hr)
 have HS2 := Lib.hid hs
 clear hs hr
 refine hK.out _ _ ⟨(HR2.out.blk HB1.out HO.out.1 HO.out.2).cell 0, (HR2.out.blk HB1.out HO.out.1 HO.out.2).cell 1, (HR2.out.blk HB1.out HO.out.1 HO.out.2).cell 2, (HR2.out.blk HB1.out HO.out.1 HO.out.2).cell 3, (HR2.out.blk HB1.out HO.out.1 HO.out.2).cell 4, (HR2.out.blk HB1.out HO.out.1 HO.out.2).cell 5⟩ (fun hHeld1 => ?_)
 clear hK K
 (try simp only [Act.put, List.getElem_toArray, List.getElem_cons_zero, List.getElem_cons_succ, List.setIfInBounds_toArray, List.set_cons_zero, List.set_cons_succ])
 clear hHeld0
 refine wpAnyH_ready (rs := [4]) (by kernel_rfl) (by simp) ?_
 refine AllReadyH.cons rfl (fun K hK => ?_) AllReadyH.nil
 go_simp
 refine (pnodes_c g mb Ps.e0 _ _ _ _ _ _ HCl.out HS2.out (HR2.out.kids HS1.out HD1.out) (by have := HN.out; simp only [List.length_append, List.length_cons, List.length_nil] at this ⊢; omega)).mono ?_
 rintro e w3 ⟨rfl, v3, hs, hr⟩
 have HR3 := Lib.hid (HR2.out.trans hr)
 have HS3 := Lib.hid hs
 clear hs hr
 refine hK.out _ _ ⟨(HR3.out.blk HB1.out HO.out.1 HO.out.2).cell 0, (HR3.out.blk HB1.out HO.out.1 HO.out.2).cell 1, (HR3.out.blk HB1.out HO.out.1 HO.out.2).cell 2, (HR3.out.blk HB1.out HO.out.1 HO.out.2).cell 3, (HR3.out.blk HB1.out HO.out.1 HO.out.2).cell 4, (HR3.out.blk HB1.out HO.out.1 HO.out.2).cell 5⟩ (fun hHeld2 => ?_)
 clear hK K
 (try simp only [Act.put, List.getElem_toArray, List.getElem_cons_zero, List.getElem_cons_succ, List.setIfInBounds_toArray, List.set_cons_zero, List.set_cons_succ])
 clear hHeld1
 refine wpAnyH_take (i := 5) (v := ?_) rfl (by kernel_rfl) (by kernel_rfl) (by kernel_rfl) (fun _ _ _ h => h) (Or.inl ⟨by kernel_rfl, ?_⟩) (by assumption) ?_
 rotate_left
 ·intro w hSw; (try dsimp only at hSw); go_simp; (try with_reducible rfl)
 (try simp only [Act.put, List.getElem_toArray, List.getElem_cons_zero, List.getElem_cons_succ, List.setIfInBounds_toArray, List.set_cons_zero, List.set_cons_succ])
 refine wpAnyH_done (by kernel_rfl) ?_ _
 clear hHeld2
 go_wp2_with fail
 go_ret
 exact ⟨rfl, _, by rw [HE.out]; exact HS3.out, (PrR.of_kept HK1.out v).trans HR3.out⟩
set_option maxHeartbeats 4000000 in
theorem pm_print (g mb : Nat) (t y f : ByteArray) (n : Int) (l : List Nd) (L : List Lx.T) (v : Value) (w : World) (ad : Option Addr) (ck : Nat) (Hl : ∀ y ∈ l, NodeC g mb y) (h : PrS g mb L v w) (hk : KidsD (fun k => k < mb) w (.slice ad l.length ck) l)
  (hn : L.length + (Pr.form 27 t y n (l.map kdM)).length ≤ 1000000000) :
  Calls Tryz.prog 84 #[.pointer (some ⟨g, 0, none⟩), .agg #[.int .i64 27, .string t, .string y, .string f, .int .i64 n, .slice ad l.length ck]] w (PrPost g mb (L ++ Pr.form 27 t y n (l.map kdM)) v w) := by
 have HCl := Lib.hid Hl
 have HE := Lib.hid (show L ++ Pr.form 27 t y n (l.map kdM) = L ++ [key ⟨#[112, 114, 105, 110, 116]⟩] ++ brk (l.map kdM) from by
  show L ++ (key ⟨#[112, 114, 105, 110, 116]⟩ :: brk (l.map kdM)) = _
  first | rfl | (simp only [List.append_assoc, List.cons_append, List.nil_append, List.append_nil]; done) | (simp only [List.append_assoc, List.cons_append, List.nil_append, List.append_nil]; rfl))
 have HN := Lib.hid (show (L ++ [key ⟨#[112, 114, 105, 110, 116]⟩] ++ brk (l.map kdM)).length ≤ 1000000000 by rw [← HE.out, List.length_append]; exact hn)
 obtain ⟨W1, HW1, HK1, HB1, HO, HS1, HD1, HR1, hcap, y0, y1, y2, y3, y4, y5⟩ := pm_prep 27 t y f n h hk (by simp)
 unfold maxLen at hcap
 clear h hk hn Hl
 go_enter Tryz.func84, Tryz.ntmps84
 go_wp2_with (rw [HW1.out])
 refine wp_region_held_drew (S := (fun W => W.cell? ⟨w.heap.size, 0, none⟩ = some (.int .i64 27) ∧ W.cell? ⟨w.heap.size, 1, none⟩ = some (.string t) ∧ W.cell? ⟨w.heap.size, 2, none⟩ = some (.string y) ∧ W.cell? ⟨w.heap.size, 3, none⟩ = some (.string f) ∧ W.cell? ⟨w.heap.size, 4, none⟩ = some (.int .i64 n) ∧ W.cell? ⟨w.heap.size, 5, none⟩ = some (.slice ad l.length ck))) (by kernel_rfl) ⟨((Lib.hid (HR1.out.trans (PrR.of_kept (Kept.refl _).drew _))).out.blk HB1.out HO.out.1 HO.out.2).cell 0, ((Lib.hid (HR1.out.trans (PrR.of_kept (Kept.refl _).drew _))).out.blk HB1.out HO.out.1 HO.out.2).cell 1, ((Lib.hid (HR1.out.trans (PrR.of_kept (Kept.refl _).drew _))).out.blk HB1.out HO.out.1 HO.out.2).cell 2, ((Lib.hid (HR1.out.trans (PrR.of_kept (Kept.refl _).drew _))).out.blk HB1.out HO.out.1 HO.out.2).cell 3, ((Lib.hid (HR1.out.trans (PrR.of_kept (Kept.refl _).drew _))).out.blk HB1.out HO.out.1 HO.out.2).cell 4, ((Lib.hid (HR1.out.trans (PrR.of_kept (Kept.refl _).drew _))).out.blk HB1.out HO.out.1 HO.out.2).cell 5⟩ (fun hHeld0 => ?_)
 refine wpAnyH_take (i := 0) (v := ?_) rfl (by kernel_rfl) (by kernel_rfl) (by kernel_rfl) (fun _ _ _ h => h) (Or.inl ⟨by kernel_rfl, ?_⟩) (by assumption) ?_
 rotate_left
 ·intro w hSw; (try dsimp only at hSw); go_simp; (try with_reducible rfl)
 (try simp only [Act.put, List.getElem_toArray, List.getElem_cons_zero, List.getElem_cons_succ, List.setIfInBounds_toArray, List.set_cons_zero, List.set_cons_succ])
 refine wpAnyH_take (i := 2) (v := ?_) rfl (by kernel_rfl) (by kernel_rfl) (by kernel_rfl) (fun _ _ _ h => h) (Or.inl ⟨by kernel_rfl, ?_⟩) (by assumption) ?_
 rotate_left
 ·intro w hSw; (try dsimp only at hSw); go_simp; (try with_reducible rfl)
 (try simp only [Act.put, List.getElem_toArray, List.getElem_cons_zero, List.getElem_cons_succ, List.setIfInBounds_toArray, List.set_cons_zero, List.set_cons_succ])
 refine wpAnyH_take (i := 3) (v := ?_) rfl (by kernel_rfl) (by kernel_rfl) (by kernel_rfl) (fun _ _ _ h => h) (Or.inl ⟨by kernel_rfl, ?_⟩) (by assumption) ?_
 rotate_left
 ·intro w hSw; (try dsimp only at hSw); go_simp; (try with_reducible rfl)
 (try simp only [Act.put, List.getElem_toArray, List.getElem_cons_zero, List.getElem_cons_succ, List.setIfInBounds_toArray, List.set_cons_zero, List.set_cons_succ])
 refine wpAnyH_ready (rs := [1]) (by kernel_rfl) (by simp) ?_
 refine AllReadyH.cons rfl (fun K hK => ?_) AllReadyH.nil
 go_simp
 refine (pkey_c ⟨#[112, 114, 105, 110, 116]⟩ HS1.out.drew (by have := HN.out; simp only [List.length_append, List.length_cons, List.length_nil] at this ⊢; omega)).mono ?_
 rintro e w2 ⟨rfl, v2, hs, hr⟩
 have HR2 := Lib.hid ((HR1.out.trans (PrR.of_kept (Kept.refl _).drew _)).trans hr)
 have HS2 := Lib.hid hs
 clear hs hr
 refine hK.out _ _ ⟨(HR2.out.blk HB1.out HO.out.1 HO.out.2).cell 0, (HR2.out.blk HB1.out HO.out.1 HO.out.2).cell 1, (HR2.out.blk HB1.out HO.out.1 HO.out.2).cell 2, (HR2.out.blk HB1.out HO.out.1 HO.out.2).cell 3, (HR2.out.blk HB1.out HO.out.1 HO.out.2).cell 4, (HR2.out.blk HB1.out HO.out.1 HO.out.2).cell 5⟩ (fun hHeld1 => ?_)
 clear hK K
 (try simp only [Act.put, List.getElem_toArray, List.getElem_cons_zero, List.getElem_cons_succ, List.setIfInBounds_toArray, List.set_cons_zero, List.set_cons_succ])
 clear hHeld0
 refine wpAnyH_ready (rs := [4]) (by kernel_rfl) (by simp) ?_
 refine AllReadyH.cons rfl (fun K hK => ?_) AllReadyH.nil
 go_simp
 refine (pbrackets_cP g mb l _ _ _ _ _ HCl.out HS2.out (HR2.out.kids HS1.out HD1.out) (by have := HN.out; simp only [List.length_append, List.length_cons, List.length_nil] at this ⊢; omega)).mono ?_
 rintro e w3 ⟨rfl, v3, hs, hr⟩
 have HR3 := Lib.hid (HR2.out.trans hr)
 have HS3 := Lib.hid hs
 clear hs hr
 refine hK.out _ _ ⟨(HR3.out.blk HB1.out HO.out.1 HO.out.2).cell 0, (HR3.out.blk HB1.out HO.out.1 HO.out.2).cell 1, (HR3.out.blk HB1.out HO.out.1 HO.out.2).cell 2, (HR3.out.blk HB1.out HO.out.1 HO.out.2).cell 3, (HR3.out.blk HB1.out HO.out.1 HO.out.2).cell 4, (HR3.out.blk HB1.out HO.out.1 HO.out.2).cell 5⟩ (fun hHeld2 => ?_)
 clear hK K
 (try simp only [Act.put, List.getElem_toArray, List.getElem_cons_zero, List.getElem_cons_succ, List.setIfInBounds_toArray, List.set_cons_zero, List.set_cons_succ])
 clear hHeld1
 refine wpAnyH_take (i := 5) (v := ?_) rfl (by kernel_rfl) (by kernel_rfl) (by kernel_rfl) (fun _ _ _ h => h) (Or.inl ⟨by kernel_rfl, ?_⟩) (by assumption) ?_
 rotate_left
 ·intro w hSw; (try dsimp only at hSw); go_simp; (try with_reducible rfl)
 (try simp only [Act.put, List.getElem_toArray, List.getElem_cons_zero, List.getElem_cons_succ, List.setIfInBounds_toArray, List.set_cons_zero, List.set_cons_succ])
 refine wpAnyH_done (by kernel_rfl) ?_ _
 clear hHeld2
 go_wp2_with fail
 go_ret
 exact ⟨rfl, _, by rw [HE.out]; exact HS3.out, (PrR.of_kept HK1.out v).trans HR3.out⟩
set_option maxHeartbeats 4000000 in
theorem pm_conversion (g mb : Nat) (t y f : ByteArray) (n : Int) (l : List Nd) (L : List Lx.T) (v : Value) (w : World) (ad : Option Addr) (ck : Nat) (Hl : ∀ y ∈ l, NodeC g mb y) (h : PrS g mb L v w) (hk : KidsD (fun k => k < mb) w (.slice ad l.length ck) l)
  (hn : L.length + (Pr.form 29 t y n (l.map kdM)).length ≤ 1000000000) :
  Calls Tryz.prog 85 #[.pointer (some ⟨g, 0, none⟩), .agg #[.int .i64 29, .string t, .string y, .string f, .int .i64 n, .slice ad l.length ck]] w (PrPost g mb (L ++ Pr.form 29 t y n (l.map kdM)) v w) := by
 have HCl := Lib.hid Hl
 have HE := Lib.hid (show L ++ Pr.form 29 t y n (l.map kdM) = L ++ [key t] ++ brk (l.map kdM) from by
  show L ++ (key t :: brk (l.map kdM)) = _
  first | rfl | (simp only [List.append_assoc, List.cons_append, List.nil_append, List.append_nil]; done) | (simp only [List.append_assoc, List.cons_append, List.nil_append, List.append_nil]; rfl))
 have HN := Lib.hid (show (L ++ [key t] ++ brk (l.map kdM)).length ≤ 1000000000 by rw [← HE.out, List.length_append]; exact hn)
 obtain ⟨W1, HW1, HK1, HB1, HO, HS1, HD1, HR1, hcap, y0, y1, y2, y3, y4, y5⟩ := pm_prep 29 t y f n h hk (by simp)
 unfold maxLen at hcap
 clear h hk hn Hl
 go_enter Tryz.func85, Tryz.ntmps85
 go_wp2_with (rw [HW1.out])
 refine wp_region_held_drew (S := (fun W => W.cell? ⟨w.heap.size, 0, none⟩ = some (.int .i64 29) ∧ W.cell? ⟨w.heap.size, 1, none⟩ = some (.string t) ∧ W.cell? ⟨w.heap.size, 2, none⟩ = some (.string y) ∧ W.cell? ⟨w.heap.size, 3, none⟩ = some (.string f) ∧ W.cell? ⟨w.heap.size, 4, none⟩ = some (.int .i64 n) ∧ W.cell? ⟨w.heap.size, 5, none⟩ = some (.slice ad l.length ck))) (by kernel_rfl) ⟨((Lib.hid (HR1.out.trans (PrR.of_kept (Kept.refl _).drew _))).out.blk HB1.out HO.out.1 HO.out.2).cell 0, ((Lib.hid (HR1.out.trans (PrR.of_kept (Kept.refl _).drew _))).out.blk HB1.out HO.out.1 HO.out.2).cell 1, ((Lib.hid (HR1.out.trans (PrR.of_kept (Kept.refl _).drew _))).out.blk HB1.out HO.out.1 HO.out.2).cell 2, ((Lib.hid (HR1.out.trans (PrR.of_kept (Kept.refl _).drew _))).out.blk HB1.out HO.out.1 HO.out.2).cell 3, ((Lib.hid (HR1.out.trans (PrR.of_kept (Kept.refl _).drew _))).out.blk HB1.out HO.out.1 HO.out.2).cell 4, ((Lib.hid (HR1.out.trans (PrR.of_kept (Kept.refl _).drew _))).out.blk HB1.out HO.out.1 HO.out.2).cell 5⟩ (fun hHeld0 => ?_)
 refine wpAnyH_take (i := 0) (v := ?_) rfl (by kernel_rfl) (by kernel_rfl) (by kernel_rfl) (fun _ _ _ h => h) (Or.inl ⟨by kernel_rfl, ?_⟩) (by assumption) ?_
 rotate_left
 ·intro w hSw; (try dsimp only at hSw); go_simp; (try with_reducible rfl)
 (try simp only [Act.put, List.getElem_toArray, List.getElem_cons_zero, List.getElem_cons_succ, List.setIfInBounds_toArray, List.set_cons_zero, List.set_cons_succ])
 refine wpAnyH_take (i := 1) (v := ?_) rfl (by kernel_rfl) (by kernel_rfl) (by kernel_rfl) (fun _ _ _ h => h) (Or.inl ⟨by kernel_rfl, ?_⟩) (by assumption) ?_
 rotate_left
 ·intro w hSw; (try dsimp only at hSw); go_simp; (try with_reducible rfl)
 (try simp only [Act.put, List.getElem_toArray, List.getElem_cons_zero, List.getElem_cons_succ, List.setIfInBounds_toArray, List.set_cons_zero, List.set_cons_succ])
 refine wpAnyH_take (i := 2) (v := ?_) rfl (by kernel_rfl) (by kernel_rfl) (by kernel_rfl) (fun _ _ _ h => h) (Or.inl ⟨by kernel_rfl, ?_⟩) (by assumption) ?_
 rotate_left
 ·intro w hSw; (try dsimp only at hSw); go_simp; (try with_reducible rfl)
 (try simp only [Act.put, List.getElem_toArray, List.getElem_cons_zero, List.getElem_cons_succ, List.setIfInBounds_toArray, List.set_cons_zero, List.set_cons_succ])
 refine wpAnyH_take (i := 4) (v := ?_) rfl (by kernel_rfl) (by kernel_rfl) (by kernel_rfl) (fun _ _ _ h => h) (Or.inl ⟨by kernel_rfl, ?_⟩) (by assumption) ?_
 rotate_left
 ·intro w hSw; (try dsimp only at hSw); go_simp; (try with_reducible rfl)
 (try simp only [Act.put, List.getElem_toArray, List.getElem_cons_zero, List.getElem_cons_succ, List.setIfInBounds_toArray, List.set_cons_zero, List.set_cons_succ])
 refine wpAnyH_take (i := 5) (v := ?_) rfl (by kernel_rfl) (by kernel_rfl) (by kernel_rfl) (fun _ _ _ h => h) (Or.inl ⟨by kernel_rfl, ?_⟩) (by assumption) ?_
 rotate_left
 ·intro w hSw; (try dsimp only at hSw); go_simp; (try with_reducible rfl)
 (try simp only [Act.put, List.getElem_toArray, List.getElem_cons_zero, List.getElem_cons_succ, List.setIfInBounds_toArray, List.set_cons_zero, List.set_cons_succ])
 refine wpAnyH_ready (rs := [3]) (by kernel_rfl) (by simp) ?_
 refine AllReadyH.cons rfl (fun K hK => ?_) AllReadyH.nil
 go_simp
 refine (pkey_c t HS1.out.drew (by have := HN.out; simp only [List.length_append, List.length_cons, List.length_nil] at this ⊢; omega)).mono ?_
 rintro e w2 ⟨rfl, v2, hs, hr⟩
 have HR2 := Lib.hid ((HR1.out.trans (PrR.of_kept (Kept.refl _).drew _)).trans hr)
 have HS2 := Lib.hid hs
 clear hs hr
 refine hK.out _ _ ⟨(HR2.out.blk HB1.out HO.out.1 HO.out.2).cell 0, (HR2.out.blk HB1.out HO.out.1 HO.out.2).cell 1, (HR2.out.blk HB1.out HO.out.1 HO.out.2).cell 2, (HR2.out.blk HB1.out HO.out.1 HO.out.2).cell 3, (HR2.out.blk HB1.out HO.out.1 HO.out.2).cell 4, (HR2.out.blk HB1.out HO.out.1 HO.out.2).cell 5⟩ (fun hHeld1 => ?_)
 clear hK K
 (try simp only [Act.put, List.getElem_toArray, List.getElem_cons_zero, List.getElem_cons_succ, List.setIfInBounds_toArray, List.set_cons_zero, List.set_cons_succ])
 clear hHeld0
 refine wpAnyH_ready (rs := [6]) (by kernel_rfl) (by simp) ?_
 refine AllReadyH.cons rfl (fun K hK => ?_) AllReadyH.nil
 go_simp
 refine (pbrackets_cP g mb l _ _ _ _ _ HCl.out HS2.out (HR2.out.kids HS1.out HD1.out) (by have := HN.out; simp only [List.length_append, List.length_cons, List.length_nil] at this ⊢; omega)).mono ?_
 rintro e w3 ⟨rfl, v3, hs, hr⟩
 have HR3 := Lib.hid (HR2.out.trans hr)
 have HS3 := Lib.hid hs
 clear hs hr
 refine hK.out _ _ ⟨(HR3.out.blk HB1.out HO.out.1 HO.out.2).cell 0, (HR3.out.blk HB1.out HO.out.1 HO.out.2).cell 1, (HR3.out.blk HB1.out HO.out.1 HO.out.2).cell 2, (HR3.out.blk HB1.out HO.out.1 HO.out.2).cell 3, (HR3.out.blk HB1.out HO.out.1 HO.out.2).cell 4, (HR3.out.blk HB1.out HO.out.1 HO.out.2).cell 5⟩ (fun hHeld2 => ?_)
 clear hK K
 (try simp only [Act.put, List.getElem_toArray, List.getElem_cons_zero, List.getElem_cons_succ, List.setIfInBounds_toArray, List.set_cons_zero, List.set_cons_succ])
 clear hHeld1
 refine wpAnyH_take (i := 7) (v := ?_) rfl (by kernel_rfl) (by kernel_rfl) (by kernel_rfl) (fun _ _ _ h => h) (Or.inl ⟨by kernel_rfl, ?_⟩) (by assumption) ?_
 rotate_left
 ·intro w hSw; (try dsimp only at hSw); go_simp; (try with_reducible rfl)
 (try simp only [Act.put, List.getElem_toArray, List.getElem_cons_zero, List.getElem_cons_succ, List.setIfInBounds_toArray, List.set_cons_zero, List.set_cons_succ])
 refine wpAnyH_done (by kernel_rfl) ?_ _
 clear hHeld2
 go_wp2_with fail
 go_ret
 exact ⟨rfl, _, by rw [HE.out]; exact HS3.out, (PrR.of_kept HK1.out v).trans HR3.out⟩
end Go.Proofs.YtfpklgffdniegaaGreatDoor
namespace Go.Proofs.YtfpklgffdniegaaGreatDoor
open Go.ChangeShapes Go.WideShapes Go.ChangeAt Go.RowKit
attribute [local go_sem] Oper.semAt_some
open Pr (key sgn nam tk toks typT ann sep brk at1)
set_option maxHeartbeats 4000000 in
theorem pm_let (g mb : Nat) (t y f : ByteArray) (n : Int) (a : Nd) (L : List Lx.T) (v : Value) (w : World) (ad : Option Addr) (ck : Nat) (Ha : NodeC g mb a) (h : PrS g mb L v w) (hk : KidsD (fun k => k < mb) w (.slice ad 1 ck) [a])
  (hn : L.length + (Pr.form 15 t y n ([a].map kdM)).length ≤ 1000000000) :
  Calls Tryz.prog 64 #[.pointer (some ⟨g, 0, none⟩), .agg #[.int .i64 15, .string t, .string y, .string f, .int .i64 n, .slice ad 1 ck]] w (PrPost g mb (L ++ Pr.form 15 t y n ([a].map kdM)) v w) := by
 have HCa := Lib.hid Ha
 have HE := Lib.hid (show L ++ Pr.form 15 t y n ([a].map kdM) = L ++ [key ⟨#[108, 101, 116]⟩] ++ [nam t] ++ ann y Ps.kAny ++ [sgn Ps.kEq] ++ toks a from by
  show L ++ (key ⟨#[108, 101, 116]⟩ :: nam t :: ann y Ps.kAny ++ sgn Ps.kEq :: toks a) = _
  first | rfl | (simp only [List.append_assoc, List.cons_append, List.nil_append, List.append_nil]; done) | (simp only [List.append_assoc, List.cons_append, List.nil_append, List.append_nil]; rfl))
 have HN := Lib.hid (show (L ++ [key ⟨#[108, 101, 116]⟩] ++ [nam t] ++ ann y Ps.kAny ++ [sgn Ps.kEq] ++ toks a).length ≤ 1000000000 by rw [← HE.out, List.length_append]; exact hn)
 obtain ⟨W1, HW1, HK1, HB1, HO, HS1, HD1, HR1, hcap, y0, y1, y2, y3, y4, y5⟩ := pm_prep 15 t y f n h hk (by simp)
 unfold maxLen at hcap
 obtain ⟨kb, ko, ead, hD⟩ := nd_base HD1.out (i := 0) (y := a) rfl
 subst ead
 obtain ⟨kda, kka, ⟨ca0, ca1, ca2, ca3, ca4, ca5⟩, hka⟩ := nd_at HD1.out (i := 0) (y := a) rfl
 simp only [Nat.zero_mul, Nat.add_zero, Nat.one_mul, Nat.reduceMul, Nat.add_assoc, Nat.reduceAdd] at ca0 ca1 ca2 ca3 ca4 ca5
 have HKa := Lib.hid hka
 clear hka
 clear h hk hn Ha
 go_enter Tryz.func64, Tryz.ntmps64
 go_wp2_with (rw [HW1.out])
 refine wp_region_held_drew (S := (fun W => W.cell? ⟨w.heap.size, 0, none⟩ = some (.int .i64 15) ∧ W.cell? ⟨w.heap.size, 1, none⟩ = some (.string t) ∧ W.cell? ⟨w.heap.size, 2, none⟩ = some (.string y) ∧ W.cell? ⟨w.heap.size, 3, none⟩ = some (.string f) ∧ W.cell? ⟨w.heap.size, 4, none⟩ = some (.int .i64 n) ∧ W.cell? ⟨w.heap.size, 5, none⟩ = some (.slice (some ⟨kb, ko, none⟩) 1 ck) ∧ W.cell? ⟨kb, ko, none⟩ = some (.int .i64 a.kind) ∧ W.cell? ⟨kb, ko + 1, none⟩ = some (.string a.text) ∧ W.cell? ⟨kb, ko + 2, none⟩ = some (.string a.typ) ∧ W.cell? ⟨kb, ko + 3, none⟩ = some (.string a.frm) ∧ W.cell? ⟨kb, ko + 4, none⟩ = some (.int .i64 a.n) ∧ W.cell? ⟨kb, ko + 5, none⟩ = some (.slice kda a.kids.length kka))) (by kernel_rfl) ⟨((Lib.hid (HR1.out.trans (PrR.of_kept (Kept.refl _).drew _))).out.blk HB1.out HO.out.1 HO.out.2).cell 0, ((Lib.hid (HR1.out.trans (PrR.of_kept (Kept.refl _).drew _))).out.blk HB1.out HO.out.1 HO.out.2).cell 1, ((Lib.hid (HR1.out.trans (PrR.of_kept (Kept.refl _).drew _))).out.blk HB1.out HO.out.1 HO.out.2).cell 2, ((Lib.hid (HR1.out.trans (PrR.of_kept (Kept.refl _).drew _))).out.blk HB1.out HO.out.1 HO.out.2).cell 3, ((Lib.hid (HR1.out.trans (PrR.of_kept (Kept.refl _).drew _))).out.blk HB1.out HO.out.1 HO.out.2).cell 4, ((Lib.hid (HR1.out.trans (PrR.of_kept (Kept.refl _).drew _))).out.blk HB1.out HO.out.1 HO.out.2).cell 5, (Lib.hid (HR1.out.trans (PrR.of_kept (Kept.refl _).drew _))).out.low1 HS1.out hD ca0, (Lib.hid (HR1.out.trans (PrR.of_kept (Kept.refl _).drew _))).out.low1 HS1.out hD ca1, (Lib.hid (HR1.out.trans (PrR.of_kept (Kept.refl _).drew _))).out.low1 HS1.out hD ca2, (Lib.hid (HR1.out.trans (PrR.of_kept (Kept.refl _).drew _))).out.low1 HS1.out hD ca3, (Lib.hid (HR1.out.trans (PrR.of_kept (Kept.refl _).drew _))).out.low1 HS1.out hD ca4, (Lib.hid (HR1.out.trans (PrR.of_kept (Kept.refl _).drew _))).out.low1 HS1.out hD ca5⟩ (fun hHeld0 => ?_)
 refine wpAnyH_take (i := 0) (v := ?_) rfl (by kernel_rfl) (by kernel_rfl) (by kernel_rfl) (fun _ _ _ h => h) (Or.inl ⟨by kernel_rfl, ?_⟩) (by assumption) ?_
 rotate_left
 ·intro w hSw; (try dsimp only at hSw); go_simp; (try with_reducible rfl)
 (try simp only [Act.put, List.getElem_toArray, List.getElem_cons_zero, List.getElem_cons_succ, List.setIfInBounds_toArray, List.set_cons_zero, List.set_cons_succ])
 refine wpAnyH_take (i := 2) (v := ?_) rfl (by kernel_rfl) (by kernel_rfl) (by kernel_rfl) (fun _ _ _ h => h) (Or.inl ⟨by kernel_rfl, ?_⟩) (by assumption) ?_
 rotate_left
 ·intro w hSw; (try dsimp only at hSw); go_simp; (try with_reducible rfl)
 (try simp only [Act.put, List.getElem_toArray, List.getElem_cons_zero, List.getElem_cons_succ, List.setIfInBounds_toArray, List.set_cons_zero, List.set_cons_succ])
 refine wpAnyH_take (i := 3) (v := ?_) rfl (by kernel_rfl) (by kernel_rfl) (by kernel_rfl) (fun _ _ _ h => h) (Or.inl ⟨by kernel_rfl, ?_⟩) (by assumption) ?_
 rotate_left
 ·intro w hSw; (try dsimp only at hSw); go_simp; (try with_reducible rfl)
 (try simp only [Act.put, List.getElem_toArray, List.getElem_cons_zero, List.getElem_cons_succ, List.setIfInBounds_toArray, List.set_cons_zero, List.set_cons_succ])
 refine wpAnyH_take (i := 5) (v := ?_) rfl (by kernel_rfl) (by kernel_rfl) (by kernel_rfl) (fun _ _ _ h => h) (Or.inl ⟨by kernel_rfl, ?_⟩) (by assumption) ?_
 rotate_left
 ·intro w hSw; (try dsimp only at hSw); go_simp; (try with_reducible rfl)
 (try simp only [Act.put, List.getElem_toArray, List.getElem_cons_zero, List.getElem_cons_succ, List.setIfInBounds_toArray, List.set_cons_zero, List.set_cons_succ])
 refine wpAnyH_take (i := 6) (v := ?_) rfl (by kernel_rfl) (by kernel_rfl) (by kernel_rfl) (fun _ _ _ h => h) (Or.inl ⟨by kernel_rfl, ?_⟩) (by assumption) ?_
 rotate_left
 ·intro w hSw; (try dsimp only at hSw); go_simp; (try with_reducible rfl)
 (try simp only [Act.put, List.getElem_toArray, List.getElem_cons_zero, List.getElem_cons_succ, List.setIfInBounds_toArray, List.set_cons_zero, List.set_cons_succ])
 refine wpAnyH_take (i := 9) (v := ?_) rfl (by kernel_rfl) (by kernel_rfl) (by kernel_rfl) (fun _ _ _ h => h) (Or.inl ⟨by kernel_rfl, ?_⟩) (by assumption) ?_
 rotate_left
 ·intro w hSw; (try dsimp only at hSw); go_simp; (try with_reducible rfl)
 (try simp only [Act.put, List.getElem_toArray, List.getElem_cons_zero, List.getElem_cons_succ, List.setIfInBounds_toArray, List.set_cons_zero, List.set_cons_succ])
 refine wpAnyH_take (i := 10) (v := ?_) rfl (by kernel_rfl) (by kernel_rfl) (by kernel_rfl) (fun _ _ _ h => h) (Or.inl ⟨by kernel_rfl, ?_⟩) (by assumption) ?_
 rotate_left
 ·intro w hSw; (try dsimp only at hSw); go_simp; (try with_reducible rfl)
 (try simp only [Act.put, List.getElem_toArray, List.getElem_cons_zero, List.getElem_cons_succ, List.setIfInBounds_toArray, List.set_cons_zero, List.set_cons_succ])
 refine wpAnyH_take (i := 11) (v := ?_) rfl (by kernel_rfl) (by kernel_rfl) (by kernel_rfl) (fun _ _ _ h => h) (Or.inl ⟨by kernel_rfl, ?_⟩) (by assumption) ?_
 rotate_left
 ·intro w hSw; (try dsimp only at hSw); go_simp; (try with_reducible rfl)
 (try simp only [Act.put, List.getElem_toArray, List.getElem_cons_zero, List.getElem_cons_succ, List.setIfInBounds_toArray, List.set_cons_zero, List.set_cons_succ])
 refine wpAnyH_take (i := 12) (v := ?_) rfl (by kernel_rfl) (by kernel_rfl) (by kernel_rfl) (fun _ _ _ h => h) (Or.inl ⟨by kernel_rfl, ?_⟩) (by assumption) ?_
 rotate_left
 ·intro w hSw; (try dsimp only at hSw); go_simp; (try with_reducible rfl)
 (try simp only [Act.put, List.getElem_toArray, List.getElem_cons_zero, List.getElem_cons_succ, List.setIfInBounds_toArray, List.set_cons_zero, List.set_cons_succ])
 refine wpAnyH_ready (rs := [1]) (by kernel_rfl) (by simp) ?_
 refine AllReadyH.cons rfl (fun K hK => ?_) AllReadyH.nil
 go_simp
 refine (pkey_c ⟨#[108, 101, 116]⟩ HS1.out.drew (by have := HN.out; simp only [List.length_append, List.length_cons, List.length_nil] at this ⊢; omega)).mono ?_
 rintro e w2 ⟨rfl, v2, hs, hr⟩
 have HR2 := Lib.hid ((HR1.out.trans (PrR.of_kept (Kept.refl _).drew _)).trans hr)
 have HS2 := Lib.hid hs
 clear hs hr
 refine hK.out _ _ ⟨(HR2.out.blk HB1.out HO.out.1 HO.out.2).cell 0, (HR2.out.blk HB1.out HO.out.1 HO.out.2).cell 1, (HR2.out.blk HB1.out HO.out.1 HO.out.2).cell 2, (HR2.out.blk HB1.out HO.out.1 HO.out.2).cell 3, (HR2.out.blk HB1.out HO.out.1 HO.out.2).cell 4, (HR2.out.blk HB1.out HO.out.1 HO.out.2).cell 5, HR2.out.low1 HS1.out hD ca0, HR2.out.low1 HS1.out hD ca1, HR2.out.low1 HS1.out hD ca2, HR2.out.low1 HS1.out hD ca3, HR2.out.low1 HS1.out hD ca4, HR2.out.low1 HS1.out hD ca5⟩ (fun hHeld1 => ?_)
 clear hK K
 (try simp only [Act.put, List.getElem_toArray, List.getElem_cons_zero, List.getElem_cons_succ, List.setIfInBounds_toArray, List.set_cons_zero, List.set_cons_succ])
 clear hHeld0
 refine wpAnyH_ready (rs := [4]) (by kernel_rfl) (by simp) ?_
 refine AllReadyH.cons rfl (fun K hK => ?_) AllReadyH.nil
 go_simp
 refine (pname_c t HS2.out (by have := HN.out; simp only [List.length_append, List.length_cons, List.length_nil] at this ⊢; omega)).mono ?_
 rintro e w3 ⟨rfl, v3, hs, hr⟩
 have HR3 := Lib.hid (HR2.out.trans hr)
 have HS3 := Lib.hid hs
 clear hs hr
 refine hK.out _ _ ⟨(HR3.out.blk HB1.out HO.out.1 HO.out.2).cell 0, (HR3.out.blk HB1.out HO.out.1 HO.out.2).cell 1, (HR3.out.blk HB1.out HO.out.1 HO.out.2).cell 2, (HR3.out.blk HB1.out HO.out.1 HO.out.2).cell 3, (HR3.out.blk HB1.out HO.out.1 HO.out.2).cell 4, (HR3.out.blk HB1.out HO.out.1 HO.out.2).cell 5, HR3.out.low1 HS1.out hD ca0, HR3.out.low1 HS1.out hD ca1, HR3.out.low1 HS1.out hD ca2, HR3.out.low1 HS1.out hD ca3, HR3.out.low1 HS1.out hD ca4, HR3.out.low1 HS1.out hD ca5⟩ (fun hHeld2 => ?_)
 clear hK K
 (try simp only [Act.put, List.getElem_toArray, List.getElem_cons_zero, List.getElem_cons_succ, List.setIfInBounds_toArray, List.set_cons_zero, List.set_cons_succ])
 clear hHeld1
 refine wpAnyH_ready (rs := [7]) (by kernel_rfl) (by simp) ?_
 refine AllReadyH.cons rfl (fun K hK => ?_) AllReadyH.nil
 go_simp
 refine (pann_c y Ps.kAny HS3.out (by have := HN.out; simp only [List.length_append, List.length_cons, List.length_nil] at this ⊢; omega)).mono ?_
 rintro e w4 ⟨rfl, v4, hs, hr⟩
 have HR4 := Lib.hid (HR3.out.trans hr)
 have HS4 := Lib.hid hs
 clear hs hr
 refine hK.out _ _ ⟨(HR4.out.blk HB1.out HO.out.1 HO.out.2).cell 0, (HR4.out.blk HB1.out HO.out.1 HO.out.2).cell 1, (HR4.out.blk HB1.out HO.out.1 HO.out.2).cell 2, (HR4.out.blk HB1.out HO.out.1 HO.out.2).cell 3, (HR4.out.blk HB1.out HO.out.1 HO.out.2).cell 4, (HR4.out.blk HB1.out HO.out.1 HO.out.2).cell 5, HR4.out.low1 HS1.out hD ca0, HR4.out.low1 HS1.out hD ca1, HR4.out.low1 HS1.out hD ca2, HR4.out.low1 HS1.out hD ca3, HR4.out.low1 HS1.out hD ca4, HR4.out.low1 HS1.out hD ca5⟩ (fun hHeld3 => ?_)
 clear hK K
 (try simp only [Act.put, List.getElem_toArray, List.getElem_cons_zero, List.getElem_cons_succ, List.setIfInBounds_toArray, List.set_cons_zero, List.set_cons_succ])
 clear hHeld2
 refine wpAnyH_ready (rs := [8]) (by kernel_rfl) (by simp) ?_
 refine AllReadyH.cons rfl (fun K hK => ?_) AllReadyH.nil
 go_simp
 refine (psign_c Ps.kEq HS4.out (by have := HN.out; simp only [List.length_append, List.length_cons, List.length_nil] at this ⊢; omega)).mono ?_
 rintro e w5 ⟨rfl, v5, hs, hr⟩
 have HR5 := Lib.hid (HR4.out.trans hr)
 have HS5 := Lib.hid hs
 clear hs hr
 refine hK.out _ _ ⟨(HR5.out.blk HB1.out HO.out.1 HO.out.2).cell 0, (HR5.out.blk HB1.out HO.out.1 HO.out.2).cell 1, (HR5.out.blk HB1.out HO.out.1 HO.out.2).cell 2, (HR5.out.blk HB1.out HO.out.1 HO.out.2).cell 3, (HR5.out.blk HB1.out HO.out.1 HO.out.2).cell 4, (HR5.out.blk HB1.out HO.out.1 HO.out.2).cell 5, HR5.out.low1 HS1.out hD ca0, HR5.out.low1 HS1.out hD ca1, HR5.out.low1 HS1.out hD ca2, HR5.out.low1 HS1.out hD ca3, HR5.out.low1 HS1.out hD ca4, HR5.out.low1 HS1.out hD ca5⟩ (fun hHeld4 => ?_)
 clear hK K
 (try simp only [Act.put, List.getElem_toArray, List.getElem_cons_zero, List.getElem_cons_succ, List.setIfInBounds_toArray, List.set_cons_zero, List.set_cons_succ])
 clear hHeld3
 refine wpAnyH_ready (rs := [13]) (by kernel_rfl) (by simp) ?_
 refine AllReadyH.cons rfl (fun K hK => ?_) AllReadyH.nil
 go_simp
 refine (HCa.out _ _ _ kda kka HS5.out (HR5.out.kids HS1.out HKa.out) (by have := HN.out; simp only [List.length_append, List.length_cons, List.length_nil] at this ⊢; omega)).mono ?_
 rintro e w6 ⟨rfl, v6, hs, hr⟩
 have HR6 := Lib.hid (HR5.out.trans hr)
 have HS6 := Lib.hid hs
 clear hs hr
 refine hK.out _ _ ⟨(HR6.out.blk HB1.out HO.out.1 HO.out.2).cell 0, (HR6.out.blk HB1.out HO.out.1 HO.out.2).cell 1, (HR6.out.blk HB1.out HO.out.1 HO.out.2).cell 2, (HR6.out.blk HB1.out HO.out.1 HO.out.2).cell 3, (HR6.out.blk HB1.out HO.out.1 HO.out.2).cell 4, (HR6.out.blk HB1.out HO.out.1 HO.out.2).cell 5, HR6.out.low1 HS1.out hD ca0, HR6.out.low1 HS1.out hD ca1, HR6.out.low1 HS1.out hD ca2, HR6.out.low1 HS1.out hD ca3, HR6.out.low1 HS1.out hD ca4, HR6.out.low1 HS1.out hD ca5⟩ (fun hHeld5 => ?_)
 clear hK K
 (try simp only [Act.put, List.getElem_toArray, List.getElem_cons_zero, List.getElem_cons_succ, List.setIfInBounds_toArray, List.set_cons_zero, List.set_cons_succ])
 clear hHeld4
 refine wpAnyH_take (i := 14) (v := ?_) rfl (by kernel_rfl) (by kernel_rfl) (by kernel_rfl) (fun _ _ _ h => h) (Or.inl ⟨by kernel_rfl, ?_⟩) (by assumption) ?_
 rotate_left
 ·intro w hSw; (try dsimp only at hSw); go_simp; (try with_reducible rfl)
 (try simp only [Act.put, List.getElem_toArray, List.getElem_cons_zero, List.getElem_cons_succ, List.setIfInBounds_toArray, List.set_cons_zero, List.set_cons_succ])
 refine wpAnyH_done (by kernel_rfl) ?_ _
 clear hHeld5
 go_wp2_with fail
 go_ret
 exact ⟨rfl, _, by rw [HE.out]; exact HS6.out, (PrR.of_kept HK1.out v).trans HR6.out⟩
set_option maxHeartbeats 4000000 in
theorem pm_set (g mb : Nat) (t y f : ByteArray) (n : Int) (a : Nd) (L : List Lx.T) (v : Value) (w : World) (ad : Option Addr) (ck : Nat) (Ha : NodeC g mb a) (h : PrS g mb L v w) (hk : KidsD (fun k => k < mb) w (.slice ad 1 ck) [a])
  (hn : L.length + (Pr.form 16 t y n ([a].map kdM)).length ≤ 1000000000) :
  Calls Tryz.prog 73 #[.pointer (some ⟨g, 0, none⟩), .agg #[.int .i64 16, .string t, .string y, .string f, .int .i64 n, .slice ad 1 ck]] w (PrPost g mb (L ++ Pr.form 16 t y n ([a].map kdM)) v w) := by
 have HCa := Lib.hid Ha
 have HE := Lib.hid (show L ++ Pr.form 16 t y n ([a].map kdM) = L ++ [nam t] ++ [sgn Ps.kEq] ++ toks a from by
  show L ++ (nam t :: sgn Ps.kEq :: toks a) = _
  first | rfl | (simp only [List.append_assoc, List.cons_append, List.nil_append, List.append_nil]; done) | (simp only [List.append_assoc, List.cons_append, List.nil_append, List.append_nil]; rfl))
 have HN := Lib.hid (show (L ++ [nam t] ++ [sgn Ps.kEq] ++ toks a).length ≤ 1000000000 by rw [← HE.out, List.length_append]; exact hn)
 obtain ⟨W1, HW1, HK1, HB1, HO, HS1, HD1, HR1, hcap, y0, y1, y2, y3, y4, y5⟩ := pm_prep 16 t y f n h hk (by simp)
 unfold maxLen at hcap
 obtain ⟨kb, ko, ead, hD⟩ := nd_base HD1.out (i := 0) (y := a) rfl
 subst ead
 obtain ⟨kda, kka, ⟨ca0, ca1, ca2, ca3, ca4, ca5⟩, hka⟩ := nd_at HD1.out (i := 0) (y := a) rfl
 simp only [Nat.zero_mul, Nat.add_zero, Nat.one_mul, Nat.reduceMul, Nat.add_assoc, Nat.reduceAdd] at ca0 ca1 ca2 ca3 ca4 ca5
 have HKa := Lib.hid hka
 clear hka
 clear h hk hn Ha
 go_enter Tryz.func73, Tryz.ntmps73
 go_wp2_with (rw [HW1.out])
 refine wp_region_held_drew (S := (fun W => W.cell? ⟨w.heap.size, 0, none⟩ = some (.int .i64 16) ∧ W.cell? ⟨w.heap.size, 1, none⟩ = some (.string t) ∧ W.cell? ⟨w.heap.size, 2, none⟩ = some (.string y) ∧ W.cell? ⟨w.heap.size, 3, none⟩ = some (.string f) ∧ W.cell? ⟨w.heap.size, 4, none⟩ = some (.int .i64 n) ∧ W.cell? ⟨w.heap.size, 5, none⟩ = some (.slice (some ⟨kb, ko, none⟩) 1 ck) ∧ W.cell? ⟨kb, ko, none⟩ = some (.int .i64 a.kind) ∧ W.cell? ⟨kb, ko + 1, none⟩ = some (.string a.text) ∧ W.cell? ⟨kb, ko + 2, none⟩ = some (.string a.typ) ∧ W.cell? ⟨kb, ko + 3, none⟩ = some (.string a.frm) ∧ W.cell? ⟨kb, ko + 4, none⟩ = some (.int .i64 a.n) ∧ W.cell? ⟨kb, ko + 5, none⟩ = some (.slice kda a.kids.length kka))) (by kernel_rfl) ⟨((Lib.hid (HR1.out.trans (PrR.of_kept (Kept.refl _).drew _))).out.blk HB1.out HO.out.1 HO.out.2).cell 0, ((Lib.hid (HR1.out.trans (PrR.of_kept (Kept.refl _).drew _))).out.blk HB1.out HO.out.1 HO.out.2).cell 1, ((Lib.hid (HR1.out.trans (PrR.of_kept (Kept.refl _).drew _))).out.blk HB1.out HO.out.1 HO.out.2).cell 2, ((Lib.hid (HR1.out.trans (PrR.of_kept (Kept.refl _).drew _))).out.blk HB1.out HO.out.1 HO.out.2).cell 3, ((Lib.hid (HR1.out.trans (PrR.of_kept (Kept.refl _).drew _))).out.blk HB1.out HO.out.1 HO.out.2).cell 4, ((Lib.hid (HR1.out.trans (PrR.of_kept (Kept.refl _).drew _))).out.blk HB1.out HO.out.1 HO.out.2).cell 5, (Lib.hid (HR1.out.trans (PrR.of_kept (Kept.refl _).drew _))).out.low1 HS1.out hD ca0, (Lib.hid (HR1.out.trans (PrR.of_kept (Kept.refl _).drew _))).out.low1 HS1.out hD ca1, (Lib.hid (HR1.out.trans (PrR.of_kept (Kept.refl _).drew _))).out.low1 HS1.out hD ca2, (Lib.hid (HR1.out.trans (PrR.of_kept (Kept.refl _).drew _))).out.low1 HS1.out hD ca3, (Lib.hid (HR1.out.trans (PrR.of_kept (Kept.refl _).drew _))).out.low1 HS1.out hD ca4, (Lib.hid (HR1.out.trans (PrR.of_kept (Kept.refl _).drew _))).out.low1 HS1.out hD ca5⟩ (fun hHeld0 => ?_)
 refine wpAnyH_take (i := 0) (v := ?_) rfl (by kernel_rfl) (by kernel_rfl) (by kernel_rfl) (fun _ _ _ h => h) (Or.inl ⟨by kernel_rfl, ?_⟩) (by assumption) ?_
 rotate_left
 ·intro w hSw; (try dsimp only at hSw); go_simp; (try with_reducible rfl)
 (try simp only [Act.put, List.getElem_toArray, List.getElem_cons_zero, List.getElem_cons_succ, List.setIfInBounds_toArray, List.set_cons_zero, List.set_cons_succ])
 refine wpAnyH_take (i := 1) (v := ?_) rfl (by kernel_rfl) (by kernel_rfl) (by kernel_rfl) (fun _ _ _ h => h) (Or.inl ⟨by kernel_rfl, ?_⟩) (by assumption) ?_
 rotate_left
 ·intro w hSw; (try dsimp only at hSw); go_simp; (try with_reducible rfl)
 (try simp only [Act.put, List.getElem_toArray, List.getElem_cons_zero, List.getElem_cons_succ, List.setIfInBounds_toArray, List.set_cons_zero, List.set_cons_succ])
 refine wpAnyH_take (i := 2) (v := ?_) rfl (by kernel_rfl) (by kernel_rfl) (by kernel_rfl) (fun _ _ _ h => h) (Or.inl ⟨by kernel_rfl, ?_⟩) (by assumption) ?_
 rotate_left
 ·intro w hSw; (try dsimp only at hSw); go_simp; (try with_reducible rfl)
 (try simp only [Act.put, List.getElem_toArray, List.getElem_cons_zero, List.getElem_cons_succ, List.setIfInBounds_toArray, List.set_cons_zero, List.set_cons_succ])
 refine wpAnyH_take (i := 5) (v := ?_) rfl (by kernel_rfl) (by kernel_rfl) (by kernel_rfl) (fun _ _ _ h => h) (Or.inl ⟨by kernel_rfl, ?_⟩) (by assumption) ?_
 rotate_left
 ·intro w hSw; (try dsimp only at hSw); go_simp; (try with_reducible rfl)
 (try simp only [Act.put, List.getElem_toArray, List.getElem_cons_zero, List.getElem_cons_succ, List.setIfInBounds_toArray, List.set_cons_zero, List.set_cons_succ])
 refine wpAnyH_take (i := 6) (v := ?_) rfl (by kernel_rfl) (by kernel_rfl) (by kernel_rfl) (fun _ _ _ h => h) (Or.inl ⟨by kernel_rfl, ?_⟩) (by assumption) ?_
 rotate_left
 ·intro w hSw; (try dsimp only at hSw); go_simp; (try with_reducible rfl)
 (try simp only [Act.put, List.getElem_toArray, List.getElem_cons_zero, List.getElem_cons_succ, List.setIfInBounds_toArray, List.set_cons_zero, List.set_cons_succ])
 refine wpAnyH_take (i := 7) (v := ?_) rfl (by kernel_rfl) (by kernel_rfl) (by kernel_rfl) (fun _ _ _ h => h) (Or.inl ⟨by kernel_rfl, ?_⟩) (by assumption) ?_
 rotate_left
 ·intro w hSw; (try dsimp only at hSw); go_simp; (try with_reducible rfl)
 (try simp only [Act.put, List.getElem_toArray, List.getElem_cons_zero, List.getElem_cons_succ, List.setIfInBounds_toArray, List.set_cons_zero, List.set_cons_succ])
 refine wpAnyH_take (i := 8) (v := ?_) rfl (by kernel_rfl) (by kernel_rfl) (by kernel_rfl) (fun _ _ _ h => h) (Or.inl ⟨by kernel_rfl, ?_⟩) (by assumption) ?_
 rotate_left
 ·intro w hSw; (try dsimp only at hSw); go_simp; (try with_reducible rfl)
 (try simp only [Act.put, List.getElem_toArray, List.getElem_cons_zero, List.getElem_cons_succ, List.setIfInBounds_toArray, List.set_cons_zero, List.set_cons_succ])
 refine wpAnyH_ready (rs := [3]) (by kernel_rfl) (by simp) ?_
 refine AllReadyH.cons rfl (fun K hK => ?_) AllReadyH.nil
 go_simp
 refine (pname_c t HS1.out.drew (by have := HN.out; simp only [List.length_append, List.length_cons, List.length_nil] at this ⊢; omega)).mono ?_
 rintro e w2 ⟨rfl, v2, hs, hr⟩
 have HR2 := Lib.hid ((HR1.out.trans (PrR.of_kept (Kept.refl _).drew _)).trans hr)
 have HS2 := Lib.hid hs
 clear hs hr
 refine hK.out _ _ ⟨(HR2.out.blk HB1.out HO.out.1 HO.out.2).cell 0, (HR2.out.blk HB1.out HO.out.1 HO.out.2).cell 1, (HR2.out.blk HB1.out HO.out.1 HO.out.2).cell 2, (HR2.out.blk HB1.out HO.out.1 HO.out.2).cell 3, (HR2.out.blk HB1.out HO.out.1 HO.out.2).cell 4, (HR2.out.blk HB1.out HO.out.1 HO.out.2).cell 5, HR2.out.low1 HS1.out hD ca0, HR2.out.low1 HS1.out hD ca1, HR2.out.low1 HS1.out hD ca2, HR2.out.low1 HS1.out hD ca3, HR2.out.low1 HS1.out hD ca4, HR2.out.low1 HS1.out hD ca5⟩ (fun hHeld1 => ?_)
 clear hK K
 (try simp only [Act.put, List.getElem_toArray, List.getElem_cons_zero, List.getElem_cons_succ, List.setIfInBounds_toArray, List.set_cons_zero, List.set_cons_succ])
 clear hHeld0
 refine wpAnyH_ready (rs := [4]) (by kernel_rfl) (by simp) ?_
 refine AllReadyH.cons rfl (fun K hK => ?_) AllReadyH.nil
 go_simp
 refine (psign_c Ps.kEq HS2.out (by have := HN.out; simp only [List.length_append, List.length_cons, List.length_nil] at this ⊢; omega)).mono ?_
 rintro e w3 ⟨rfl, v3, hs, hr⟩
 have HR3 := Lib.hid (HR2.out.trans hr)
 have HS3 := Lib.hid hs
 clear hs hr
 refine hK.out _ _ ⟨(HR3.out.blk HB1.out HO.out.1 HO.out.2).cell 0, (HR3.out.blk HB1.out HO.out.1 HO.out.2).cell 1, (HR3.out.blk HB1.out HO.out.1 HO.out.2).cell 2, (HR3.out.blk HB1.out HO.out.1 HO.out.2).cell 3, (HR3.out.blk HB1.out HO.out.1 HO.out.2).cell 4, (HR3.out.blk HB1.out HO.out.1 HO.out.2).cell 5, HR3.out.low1 HS1.out hD ca0, HR3.out.low1 HS1.out hD ca1, HR3.out.low1 HS1.out hD ca2, HR3.out.low1 HS1.out hD ca3, HR3.out.low1 HS1.out hD ca4, HR3.out.low1 HS1.out hD ca5⟩ (fun hHeld2 => ?_)
 clear hK K
 (try simp only [Act.put, List.getElem_toArray, List.getElem_cons_zero, List.getElem_cons_succ, List.setIfInBounds_toArray, List.set_cons_zero, List.set_cons_succ])
 clear hHeld1
 refine wpAnyH_ready (rs := [9]) (by kernel_rfl) (by simp) ?_
 refine AllReadyH.cons rfl (fun K hK => ?_) AllReadyH.nil
 go_simp
 refine (HCa.out _ _ _ kda kka HS3.out (HR3.out.kids HS1.out HKa.out) (by have := HN.out; simp only [List.length_append, List.length_cons, List.length_nil] at this ⊢; omega)).mono ?_
 rintro e w4 ⟨rfl, v4, hs, hr⟩
 have HR4 := Lib.hid (HR3.out.trans hr)
 have HS4 := Lib.hid hs
 clear hs hr
 refine hK.out _ _ ⟨(HR4.out.blk HB1.out HO.out.1 HO.out.2).cell 0, (HR4.out.blk HB1.out HO.out.1 HO.out.2).cell 1, (HR4.out.blk HB1.out HO.out.1 HO.out.2).cell 2, (HR4.out.blk HB1.out HO.out.1 HO.out.2).cell 3, (HR4.out.blk HB1.out HO.out.1 HO.out.2).cell 4, (HR4.out.blk HB1.out HO.out.1 HO.out.2).cell 5, HR4.out.low1 HS1.out hD ca0, HR4.out.low1 HS1.out hD ca1, HR4.out.low1 HS1.out hD ca2, HR4.out.low1 HS1.out hD ca3, HR4.out.low1 HS1.out hD ca4, HR4.out.low1 HS1.out hD ca5⟩ (fun hHeld3 => ?_)
 clear hK K
 (try simp only [Act.put, List.getElem_toArray, List.getElem_cons_zero, List.getElem_cons_succ, List.setIfInBounds_toArray, List.set_cons_zero, List.set_cons_succ])
 clear hHeld2
 refine wpAnyH_take (i := 10) (v := ?_) rfl (by kernel_rfl) (by kernel_rfl) (by kernel_rfl) (fun _ _ _ h => h) (Or.inl ⟨by kernel_rfl, ?_⟩) (by assumption) ?_
 rotate_left
 ·intro w hSw; (try dsimp only at hSw); go_simp; (try with_reducible rfl)
 (try simp only [Act.put, List.getElem_toArray, List.getElem_cons_zero, List.getElem_cons_succ, List.setIfInBounds_toArray, List.set_cons_zero, List.set_cons_succ])
 refine wpAnyH_done (by kernel_rfl) ?_ _
 clear hHeld3
 go_wp2_with fail
 go_ret
 exact ⟨rfl, _, by rw [HE.out]; exact HS4.out, (PrR.of_kept HK1.out v).trans HR4.out⟩
set_option maxHeartbeats 4000000 in
theorem pm_get (g mb : Nat) (t y f : ByteArray) (n : Int) (a : Nd) (L : List Lx.T) (v : Value) (w : World) (ad : Option Addr) (ck : Nat) (Ha : NodeC g mb a) (h : PrS g mb L v w) (hk : KidsD (fun k => k < mb) w (.slice ad 1 ck) [a])
  (hn : L.length + (Pr.form 17 t y n ([a].map kdM)).length ≤ 1000000000) :
  Calls Tryz.prog 75 #[.pointer (some ⟨g, 0, none⟩), .agg #[.int .i64 17, .string t, .string y, .string f, .int .i64 n, .slice ad 1 ck]] w (PrPost g mb (L ++ Pr.form 17 t y n ([a].map kdM)) v w) := by
 have HCa := Lib.hid Ha
 have HE := Lib.hid (show L ++ Pr.form 17 t y n ([a].map kdM) = L ++ (at1 8 (kdM a) ++ [sgn Ps.kDot]) ++ [nam t] from by
  show L ++ (at1 8 (kdM a) ++ [sgn Ps.kDot, nam t]) = _
  first | rfl | (simp only [List.append_assoc, List.cons_append, List.nil_append, List.append_nil]; done) | (simp only [List.append_assoc, List.cons_append, List.nil_append, List.append_nil]; rfl))
 have HN := Lib.hid (show (L ++ (at1 8 (kdM a) ++ [sgn Ps.kDot]) ++ [nam t]).length ≤ 1000000000 by rw [← HE.out, List.length_append]; exact hn)
 obtain ⟨W1, HW1, HK1, HB1, HO, HS1, HD1, HR1, hcap, y0, y1, y2, y3, y4, y5⟩ := pm_prep 17 t y f n h hk (by simp)
 unfold maxLen at hcap
 obtain ⟨kb, ko, ead, hD⟩ := nd_base HD1.out (i := 0) (y := a) rfl
 subst ead
 obtain ⟨kda, kka, ⟨ca0, ca1, ca2, ca3, ca4, ca5⟩, hka⟩ := nd_at HD1.out (i := 0) (y := a) rfl
 simp only [Nat.zero_mul, Nat.add_zero, Nat.one_mul, Nat.reduceMul, Nat.add_assoc, Nat.reduceAdd] at ca0 ca1 ca2 ca3 ca4 ca5
 have HKa := Lib.hid hka
 clear hka
 clear h hk hn Ha
 go_enter Tryz.func75, Tryz.ntmps75
 go_wp2_with (rw [HW1.out])
 refine wp_region_held_drew (S := (fun W => W.cell? ⟨w.heap.size, 0, none⟩ = some (.int .i64 17) ∧ W.cell? ⟨w.heap.size, 1, none⟩ = some (.string t) ∧ W.cell? ⟨w.heap.size, 2, none⟩ = some (.string y) ∧ W.cell? ⟨w.heap.size, 3, none⟩ = some (.string f) ∧ W.cell? ⟨w.heap.size, 4, none⟩ = some (.int .i64 n) ∧ W.cell? ⟨w.heap.size, 5, none⟩ = some (.slice (some ⟨kb, ko, none⟩) 1 ck) ∧ W.cell? ⟨kb, ko, none⟩ = some (.int .i64 a.kind) ∧ W.cell? ⟨kb, ko + 1, none⟩ = some (.string a.text) ∧ W.cell? ⟨kb, ko + 2, none⟩ = some (.string a.typ) ∧ W.cell? ⟨kb, ko + 3, none⟩ = some (.string a.frm) ∧ W.cell? ⟨kb, ko + 4, none⟩ = some (.int .i64 a.n) ∧ W.cell? ⟨kb, ko + 5, none⟩ = some (.slice kda a.kids.length kka))) (by kernel_rfl) ⟨((Lib.hid (HR1.out.trans (PrR.of_kept (Kept.refl _).drew _))).out.blk HB1.out HO.out.1 HO.out.2).cell 0, ((Lib.hid (HR1.out.trans (PrR.of_kept (Kept.refl _).drew _))).out.blk HB1.out HO.out.1 HO.out.2).cell 1, ((Lib.hid (HR1.out.trans (PrR.of_kept (Kept.refl _).drew _))).out.blk HB1.out HO.out.1 HO.out.2).cell 2, ((Lib.hid (HR1.out.trans (PrR.of_kept (Kept.refl _).drew _))).out.blk HB1.out HO.out.1 HO.out.2).cell 3, ((Lib.hid (HR1.out.trans (PrR.of_kept (Kept.refl _).drew _))).out.blk HB1.out HO.out.1 HO.out.2).cell 4, ((Lib.hid (HR1.out.trans (PrR.of_kept (Kept.refl _).drew _))).out.blk HB1.out HO.out.1 HO.out.2).cell 5, (Lib.hid (HR1.out.trans (PrR.of_kept (Kept.refl _).drew _))).out.low1 HS1.out hD ca0, (Lib.hid (HR1.out.trans (PrR.of_kept (Kept.refl _).drew _))).out.low1 HS1.out hD ca1, (Lib.hid (HR1.out.trans (PrR.of_kept (Kept.refl _).drew _))).out.low1 HS1.out hD ca2, (Lib.hid (HR1.out.trans (PrR.of_kept (Kept.refl _).drew _))).out.low1 HS1.out hD ca3, (Lib.hid (HR1.out.trans (PrR.of_kept (Kept.refl _).drew _))).out.low1 HS1.out hD ca4, (Lib.hid (HR1.out.trans (PrR.of_kept (Kept.refl _).drew _))).out.low1 HS1.out hD ca5⟩ (fun hHeld0 => ?_)
 refine wpAnyH_take (i := 0) (v := ?_) rfl (by kernel_rfl) (by kernel_rfl) (by kernel_rfl) (fun _ _ _ h => h) (Or.inl ⟨by kernel_rfl, ?_⟩) (by assumption) ?_
 rotate_left
 ·intro w hSw; (try dsimp only at hSw); go_simp; (try with_reducible rfl)
 (try simp only [Act.put, List.getElem_toArray, List.getElem_cons_zero, List.getElem_cons_succ, List.setIfInBounds_toArray, List.set_cons_zero, List.set_cons_succ])
 refine wpAnyH_take (i := 1) (v := ?_) rfl (by kernel_rfl) (by kernel_rfl) (by kernel_rfl) (fun _ _ _ h => h) (Or.inl ⟨by kernel_rfl, ?_⟩) (by assumption) ?_
 rotate_left
 ·intro w hSw; (try dsimp only at hSw); go_simp; (try with_reducible rfl)
 (try simp only [Act.put, List.getElem_toArray, List.getElem_cons_zero, List.getElem_cons_succ, List.setIfInBounds_toArray, List.set_cons_zero, List.set_cons_succ])
 refine wpAnyH_take (i := 2) (v := ?_) rfl (by kernel_rfl) (by kernel_rfl) (by kernel_rfl) (fun _ _ _ h => h) (Or.inl ⟨by kernel_rfl, ?_⟩) (by assumption) ?_
 rotate_left
 ·intro w hSw; (try dsimp only at hSw); go_simp; (try with_reducible rfl)
 (try simp only [Act.put, List.getElem_toArray, List.getElem_cons_zero, List.getElem_cons_succ, List.setIfInBounds_toArray, List.set_cons_zero, List.set_cons_succ])
 refine wpAnyH_take (i := 3) (v := ?_) rfl (by kernel_rfl) (by kernel_rfl) (by kernel_rfl) (fun _ _ _ h => h) (Or.inl ⟨by kernel_rfl, ?_⟩) (by assumption) ?_
 rotate_left
 ·intro w hSw; (try dsimp only at hSw); go_simp; (try with_reducible rfl)
 (try simp only [Act.put, List.getElem_toArray, List.getElem_cons_zero, List.getElem_cons_succ, List.setIfInBounds_toArray, List.set_cons_zero, List.set_cons_succ])
 refine wpAnyH_take (i := 4) (v := ?_) rfl (by kernel_rfl) (by kernel_rfl) (by kernel_rfl) (fun _ _ _ h => h) (Or.inl ⟨by kernel_rfl, ?_⟩) (by assumption) ?_
 rotate_left
 ·intro w hSw; (try dsimp only at hSw); go_simp; (try with_reducible rfl)
 (try simp only [Act.put, List.getElem_toArray, List.getElem_cons_zero, List.getElem_cons_succ, List.setIfInBounds_toArray, List.set_cons_zero, List.set_cons_succ])
 refine wpAnyH_take (i := 6) (v := ?_) rfl (by kernel_rfl) (by kernel_rfl) (by kernel_rfl) (fun _ _ _ h => h) (Or.inl ⟨by kernel_rfl, ?_⟩) (by assumption) ?_
 rotate_left
 ·intro w hSw; (try dsimp only at hSw); go_simp; (try with_reducible rfl)
 (try simp only [Act.put, List.getElem_toArray, List.getElem_cons_zero, List.getElem_cons_succ, List.setIfInBounds_toArray, List.set_cons_zero, List.set_cons_succ])
 refine wpAnyH_take (i := 7) (v := ?_) rfl (by kernel_rfl) (by kernel_rfl) (by kernel_rfl) (fun _ _ _ h => h) (Or.inl ⟨by kernel_rfl, ?_⟩) (by assumption) ?_
 rotate_left
 ·intro w hSw; (try dsimp only at hSw); go_simp; (try with_reducible rfl)
 (try simp only [Act.put, List.getElem_toArray, List.getElem_cons_zero, List.getElem_cons_succ, List.setIfInBounds_toArray, List.set_cons_zero, List.set_cons_succ])
 refine wpAnyH_ready (rs := [5]) (by kernel_rfl) (by simp) ?_
 refine AllReadyH.cons rfl (fun K hK => ?_) AllReadyH.nil
 go_simp
 refine (pof_c g mb _ kda kka _ _ _ HCa.out HS1.out.drew (KidsD.kept (HR1.out.kids HS1.out HKa.out) (Kept.refl _).drew) (by have := HN.out; simp only [List.length_append, List.length_cons, List.length_nil] at this ⊢; omega)).mono ?_
 rintro e w2 ⟨rfl, v2, hs, hr⟩
 have HR2 := Lib.hid ((HR1.out.trans (PrR.of_kept (Kept.refl _).drew _)).trans hr)
 have HS2 := Lib.hid hs
 clear hs hr
 refine hK.out _ _ ⟨(HR2.out.blk HB1.out HO.out.1 HO.out.2).cell 0, (HR2.out.blk HB1.out HO.out.1 HO.out.2).cell 1, (HR2.out.blk HB1.out HO.out.1 HO.out.2).cell 2, (HR2.out.blk HB1.out HO.out.1 HO.out.2).cell 3, (HR2.out.blk HB1.out HO.out.1 HO.out.2).cell 4, (HR2.out.blk HB1.out HO.out.1 HO.out.2).cell 5, HR2.out.low1 HS1.out hD ca0, HR2.out.low1 HS1.out hD ca1, HR2.out.low1 HS1.out hD ca2, HR2.out.low1 HS1.out hD ca3, HR2.out.low1 HS1.out hD ca4, HR2.out.low1 HS1.out hD ca5⟩ (fun hHeld1 => ?_)
 clear hK K
 (try simp only [Act.put, List.getElem_toArray, List.getElem_cons_zero, List.getElem_cons_succ, List.setIfInBounds_toArray, List.set_cons_zero, List.set_cons_succ])
 clear hHeld0
 refine wpAnyH_ready (rs := [8]) (by kernel_rfl) (by simp) ?_
 refine AllReadyH.cons rfl (fun K hK => ?_) AllReadyH.nil
 go_simp
 refine (pname_c t HS2.out (by have := HN.out; simp only [List.length_append, List.length_cons, List.length_nil] at this ⊢; omega)).mono ?_
 rintro e w3 ⟨rfl, v3, hs, hr⟩
 have HR3 := Lib.hid (HR2.out.trans hr)
 have HS3 := Lib.hid hs
 clear hs hr
 refine hK.out _ _ ⟨(HR3.out.blk HB1.out HO.out.1 HO.out.2).cell 0, (HR3.out.blk HB1.out HO.out.1 HO.out.2).cell 1, (HR3.out.blk HB1.out HO.out.1 HO.out.2).cell 2, (HR3.out.blk HB1.out HO.out.1 HO.out.2).cell 3, (HR3.out.blk HB1.out HO.out.1 HO.out.2).cell 4, (HR3.out.blk HB1.out HO.out.1 HO.out.2).cell 5, HR3.out.low1 HS1.out hD ca0, HR3.out.low1 HS1.out hD ca1, HR3.out.low1 HS1.out hD ca2, HR3.out.low1 HS1.out hD ca3, HR3.out.low1 HS1.out hD ca4, HR3.out.low1 HS1.out hD ca5⟩ (fun hHeld2 => ?_)
 clear hK K
 (try simp only [Act.put, List.getElem_toArray, List.getElem_cons_zero, List.getElem_cons_succ, List.setIfInBounds_toArray, List.set_cons_zero, List.set_cons_succ])
 clear hHeld1
 refine wpAnyH_take (i := 9) (v := ?_) rfl (by kernel_rfl) (by kernel_rfl) (by kernel_rfl) (fun _ _ _ h => h) (Or.inl ⟨by kernel_rfl, ?_⟩) (by assumption) ?_
 rotate_left
 ·intro w hSw; (try dsimp only at hSw); go_simp; (try with_reducible rfl)
 (try simp only [Act.put, List.getElem_toArray, List.getElem_cons_zero, List.getElem_cons_succ, List.setIfInBounds_toArray, List.set_cons_zero, List.set_cons_succ])
 refine wpAnyH_done (by kernel_rfl) ?_ _
 clear hHeld2
 go_wp2_with fail
 go_ret
 exact ⟨rfl, _, by rw [HE.out]; exact HS3.out, (PrR.of_kept HK1.out v).trans HR3.out⟩
set_option maxHeartbeats 4000000 in
theorem pm_put (g mb : Nat) (t y f : ByteArray) (n : Int) (a b : Nd) (L : List Lx.T) (v : Value) (w : World) (ad : Option Addr) (ck : Nat) (Ha : NodeC g mb a) (Hb : NodeC g mb b) (h : PrS g mb L v w) (hk : KidsD (fun k => k < mb) w (.slice ad 2 ck) [a, b])
  (hn : L.length + (Pr.form 18 t y n ([a, b].map kdM)).length ≤ 1000000000) :
  Calls Tryz.prog 74 #[.pointer (some ⟨g, 0, none⟩), .agg #[.int .i64 18, .string t, .string y, .string f, .int .i64 n, .slice ad 2 ck]] w (PrPost g mb (L ++ Pr.form 18 t y n ([a, b].map kdM)) v w) := by
 have HCa := Lib.hid Ha
 have HCb := Lib.hid Hb
 have HE := Lib.hid (show L ++ Pr.form 18 t y n ([a, b].map kdM) = L ++ (at1 8 (kdM a) ++ [sgn Ps.kDot]) ++ [nam t] ++ [sgn Ps.kEq] ++ toks b from by
  show L ++ (at1 8 (kdM a) ++ sgn Ps.kDot :: nam t :: sgn Ps.kEq :: toks b) = _
  first | rfl | (simp only [List.append_assoc, List.cons_append, List.nil_append, List.append_nil]; done) | (simp only [List.append_assoc, List.cons_append, List.nil_append, List.append_nil]; rfl))
 have HN := Lib.hid (show (L ++ (at1 8 (kdM a) ++ [sgn Ps.kDot]) ++ [nam t] ++ [sgn Ps.kEq] ++ toks b).length ≤ 1000000000 by rw [← HE.out, List.length_append]; exact hn)
 obtain ⟨W1, HW1, HK1, HB1, HO, HS1, HD1, HR1, hcap, y0, y1, y2, y3, y4, y5⟩ := pm_prep 18 t y f n h hk (by simp)
 unfold maxLen at hcap
 obtain ⟨kb, ko, ead, hD⟩ := nd_base HD1.out (i := 0) (y := a) rfl
 subst ead
 obtain ⟨kda, kka, ⟨ca0, ca1, ca2, ca3, ca4, ca5⟩, hka⟩ := nd_at HD1.out (i := 0) (y := a) rfl
 simp only [Nat.zero_mul, Nat.add_zero, Nat.one_mul, Nat.reduceMul, Nat.add_assoc, Nat.reduceAdd] at ca0 ca1 ca2 ca3 ca4 ca5
 have HKa := Lib.hid hka
 clear hka
 obtain ⟨kdb, kkb, ⟨cb0, cb1, cb2, cb3, cb4, cb5⟩, hkb⟩ := nd_at HD1.out (i := 1) (y := b) rfl
 simp only [Nat.zero_mul, Nat.add_zero, Nat.one_mul, Nat.reduceMul, Nat.add_assoc, Nat.reduceAdd] at cb0 cb1 cb2 cb3 cb4 cb5
 have HKb := Lib.hid hkb
 clear hkb
 clear h hk hn Ha Hb
 go_enter Tryz.func74, Tryz.ntmps74
 go_wp2_with (rw [HW1.out])
 refine wp_region_held_drew (S := (fun W => W.cell? ⟨w.heap.size, 0, none⟩ = some (.int .i64 18) ∧ W.cell? ⟨w.heap.size, 1, none⟩ = some (.string t) ∧ W.cell? ⟨w.heap.size, 2, none⟩ = some (.string y) ∧ W.cell? ⟨w.heap.size, 3, none⟩ = some (.string f) ∧ W.cell? ⟨w.heap.size, 4, none⟩ = some (.int .i64 n) ∧ W.cell? ⟨w.heap.size, 5, none⟩ = some (.slice (some ⟨kb, ko, none⟩) 2 ck) ∧ W.cell? ⟨kb, ko, none⟩ = some (.int .i64 a.kind) ∧ W.cell? ⟨kb, ko + 1, none⟩ = some (.string a.text) ∧ W.cell? ⟨kb, ko + 2, none⟩ = some (.string a.typ) ∧ W.cell? ⟨kb, ko + 3, none⟩ = some (.string a.frm) ∧ W.cell? ⟨kb, ko + 4, none⟩ = some (.int .i64 a.n) ∧ W.cell? ⟨kb, ko + 5, none⟩ = some (.slice kda a.kids.length kka) ∧ W.cell? ⟨kb, ko + 6, none⟩ = some (.int .i64 b.kind) ∧ W.cell? ⟨kb, ko + 7, none⟩ = some (.string b.text) ∧ W.cell? ⟨kb, ko + 8, none⟩ = some (.string b.typ) ∧ W.cell? ⟨kb, ko + 9, none⟩ = some (.string b.frm) ∧ W.cell? ⟨kb, ko + 10, none⟩ = some (.int .i64 b.n) ∧ W.cell? ⟨kb, ko + 11, none⟩ = some (.slice kdb b.kids.length kkb))) (by kernel_rfl) ⟨((Lib.hid (HR1.out.trans (PrR.of_kept (Kept.refl _).drew _))).out.blk HB1.out HO.out.1 HO.out.2).cell 0, ((Lib.hid (HR1.out.trans (PrR.of_kept (Kept.refl _).drew _))).out.blk HB1.out HO.out.1 HO.out.2).cell 1, ((Lib.hid (HR1.out.trans (PrR.of_kept (Kept.refl _).drew _))).out.blk HB1.out HO.out.1 HO.out.2).cell 2, ((Lib.hid (HR1.out.trans (PrR.of_kept (Kept.refl _).drew _))).out.blk HB1.out HO.out.1 HO.out.2).cell 3, ((Lib.hid (HR1.out.trans (PrR.of_kept (Kept.refl _).drew _))).out.blk HB1.out HO.out.1 HO.out.2).cell 4, ((Lib.hid (HR1.out.trans (PrR.of_kept (Kept.refl _).drew _))).out.blk HB1.out HO.out.1 HO.out.2).cell 5, (Lib.hid (HR1.out.trans (PrR.of_kept (Kept.refl _).drew _))).out.low1 HS1.out hD ca0, (Lib.hid (HR1.out.trans (PrR.of_kept (Kept.refl _).drew _))).out.low1 HS1.out hD ca1, (Lib.hid (HR1.out.trans (PrR.of_kept (Kept.refl _).drew _))).out.low1 HS1.out hD ca2, (Lib.hid (HR1.out.trans (PrR.of_kept (Kept.refl _).drew _))).out.low1 HS1.out hD ca3, (Lib.hid (HR1.out.trans (PrR.of_kept (Kept.refl _).drew _))).out.low1 HS1.out hD ca4, (Lib.hid (HR1.out.trans (PrR.of_kept (Kept.refl _).drew _))).out.low1 HS1.out hD ca5, (Lib.hid (HR1.out.trans (PrR.of_kept (Kept.refl _).drew _))).out.low1 HS1.out hD cb0, (Lib.hid (HR1.out.trans (PrR.of_kept (Kept.refl _).drew _))).out.low1 HS1.out hD cb1, (Lib.hid (HR1.out.trans (PrR.of_kept (Kept.refl _).drew _))).out.low1 HS1.out hD cb2, (Lib.hid (HR1.out.trans (PrR.of_kept (Kept.refl _).drew _))).out.low1 HS1.out hD cb3, (Lib.hid (HR1.out.trans (PrR.of_kept (Kept.refl _).drew _))).out.low1 HS1.out hD cb4, (Lib.hid (HR1.out.trans (PrR.of_kept (Kept.refl _).drew _))).out.low1 HS1.out hD cb5⟩ (fun hHeld0 => ?_)
 refine wpAnyH_take (i := 0) (v := ?_) rfl (by kernel_rfl) (by kernel_rfl) (by kernel_rfl) (fun _ _ _ h => h) (Or.inl ⟨by kernel_rfl, ?_⟩) (by assumption) ?_
 rotate_left
 ·intro w hSw; (try dsimp only at hSw); go_simp; (try with_reducible rfl)
 (try simp only [Act.put, List.getElem_toArray, List.getElem_cons_zero, List.getElem_cons_succ, List.setIfInBounds_toArray, List.set_cons_zero, List.set_cons_succ])
 refine wpAnyH_take (i := 1) (v := ?_) rfl (by kernel_rfl) (by kernel_rfl) (by kernel_rfl) (fun _ _ _ h => h) (Or.inl ⟨by kernel_rfl, ?_⟩) (by assumption) ?_
 rotate_left
 ·intro w hSw; (try dsimp only at hSw); go_simp; (try with_reducible rfl)
 (try simp only [Act.put, List.getElem_toArray, List.getElem_cons_zero, List.getElem_cons_succ, List.setIfInBounds_toArray, List.set_cons_zero, List.set_cons_succ])
 refine wpAnyH_take (i := 2) (v := ?_) rfl (by kernel_rfl) (by kernel_rfl) (by kernel_rfl) (fun _ _ _ h => h) (Or.inl ⟨by kernel_rfl, ?_⟩) (by assumption) ?_
 rotate_left
 ·intro w hSw; (try dsimp only at hSw); go_simp; (try with_reducible rfl)
 (try simp only [Act.put, List.getElem_toArray, List.getElem_cons_zero, List.getElem_cons_succ, List.setIfInBounds_toArray, List.set_cons_zero, List.set_cons_succ])
 refine wpAnyH_take (i := 3) (v := ?_) rfl (by kernel_rfl) (by kernel_rfl) (by kernel_rfl) (fun _ _ _ h => h) (Or.inl ⟨by kernel_rfl, ?_⟩) (by assumption) ?_
 rotate_left
 ·intro w hSw; (try dsimp only at hSw); go_simp; (try with_reducible rfl)
 (try simp only [Act.put, List.getElem_toArray, List.getElem_cons_zero, List.getElem_cons_succ, List.setIfInBounds_toArray, List.set_cons_zero, List.set_cons_succ])
 refine wpAnyH_take (i := 4) (v := ?_) rfl (by kernel_rfl) (by kernel_rfl) (by kernel_rfl) (fun _ _ _ h => h) (Or.inl ⟨by kernel_rfl, ?_⟩) (by assumption) ?_
 rotate_left
 ·intro w hSw; (try dsimp only at hSw); go_simp; (try with_reducible rfl)
 (try simp only [Act.put, List.getElem_toArray, List.getElem_cons_zero, List.getElem_cons_succ, List.setIfInBounds_toArray, List.set_cons_zero, List.set_cons_succ])
 refine wpAnyH_take (i := 6) (v := ?_) rfl (by kernel_rfl) (by kernel_rfl) (by kernel_rfl) (fun _ _ _ h => h) (Or.inl ⟨by kernel_rfl, ?_⟩) (by assumption) ?_
 rotate_left
 ·intro w hSw; (try dsimp only at hSw); go_simp; (try with_reducible rfl)
 (try simp only [Act.put, List.getElem_toArray, List.getElem_cons_zero, List.getElem_cons_succ, List.setIfInBounds_toArray, List.set_cons_zero, List.set_cons_succ])
 refine wpAnyH_take (i := 7) (v := ?_) rfl (by kernel_rfl) (by kernel_rfl) (by kernel_rfl) (fun _ _ _ h => h) (Or.inl ⟨by kernel_rfl, ?_⟩) (by assumption) ?_
 rotate_left
 ·intro w hSw; (try dsimp only at hSw); go_simp; (try with_reducible rfl)
 (try simp only [Act.put, List.getElem_toArray, List.getElem_cons_zero, List.getElem_cons_succ, List.setIfInBounds_toArray, List.set_cons_zero, List.set_cons_succ])
 refine wpAnyH_take (i := 10) (v := ?_) rfl (by kernel_rfl) (by kernel_rfl) (by kernel_rfl) (fun _ _ _ h => h) (Or.inl ⟨by kernel_rfl, ?_⟩) (by assumption) ?_
 rotate_left
 ·intro w hSw; (try dsimp only at hSw); go_simp; (try with_reducible rfl)
 (try simp only [Act.put, List.getElem_toArray, List.getElem_cons_zero, List.getElem_cons_succ, List.setIfInBounds_toArray, List.set_cons_zero, List.set_cons_succ])
 refine wpAnyH_take (i := 11) (v := ?_) rfl (by kernel_rfl) (by kernel_rfl) (by kernel_rfl) (fun _ _ _ h => h) (Or.inl ⟨by kernel_rfl, ?_⟩) (by assumption) ?_
 rotate_left
 ·intro w hSw; (try dsimp only at hSw); go_simp; (try with_reducible rfl)
 (try simp only [Act.put, List.getElem_toArray, List.getElem_cons_zero, List.getElem_cons_succ, List.setIfInBounds_toArray, List.set_cons_zero, List.set_cons_succ])
 refine wpAnyH_take (i := 12) (v := ?_) rfl (by kernel_rfl) (by kernel_rfl) (by kernel_rfl) (fun _ _ _ h => h) (Or.inl ⟨by kernel_rfl, ?_⟩) (by assumption) ?_
 rotate_left
 ·intro w hSw; (try dsimp only at hSw); go_simp; (try with_reducible rfl)
 (try simp only [Act.put, List.getElem_toArray, List.getElem_cons_zero, List.getElem_cons_succ, List.setIfInBounds_toArray, List.set_cons_zero, List.set_cons_succ])
 refine wpAnyH_take (i := 13) (v := ?_) rfl (by kernel_rfl) (by kernel_rfl) (by kernel_rfl) (fun _ _ _ h => h) (Or.inl ⟨by kernel_rfl, ?_⟩) (by assumption) ?_
 rotate_left
 ·intro w hSw; (try dsimp only at hSw); go_simp; (try with_reducible rfl)
 (try simp only [Act.put, List.getElem_toArray, List.getElem_cons_zero, List.getElem_cons_succ, List.setIfInBounds_toArray, List.set_cons_zero, List.set_cons_succ])
 refine wpAnyH_ready (rs := [5]) (by kernel_rfl) (by simp) ?_
 refine AllReadyH.cons rfl (fun K hK => ?_) AllReadyH.nil
 go_simp
 refine (pof_c g mb _ kda kka _ _ _ HCa.out HS1.out.drew (KidsD.kept (HR1.out.kids HS1.out HKa.out) (Kept.refl _).drew) (by have := HN.out; simp only [List.length_append, List.length_cons, List.length_nil] at this ⊢; omega)).mono ?_
 rintro e w2 ⟨rfl, v2, hs, hr⟩
 have HR2 := Lib.hid ((HR1.out.trans (PrR.of_kept (Kept.refl _).drew _)).trans hr)
 have HS2 := Lib.hid hs
 clear hs hr
 refine hK.out _ _ ⟨(HR2.out.blk HB1.out HO.out.1 HO.out.2).cell 0, (HR2.out.blk HB1.out HO.out.1 HO.out.2).cell 1, (HR2.out.blk HB1.out HO.out.1 HO.out.2).cell 2, (HR2.out.blk HB1.out HO.out.1 HO.out.2).cell 3, (HR2.out.blk HB1.out HO.out.1 HO.out.2).cell 4, (HR2.out.blk HB1.out HO.out.1 HO.out.2).cell 5, HR2.out.low1 HS1.out hD ca0, HR2.out.low1 HS1.out hD ca1, HR2.out.low1 HS1.out hD ca2, HR2.out.low1 HS1.out hD ca3, HR2.out.low1 HS1.out hD ca4, HR2.out.low1 HS1.out hD ca5, HR2.out.low1 HS1.out hD cb0, HR2.out.low1 HS1.out hD cb1, HR2.out.low1 HS1.out hD cb2, HR2.out.low1 HS1.out hD cb3, HR2.out.low1 HS1.out hD cb4, HR2.out.low1 HS1.out hD cb5⟩ (fun hHeld1 => ?_)
 clear hK K
 (try simp only [Act.put, List.getElem_toArray, List.getElem_cons_zero, List.getElem_cons_succ, List.setIfInBounds_toArray, List.set_cons_zero, List.set_cons_succ])
 clear hHeld0
 refine wpAnyH_ready (rs := [8]) (by kernel_rfl) (by simp) ?_
 refine AllReadyH.cons rfl (fun K hK => ?_) AllReadyH.nil
 go_simp
 refine (pname_c t HS2.out (by have := HN.out; simp only [List.length_append, List.length_cons, List.length_nil] at this ⊢; omega)).mono ?_
 rintro e w3 ⟨rfl, v3, hs, hr⟩
 have HR3 := Lib.hid (HR2.out.trans hr)
 have HS3 := Lib.hid hs
 clear hs hr
 refine hK.out _ _ ⟨(HR3.out.blk HB1.out HO.out.1 HO.out.2).cell 0, (HR3.out.blk HB1.out HO.out.1 HO.out.2).cell 1, (HR3.out.blk HB1.out HO.out.1 HO.out.2).cell 2, (HR3.out.blk HB1.out HO.out.1 HO.out.2).cell 3, (HR3.out.blk HB1.out HO.out.1 HO.out.2).cell 4, (HR3.out.blk HB1.out HO.out.1 HO.out.2).cell 5, HR3.out.low1 HS1.out hD ca0, HR3.out.low1 HS1.out hD ca1, HR3.out.low1 HS1.out hD ca2, HR3.out.low1 HS1.out hD ca3, HR3.out.low1 HS1.out hD ca4, HR3.out.low1 HS1.out hD ca5, HR3.out.low1 HS1.out hD cb0, HR3.out.low1 HS1.out hD cb1, HR3.out.low1 HS1.out hD cb2, HR3.out.low1 HS1.out hD cb3, HR3.out.low1 HS1.out hD cb4, HR3.out.low1 HS1.out hD cb5⟩ (fun hHeld2 => ?_)
 clear hK K
 (try simp only [Act.put, List.getElem_toArray, List.getElem_cons_zero, List.getElem_cons_succ, List.setIfInBounds_toArray, List.set_cons_zero, List.set_cons_succ])
 clear hHeld1
 refine wpAnyH_ready (rs := [9]) (by kernel_rfl) (by simp) ?_
 refine AllReadyH.cons rfl (fun K hK => ?_) AllReadyH.nil
 go_simp
 refine (psign_c Ps.kEq HS3.out (by have := HN.out; simp only [List.length_append, List.length_cons, List.length_nil] at this ⊢; omega)).mono ?_
 rintro e w4 ⟨rfl, v4, hs, hr⟩
 have HR4 := Lib.hid (HR3.out.trans hr)
 have HS4 := Lib.hid hs
 clear hs hr
 refine hK.out _ _ ⟨(HR4.out.blk HB1.out HO.out.1 HO.out.2).cell 0, (HR4.out.blk HB1.out HO.out.1 HO.out.2).cell 1, (HR4.out.blk HB1.out HO.out.1 HO.out.2).cell 2, (HR4.out.blk HB1.out HO.out.1 HO.out.2).cell 3, (HR4.out.blk HB1.out HO.out.1 HO.out.2).cell 4, (HR4.out.blk HB1.out HO.out.1 HO.out.2).cell 5, HR4.out.low1 HS1.out hD ca0, HR4.out.low1 HS1.out hD ca1, HR4.out.low1 HS1.out hD ca2, HR4.out.low1 HS1.out hD ca3, HR4.out.low1 HS1.out hD ca4, HR4.out.low1 HS1.out hD ca5, HR4.out.low1 HS1.out hD cb0, HR4.out.low1 HS1.out hD cb1, HR4.out.low1 HS1.out hD cb2, HR4.out.low1 HS1.out hD cb3, HR4.out.low1 HS1.out hD cb4, HR4.out.low1 HS1.out hD cb5⟩ (fun hHeld3 => ?_)
 clear hK K
 (try simp only [Act.put, List.getElem_toArray, List.getElem_cons_zero, List.getElem_cons_succ, List.setIfInBounds_toArray, List.set_cons_zero, List.set_cons_succ])
 clear hHeld2
 refine wpAnyH_ready (rs := [14]) (by kernel_rfl) (by simp) ?_
 refine AllReadyH.cons rfl (fun K hK => ?_) AllReadyH.nil
 go_simp
 refine (HCb.out _ _ _ kdb kkb HS4.out (HR4.out.kids HS1.out HKb.out) (by have := HN.out; simp only [List.length_append, List.length_cons, List.length_nil] at this ⊢; omega)).mono ?_
 rintro e w5 ⟨rfl, v5, hs, hr⟩
 have HR5 := Lib.hid (HR4.out.trans hr)
 have HS5 := Lib.hid hs
 clear hs hr
 refine hK.out _ _ ⟨(HR5.out.blk HB1.out HO.out.1 HO.out.2).cell 0, (HR5.out.blk HB1.out HO.out.1 HO.out.2).cell 1, (HR5.out.blk HB1.out HO.out.1 HO.out.2).cell 2, (HR5.out.blk HB1.out HO.out.1 HO.out.2).cell 3, (HR5.out.blk HB1.out HO.out.1 HO.out.2).cell 4, (HR5.out.blk HB1.out HO.out.1 HO.out.2).cell 5, HR5.out.low1 HS1.out hD ca0, HR5.out.low1 HS1.out hD ca1, HR5.out.low1 HS1.out hD ca2, HR5.out.low1 HS1.out hD ca3, HR5.out.low1 HS1.out hD ca4, HR5.out.low1 HS1.out hD ca5, HR5.out.low1 HS1.out hD cb0, HR5.out.low1 HS1.out hD cb1, HR5.out.low1 HS1.out hD cb2, HR5.out.low1 HS1.out hD cb3, HR5.out.low1 HS1.out hD cb4, HR5.out.low1 HS1.out hD cb5⟩ (fun hHeld4 => ?_)
 clear hK K
 (try simp only [Act.put, List.getElem_toArray, List.getElem_cons_zero, List.getElem_cons_succ, List.setIfInBounds_toArray, List.set_cons_zero, List.set_cons_succ])
 clear hHeld3
 refine wpAnyH_take (i := 15) (v := ?_) rfl (by kernel_rfl) (by kernel_rfl) (by kernel_rfl) (fun _ _ _ h => h) (Or.inl ⟨by kernel_rfl, ?_⟩) (by assumption) ?_
 rotate_left
 ·intro w hSw; (try dsimp only at hSw); go_simp; (try with_reducible rfl)
 (try simp only [Act.put, List.getElem_toArray, List.getElem_cons_zero, List.getElem_cons_succ, List.setIfInBounds_toArray, List.set_cons_zero, List.set_cons_succ])
 refine wpAnyH_done (by kernel_rfl) ?_ _
 clear hHeld4
 go_wp2_with fail
 go_ret
 exact ⟨rfl, _, by rw [HE.out]; exact HS5.out, (PrR.of_kept HK1.out v).trans HR5.out⟩
set_option maxHeartbeats 4000000 in
theorem pm_choice (g mb : Nat) (t y f : ByteArray) (n : Int) (a b c : Nd) (L : List Lx.T) (v : Value) (w : World) (ad : Option Addr) (ck : Nat) (Ha : NodeC g mb a) (Hb : NodeC g mb b) (Hc : NodeC g mb c) (h : PrS g mb L v w) (hk : KidsD (fun k => k < mb) w (.slice ad 3 ck) [a, b, c])
  (hn : L.length + (Pr.form 22 t y n ([a, b, c].map kdM)).length ≤ 1000000000) :
  Calls Tryz.prog 79 #[.pointer (some ⟨g, 0, none⟩), .agg #[.int .i64 22, .string t, .string y, .string f, .int .i64 n, .slice ad 3 ck]] w (PrPost g mb (L ++ Pr.form 22 t y n ([a, b, c].map kdM)) v w) := by
 have HCa := Lib.hid Ha
 have HCb := Lib.hid Hb
 have HCc := Lib.hid Hc
 have HE := Lib.hid (show L ++ Pr.form 22 t y n ([a, b, c].map kdM) = L ++ [key ⟨#[105, 102]⟩] ++ toks a ++ toks b ++ [key ⟨#[101, 108, 115, 101]⟩] ++ toks c from by
  show L ++ (key ⟨#[105, 102]⟩ :: toks a ++ toks b ++ key ⟨#[101, 108, 115, 101]⟩ :: toks c) = _
  first | rfl | (simp only [List.append_assoc, List.cons_append, List.nil_append, List.append_nil]; done) | (simp only [List.append_assoc, List.cons_append, List.nil_append, List.append_nil]; rfl))
 have HN := Lib.hid (show (L ++ [key ⟨#[105, 102]⟩] ++ toks a ++ toks b ++ [key ⟨#[101, 108, 115, 101]⟩] ++ toks c).length ≤ 1000000000 by rw [← HE.out, List.length_append]; exact hn)
 obtain ⟨W1, HW1, HK1, HB1, HO, HS1, HD1, HR1, hcap, y0, y1, y2, y3, y4, y5⟩ := pm_prep 22 t y f n h hk (by simp)
 unfold maxLen at hcap
 obtain ⟨kb, ko, ead, hD⟩ := nd_base HD1.out (i := 0) (y := a) rfl
 subst ead
 obtain ⟨kda, kka, ⟨ca0, ca1, ca2, ca3, ca4, ca5⟩, hka⟩ := nd_at HD1.out (i := 0) (y := a) rfl
 simp only [Nat.zero_mul, Nat.add_zero, Nat.one_mul, Nat.reduceMul, Nat.add_assoc, Nat.reduceAdd] at ca0 ca1 ca2 ca3 ca4 ca5
 have HKa := Lib.hid hka
 clear hka
 obtain ⟨kdb, kkb, ⟨cb0, cb1, cb2, cb3, cb4, cb5⟩, hkb⟩ := nd_at HD1.out (i := 1) (y := b) rfl
 simp only [Nat.zero_mul, Nat.add_zero, Nat.one_mul, Nat.reduceMul, Nat.add_assoc, Nat.reduceAdd] at cb0 cb1 cb2 cb3 cb4 cb5
 have HKb := Lib.hid hkb
 clear hkb
 obtain ⟨kdc, kkc, ⟨cc0, cc1, cc2, cc3, cc4, cc5⟩, hkc⟩ := nd_at HD1.out (i := 2) (y := c) rfl
 simp only [Nat.zero_mul, Nat.add_zero, Nat.one_mul, Nat.reduceMul, Nat.add_assoc, Nat.reduceAdd] at cc0 cc1 cc2 cc3 cc4 cc5
 have HKc := Lib.hid hkc
 clear hkc
 clear h hk hn Ha Hb Hc
 go_enter Tryz.func79, Tryz.ntmps79
 go_wp2_with (rw [HW1.out])
 refine wp_region_held_drew (S := (fun W => W.cell? ⟨w.heap.size, 0, none⟩ = some (.int .i64 22) ∧ W.cell? ⟨w.heap.size, 1, none⟩ = some (.string t) ∧ W.cell? ⟨w.heap.size, 2, none⟩ = some (.string y) ∧ W.cell? ⟨w.heap.size, 3, none⟩ = some (.string f) ∧ W.cell? ⟨w.heap.size, 4, none⟩ = some (.int .i64 n) ∧ W.cell? ⟨w.heap.size, 5, none⟩ = some (.slice (some ⟨kb, ko, none⟩) 3 ck) ∧ W.cell? ⟨kb, ko, none⟩ = some (.int .i64 a.kind) ∧ W.cell? ⟨kb, ko + 1, none⟩ = some (.string a.text) ∧ W.cell? ⟨kb, ko + 2, none⟩ = some (.string a.typ) ∧ W.cell? ⟨kb, ko + 3, none⟩ = some (.string a.frm) ∧ W.cell? ⟨kb, ko + 4, none⟩ = some (.int .i64 a.n) ∧ W.cell? ⟨kb, ko + 5, none⟩ = some (.slice kda a.kids.length kka) ∧ W.cell? ⟨kb, ko + 6, none⟩ = some (.int .i64 b.kind) ∧ W.cell? ⟨kb, ko + 7, none⟩ = some (.string b.text) ∧ W.cell? ⟨kb, ko + 8, none⟩ = some (.string b.typ) ∧ W.cell? ⟨kb, ko + 9, none⟩ = some (.string b.frm) ∧ W.cell? ⟨kb, ko + 10, none⟩ = some (.int .i64 b.n) ∧ W.cell? ⟨kb, ko + 11, none⟩ = some (.slice kdb b.kids.length kkb) ∧ W.cell? ⟨kb, ko + 12, none⟩ = some (.int .i64 c.kind) ∧ W.cell? ⟨kb, ko + 13, none⟩ = some (.string c.text) ∧ W.cell? ⟨kb, ko + 14, none⟩ = some (.string c.typ) ∧ W.cell? ⟨kb, ko + 15, none⟩ = some (.string c.frm) ∧ W.cell? ⟨kb, ko + 16, none⟩ = some (.int .i64 c.n) ∧ W.cell? ⟨kb, ko + 17, none⟩ = some (.slice kdc c.kids.length kkc))) (by kernel_rfl) ⟨((Lib.hid (HR1.out.trans (PrR.of_kept (Kept.refl _).drew _))).out.blk HB1.out HO.out.1 HO.out.2).cell 0, ((Lib.hid (HR1.out.trans (PrR.of_kept (Kept.refl _).drew _))).out.blk HB1.out HO.out.1 HO.out.2).cell 1, ((Lib.hid (HR1.out.trans (PrR.of_kept (Kept.refl _).drew _))).out.blk HB1.out HO.out.1 HO.out.2).cell 2, ((Lib.hid (HR1.out.trans (PrR.of_kept (Kept.refl _).drew _))).out.blk HB1.out HO.out.1 HO.out.2).cell 3, ((Lib.hid (HR1.out.trans (PrR.of_kept (Kept.refl _).drew _))).out.blk HB1.out HO.out.1 HO.out.2).cell 4, ((Lib.hid (HR1.out.trans (PrR.of_kept (Kept.refl _).drew _))).out.blk HB1.out HO.out.1 HO.out.2).cell 5, (Lib.hid (HR1.out.trans (PrR.of_kept (Kept.refl _).drew _))).out.low1 HS1.out hD ca0, (Lib.hid (HR1.out.trans (PrR.of_kept (Kept.refl _).drew _))).out.low1 HS1.out hD ca1, (Lib.hid (HR1.out.trans (PrR.of_kept (Kept.refl _).drew _))).out.low1 HS1.out hD ca2, (Lib.hid (HR1.out.trans (PrR.of_kept (Kept.refl _).drew _))).out.low1 HS1.out hD ca3, (Lib.hid (HR1.out.trans (PrR.of_kept (Kept.refl _).drew _))).out.low1 HS1.out hD ca4, (Lib.hid (HR1.out.trans (PrR.of_kept (Kept.refl _).drew _))).out.low1 HS1.out hD ca5, (Lib.hid (HR1.out.trans (PrR.of_kept (Kept.refl _).drew _))).out.low1 HS1.out hD cb0, (Lib.hid (HR1.out.trans (PrR.of_kept (Kept.refl _).drew _))).out.low1 HS1.out hD cb1, (Lib.hid (HR1.out.trans (PrR.of_kept (Kept.refl _).drew _))).out.low1 HS1.out hD cb2, (Lib.hid (HR1.out.trans (PrR.of_kept (Kept.refl _).drew _))).out.low1 HS1.out hD cb3, (Lib.hid (HR1.out.trans (PrR.of_kept (Kept.refl _).drew _))).out.low1 HS1.out hD cb4, (Lib.hid (HR1.out.trans (PrR.of_kept (Kept.refl _).drew _))).out.low1 HS1.out hD cb5, (Lib.hid (HR1.out.trans (PrR.of_kept (Kept.refl _).drew _))).out.low1 HS1.out hD cc0, (Lib.hid (HR1.out.trans (PrR.of_kept (Kept.refl _).drew _))).out.low1 HS1.out hD cc1, (Lib.hid (HR1.out.trans (PrR.of_kept (Kept.refl _).drew _))).out.low1 HS1.out hD cc2, (Lib.hid (HR1.out.trans (PrR.of_kept (Kept.refl _).drew _))).out.low1 HS1.out hD cc3, (Lib.hid (HR1.out.trans (PrR.of_kept (Kept.refl _).drew _))).out.low1 HS1.out hD cc4, (Lib.hid (HR1.out.trans (PrR.of_kept (Kept.refl _).drew _))).out.low1 HS1.out hD cc5⟩ (fun hHeld0 => ?_)
 refine wpAnyH_take (i := 0) (v := ?_) rfl (by kernel_rfl) (by kernel_rfl) (by kernel_rfl) (fun _ _ _ h => h) (Or.inl ⟨by kernel_rfl, ?_⟩) (by assumption) ?_
 rotate_left
 ·intro w hSw; (try dsimp only at hSw); go_simp; (try with_reducible rfl)
 (try simp only [Act.put, List.getElem_toArray, List.getElem_cons_zero, List.getElem_cons_succ, List.setIfInBounds_toArray, List.set_cons_zero, List.set_cons_succ])
 refine wpAnyH_take (i := 2) (v := ?_) rfl (by kernel_rfl) (by kernel_rfl) (by kernel_rfl) (fun _ _ _ h => h) (Or.inl ⟨by kernel_rfl, ?_⟩) (by assumption) ?_
 rotate_left
 ·intro w hSw; (try dsimp only at hSw); go_simp; (try with_reducible rfl)
 (try simp only [Act.put, List.getElem_toArray, List.getElem_cons_zero, List.getElem_cons_succ, List.setIfInBounds_toArray, List.set_cons_zero, List.set_cons_succ])
 refine wpAnyH_take (i := 3) (v := ?_) rfl (by kernel_rfl) (by kernel_rfl) (by kernel_rfl) (fun _ _ _ h => h) (Or.inl ⟨by kernel_rfl, ?_⟩) (by assumption) ?_
 rotate_left
 ·intro w hSw; (try dsimp only at hSw); go_simp; (try with_reducible rfl)
 (try simp only [Act.put, List.getElem_toArray, List.getElem_cons_zero, List.getElem_cons_succ, List.setIfInBounds_toArray, List.set_cons_zero, List.set_cons_succ])
 refine wpAnyH_take (i := 4) (v := ?_) rfl (by kernel_rfl) (by kernel_rfl) (by kernel_rfl) (fun _ _ _ h => h) (Or.inl ⟨by kernel_rfl, ?_⟩) (by assumption) ?_
 rotate_left
 ·intro w hSw; (try dsimp only at hSw); go_simp; (try with_reducible rfl)
 (try simp only [Act.put, List.getElem_toArray, List.getElem_cons_zero, List.getElem_cons_succ, List.setIfInBounds_toArray, List.set_cons_zero, List.set_cons_succ])
 refine wpAnyH_take (i := 5) (v := ?_) rfl (by kernel_rfl) (by kernel_rfl) (by kernel_rfl) (fun _ _ _ h => h) (Or.inl ⟨by kernel_rfl, ?_⟩) (by assumption) ?_
 rotate_left
 ·intro w hSw; (try dsimp only at hSw); go_simp; (try with_reducible rfl)
 (try simp only [Act.put, List.getElem_toArray, List.getElem_cons_zero, List.getElem_cons_succ, List.setIfInBounds_toArray, List.set_cons_zero, List.set_cons_succ])
 refine wpAnyH_take (i := 7) (v := ?_) rfl (by kernel_rfl) (by kernel_rfl) (by kernel_rfl) (fun _ _ _ h => h) (Or.inl ⟨by kernel_rfl, ?_⟩) (by assumption) ?_
 rotate_left
 ·intro w hSw; (try dsimp only at hSw); go_simp; (try with_reducible rfl)
 (try simp only [Act.put, List.getElem_toArray, List.getElem_cons_zero, List.getElem_cons_succ, List.setIfInBounds_toArray, List.set_cons_zero, List.set_cons_succ])
 refine wpAnyH_take (i := 8) (v := ?_) rfl (by kernel_rfl) (by kernel_rfl) (by kernel_rfl) (fun _ _ _ h => h) (Or.inl ⟨by kernel_rfl, ?_⟩) (by assumption) ?_
 rotate_left
 ·intro w hSw; (try dsimp only at hSw); go_simp; (try with_reducible rfl)
 (try simp only [Act.put, List.getElem_toArray, List.getElem_cons_zero, List.getElem_cons_succ, List.setIfInBounds_toArray, List.set_cons_zero, List.set_cons_succ])
 refine wpAnyH_take (i := 9) (v := ?_) rfl (by kernel_rfl) (by kernel_rfl) (by kernel_rfl) (fun _ _ _ h => h) (Or.inl ⟨by kernel_rfl, ?_⟩) (by assumption) ?_
 rotate_left
 ·intro w hSw; (try dsimp only at hSw); go_simp; (try with_reducible rfl)
 (try simp only [Act.put, List.getElem_toArray, List.getElem_cons_zero, List.getElem_cons_succ, List.setIfInBounds_toArray, List.set_cons_zero, List.set_cons_succ])
 refine wpAnyH_take (i := 10) (v := ?_) rfl (by kernel_rfl) (by kernel_rfl) (by kernel_rfl) (fun _ _ _ h => h) (Or.inl ⟨by kernel_rfl, ?_⟩) (by assumption) ?_
 rotate_left
 ·intro w hSw; (try dsimp only at hSw); go_simp; (try with_reducible rfl)
 (try simp only [Act.put, List.getElem_toArray, List.getElem_cons_zero, List.getElem_cons_succ, List.setIfInBounds_toArray, List.set_cons_zero, List.set_cons_succ])
 refine wpAnyH_take (i := 13) (v := ?_) rfl (by kernel_rfl) (by kernel_rfl) (by kernel_rfl) (fun _ _ _ h => h) (Or.inl ⟨by kernel_rfl, ?_⟩) (by assumption) ?_
 rotate_left
 ·intro w hSw; (try dsimp only at hSw); go_simp; (try with_reducible rfl)
 (try simp only [Act.put, List.getElem_toArray, List.getElem_cons_zero, List.getElem_cons_succ, List.setIfInBounds_toArray, List.set_cons_zero, List.set_cons_succ])
 refine wpAnyH_take (i := 14) (v := ?_) rfl (by kernel_rfl) (by kernel_rfl) (by kernel_rfl) (fun _ _ _ h => h) (Or.inl ⟨by kernel_rfl, ?_⟩) (by assumption) ?_
 rotate_left
 ·intro w hSw; (try dsimp only at hSw); go_simp; (try with_reducible rfl)
 (try simp only [Act.put, List.getElem_toArray, List.getElem_cons_zero, List.getElem_cons_succ, List.setIfInBounds_toArray, List.set_cons_zero, List.set_cons_succ])
 refine wpAnyH_take (i := 15) (v := ?_) rfl (by kernel_rfl) (by kernel_rfl) (by kernel_rfl) (fun _ _ _ h => h) (Or.inl ⟨by kernel_rfl, ?_⟩) (by assumption) ?_
 rotate_left
 ·intro w hSw; (try dsimp only at hSw); go_simp; (try with_reducible rfl)
 (try simp only [Act.put, List.getElem_toArray, List.getElem_cons_zero, List.getElem_cons_succ, List.setIfInBounds_toArray, List.set_cons_zero, List.set_cons_succ])
 refine wpAnyH_take (i := 16) (v := ?_) rfl (by kernel_rfl) (by kernel_rfl) (by kernel_rfl) (fun _ _ _ h => h) (Or.inl ⟨by kernel_rfl, ?_⟩) (by assumption) ?_
 rotate_left
 ·intro w hSw; (try dsimp only at hSw); go_simp; (try with_reducible rfl)
 (try simp only [Act.put, List.getElem_toArray, List.getElem_cons_zero, List.getElem_cons_succ, List.setIfInBounds_toArray, List.set_cons_zero, List.set_cons_succ])
 refine wpAnyH_ready (rs := [1]) (by kernel_rfl) (by simp) ?_
 refine AllReadyH.cons rfl (fun K hK => ?_) AllReadyH.nil
 go_simp
 refine (pkey_c ⟨#[105, 102]⟩ HS1.out.drew (by have := HN.out; simp only [List.length_append, List.length_cons, List.length_nil] at this ⊢; omega)).mono ?_
 rintro e w2 ⟨rfl, v2, hs, hr⟩
 have HR2 := Lib.hid ((HR1.out.trans (PrR.of_kept (Kept.refl _).drew _)).trans hr)
 have HS2 := Lib.hid hs
 clear hs hr
 refine hK.out _ _ ⟨(HR2.out.blk HB1.out HO.out.1 HO.out.2).cell 0, (HR2.out.blk HB1.out HO.out.1 HO.out.2).cell 1, (HR2.out.blk HB1.out HO.out.1 HO.out.2).cell 2, (HR2.out.blk HB1.out HO.out.1 HO.out.2).cell 3, (HR2.out.blk HB1.out HO.out.1 HO.out.2).cell 4, (HR2.out.blk HB1.out HO.out.1 HO.out.2).cell 5, HR2.out.low1 HS1.out hD ca0, HR2.out.low1 HS1.out hD ca1, HR2.out.low1 HS1.out hD ca2, HR2.out.low1 HS1.out hD ca3, HR2.out.low1 HS1.out hD ca4, HR2.out.low1 HS1.out hD ca5, HR2.out.low1 HS1.out hD cb0, HR2.out.low1 HS1.out hD cb1, HR2.out.low1 HS1.out hD cb2, HR2.out.low1 HS1.out hD cb3, HR2.out.low1 HS1.out hD cb4, HR2.out.low1 HS1.out hD cb5, HR2.out.low1 HS1.out hD cc0, HR2.out.low1 HS1.out hD cc1, HR2.out.low1 HS1.out hD cc2, HR2.out.low1 HS1.out hD cc3, HR2.out.low1 HS1.out hD cc4, HR2.out.low1 HS1.out hD cc5⟩ (fun hHeld1 => ?_)
 clear hK K
 (try simp only [Act.put, List.getElem_toArray, List.getElem_cons_zero, List.getElem_cons_succ, List.setIfInBounds_toArray, List.set_cons_zero, List.set_cons_succ])
 clear hHeld0
 refine wpAnyH_ready (rs := [6]) (by kernel_rfl) (by simp) ?_
 refine AllReadyH.cons rfl (fun K hK => ?_) AllReadyH.nil
 go_simp
 refine (HCa.out _ _ _ kda kka HS2.out (HR2.out.kids HS1.out HKa.out) (by have := HN.out; simp only [List.length_append, List.length_cons, List.length_nil] at this ⊢; omega)).mono ?_
 rintro e w3 ⟨rfl, v3, hs, hr⟩
 have HR3 := Lib.hid (HR2.out.trans hr)
 have HS3 := Lib.hid hs
 clear hs hr
 refine hK.out _ _ ⟨(HR3.out.blk HB1.out HO.out.1 HO.out.2).cell 0, (HR3.out.blk HB1.out HO.out.1 HO.out.2).cell 1, (HR3.out.blk HB1.out HO.out.1 HO.out.2).cell 2, (HR3.out.blk HB1.out HO.out.1 HO.out.2).cell 3, (HR3.out.blk HB1.out HO.out.1 HO.out.2).cell 4, (HR3.out.blk HB1.out HO.out.1 HO.out.2).cell 5, HR3.out.low1 HS1.out hD ca0, HR3.out.low1 HS1.out hD ca1, HR3.out.low1 HS1.out hD ca2, HR3.out.low1 HS1.out hD ca3, HR3.out.low1 HS1.out hD ca4, HR3.out.low1 HS1.out hD ca5, HR3.out.low1 HS1.out hD cb0, HR3.out.low1 HS1.out hD cb1, HR3.out.low1 HS1.out hD cb2, HR3.out.low1 HS1.out hD cb3, HR3.out.low1 HS1.out hD cb4, HR3.out.low1 HS1.out hD cb5, HR3.out.low1 HS1.out hD cc0, HR3.out.low1 HS1.out hD cc1, HR3.out.low1 HS1.out hD cc2, HR3.out.low1 HS1.out hD cc3, HR3.out.low1 HS1.out hD cc4, HR3.out.low1 HS1.out hD cc5⟩ (fun hHeld2 => ?_)
 clear hK K
 (try simp only [Act.put, List.getElem_toArray, List.getElem_cons_zero, List.getElem_cons_succ, List.setIfInBounds_toArray, List.set_cons_zero, List.set_cons_succ])
 clear hHeld1
 refine wpAnyH_ready (rs := [11]) (by kernel_rfl) (by simp) ?_
 refine AllReadyH.cons rfl (fun K hK => ?_) AllReadyH.nil
 go_simp
 refine (HCb.out _ _ _ kdb kkb HS3.out (HR3.out.kids HS1.out HKb.out) (by have := HN.out; simp only [List.length_append, List.length_cons, List.length_nil] at this ⊢; omega)).mono ?_
 rintro e w4 ⟨rfl, v4, hs, hr⟩
 have HR4 := Lib.hid (HR3.out.trans hr)
 have HS4 := Lib.hid hs
 clear hs hr
 refine hK.out _ _ ⟨(HR4.out.blk HB1.out HO.out.1 HO.out.2).cell 0, (HR4.out.blk HB1.out HO.out.1 HO.out.2).cell 1, (HR4.out.blk HB1.out HO.out.1 HO.out.2).cell 2, (HR4.out.blk HB1.out HO.out.1 HO.out.2).cell 3, (HR4.out.blk HB1.out HO.out.1 HO.out.2).cell 4, (HR4.out.blk HB1.out HO.out.1 HO.out.2).cell 5, HR4.out.low1 HS1.out hD ca0, HR4.out.low1 HS1.out hD ca1, HR4.out.low1 HS1.out hD ca2, HR4.out.low1 HS1.out hD ca3, HR4.out.low1 HS1.out hD ca4, HR4.out.low1 HS1.out hD ca5, HR4.out.low1 HS1.out hD cb0, HR4.out.low1 HS1.out hD cb1, HR4.out.low1 HS1.out hD cb2, HR4.out.low1 HS1.out hD cb3, HR4.out.low1 HS1.out hD cb4, HR4.out.low1 HS1.out hD cb5, HR4.out.low1 HS1.out hD cc0, HR4.out.low1 HS1.out hD cc1, HR4.out.low1 HS1.out hD cc2, HR4.out.low1 HS1.out hD cc3, HR4.out.low1 HS1.out hD cc4, HR4.out.low1 HS1.out hD cc5⟩ (fun hHeld3 => ?_)
 clear hK K
 (try simp only [Act.put, List.getElem_toArray, List.getElem_cons_zero, List.getElem_cons_succ, List.setIfInBounds_toArray, List.set_cons_zero, List.set_cons_succ])
 clear hHeld2
 refine wpAnyH_ready (rs := [12]) (by kernel_rfl) (by simp) ?_
 refine AllReadyH.cons rfl (fun K hK => ?_) AllReadyH.nil
 go_simp
 refine (pkey_c ⟨#[101, 108, 115, 101]⟩ HS4.out (by have := HN.out; simp only [List.length_append, List.length_cons, List.length_nil] at this ⊢; omega)).mono ?_
 rintro e w5 ⟨rfl, v5, hs, hr⟩
 have HR5 := Lib.hid (HR4.out.trans hr)
 have HS5 := Lib.hid hs
 clear hs hr
 refine hK.out _ _ ⟨(HR5.out.blk HB1.out HO.out.1 HO.out.2).cell 0, (HR5.out.blk HB1.out HO.out.1 HO.out.2).cell 1, (HR5.out.blk HB1.out HO.out.1 HO.out.2).cell 2, (HR5.out.blk HB1.out HO.out.1 HO.out.2).cell 3, (HR5.out.blk HB1.out HO.out.1 HO.out.2).cell 4, (HR5.out.blk HB1.out HO.out.1 HO.out.2).cell 5, HR5.out.low1 HS1.out hD ca0, HR5.out.low1 HS1.out hD ca1, HR5.out.low1 HS1.out hD ca2, HR5.out.low1 HS1.out hD ca3, HR5.out.low1 HS1.out hD ca4, HR5.out.low1 HS1.out hD ca5, HR5.out.low1 HS1.out hD cb0, HR5.out.low1 HS1.out hD cb1, HR5.out.low1 HS1.out hD cb2, HR5.out.low1 HS1.out hD cb3, HR5.out.low1 HS1.out hD cb4, HR5.out.low1 HS1.out hD cb5, HR5.out.low1 HS1.out hD cc0, HR5.out.low1 HS1.out hD cc1, HR5.out.low1 HS1.out hD cc2, HR5.out.low1 HS1.out hD cc3, HR5.out.low1 HS1.out hD cc4, HR5.out.low1 HS1.out hD cc5⟩ (fun hHeld4 => ?_)
 clear hK K
 (try simp only [Act.put, List.getElem_toArray, List.getElem_cons_zero, List.getElem_cons_succ, List.setIfInBounds_toArray, List.set_cons_zero, List.set_cons_succ])
 clear hHeld3
 refine wpAnyH_ready (rs := [17]) (by kernel_rfl) (by simp) ?_
 refine AllReadyH.cons rfl (fun K hK => ?_) AllReadyH.nil
 go_simp
 refine (HCc.out _ _ _ kdc kkc HS5.out (HR5.out.kids HS1.out HKc.out) (by have := HN.out; simp only [List.length_append, List.length_cons, List.length_nil] at this ⊢; omega)).mono ?_
 rintro e w6 ⟨rfl, v6, hs, hr⟩
 have HR6 := Lib.hid (HR5.out.trans hr)
 have HS6 := Lib.hid hs
 clear hs hr
 refine hK.out _ _ ⟨(HR6.out.blk HB1.out HO.out.1 HO.out.2).cell 0, (HR6.out.blk HB1.out HO.out.1 HO.out.2).cell 1, (HR6.out.blk HB1.out HO.out.1 HO.out.2).cell 2, (HR6.out.blk HB1.out HO.out.1 HO.out.2).cell 3, (HR6.out.blk HB1.out HO.out.1 HO.out.2).cell 4, (HR6.out.blk HB1.out HO.out.1 HO.out.2).cell 5, HR6.out.low1 HS1.out hD ca0, HR6.out.low1 HS1.out hD ca1, HR6.out.low1 HS1.out hD ca2, HR6.out.low1 HS1.out hD ca3, HR6.out.low1 HS1.out hD ca4, HR6.out.low1 HS1.out hD ca5, HR6.out.low1 HS1.out hD cb0, HR6.out.low1 HS1.out hD cb1, HR6.out.low1 HS1.out hD cb2, HR6.out.low1 HS1.out hD cb3, HR6.out.low1 HS1.out hD cb4, HR6.out.low1 HS1.out hD cb5, HR6.out.low1 HS1.out hD cc0, HR6.out.low1 HS1.out hD cc1, HR6.out.low1 HS1.out hD cc2, HR6.out.low1 HS1.out hD cc3, HR6.out.low1 HS1.out hD cc4, HR6.out.low1 HS1.out hD cc5⟩ (fun hHeld5 => ?_)
 clear hK K
 (try simp only [Act.put, List.getElem_toArray, List.getElem_cons_zero, List.getElem_cons_succ, List.setIfInBounds_toArray, List.set_cons_zero, List.set_cons_succ])
 clear hHeld4
 refine wpAnyH_take (i := 18) (v := ?_) rfl (by kernel_rfl) (by kernel_rfl) (by kernel_rfl) (fun _ _ _ h => h) (Or.inl ⟨by kernel_rfl, ?_⟩) (by assumption) ?_
 rotate_left
 ·intro w hSw; (try dsimp only at hSw); go_simp; (try with_reducible rfl)
 (try simp only [Act.put, List.getElem_toArray, List.getElem_cons_zero, List.getElem_cons_succ, List.setIfInBounds_toArray, List.set_cons_zero, List.set_cons_succ])
 refine wpAnyH_done (by kernel_rfl) ?_ _
 clear hHeld5
 go_wp2_with fail
 go_ret
 exact ⟨rfl, _, by rw [HE.out]; exact HS6.out, (PrR.of_kept HK1.out v).trans HR6.out⟩
set_option maxHeartbeats 4000000 in
theorem pm_unary (g mb : Nat) (t y f : ByteArray) (n : Int) (a : Nd) (L : List Lx.T) (v : Value) (w : World) (ad : Option Addr) (ck : Nat) (Ha : NodeC g mb a) (h : PrS g mb L v w) (hk : KidsD (fun k => k < mb) w (.slice ad 1 ck) [a])
  (hn : L.length + (Pr.form 24 t y n ([a].map kdM)).length ≤ 1000000000) :
  Calls Tryz.prog 81 #[.pointer (some ⟨g, 0, none⟩), .agg #[.int .i64 24, .string t, .string y, .string f, .int .i64 n, .slice ad 1 ck]] w (PrPost g mb (L ++ Pr.form 24 t y n ([a].map kdM)) v w) := by
 have HCa := Lib.hid Ha
 have HE := Lib.hid (show L ++ Pr.form 24 t y n ([a].map kdM) = L ++ [sgn t] ++ at1 7 (kdM a) from by
  show L ++ (sgn t :: at1 7 (kdM a)) = _
  first | rfl | (simp only [List.append_assoc, List.cons_append, List.nil_append, List.append_nil]; done) | (simp only [List.append_assoc, List.cons_append, List.nil_append, List.append_nil]; rfl))
 have HN := Lib.hid (show (L ++ [sgn t] ++ at1 7 (kdM a)).length ≤ 1000000000 by rw [← HE.out, List.length_append]; exact hn)
 obtain ⟨W1, HW1, HK1, HB1, HO, HS1, HD1, HR1, hcap, y0, y1, y2, y3, y4, y5⟩ := pm_prep 24 t y f n h hk (by simp)
 unfold maxLen at hcap
 obtain ⟨kb, ko, ead, hD⟩ := nd_base HD1.out (i := 0) (y := a) rfl
 subst ead
 obtain ⟨kda, kka, ⟨ca0, ca1, ca2, ca3, ca4, ca5⟩, hka⟩ := nd_at HD1.out (i := 0) (y := a) rfl
 simp only [Nat.zero_mul, Nat.add_zero, Nat.one_mul, Nat.reduceMul, Nat.add_assoc, Nat.reduceAdd] at ca0 ca1 ca2 ca3 ca4 ca5
 have HKa := Lib.hid hka
 clear hka
 clear h hk hn Ha
 go_enter Tryz.func81, Tryz.ntmps81
 go_wp2_with (rw [HW1.out])
 refine wp_region_held_drew (S := (fun W => W.cell? ⟨w.heap.size, 0, none⟩ = some (.int .i64 24) ∧ W.cell? ⟨w.heap.size, 1, none⟩ = some (.string t) ∧ W.cell? ⟨w.heap.size, 2, none⟩ = some (.string y) ∧ W.cell? ⟨w.heap.size, 3, none⟩ = some (.string f) ∧ W.cell? ⟨w.heap.size, 4, none⟩ = some (.int .i64 n) ∧ W.cell? ⟨w.heap.size, 5, none⟩ = some (.slice (some ⟨kb, ko, none⟩) 1 ck) ∧ W.cell? ⟨kb, ko, none⟩ = some (.int .i64 a.kind) ∧ W.cell? ⟨kb, ko + 1, none⟩ = some (.string a.text) ∧ W.cell? ⟨kb, ko + 2, none⟩ = some (.string a.typ) ∧ W.cell? ⟨kb, ko + 3, none⟩ = some (.string a.frm) ∧ W.cell? ⟨kb, ko + 4, none⟩ = some (.int .i64 a.n) ∧ W.cell? ⟨kb, ko + 5, none⟩ = some (.slice kda a.kids.length kka))) (by kernel_rfl) ⟨((Lib.hid (HR1.out.trans (PrR.of_kept (Kept.refl _).drew _))).out.blk HB1.out HO.out.1 HO.out.2).cell 0, ((Lib.hid (HR1.out.trans (PrR.of_kept (Kept.refl _).drew _))).out.blk HB1.out HO.out.1 HO.out.2).cell 1, ((Lib.hid (HR1.out.trans (PrR.of_kept (Kept.refl _).drew _))).out.blk HB1.out HO.out.1 HO.out.2).cell 2, ((Lib.hid (HR1.out.trans (PrR.of_kept (Kept.refl _).drew _))).out.blk HB1.out HO.out.1 HO.out.2).cell 3, ((Lib.hid (HR1.out.trans (PrR.of_kept (Kept.refl _).drew _))).out.blk HB1.out HO.out.1 HO.out.2).cell 4, ((Lib.hid (HR1.out.trans (PrR.of_kept (Kept.refl _).drew _))).out.blk HB1.out HO.out.1 HO.out.2).cell 5, (Lib.hid (HR1.out.trans (PrR.of_kept (Kept.refl _).drew _))).out.low1 HS1.out hD ca0, (Lib.hid (HR1.out.trans (PrR.of_kept (Kept.refl _).drew _))).out.low1 HS1.out hD ca1, (Lib.hid (HR1.out.trans (PrR.of_kept (Kept.refl _).drew _))).out.low1 HS1.out hD ca2, (Lib.hid (HR1.out.trans (PrR.of_kept (Kept.refl _).drew _))).out.low1 HS1.out hD ca3, (Lib.hid (HR1.out.trans (PrR.of_kept (Kept.refl _).drew _))).out.low1 HS1.out hD ca4, (Lib.hid (HR1.out.trans (PrR.of_kept (Kept.refl _).drew _))).out.low1 HS1.out hD ca5⟩ (fun hHeld0 => ?_)
 refine wpAnyH_take (i := 0) (v := ?_) rfl (by kernel_rfl) (by kernel_rfl) (by kernel_rfl) (fun _ _ _ h => h) (Or.inl ⟨by kernel_rfl, ?_⟩) (by assumption) ?_
 rotate_left
 ·intro w hSw; (try dsimp only at hSw); go_simp; (try with_reducible rfl)
 (try simp only [Act.put, List.getElem_toArray, List.getElem_cons_zero, List.getElem_cons_succ, List.setIfInBounds_toArray, List.set_cons_zero, List.set_cons_succ])
 refine wpAnyH_take (i := 1) (v := ?_) rfl (by kernel_rfl) (by kernel_rfl) (by kernel_rfl) (fun _ _ _ h => h) (Or.inl ⟨by kernel_rfl, ?_⟩) (by assumption) ?_
 rotate_left
 ·intro w hSw; (try dsimp only at hSw); go_simp; (try with_reducible rfl)
 (try simp only [Act.put, List.getElem_toArray, List.getElem_cons_zero, List.getElem_cons_succ, List.setIfInBounds_toArray, List.set_cons_zero, List.set_cons_succ])
 refine wpAnyH_take (i := 2) (v := ?_) rfl (by kernel_rfl) (by kernel_rfl) (by kernel_rfl) (fun _ _ _ h => h) (Or.inl ⟨by kernel_rfl, ?_⟩) (by assumption) ?_
 rotate_left
 ·intro w hSw; (try dsimp only at hSw); go_simp; (try with_reducible rfl)
 (try simp only [Act.put, List.getElem_toArray, List.getElem_cons_zero, List.getElem_cons_succ, List.setIfInBounds_toArray, List.set_cons_zero, List.set_cons_succ])
 refine wpAnyH_take (i := 4) (v := ?_) rfl (by kernel_rfl) (by kernel_rfl) (by kernel_rfl) (fun _ _ _ h => h) (Or.inl ⟨by kernel_rfl, ?_⟩) (by assumption) ?_
 rotate_left
 ·intro w hSw; (try dsimp only at hSw); go_simp; (try with_reducible rfl)
 (try simp only [Act.put, List.getElem_toArray, List.getElem_cons_zero, List.getElem_cons_succ, List.setIfInBounds_toArray, List.set_cons_zero, List.set_cons_succ])
 refine wpAnyH_take (i := 5) (v := ?_) rfl (by kernel_rfl) (by kernel_rfl) (by kernel_rfl) (fun _ _ _ h => h) (Or.inl ⟨by kernel_rfl, ?_⟩) (by assumption) ?_
 rotate_left
 ·intro w hSw; (try dsimp only at hSw); go_simp; (try with_reducible rfl)
 (try simp only [Act.put, List.getElem_toArray, List.getElem_cons_zero, List.getElem_cons_succ, List.setIfInBounds_toArray, List.set_cons_zero, List.set_cons_succ])
 refine wpAnyH_take (i := 6) (v := ?_) rfl (by kernel_rfl) (by kernel_rfl) (by kernel_rfl) (fun _ _ _ h => h) (Or.inl ⟨by kernel_rfl, ?_⟩) (by assumption) ?_
 rotate_left
 ·intro w hSw; (try dsimp only at hSw); go_simp; (try with_reducible rfl)
 (try simp only [Act.put, List.getElem_toArray, List.getElem_cons_zero, List.getElem_cons_succ, List.setIfInBounds_toArray, List.set_cons_zero, List.set_cons_succ])
 refine wpAnyH_take (i := 7) (v := ?_) rfl (by kernel_rfl) (by kernel_rfl) (by kernel_rfl) (fun _ _ _ h => h) (Or.inl ⟨by kernel_rfl, ?_⟩) (by assumption) ?_
 rotate_left
 ·intro w hSw; (try dsimp only at hSw); go_simp; (try with_reducible rfl)
 (try simp only [Act.put, List.getElem_toArray, List.getElem_cons_zero, List.getElem_cons_succ, List.setIfInBounds_toArray, List.set_cons_zero, List.set_cons_succ])
 refine wpAnyH_take (i := 8) (v := ?_) rfl (by kernel_rfl) (by kernel_rfl) (by kernel_rfl) (fun _ _ _ h => h) (Or.inl ⟨by kernel_rfl, ?_⟩) (by assumption) ?_
 rotate_left
 ·intro w hSw; (try dsimp only at hSw); go_simp; (try with_reducible rfl)
 (try simp only [Act.put, List.getElem_toArray, List.getElem_cons_zero, List.getElem_cons_succ, List.setIfInBounds_toArray, List.set_cons_zero, List.set_cons_succ])
 refine wpAnyH_ready (rs := [3]) (by kernel_rfl) (by simp) ?_
 refine AllReadyH.cons rfl (fun K hK => ?_) AllReadyH.nil
 go_simp
 refine (psign_c t HS1.out.drew (by have := HN.out; simp only [List.length_append, List.length_cons, List.length_nil] at this ⊢; omega)).mono ?_
 rintro e w2 ⟨rfl, v2, hs, hr⟩
 have HR2 := Lib.hid ((HR1.out.trans (PrR.of_kept (Kept.refl _).drew _)).trans hr)
 have HS2 := Lib.hid hs
 clear hs hr
 refine hK.out _ _ ⟨(HR2.out.blk HB1.out HO.out.1 HO.out.2).cell 0, (HR2.out.blk HB1.out HO.out.1 HO.out.2).cell 1, (HR2.out.blk HB1.out HO.out.1 HO.out.2).cell 2, (HR2.out.blk HB1.out HO.out.1 HO.out.2).cell 3, (HR2.out.blk HB1.out HO.out.1 HO.out.2).cell 4, (HR2.out.blk HB1.out HO.out.1 HO.out.2).cell 5, HR2.out.low1 HS1.out hD ca0, HR2.out.low1 HS1.out hD ca1, HR2.out.low1 HS1.out hD ca2, HR2.out.low1 HS1.out hD ca3, HR2.out.low1 HS1.out hD ca4, HR2.out.low1 HS1.out hD ca5⟩ (fun hHeld1 => ?_)
 clear hK K
 (try simp only [Act.put, List.getElem_toArray, List.getElem_cons_zero, List.getElem_cons_succ, List.setIfInBounds_toArray, List.set_cons_zero, List.set_cons_succ])
 clear hHeld0
 refine wpAnyH_ready (rs := [9]) (by kernel_rfl) (by simp) ?_
 refine AllReadyH.cons rfl (fun K hK => ?_) AllReadyH.nil
 go_simp
 refine (poper_c g mb _ 7 kda kka _ _ _ HCa.out HS2.out (HR2.out.kids HS1.out HKa.out) (by have := HN.out; simp only [List.length_append, List.length_cons, List.length_nil] at this ⊢; omega)).mono ?_
 rintro e w3 ⟨rfl, v3, hs, hr⟩
 have HR3 := Lib.hid (HR2.out.trans hr)
 have HS3 := Lib.hid hs
 clear hs hr
 refine hK.out _ _ ⟨(HR3.out.blk HB1.out HO.out.1 HO.out.2).cell 0, (HR3.out.blk HB1.out HO.out.1 HO.out.2).cell 1, (HR3.out.blk HB1.out HO.out.1 HO.out.2).cell 2, (HR3.out.blk HB1.out HO.out.1 HO.out.2).cell 3, (HR3.out.blk HB1.out HO.out.1 HO.out.2).cell 4, (HR3.out.blk HB1.out HO.out.1 HO.out.2).cell 5, HR3.out.low1 HS1.out hD ca0, HR3.out.low1 HS1.out hD ca1, HR3.out.low1 HS1.out hD ca2, HR3.out.low1 HS1.out hD ca3, HR3.out.low1 HS1.out hD ca4, HR3.out.low1 HS1.out hD ca5⟩ (fun hHeld2 => ?_)
 clear hK K
 (try simp only [Act.put, List.getElem_toArray, List.getElem_cons_zero, List.getElem_cons_succ, List.setIfInBounds_toArray, List.set_cons_zero, List.set_cons_succ])
 clear hHeld1
 refine wpAnyH_take (i := 10) (v := ?_) rfl (by kernel_rfl) (by kernel_rfl) (by kernel_rfl) (fun _ _ _ h => h) (Or.inl ⟨by kernel_rfl, ?_⟩) (by assumption) ?_
 rotate_left
 ·intro w hSw; (try dsimp only at hSw); go_simp; (try with_reducible rfl)
 (try simp only [Act.put, List.getElem_toArray, List.getElem_cons_zero, List.getElem_cons_succ, List.setIfInBounds_toArray, List.set_cons_zero, List.set_cons_succ])
 refine wpAnyH_done (by kernel_rfl) ?_ _
 clear hHeld2
 go_wp2_with fail
 go_ret
 exact ⟨rfl, _, by rw [HE.out]; exact HS3.out, (PrR.of_kept HK1.out v).trans HR3.out⟩
set_option maxHeartbeats 4000000 in
theorem pm_as (g mb : Nat) (t y f : ByteArray) (n : Int) (a : Nd) (L : List Lx.T) (v : Value) (w : World) (ad : Option Addr) (ck : Nat) (Ha : NodeC g mb a) (h : PrS g mb L v w) (hk : KidsD (fun k => k < mb) w (.slice ad 1 ck) [a])
  (hn : L.length + (Pr.form 28 t y n ([a].map kdM)).length ≤ 1000000000) :
  Calls Tryz.prog 86 #[.pointer (some ⟨g, 0, none⟩), .agg #[.int .i64 28, .string t, .string y, .string f, .int .i64 n, .slice ad 1 ck]] w (PrPost g mb (L ++ Pr.form 28 t y n ([a].map kdM)) v w) := by
 have HCa := Lib.hid Ha
 have HE := Lib.hid (show L ++ Pr.form 28 t y n ([a].map kdM) = L ++ [sgn Ps.kOpen] ++ toks a ++ [sgn Ps.kColon] ++ [typT y] ++ [sgn Ps.kShut] from by
  show L ++ (sgn Ps.kOpen :: toks a ++ sgn Ps.kColon :: typT y :: [sgn Ps.kShut]) = _
  first | rfl | (simp only [List.append_assoc, List.cons_append, List.nil_append, List.append_nil]; done) | (simp only [List.append_assoc, List.cons_append, List.nil_append, List.append_nil]; rfl))
 have HN := Lib.hid (show (L ++ [sgn Ps.kOpen] ++ toks a ++ [sgn Ps.kColon] ++ [typT y] ++ [sgn Ps.kShut]).length ≤ 1000000000 by rw [← HE.out, List.length_append]; exact hn)
 obtain ⟨W1, HW1, HK1, HB1, HO, HS1, HD1, HR1, hcap, y0, y1, y2, y3, y4, y5⟩ := pm_prep 28 t y f n h hk (by simp)
 unfold maxLen at hcap
 obtain ⟨kb, ko, ead, hD⟩ := nd_base HD1.out (i := 0) (y := a) rfl
 subst ead
 obtain ⟨kda, kka, ⟨ca0, ca1, ca2, ca3, ca4, ca5⟩, hka⟩ := nd_at HD1.out (i := 0) (y := a) rfl
 simp only [Nat.zero_mul, Nat.add_zero, Nat.one_mul, Nat.reduceMul, Nat.add_assoc, Nat.reduceAdd] at ca0 ca1 ca2 ca3 ca4 ca5
 have HKa := Lib.hid hka
 clear hka
 clear h hk hn Ha
 go_enter Tryz.func86, Tryz.ntmps86
 go_wp2_with (rw [HW1.out])
 refine wp_region_held_drew (S := (fun W => W.cell? ⟨w.heap.size, 0, none⟩ = some (.int .i64 28) ∧ W.cell? ⟨w.heap.size, 1, none⟩ = some (.string t) ∧ W.cell? ⟨w.heap.size, 2, none⟩ = some (.string y) ∧ W.cell? ⟨w.heap.size, 3, none⟩ = some (.string f) ∧ W.cell? ⟨w.heap.size, 4, none⟩ = some (.int .i64 n) ∧ W.cell? ⟨w.heap.size, 5, none⟩ = some (.slice (some ⟨kb, ko, none⟩) 1 ck) ∧ W.cell? ⟨kb, ko, none⟩ = some (.int .i64 a.kind) ∧ W.cell? ⟨kb, ko + 1, none⟩ = some (.string a.text) ∧ W.cell? ⟨kb, ko + 2, none⟩ = some (.string a.typ) ∧ W.cell? ⟨kb, ko + 3, none⟩ = some (.string a.frm) ∧ W.cell? ⟨kb, ko + 4, none⟩ = some (.int .i64 a.n) ∧ W.cell? ⟨kb, ko + 5, none⟩ = some (.slice kda a.kids.length kka))) (by kernel_rfl) ⟨((Lib.hid (HR1.out.trans (PrR.of_kept (Kept.refl _).drew _))).out.blk HB1.out HO.out.1 HO.out.2).cell 0, ((Lib.hid (HR1.out.trans (PrR.of_kept (Kept.refl _).drew _))).out.blk HB1.out HO.out.1 HO.out.2).cell 1, ((Lib.hid (HR1.out.trans (PrR.of_kept (Kept.refl _).drew _))).out.blk HB1.out HO.out.1 HO.out.2).cell 2, ((Lib.hid (HR1.out.trans (PrR.of_kept (Kept.refl _).drew _))).out.blk HB1.out HO.out.1 HO.out.2).cell 3, ((Lib.hid (HR1.out.trans (PrR.of_kept (Kept.refl _).drew _))).out.blk HB1.out HO.out.1 HO.out.2).cell 4, ((Lib.hid (HR1.out.trans (PrR.of_kept (Kept.refl _).drew _))).out.blk HB1.out HO.out.1 HO.out.2).cell 5, (Lib.hid (HR1.out.trans (PrR.of_kept (Kept.refl _).drew _))).out.low1 HS1.out hD ca0, (Lib.hid (HR1.out.trans (PrR.of_kept (Kept.refl _).drew _))).out.low1 HS1.out hD ca1, (Lib.hid (HR1.out.trans (PrR.of_kept (Kept.refl _).drew _))).out.low1 HS1.out hD ca2, (Lib.hid (HR1.out.trans (PrR.of_kept (Kept.refl _).drew _))).out.low1 HS1.out hD ca3, (Lib.hid (HR1.out.trans (PrR.of_kept (Kept.refl _).drew _))).out.low1 HS1.out hD ca4, (Lib.hid (HR1.out.trans (PrR.of_kept (Kept.refl _).drew _))).out.low1 HS1.out hD ca5⟩ (fun hHeld0 => ?_)
 refine wpAnyH_take (i := 0) (v := ?_) rfl (by kernel_rfl) (by kernel_rfl) (by kernel_rfl) (fun _ _ _ h => h) (Or.inl ⟨by kernel_rfl, ?_⟩) (by assumption) ?_
 rotate_left
 ·intro w hSw; (try dsimp only at hSw); go_simp; (try with_reducible rfl)
 (try simp only [Act.put, List.getElem_toArray, List.getElem_cons_zero, List.getElem_cons_succ, List.setIfInBounds_toArray, List.set_cons_zero, List.set_cons_succ])
 refine wpAnyH_take (i := 2) (v := ?_) rfl (by kernel_rfl) (by kernel_rfl) (by kernel_rfl) (fun _ _ _ h => h) (Or.inl ⟨by kernel_rfl, ?_⟩) (by assumption) ?_
 rotate_left
 ·intro w hSw; (try dsimp only at hSw); go_simp; (try with_reducible rfl)
 (try simp only [Act.put, List.getElem_toArray, List.getElem_cons_zero, List.getElem_cons_succ, List.setIfInBounds_toArray, List.set_cons_zero, List.set_cons_succ])
 refine wpAnyH_take (i := 3) (v := ?_) rfl (by kernel_rfl) (by kernel_rfl) (by kernel_rfl) (fun _ _ _ h => h) (Or.inl ⟨by kernel_rfl, ?_⟩) (by assumption) ?_
 rotate_left
 ·intro w hSw; (try dsimp only at hSw); go_simp; (try with_reducible rfl)
 (try simp only [Act.put, List.getElem_toArray, List.getElem_cons_zero, List.getElem_cons_succ, List.setIfInBounds_toArray, List.set_cons_zero, List.set_cons_succ])
 refine wpAnyH_take (i := 4) (v := ?_) rfl (by kernel_rfl) (by kernel_rfl) (by kernel_rfl) (fun _ _ _ h => h) (Or.inl ⟨by kernel_rfl, ?_⟩) (by assumption) ?_
 rotate_left
 ·intro w hSw; (try dsimp only at hSw); go_simp; (try with_reducible rfl)
 (try simp only [Act.put, List.getElem_toArray, List.getElem_cons_zero, List.getElem_cons_succ, List.setIfInBounds_toArray, List.set_cons_zero, List.set_cons_succ])
 refine wpAnyH_take (i := 5) (v := ?_) rfl (by kernel_rfl) (by kernel_rfl) (by kernel_rfl) (fun _ _ _ h => h) (Or.inl ⟨by kernel_rfl, ?_⟩) (by assumption) ?_
 rotate_left
 ·intro w hSw; (try dsimp only at hSw); go_simp; (try with_reducible rfl)
 (try simp only [Act.put, List.getElem_toArray, List.getElem_cons_zero, List.getElem_cons_succ, List.setIfInBounds_toArray, List.set_cons_zero, List.set_cons_succ])
 refine wpAnyH_take (i := 8) (v := ?_) rfl (by kernel_rfl) (by kernel_rfl) (by kernel_rfl) (fun _ _ _ h => h) (Or.inl ⟨by kernel_rfl, ?_⟩) (by assumption) ?_
 rotate_left
 ·intro w hSw; (try dsimp only at hSw); go_simp; (try with_reducible rfl)
 (try simp only [Act.put, List.getElem_toArray, List.getElem_cons_zero, List.getElem_cons_succ, List.setIfInBounds_toArray, List.set_cons_zero, List.set_cons_succ])
 refine wpAnyH_take (i := 9) (v := ?_) rfl (by kernel_rfl) (by kernel_rfl) (by kernel_rfl) (fun _ _ _ h => h) (Or.inl ⟨by kernel_rfl, ?_⟩) (by assumption) ?_
 rotate_left
 ·intro w hSw; (try dsimp only at hSw); go_simp; (try with_reducible rfl)
 (try simp only [Act.put, List.getElem_toArray, List.getElem_cons_zero, List.getElem_cons_succ, List.setIfInBounds_toArray, List.set_cons_zero, List.set_cons_succ])
 refine wpAnyH_ready (rs := [1]) (by kernel_rfl) (by simp) ?_
 refine AllReadyH.cons rfl (fun K hK => ?_) AllReadyH.nil
 go_simp
 refine (psign_c Ps.kOpen HS1.out.drew (by have := HN.out; simp only [List.length_append, List.length_cons, List.length_nil] at this ⊢; omega)).mono ?_
 rintro e w2 ⟨rfl, v2, hs, hr⟩
 have HR2 := Lib.hid ((HR1.out.trans (PrR.of_kept (Kept.refl _).drew _)).trans hr)
 have HS2 := Lib.hid hs
 clear hs hr
 refine hK.out _ _ ⟨(HR2.out.blk HB1.out HO.out.1 HO.out.2).cell 0, (HR2.out.blk HB1.out HO.out.1 HO.out.2).cell 1, (HR2.out.blk HB1.out HO.out.1 HO.out.2).cell 2, (HR2.out.blk HB1.out HO.out.1 HO.out.2).cell 3, (HR2.out.blk HB1.out HO.out.1 HO.out.2).cell 4, (HR2.out.blk HB1.out HO.out.1 HO.out.2).cell 5, HR2.out.low1 HS1.out hD ca0, HR2.out.low1 HS1.out hD ca1, HR2.out.low1 HS1.out hD ca2, HR2.out.low1 HS1.out hD ca3, HR2.out.low1 HS1.out hD ca4, HR2.out.low1 HS1.out hD ca5⟩ (fun hHeld1 => ?_)
 clear hK K
 (try simp only [Act.put, List.getElem_toArray, List.getElem_cons_zero, List.getElem_cons_succ, List.setIfInBounds_toArray, List.set_cons_zero, List.set_cons_succ])
 clear hHeld0
 refine wpAnyH_ready (rs := [6]) (by kernel_rfl) (by simp) ?_
 refine AllReadyH.cons rfl (fun K hK => ?_) AllReadyH.nil
 go_simp
 refine (HCa.out _ _ _ kda kka HS2.out (HR2.out.kids HS1.out HKa.out) (by have := HN.out; simp only [List.length_append, List.length_cons, List.length_nil] at this ⊢; omega)).mono ?_
 rintro e w3 ⟨rfl, v3, hs, hr⟩
 have HR3 := Lib.hid (HR2.out.trans hr)
 have HS3 := Lib.hid hs
 clear hs hr
 refine hK.out _ _ ⟨(HR3.out.blk HB1.out HO.out.1 HO.out.2).cell 0, (HR3.out.blk HB1.out HO.out.1 HO.out.2).cell 1, (HR3.out.blk HB1.out HO.out.1 HO.out.2).cell 2, (HR3.out.blk HB1.out HO.out.1 HO.out.2).cell 3, (HR3.out.blk HB1.out HO.out.1 HO.out.2).cell 4, (HR3.out.blk HB1.out HO.out.1 HO.out.2).cell 5, HR3.out.low1 HS1.out hD ca0, HR3.out.low1 HS1.out hD ca1, HR3.out.low1 HS1.out hD ca2, HR3.out.low1 HS1.out hD ca3, HR3.out.low1 HS1.out hD ca4, HR3.out.low1 HS1.out hD ca5⟩ (fun hHeld2 => ?_)
 clear hK K
 (try simp only [Act.put, List.getElem_toArray, List.getElem_cons_zero, List.getElem_cons_succ, List.setIfInBounds_toArray, List.set_cons_zero, List.set_cons_succ])
 clear hHeld1
 refine wpAnyH_ready (rs := [7]) (by kernel_rfl) (by simp) ?_
 refine AllReadyH.cons rfl (fun K hK => ?_) AllReadyH.nil
 go_simp
 refine (psign_c Ps.kColon HS3.out (by have := HN.out; simp only [List.length_append, List.length_cons, List.length_nil] at this ⊢; omega)).mono ?_
 rintro e w4 ⟨rfl, v4, hs, hr⟩
 have HR4 := Lib.hid (HR3.out.trans hr)
 have HS4 := Lib.hid hs
 clear hs hr
 refine hK.out _ _ ⟨(HR4.out.blk HB1.out HO.out.1 HO.out.2).cell 0, (HR4.out.blk HB1.out HO.out.1 HO.out.2).cell 1, (HR4.out.blk HB1.out HO.out.1 HO.out.2).cell 2, (HR4.out.blk HB1.out HO.out.1 HO.out.2).cell 3, (HR4.out.blk HB1.out HO.out.1 HO.out.2).cell 4, (HR4.out.blk HB1.out HO.out.1 HO.out.2).cell 5, HR4.out.low1 HS1.out hD ca0, HR4.out.low1 HS1.out hD ca1, HR4.out.low1 HS1.out hD ca2, HR4.out.low1 HS1.out hD ca3, HR4.out.low1 HS1.out hD ca4, HR4.out.low1 HS1.out hD ca5⟩ (fun hHeld3 => ?_)
 clear hK K
 (try simp only [Act.put, List.getElem_toArray, List.getElem_cons_zero, List.getElem_cons_succ, List.setIfInBounds_toArray, List.set_cons_zero, List.set_cons_succ])
 clear hHeld2
 refine wpAnyH_ready (rs := [10]) (by kernel_rfl) (by simp) ?_
 refine AllReadyH.cons rfl (fun K hK => ?_) AllReadyH.nil
 go_simp
 refine (ptyp_cP y HS4.out (by have := HN.out; simp only [List.length_append, List.length_cons, List.length_nil] at this ⊢; omega)).mono ?_
 rintro e w5 ⟨rfl, v5, hs, hr⟩
 have HR5 := Lib.hid (HR4.out.trans hr)
 have HS5 := Lib.hid hs
 clear hs hr
 refine hK.out _ _ ⟨(HR5.out.blk HB1.out HO.out.1 HO.out.2).cell 0, (HR5.out.blk HB1.out HO.out.1 HO.out.2).cell 1, (HR5.out.blk HB1.out HO.out.1 HO.out.2).cell 2, (HR5.out.blk HB1.out HO.out.1 HO.out.2).cell 3, (HR5.out.blk HB1.out HO.out.1 HO.out.2).cell 4, (HR5.out.blk HB1.out HO.out.1 HO.out.2).cell 5, HR5.out.low1 HS1.out hD ca0, HR5.out.low1 HS1.out hD ca1, HR5.out.low1 HS1.out hD ca2, HR5.out.low1 HS1.out hD ca3, HR5.out.low1 HS1.out hD ca4, HR5.out.low1 HS1.out hD ca5⟩ (fun hHeld4 => ?_)
 clear hK K
 (try simp only [Act.put, List.getElem_toArray, List.getElem_cons_zero, List.getElem_cons_succ, List.setIfInBounds_toArray, List.set_cons_zero, List.set_cons_succ])
 clear hHeld3
 refine wpAnyH_ready (rs := [11]) (by kernel_rfl) (by simp) ?_
 refine AllReadyH.cons rfl (fun K hK => ?_) AllReadyH.nil
 go_simp
 refine (psign_c Ps.kShut HS5.out (by have := HN.out; simp only [List.length_append, List.length_cons, List.length_nil] at this ⊢; omega)).mono ?_
 rintro e w6 ⟨rfl, v6, hs, hr⟩
 have HR6 := Lib.hid (HR5.out.trans hr)
 have HS6 := Lib.hid hs
 clear hs hr
 refine hK.out _ _ ⟨(HR6.out.blk HB1.out HO.out.1 HO.out.2).cell 0, (HR6.out.blk HB1.out HO.out.1 HO.out.2).cell 1, (HR6.out.blk HB1.out HO.out.1 HO.out.2).cell 2, (HR6.out.blk HB1.out HO.out.1 HO.out.2).cell 3, (HR6.out.blk HB1.out HO.out.1 HO.out.2).cell 4, (HR6.out.blk HB1.out HO.out.1 HO.out.2).cell 5, HR6.out.low1 HS1.out hD ca0, HR6.out.low1 HS1.out hD ca1, HR6.out.low1 HS1.out hD ca2, HR6.out.low1 HS1.out hD ca3, HR6.out.low1 HS1.out hD ca4, HR6.out.low1 HS1.out hD ca5⟩ (fun hHeld5 => ?_)
 clear hK K
 (try simp only [Act.put, List.getElem_toArray, List.getElem_cons_zero, List.getElem_cons_succ, List.setIfInBounds_toArray, List.set_cons_zero, List.set_cons_succ])
 clear hHeld4
 refine wpAnyH_take (i := 12) (v := ?_) rfl (by kernel_rfl) (by kernel_rfl) (by kernel_rfl) (fun _ _ _ h => h) (Or.inl ⟨by kernel_rfl, ?_⟩) (by assumption) ?_
 rotate_left
 ·intro w hSw; (try dsimp only at hSw); go_simp; (try with_reducible rfl)
 (try simp only [Act.put, List.getElem_toArray, List.getElem_cons_zero, List.getElem_cons_succ, List.setIfInBounds_toArray, List.set_cons_zero, List.set_cons_succ])
 refine wpAnyH_done (by kernel_rfl) ?_ _
 clear hHeld5
 go_wp2_with fail
 go_ret
 exact ⟨rfl, _, by rw [HE.out]; exact HS6.out, (PrR.of_kept HK1.out v).trans HR6.out⟩
end Go.Proofs.YtfpklgffdniegaaGreatDoor
namespace Go.Proofs.YtfpklgffdniegaaGreatDoor
open Go.ChangeShapes Go.WideShapes Go.ChangeAt Go.RowKit
attribute [local go_sem] Oper.semAt_some
open Pr (key sgn nam tk toks typT ann sep brk at1)
set_option maxHeartbeats 4000000 in
theorem pm_prog (g mb : Nat) (t y f : ByteArray) (n : Int) (l : List Nd) (b : Nd) (L : List Lx.T) (v : Value) (w : World) (ad : Option Addr) (ck : Nat) (Hl : ∀ y ∈ l, NodeC g mb y) (Hb : NodeC g mb b) (h : PrS g mb L v w) (hk : KidsD (fun k => k < mb) w (.slice ad (l.length + 1) ck) (l ++ [b]))
  (hn : L.length + (Pr.form 1 t y n ((l ++ [b]).map kdM)).length ≤ 1000000000) :
  Calls Tryz.prog 58 #[.pointer (some ⟨g, 0, none⟩), .agg #[.int .i64 1, .string t, .string y, .string f, .int .i64 n, .slice ad (l.length + 1) ck]] w (PrPost g mb (L ++ Pr.form 1 t y n ((l ++ [b]).map kdM)) v w) := by
 have HCl := Lib.hid Hl
 have HCb := Lib.hid Hb
 have HE := Lib.hid (show L ++ Pr.form 1 t y n ((l ++ [b]).map kdM) = L ++ sep (sepS Ps.e0) (l.map kdM) ++ [key ⟨#[109, 97, 105, 110]⟩] ++ toks b from by
  show L ++ (sep [] ((l ++ [b]).map kdM).dropLast ++ key ⟨#[109, 97, 105, 110]⟩ :: (Pr.lastK ((l ++ [b]).map kdM)).2) = _
  rw [List.map_append, List.map_cons, List.map_nil, List.dropLast_concat, Pr.lastK, List.getLastD_concat]
  simp only [List.append_assoc, List.cons_append, List.nil_append, List.append_nil]
  first | done | rfl)
 have HN := Lib.hid (show (L ++ sep (sepS Ps.e0) (l.map kdM) ++ [key ⟨#[109, 97, 105, 110]⟩] ++ toks b).length ≤ 1000000000 by rw [← HE.out, List.length_append]; exact hn)
 obtain ⟨W1, HW1, HK1, HB1, HO, HS1, HD1, HR1, hcap, y0, y1, y2, y3, y4, y5⟩ := pm_prep 1 t y f n h hk (by simp)
 unfold maxLen at hcap
 obtain ⟨kb, ko, ead, hD⟩ := nd_base (l := l ++ [b]) (by have := HD1.out; rw [show l.length + 1 = (l ++ [b]).length by simp] at this; exact this) (i := l.length) (y := b) (by simp)
 subst ead
 obtain ⟨kdb, kkb, ⟨cb0, cb1, cb2, cb3, cb4, cb5⟩, hkb⟩ := nd_at (l := l ++ [b]) (by have := HD1.out; rw [show l.length + 1 = (l ++ [b]).length by simp] at this; exact this) (i := l.length) (y := b) (by simp)
 have hc1 : l.length ≤ ck := by omega
 have hc2 : (l.length : Int) < (l.length : Int) + 1 := by omega
 have HKb := Lib.hid hkb
 have HDl := Lib.hid (nd_take HD1.out)
 clear hkb
 clear h hk hn Hl Hb
 go_enter Tryz.func58, Tryz.ntmps58
 go_wp2_with (rw [HW1.out])
 refine wp_region_held_drew (S := (fun W => W.cell? ⟨w.heap.size, 0, none⟩ = some (.int .i64 1) ∧ W.cell? ⟨w.heap.size, 1, none⟩ = some (.string t) ∧ W.cell? ⟨w.heap.size, 2, none⟩ = some (.string y) ∧ W.cell? ⟨w.heap.size, 3, none⟩ = some (.string f) ∧ W.cell? ⟨w.heap.size, 4, none⟩ = some (.int .i64 n) ∧ W.cell? ⟨w.heap.size, 5, none⟩ = some (.slice (some ⟨kb, ko, none⟩) (l.length + 1) ck) ∧ W.cell? ⟨kb, ko + l.length * 6, none⟩ = some (.int .i64 b.kind) ∧ W.cell? ⟨kb, ko + l.length * 6 + 1, none⟩ = some (.string b.text) ∧ W.cell? ⟨kb, ko + l.length * 6 + 2, none⟩ = some (.string b.typ) ∧ W.cell? ⟨kb, ko + l.length * 6 + 3, none⟩ = some (.string b.frm) ∧ W.cell? ⟨kb, ko + l.length * 6 + 4, none⟩ = some (.int .i64 b.n) ∧ W.cell? ⟨kb, ko + l.length * 6 + 5, none⟩ = some (.slice kdb b.kids.length kkb))) (by kernel_rfl) ⟨((Lib.hid (HR1.out.trans (PrR.of_kept (Kept.refl _).drew _))).out.blk HB1.out HO.out.1 HO.out.2).cell 0, ((Lib.hid (HR1.out.trans (PrR.of_kept (Kept.refl _).drew _))).out.blk HB1.out HO.out.1 HO.out.2).cell 1, ((Lib.hid (HR1.out.trans (PrR.of_kept (Kept.refl _).drew _))).out.blk HB1.out HO.out.1 HO.out.2).cell 2, ((Lib.hid (HR1.out.trans (PrR.of_kept (Kept.refl _).drew _))).out.blk HB1.out HO.out.1 HO.out.2).cell 3, ((Lib.hid (HR1.out.trans (PrR.of_kept (Kept.refl _).drew _))).out.blk HB1.out HO.out.1 HO.out.2).cell 4, ((Lib.hid (HR1.out.trans (PrR.of_kept (Kept.refl _).drew _))).out.blk HB1.out HO.out.1 HO.out.2).cell 5, (Lib.hid (HR1.out.trans (PrR.of_kept (Kept.refl _).drew _))).out.low1 HS1.out hD cb0, (Lib.hid (HR1.out.trans (PrR.of_kept (Kept.refl _).drew _))).out.low1 HS1.out hD cb1, (Lib.hid (HR1.out.trans (PrR.of_kept (Kept.refl _).drew _))).out.low1 HS1.out hD cb2, (Lib.hid (HR1.out.trans (PrR.of_kept (Kept.refl _).drew _))).out.low1 HS1.out hD cb3, (Lib.hid (HR1.out.trans (PrR.of_kept (Kept.refl _).drew _))).out.low1 HS1.out hD cb4, (Lib.hid (HR1.out.trans (PrR.of_kept (Kept.refl _).drew _))).out.low1 HS1.out hD cb5⟩ (fun hHeld0 => ?_)
 refine wpAnyH_take (i := 0) (v := ?_) rfl (by kernel_rfl) (by kernel_rfl) (by kernel_rfl) (fun _ _ _ h => h) (Or.inl ⟨by kernel_rfl, ?_⟩) (by assumption) ?_
 rotate_left
 ·intro w hSw; (try dsimp only at hSw); go_simp; (try with_reducible rfl)
 (try simp only [Act.put, List.getElem_toArray, List.getElem_cons_zero, List.getElem_cons_succ, List.setIfInBounds_toArray, List.set_cons_zero, List.set_cons_succ])
 refine wpAnyH_take (i := 1) (v := ?_) rfl (by kernel_rfl) (by kernel_rfl) (by kernel_rfl) (fun _ _ _ h => h) (Or.inl ⟨by kernel_rfl, ?_⟩) (by assumption) ?_
 rotate_left
 ·intro w hSw; (try dsimp only at hSw); go_simp; (try with_reducible rfl)
 (try simp only [Act.put, List.getElem_toArray, List.getElem_cons_zero, List.getElem_cons_succ, List.setIfInBounds_toArray, List.set_cons_zero, List.set_cons_succ])
 refine wpAnyH_take (i := 2) (v := ?_) rfl (by kernel_rfl) (by kernel_rfl) (by kernel_rfl) (fun _ _ _ h => h) (Or.inl ⟨by kernel_rfl, ?_⟩) (by assumption) ?_
 rotate_left
 ·intro w hSw; (try dsimp only at hSw); go_simp; (try with_reducible rfl)
 (try simp only [Act.put, List.getElem_toArray, List.getElem_cons_zero, List.getElem_cons_succ, List.setIfInBounds_toArray, List.set_cons_zero, List.set_cons_succ])
 refine wpAnyH_take (i := 3) (v := ?_) rfl (by kernel_rfl) (by kernel_rfl) (by kernel_rfl) (fun _ _ _ h => h) (Or.inl ⟨by kernel_rfl, ?_⟩) (by assumption) ?_
 rotate_left
 ·intro w hSw; (try dsimp only at hSw); go_simp; (try with_reducible rfl)
 (try simp only [Act.put, List.getElem_toArray, List.getElem_cons_zero, List.getElem_cons_succ, List.setIfInBounds_toArray, List.set_cons_zero, List.set_cons_succ])
 refine wpAnyH_take (i := 4) (v := ?_) rfl (by kernel_rfl) (by kernel_rfl) (by kernel_rfl) (fun _ _ _ h => h) (Or.inl ⟨by kernel_rfl, ?_⟩) (by assumption) ?_
 rotate_left
 ·intro w hSw; (try dsimp only at hSw); go_simp; (try with_reducible rfl)
 (try simp only [Act.put, List.getElem_toArray, List.getElem_cons_zero, List.getElem_cons_succ, List.setIfInBounds_toArray, List.set_cons_zero, List.set_cons_succ])
 refine wpAnyH_take (i := 7) (v := ?_) rfl (by kernel_rfl) (by kernel_rfl) (by kernel_rfl) (fun _ _ _ h => h) (Or.inl ⟨by kernel_rfl, ?_⟩) (by assumption) ?_
 rotate_left
 ·intro w hSw; (try dsimp only at hSw); go_simp; (try with_reducible rfl)
 (try simp only [Act.put, List.getElem_toArray, List.getElem_cons_zero, List.getElem_cons_succ, List.setIfInBounds_toArray, List.set_cons_zero, List.set_cons_succ])
 refine wpAnyH_take (i := 8) (v := ?_) rfl (by kernel_rfl) (by kernel_rfl) (by kernel_rfl) (fun _ _ _ h => h) (Or.inl ⟨by kernel_rfl, ?_⟩) (by assumption) ?_
 rotate_left
 ·intro w hSw; (try dsimp only at hSw); go_simp; (try with_reducible rfl)
 (try simp only [Act.put, List.getElem_toArray, List.getElem_cons_zero, List.getElem_cons_succ, List.setIfInBounds_toArray, List.set_cons_zero, List.set_cons_succ])
 refine wpAnyH_take (i := 9) (v := ?_) rfl (by kernel_rfl) (by kernel_rfl) (by kernel_rfl) (fun _ _ _ h => h) (Or.inl ⟨by kernel_rfl, ?_⟩) (by assumption) ?_
 rotate_left
 ·intro w hSw; (try dsimp only at hSw); go_simp; (try with_reducible rfl)
 (try simp only [Act.put, List.getElem_toArray, List.getElem_cons_zero, List.getElem_cons_succ, List.setIfInBounds_toArray, List.set_cons_zero, List.set_cons_succ])
 refine wpAnyH_take (i := 10) (v := ?_) rfl (by kernel_rfl) (by kernel_rfl) (by kernel_rfl) (fun _ _ _ h => h) (Or.inl ⟨by kernel_rfl, ?_⟩) (by assumption) ?_
 rotate_left
 ·intro w hSw; (try dsimp only at hSw); go_simp; (try with_reducible rfl)
 (try simp only [Act.put, List.getElem_toArray, List.getElem_cons_zero, List.getElem_cons_succ, List.setIfInBounds_toArray, List.set_cons_zero, List.set_cons_succ])
 refine wpAnyH_take (i := 11) (v := ?_) rfl (by kernel_rfl) (by kernel_rfl) (by kernel_rfl) (fun _ _ _ h => h) (Or.inl ⟨by kernel_rfl, ?_⟩) (by assumption) ?_
 rotate_left
 ·intro w hSw; (try dsimp only at hSw); go_simp; (try with_reducible rfl)
 (try simp only [Act.put, List.getElem_toArray, List.getElem_cons_zero, List.getElem_cons_succ, List.setIfInBounds_toArray, List.set_cons_zero, List.set_cons_succ])
 refine wpAnyH_ready (rs := [5]) (by kernel_rfl) (by simp) ?_
 refine AllReadyH.cons rfl (fun K hK => ?_) AllReadyH.nil
 go_simp
 refine (pnodes_c g mb Ps.e0 _ _ _ _ _ _ HCl.out HS1.out.drew (KidsD.kept (HR1.out.kids HS1.out HDl.out) (Kept.refl _).drew) (by have := HN.out; simp only [List.length_append, List.length_cons, List.length_nil] at this ⊢; omega)).mono ?_
 rintro e w2 ⟨rfl, v2, hs, hr⟩
 have HR2 := Lib.hid ((HR1.out.trans (PrR.of_kept (Kept.refl _).drew _)).trans hr)
 have HS2 := Lib.hid hs
 clear hs hr
 refine hK.out _ _ ⟨(HR2.out.blk HB1.out HO.out.1 HO.out.2).cell 0, (HR2.out.blk HB1.out HO.out.1 HO.out.2).cell 1, (HR2.out.blk HB1.out HO.out.1 HO.out.2).cell 2, (HR2.out.blk HB1.out HO.out.1 HO.out.2).cell 3, (HR2.out.blk HB1.out HO.out.1 HO.out.2).cell 4, (HR2.out.blk HB1.out HO.out.1 HO.out.2).cell 5, HR2.out.low1 HS1.out hD cb0, HR2.out.low1 HS1.out hD cb1, HR2.out.low1 HS1.out hD cb2, HR2.out.low1 HS1.out hD cb3, HR2.out.low1 HS1.out hD cb4, HR2.out.low1 HS1.out hD cb5⟩ (fun hHeld1 => ?_)
 clear hK K
 (try simp only [Act.put, List.getElem_toArray, List.getElem_cons_zero, List.getElem_cons_succ, List.setIfInBounds_toArray, List.set_cons_zero, List.set_cons_succ])
 clear hHeld0
 refine wpAnyH_ready (rs := [6]) (by kernel_rfl) (by simp) ?_
 refine AllReadyH.cons rfl (fun K hK => ?_) AllReadyH.nil
 go_simp
 refine (pkey_c ⟨#[109, 97, 105, 110]⟩ HS2.out (by have := HN.out; simp only [List.length_append, List.length_cons, List.length_nil] at this ⊢; omega)).mono ?_
 rintro e w3 ⟨rfl, v3, hs, hr⟩
 have HR3 := Lib.hid (HR2.out.trans hr)
 have HS3 := Lib.hid hs
 clear hs hr
 refine hK.out _ _ ⟨(HR3.out.blk HB1.out HO.out.1 HO.out.2).cell 0, (HR3.out.blk HB1.out HO.out.1 HO.out.2).cell 1, (HR3.out.blk HB1.out HO.out.1 HO.out.2).cell 2, (HR3.out.blk HB1.out HO.out.1 HO.out.2).cell 3, (HR3.out.blk HB1.out HO.out.1 HO.out.2).cell 4, (HR3.out.blk HB1.out HO.out.1 HO.out.2).cell 5, HR3.out.low1 HS1.out hD cb0, HR3.out.low1 HS1.out hD cb1, HR3.out.low1 HS1.out hD cb2, HR3.out.low1 HS1.out hD cb3, HR3.out.low1 HS1.out hD cb4, HR3.out.low1 HS1.out hD cb5⟩ (fun hHeld2 => ?_)
 clear hK K
 (try simp only [Act.put, List.getElem_toArray, List.getElem_cons_zero, List.getElem_cons_succ, List.setIfInBounds_toArray, List.set_cons_zero, List.set_cons_succ])
 clear hHeld1
 refine wpAnyH_ready (rs := [12]) (by kernel_rfl) (by simp) ?_
 refine AllReadyH.cons rfl (fun K hK => ?_) AllReadyH.nil
 go_simp
 refine (HCb.out _ _ _ kdb kkb HS3.out (HR3.out.kids HS1.out HKb.out) (by have := HN.out; simp only [List.length_append, List.length_cons, List.length_nil] at this ⊢; omega)).mono ?_
 rintro e w4 ⟨rfl, v4, hs, hr⟩
 have HR4 := Lib.hid (HR3.out.trans hr)
 have HS4 := Lib.hid hs
 clear hs hr
 refine hK.out _ _ ⟨(HR4.out.blk HB1.out HO.out.1 HO.out.2).cell 0, (HR4.out.blk HB1.out HO.out.1 HO.out.2).cell 1, (HR4.out.blk HB1.out HO.out.1 HO.out.2).cell 2, (HR4.out.blk HB1.out HO.out.1 HO.out.2).cell 3, (HR4.out.blk HB1.out HO.out.1 HO.out.2).cell 4, (HR4.out.blk HB1.out HO.out.1 HO.out.2).cell 5, HR4.out.low1 HS1.out hD cb0, HR4.out.low1 HS1.out hD cb1, HR4.out.low1 HS1.out hD cb2, HR4.out.low1 HS1.out hD cb3, HR4.out.low1 HS1.out hD cb4, HR4.out.low1 HS1.out hD cb5⟩ (fun hHeld3 => ?_)
 clear hK K
 (try simp only [Act.put, List.getElem_toArray, List.getElem_cons_zero, List.getElem_cons_succ, List.setIfInBounds_toArray, List.set_cons_zero, List.set_cons_succ])
 clear hHeld2
 refine wpAnyH_take (i := 13) (v := ?_) rfl (by kernel_rfl) (by kernel_rfl) (by kernel_rfl) (fun _ _ _ h => h) (Or.inl ⟨by kernel_rfl, ?_⟩) (by assumption) ?_
 rotate_left
 ·intro w hSw; (try dsimp only at hSw); go_simp; (try with_reducible rfl)
 (try simp only [Act.put, List.getElem_toArray, List.getElem_cons_zero, List.getElem_cons_succ, List.setIfInBounds_toArray, List.set_cons_zero, List.set_cons_succ])
 refine wpAnyH_done (by kernel_rfl) ?_ _
 clear hHeld3
 go_wp2_with fail
 go_ret
 exact ⟨rfl, _, by rw [HE.out]; exact HS4.out, (PrR.of_kept HK1.out v).trans HR4.out⟩
set_option maxHeartbeats 4000000 in
theorem pm_method (g mb : Nat) (t y f : ByteArray) (n : Int) (l : List Nd) (b : Nd) (L : List Lx.T) (v : Value) (w : World) (ad : Option Addr) (ck : Nat) (Hl : ∀ y ∈ l, NodeC g mb y) (Hb : NodeC g mb b) (h : PrS g mb L v w) (hk : KidsD (fun k => k < mb) w (.slice ad (l.length + 1) ck) (l ++ [b]))
  (hn : L.length + (Pr.form 4 t y n ((l ++ [b]).map kdM)).length ≤ 1000000000) :
  Calls Tryz.prog 61 #[.pointer (some ⟨g, 0, none⟩), .agg #[.int .i64 4, .string t, .string y, .string f, .int .i64 n, .slice ad (l.length + 1) ck]] w (PrPost g mb (L ++ Pr.form 4 t y n ((l ++ [b]).map kdM)) v w) := by
 have HCl := Lib.hid Hl
 have HCb := Lib.hid Hb
 have HE := Lib.hid (show L ++ Pr.form 4 t y n ((l ++ [b]).map kdM) = L ++ [key ⟨#[100, 101, 102]⟩] ++ [nam t] ++ brk (l.map kdM) ++ ann y Ps.kAny ++ toks b from by
  show L ++ (key ⟨#[100, 101, 102]⟩ :: nam t :: brk ((l ++ [b]).map kdM).dropLast ++ ann y Ps.kAny ++ (Pr.lastK ((l ++ [b]).map kdM)).2) = _
  rw [List.map_append, List.map_cons, List.map_nil, List.dropLast_concat, Pr.lastK, List.getLastD_concat]
  simp only [List.append_assoc, List.cons_append, List.nil_append, List.append_nil]
  first | done | rfl)
 have HN := Lib.hid (show (L ++ [key ⟨#[100, 101, 102]⟩] ++ [nam t] ++ brk (l.map kdM) ++ ann y Ps.kAny ++ toks b).length ≤ 1000000000 by rw [← HE.out, List.length_append]; exact hn)
 obtain ⟨W1, HW1, HK1, HB1, HO, HS1, HD1, HR1, hcap, y0, y1, y2, y3, y4, y5⟩ := pm_prep 4 t y f n h hk (by simp)
 unfold maxLen at hcap
 obtain ⟨kb, ko, ead, hD⟩ := nd_base (l := l ++ [b]) (by have := HD1.out; rw [show l.length + 1 = (l ++ [b]).length by simp] at this; exact this) (i := l.length) (y := b) (by simp)
 subst ead
 obtain ⟨kdb, kkb, ⟨cb0, cb1, cb2, cb3, cb4, cb5⟩, hkb⟩ := nd_at (l := l ++ [b]) (by have := HD1.out; rw [show l.length + 1 = (l ++ [b]).length by simp] at this; exact this) (i := l.length) (y := b) (by simp)
 have hc1 : l.length ≤ ck := by omega
 have hc2 : (l.length : Int) < (l.length : Int) + 1 := by omega
 have HKb := Lib.hid hkb
 have HDl := Lib.hid (nd_take HD1.out)
 clear hkb
 clear h hk hn Hl Hb
 go_enter Tryz.func61, Tryz.ntmps61
 go_wp2_with (rw [HW1.out])
 refine wp_region_held_drew (S := (fun W => W.cell? ⟨w.heap.size, 0, none⟩ = some (.int .i64 4) ∧ W.cell? ⟨w.heap.size, 1, none⟩ = some (.string t) ∧ W.cell? ⟨w.heap.size, 2, none⟩ = some (.string y) ∧ W.cell? ⟨w.heap.size, 3, none⟩ = some (.string f) ∧ W.cell? ⟨w.heap.size, 4, none⟩ = some (.int .i64 n) ∧ W.cell? ⟨w.heap.size, 5, none⟩ = some (.slice (some ⟨kb, ko, none⟩) (l.length + 1) ck) ∧ W.cell? ⟨kb, ko + l.length * 6, none⟩ = some (.int .i64 b.kind) ∧ W.cell? ⟨kb, ko + l.length * 6 + 1, none⟩ = some (.string b.text) ∧ W.cell? ⟨kb, ko + l.length * 6 + 2, none⟩ = some (.string b.typ) ∧ W.cell? ⟨kb, ko + l.length * 6 + 3, none⟩ = some (.string b.frm) ∧ W.cell? ⟨kb, ko + l.length * 6 + 4, none⟩ = some (.int .i64 b.n) ∧ W.cell? ⟨kb, ko + l.length * 6 + 5, none⟩ = some (.slice kdb b.kids.length kkb))) (by kernel_rfl) ⟨((Lib.hid (HR1.out.trans (PrR.of_kept (Kept.refl _).drew _))).out.blk HB1.out HO.out.1 HO.out.2).cell 0, ((Lib.hid (HR1.out.trans (PrR.of_kept (Kept.refl _).drew _))).out.blk HB1.out HO.out.1 HO.out.2).cell 1, ((Lib.hid (HR1.out.trans (PrR.of_kept (Kept.refl _).drew _))).out.blk HB1.out HO.out.1 HO.out.2).cell 2, ((Lib.hid (HR1.out.trans (PrR.of_kept (Kept.refl _).drew _))).out.blk HB1.out HO.out.1 HO.out.2).cell 3, ((Lib.hid (HR1.out.trans (PrR.of_kept (Kept.refl _).drew _))).out.blk HB1.out HO.out.1 HO.out.2).cell 4, ((Lib.hid (HR1.out.trans (PrR.of_kept (Kept.refl _).drew _))).out.blk HB1.out HO.out.1 HO.out.2).cell 5, (Lib.hid (HR1.out.trans (PrR.of_kept (Kept.refl _).drew _))).out.low1 HS1.out hD cb0, (Lib.hid (HR1.out.trans (PrR.of_kept (Kept.refl _).drew _))).out.low1 HS1.out hD cb1, (Lib.hid (HR1.out.trans (PrR.of_kept (Kept.refl _).drew _))).out.low1 HS1.out hD cb2, (Lib.hid (HR1.out.trans (PrR.of_kept (Kept.refl _).drew _))).out.low1 HS1.out hD cb3, (Lib.hid (HR1.out.trans (PrR.of_kept (Kept.refl _).drew _))).out.low1 HS1.out hD cb4, (Lib.hid (HR1.out.trans (PrR.of_kept (Kept.refl _).drew _))).out.low1 HS1.out hD cb5⟩ (fun hHeld0 => ?_)
 refine wpAnyH_take (i := 0) (v := ?_) rfl (by kernel_rfl) (by kernel_rfl) (by kernel_rfl) (fun _ _ _ h => h) (Or.inl ⟨by kernel_rfl, ?_⟩) (by assumption) ?_
 rotate_left
 ·intro w hSw; (try dsimp only at hSw); go_simp; (try with_reducible rfl)
 (try simp only [Act.put, List.getElem_toArray, List.getElem_cons_zero, List.getElem_cons_succ, List.setIfInBounds_toArray, List.set_cons_zero, List.set_cons_succ])
 refine wpAnyH_take (i := 2) (v := ?_) rfl (by kernel_rfl) (by kernel_rfl) (by kernel_rfl) (fun _ _ _ h => h) (Or.inl ⟨by kernel_rfl, ?_⟩) (by assumption) ?_
 rotate_left
 ·intro w hSw; (try dsimp only at hSw); go_simp; (try with_reducible rfl)
 (try simp only [Act.put, List.getElem_toArray, List.getElem_cons_zero, List.getElem_cons_succ, List.setIfInBounds_toArray, List.set_cons_zero, List.set_cons_succ])
 refine wpAnyH_take (i := 3) (v := ?_) rfl (by kernel_rfl) (by kernel_rfl) (by kernel_rfl) (fun _ _ _ h => h) (Or.inl ⟨by kernel_rfl, ?_⟩) (by assumption) ?_
 rotate_left
 ·intro w hSw; (try dsimp only at hSw); go_simp; (try with_reducible rfl)
 (try simp only [Act.put, List.getElem_toArray, List.getElem_cons_zero, List.getElem_cons_succ, List.setIfInBounds_toArray, List.set_cons_zero, List.set_cons_succ])
 refine wpAnyH_take (i := 5) (v := ?_) rfl (by kernel_rfl) (by kernel_rfl) (by kernel_rfl) (fun _ _ _ h => h) (Or.inl ⟨by kernel_rfl, ?_⟩) (by assumption) ?_
 rotate_left
 ·intro w hSw; (try dsimp only at hSw); go_simp; (try with_reducible rfl)
 (try simp only [Act.put, List.getElem_toArray, List.getElem_cons_zero, List.getElem_cons_succ, List.setIfInBounds_toArray, List.set_cons_zero, List.set_cons_succ])
 refine wpAnyH_take (i := 6) (v := ?_) rfl (by kernel_rfl) (by kernel_rfl) (by kernel_rfl) (fun _ _ _ h => h) (Or.inl ⟨by kernel_rfl, ?_⟩) (by assumption) ?_
 rotate_left
 ·intro w hSw; (try dsimp only at hSw); go_simp; (try with_reducible rfl)
 (try simp only [Act.put, List.getElem_toArray, List.getElem_cons_zero, List.getElem_cons_succ, List.setIfInBounds_toArray, List.set_cons_zero, List.set_cons_succ])
 refine wpAnyH_take (i := 7) (v := ?_) rfl (by kernel_rfl) (by kernel_rfl) (by kernel_rfl) (fun _ _ _ h => h) (Or.inl ⟨by kernel_rfl, ?_⟩) (by assumption) ?_
 rotate_left
 ·intro w hSw; (try dsimp only at hSw); go_simp; (try with_reducible rfl)
 (try simp only [Act.put, List.getElem_toArray, List.getElem_cons_zero, List.getElem_cons_succ, List.setIfInBounds_toArray, List.set_cons_zero, List.set_cons_succ])
 refine wpAnyH_take (i := 8) (v := ?_) rfl (by kernel_rfl) (by kernel_rfl) (by kernel_rfl) (fun _ _ _ h => h) (Or.inl ⟨by kernel_rfl, ?_⟩) (by assumption) ?_
 rotate_left
 ·intro w hSw; (try dsimp only at hSw); go_simp; (try with_reducible rfl)
 (try simp only [Act.put, List.getElem_toArray, List.getElem_cons_zero, List.getElem_cons_succ, List.setIfInBounds_toArray, List.set_cons_zero, List.set_cons_succ])
 refine wpAnyH_take (i := 10) (v := ?_) rfl (by kernel_rfl) (by kernel_rfl) (by kernel_rfl) (fun _ _ _ h => h) (Or.inl ⟨by kernel_rfl, ?_⟩) (by assumption) ?_
 rotate_left
 ·intro w hSw; (try dsimp only at hSw); go_simp; (try with_reducible rfl)
 (try simp only [Act.put, List.getElem_toArray, List.getElem_cons_zero, List.getElem_cons_succ, List.setIfInBounds_toArray, List.set_cons_zero, List.set_cons_succ])
 refine wpAnyH_take (i := 11) (v := ?_) rfl (by kernel_rfl) (by kernel_rfl) (by kernel_rfl) (fun _ _ _ h => h) (Or.inl ⟨by kernel_rfl, ?_⟩) (by assumption) ?_
 rotate_left
 ·intro w hSw; (try dsimp only at hSw); go_simp; (try with_reducible rfl)
 (try simp only [Act.put, List.getElem_toArray, List.getElem_cons_zero, List.getElem_cons_succ, List.setIfInBounds_toArray, List.set_cons_zero, List.set_cons_succ])
 refine wpAnyH_take (i := 13) (v := ?_) rfl (by kernel_rfl) (by kernel_rfl) (by kernel_rfl) (fun _ _ _ h => h) (Or.inl ⟨by kernel_rfl, ?_⟩) (by assumption) ?_
 rotate_left
 ·intro w hSw; (try dsimp only at hSw); go_simp; (try with_reducible rfl)
 (try simp only [Act.put, List.getElem_toArray, List.getElem_cons_zero, List.getElem_cons_succ, List.setIfInBounds_toArray, List.set_cons_zero, List.set_cons_succ])
 refine wpAnyH_take (i := 14) (v := ?_) rfl (by kernel_rfl) (by kernel_rfl) (by kernel_rfl) (fun _ _ _ h => h) (Or.inl ⟨by kernel_rfl, ?_⟩) (by assumption) ?_
 rotate_left
 ·intro w hSw; (try dsimp only at hSw); go_simp; (try with_reducible rfl)
 (try simp only [Act.put, List.getElem_toArray, List.getElem_cons_zero, List.getElem_cons_succ, List.setIfInBounds_toArray, List.set_cons_zero, List.set_cons_succ])
 refine wpAnyH_take (i := 15) (v := ?_) rfl (by kernel_rfl) (by kernel_rfl) (by kernel_rfl) (fun _ _ _ h => h) (Or.inl ⟨by kernel_rfl, ?_⟩) (by assumption) ?_
 rotate_left
 ·intro w hSw; (try dsimp only at hSw); go_simp; (try with_reducible rfl)
 (try simp only [Act.put, List.getElem_toArray, List.getElem_cons_zero, List.getElem_cons_succ, List.setIfInBounds_toArray, List.set_cons_zero, List.set_cons_succ])
 refine wpAnyH_take (i := 16) (v := ?_) rfl (by kernel_rfl) (by kernel_rfl) (by kernel_rfl) (fun _ _ _ h => h) (Or.inl ⟨by kernel_rfl, ?_⟩) (by assumption) ?_
 rotate_left
 ·intro w hSw; (try dsimp only at hSw); go_simp; (try with_reducible rfl)
 (try simp only [Act.put, List.getElem_toArray, List.getElem_cons_zero, List.getElem_cons_succ, List.setIfInBounds_toArray, List.set_cons_zero, List.set_cons_succ])
 refine wpAnyH_take (i := 17) (v := ?_) rfl (by kernel_rfl) (by kernel_rfl) (by kernel_rfl) (fun _ _ _ h => h) (Or.inl ⟨by kernel_rfl, ?_⟩) (by assumption) ?_
 rotate_left
 ·intro w hSw; (try dsimp only at hSw); go_simp; (try with_reducible rfl)
 (try simp only [Act.put, List.getElem_toArray, List.getElem_cons_zero, List.getElem_cons_succ, List.setIfInBounds_toArray, List.set_cons_zero, List.set_cons_succ])
 refine wpAnyH_ready (rs := [1]) (by kernel_rfl) (by simp) ?_
 refine AllReadyH.cons rfl (fun K hK => ?_) AllReadyH.nil
 go_simp
 refine (pkey_c ⟨#[100, 101, 102]⟩ HS1.out.drew (by have := HN.out; simp only [List.length_append, List.length_cons, List.length_nil] at this ⊢; omega)).mono ?_
 rintro e w2 ⟨rfl, v2, hs, hr⟩
 have HR2 := Lib.hid ((HR1.out.trans (PrR.of_kept (Kept.refl _).drew _)).trans hr)
 have HS2 := Lib.hid hs
 clear hs hr
 refine hK.out _ _ ⟨(HR2.out.blk HB1.out HO.out.1 HO.out.2).cell 0, (HR2.out.blk HB1.out HO.out.1 HO.out.2).cell 1, (HR2.out.blk HB1.out HO.out.1 HO.out.2).cell 2, (HR2.out.blk HB1.out HO.out.1 HO.out.2).cell 3, (HR2.out.blk HB1.out HO.out.1 HO.out.2).cell 4, (HR2.out.blk HB1.out HO.out.1 HO.out.2).cell 5, HR2.out.low1 HS1.out hD cb0, HR2.out.low1 HS1.out hD cb1, HR2.out.low1 HS1.out hD cb2, HR2.out.low1 HS1.out hD cb3, HR2.out.low1 HS1.out hD cb4, HR2.out.low1 HS1.out hD cb5⟩ (fun hHeld1 => ?_)
 clear hK K
 (try simp only [Act.put, List.getElem_toArray, List.getElem_cons_zero, List.getElem_cons_succ, List.setIfInBounds_toArray, List.set_cons_zero, List.set_cons_succ])
 clear hHeld0
 refine wpAnyH_ready (rs := [4]) (by kernel_rfl) (by simp) ?_
 refine AllReadyH.cons rfl (fun K hK => ?_) AllReadyH.nil
 go_simp
 refine (pname_c t HS2.out (by have := HN.out; simp only [List.length_append, List.length_cons, List.length_nil] at this ⊢; omega)).mono ?_
 rintro e w3 ⟨rfl, v3, hs, hr⟩
 have HR3 := Lib.hid (HR2.out.trans hr)
 have HS3 := Lib.hid hs
 clear hs hr
 refine hK.out _ _ ⟨(HR3.out.blk HB1.out HO.out.1 HO.out.2).cell 0, (HR3.out.blk HB1.out HO.out.1 HO.out.2).cell 1, (HR3.out.blk HB1.out HO.out.1 HO.out.2).cell 2, (HR3.out.blk HB1.out HO.out.1 HO.out.2).cell 3, (HR3.out.blk HB1.out HO.out.1 HO.out.2).cell 4, (HR3.out.blk HB1.out HO.out.1 HO.out.2).cell 5, HR3.out.low1 HS1.out hD cb0, HR3.out.low1 HS1.out hD cb1, HR3.out.low1 HS1.out hD cb2, HR3.out.low1 HS1.out hD cb3, HR3.out.low1 HS1.out hD cb4, HR3.out.low1 HS1.out hD cb5⟩ (fun hHeld2 => ?_)
 clear hK K
 (try simp only [Act.put, List.getElem_toArray, List.getElem_cons_zero, List.getElem_cons_succ, List.setIfInBounds_toArray, List.set_cons_zero, List.set_cons_succ])
 clear hHeld1
 refine wpAnyH_ready (rs := [9]) (by kernel_rfl) (by simp) ?_
 refine AllReadyH.cons rfl (fun K hK => ?_) AllReadyH.nil
 go_simp
 refine (pbrackets_cP g mb l _ _ _ _ _ HCl.out HS3.out (HR3.out.kids HS1.out HDl.out) (by have := HN.out; simp only [List.length_append, List.length_cons, List.length_nil] at this ⊢; omega)).mono ?_
 rintro e w4 ⟨rfl, v4, hs, hr⟩
 have HR4 := Lib.hid (HR3.out.trans hr)
 have HS4 := Lib.hid hs
 clear hs hr
 refine hK.out _ _ ⟨(HR4.out.blk HB1.out HO.out.1 HO.out.2).cell 0, (HR4.out.blk HB1.out HO.out.1 HO.out.2).cell 1, (HR4.out.blk HB1.out HO.out.1 HO.out.2).cell 2, (HR4.out.blk HB1.out HO.out.1 HO.out.2).cell 3, (HR4.out.blk HB1.out HO.out.1 HO.out.2).cell 4, (HR4.out.blk HB1.out HO.out.1 HO.out.2).cell 5, HR4.out.low1 HS1.out hD cb0, HR4.out.low1 HS1.out hD cb1, HR4.out.low1 HS1.out hD cb2, HR4.out.low1 HS1.out hD cb3, HR4.out.low1 HS1.out hD cb4, HR4.out.low1 HS1.out hD cb5⟩ (fun hHeld3 => ?_)
 clear hK K
 (try simp only [Act.put, List.getElem_toArray, List.getElem_cons_zero, List.getElem_cons_succ, List.setIfInBounds_toArray, List.set_cons_zero, List.set_cons_succ])
 clear hHeld2
 refine wpAnyH_ready (rs := [12]) (by kernel_rfl) (by simp) ?_
 refine AllReadyH.cons rfl (fun K hK => ?_) AllReadyH.nil
 go_simp
 refine (pann_c y Ps.kAny HS4.out (by have := HN.out; simp only [List.length_append, List.length_cons, List.length_nil] at this ⊢; omega)).mono ?_
 rintro e w5 ⟨rfl, v5, hs, hr⟩
 have HR5 := Lib.hid (HR4.out.trans hr)
 have HS5 := Lib.hid hs
 clear hs hr
 refine hK.out _ _ ⟨(HR5.out.blk HB1.out HO.out.1 HO.out.2).cell 0, (HR5.out.blk HB1.out HO.out.1 HO.out.2).cell 1, (HR5.out.blk HB1.out HO.out.1 HO.out.2).cell 2, (HR5.out.blk HB1.out HO.out.1 HO.out.2).cell 3, (HR5.out.blk HB1.out HO.out.1 HO.out.2).cell 4, (HR5.out.blk HB1.out HO.out.1 HO.out.2).cell 5, HR5.out.low1 HS1.out hD cb0, HR5.out.low1 HS1.out hD cb1, HR5.out.low1 HS1.out hD cb2, HR5.out.low1 HS1.out hD cb3, HR5.out.low1 HS1.out hD cb4, HR5.out.low1 HS1.out hD cb5⟩ (fun hHeld4 => ?_)
 clear hK K
 (try simp only [Act.put, List.getElem_toArray, List.getElem_cons_zero, List.getElem_cons_succ, List.setIfInBounds_toArray, List.set_cons_zero, List.set_cons_succ])
 clear hHeld3
 refine wpAnyH_ready (rs := [18]) (by kernel_rfl) (by simp) ?_
 refine AllReadyH.cons rfl (fun K hK => ?_) AllReadyH.nil
 go_simp
 refine (HCb.out _ _ _ kdb kkb HS5.out (HR5.out.kids HS1.out HKb.out) (by have := HN.out; simp only [List.length_append, List.length_cons, List.length_nil] at this ⊢; omega)).mono ?_
 rintro e w6 ⟨rfl, v6, hs, hr⟩
 have HR6 := Lib.hid (HR5.out.trans hr)
 have HS6 := Lib.hid hs
 clear hs hr
 refine hK.out _ _ ⟨(HR6.out.blk HB1.out HO.out.1 HO.out.2).cell 0, (HR6.out.blk HB1.out HO.out.1 HO.out.2).cell 1, (HR6.out.blk HB1.out HO.out.1 HO.out.2).cell 2, (HR6.out.blk HB1.out HO.out.1 HO.out.2).cell 3, (HR6.out.blk HB1.out HO.out.1 HO.out.2).cell 4, (HR6.out.blk HB1.out HO.out.1 HO.out.2).cell 5, HR6.out.low1 HS1.out hD cb0, HR6.out.low1 HS1.out hD cb1, HR6.out.low1 HS1.out hD cb2, HR6.out.low1 HS1.out hD cb3, HR6.out.low1 HS1.out hD cb4, HR6.out.low1 HS1.out hD cb5⟩ (fun hHeld5 => ?_)
 clear hK K
 (try simp only [Act.put, List.getElem_toArray, List.getElem_cons_zero, List.getElem_cons_succ, List.setIfInBounds_toArray, List.set_cons_zero, List.set_cons_succ])
 clear hHeld4
 refine wpAnyH_take (i := 19) (v := ?_) rfl (by kernel_rfl) (by kernel_rfl) (by kernel_rfl) (fun _ _ _ h => h) (Or.inl ⟨by kernel_rfl, ?_⟩) (by assumption) ?_
 rotate_left
 ·intro w hSw; (try dsimp only at hSw); go_simp; (try with_reducible rfl)
 (try simp only [Act.put, List.getElem_toArray, List.getElem_cons_zero, List.getElem_cons_succ, List.setIfInBounds_toArray, List.set_cons_zero, List.set_cons_succ])
 refine wpAnyH_done (by kernel_rfl) ?_ _
 clear hHeld5
 go_wp2_with fail
 go_ret
 exact ⟨rfl, _, by rw [HE.out]; exact HS6.out, (PrR.of_kept HK1.out v).trans HR6.out⟩
end Go.Proofs.YtfpklgffdniegaaGreatDoor
