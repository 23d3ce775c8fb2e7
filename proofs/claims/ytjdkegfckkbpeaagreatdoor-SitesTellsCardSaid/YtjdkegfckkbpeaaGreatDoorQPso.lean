/- The contract of slices.SortFunc at precision's members, by their names. The contract of precise.membersOf: the members of a class with their types, by ascending names. The contracts of precision's small calls: always, have, has, all. The contract of precise.zip: whether one class has another one's members, and the pairs of types that this asks for. The contract of precise.classesOf: the members of all classes of a valid table. The contract of precise.relation: a pair of classes, and all those on which it may hang. The keys of a relation's map, one by one in whatever order: the contract of the iterator that maps.Keys hands back; slices.AppendSeq and slices.Collect over it. The contract of latestFirst: all pairs of a relation, in some order; slices.SortedFunc at pairs. The contract of latestFirst: all pairs of a relation; the contract of strike: the pairs that do not hold are deleted; the contract of precise. The contracts of precise.Precise, Same and More: which type of a valid table is as precise as which one, and which of two is more so. -/
import Derived.Test.YtjdkegfckkbpeaaGreatDoorQTkk
import Derived.Test.YtjdkegfckkbpeaaGreatDoorQShelf
import Derived.Test.YtjdkegfckkbpeaaGreatDoorQz4
import Derived.Test.YtjdkegfckkbpeaaGreatDoorQz2
import Derived.Laws.MakeOwn
import Derived.Test.YtjdkegfckkbpeaaGreatDoorQNam
import Derived.Deep.QuietTactic
import Derived.BigQuiet
import Derived.Test.YtjdkegfckkbpeaaGreatDoorQz6
import Derived.RangeFuncSeq
import Derived.Sort.MapsRangeIn
import Derived.TacticsInMore
import Derived.RegionIn
import Derived.LoopNIn
import Derived.LoopIn
import Derived.StillTailTactics
import Derived.Deep.LoopGhost
import Derived.Test.YtjdkegfckkbpeaaGreatDoorQSbt
import Derived.Test.YtjdkegfckkbpeaaGreatDoorQChk
set_option linter.unusedSimpArgs false
set_option linter.unusedVariables false
set_option maxRecDepth 100000
namespace Go.Proofs.YtjdkegfckkbpeaaGreatDoor.Tab
/-- A member, and where its types lie. -/
structure Pq where
 m : Mb ByteArray
 a : Option Addr
 n : Nat
 c : Nat
instance : Inhabited Pq := ⟨⟨default, none, 0, 0⟩⟩
def flB (l : List V) : List (Mb ByteArray) := l.map mbF
def mtB (l : List M) : List (Mb ByteArray) := l.map mbM
theorem mbs_eqB (t : List C) (c : ByteArray) : mbs t c = flB (fields t c) ++ mtB (methods t c) := rfl
theorem flB_snoc {l : List V} {j : Nat} {f : V} (h : l[j]? = some f) : flB (l.take (j + 1)) = flB (l.take j) ++ [⟨f.name, -1, [f.typ]⟩] := by
 unfold flB; rw [List.take_add_one, h]; simp [mbF]
theorem mtB_snoc {l : List M} {j : Nat} {m : M} (h : l[j]? = some m) : mtB (l.take (j + 1)) = mtB (l.take j) ++ [⟨m.name, m.params.length, m.params.map (·.typ) ++ [m.res]⟩] := by
 unfold mtB; rw [List.take_add_one, h]; simp [mbM]
end Go.Proofs.YtjdkegfckkbpeaaGreatDoor.Tab
namespace Go.Proofs.YtjdkegfckkbpeaaGreatDoor
open Go.ChangeShapes Go.WideShapes Go.ChangeAt Go.RowKit Go.Shelf Go.Sort
def pCells (x : Tab.Pq) : List Value := [.string x.m.name, .int .i64 x.m.ar, .slice x.a x.n x.c]
theorem pCells_len (x : Tab.Pq) : (pCells x).length = 3 := rfl
def zCells (s : ByteArray) : List Value := [.string s]
theorem zCells_len (s : ByteArray) : (zCells s).length = 1 := rfl
def StrAt (w : World) (b o : Nat) (s : ByteArray) : Prop := w.cell? ⟨b, o, none⟩ = some (.string s) ∧ s.size ≤ maxLen
def MbBAt (w : World) (b o : Nat) (x : Tab.Mb ByteArray) : Prop :=
 w.cell? ⟨b, o, none⟩ = some (.string x.name) ∧ w.cell? ⟨b, o + 1, none⟩ = some (.int .i64 x.ar) ∧ (∃ v, w.cell? ⟨b, o + 2, none⟩ = some v ∧ Row 1 StrAt w v x.types) ∧ x.name.size ≤ maxLen
abbrev MbsAt (w : World) (v : Value) (L : List (Tab.Mb ByteArray)) : Prop := Row 3 MbBAt w v L
theorem MbBAt.kept {w w' : World} {b o : Nat} {x : Tab.Mb ByteArray} (h : MbBAt w b o x) (k : Kept w w') : MbBAt w' b o x := by
 obtain ⟨h1, h2, ⟨v, h3, h4⟩, h5⟩ := h
 exact ⟨k.cell h1, k.cell h2, ⟨v, k.cell h3, h4.mono fun _ _ _ r => ⟨k.cell r.1, r.2⟩⟩, h5⟩
theorem mbs_kept {w w' : World} {v : Value} {l : List (Tab.Mb ByteArray)} (h : MbsAt w v l) (k : Kept w w') : MbsAt w' v l := h.mono fun _ _ _ r => r.kept k
theorem clo_cP (x y : Tab.Pq) (w : World) :
  Calls Tryz.prog 99 #[.agg #[.string x.m.name, .int .i64 x.m.ar, .slice x.a x.n x.c], .agg #[.string y.m.name, .int .i64 y.m.ar, .slice y.a y.n y.c]] w fun e w' =>
   e = .returned (.int .i64 (Tab.cfS x.m.name y.m.name)) ∧ ∃ q os', w' = Go.Sort.grow (w.drewN q) os' := by
 have HC := Lib.hid (fun W => cmpS_c x.m.name y.m.name W)
 generalize Tab.cfS x.m.name y.m.name = r at HC ⊢
 go_enter Tryz.func99, Tryz.ntmps99
 go_wp2_with fail
 refine (HC.out _).mono ?_
 rintro e w1 ⟨rfl, rfl⟩
 go_wp2_with fail
 go_ret
 exact ⟨rfl, 0, _, by rw [Go.Sort.alloc_eq_grow, Go.Sort.alloc_eq_grow, Go.Sort.grow_grow]; rfl⟩
abbrev cfP (x y : Tab.Pq) : Int := Tab.cfS x.m.name y.m.name
theorem ltP (x y : Tab.Pq) : ltOf cfP x y = Tab.lt x.m.name y.m.name := by
 show decide (Tab.cfS _ _ < 0) = _
 exact Tab.cfS_lt _ _
theorem swoP : SWO (ltOf cfP) where
 irrefl x := by rw [ltP]; exact Tab.lt_irr _
 trans x y z h1 h2 := by rw [ltP] at *; exact Tab.lt_trans h1 h2
 ntrans x y z h1 h2 := by
  rw [ltP] at *
  cases h3 : Tab.lt x.m.name z.m.name with
  | false => rfl
  | true =>
   cases h4 : Tab.lt y.m.name x.m.name with
   | true => rw [Tab.lt_trans h4 h3] at h2; cases h2
   | false =>
    have e := Tab.lt_total h1 h4
    rw [e, h2] at h3; cases h3
/-- A row of members lies so. -/
def PqAt (W : World) (b : Nat) (l : List Tab.Pq) : Prop := ∀ (j : Nat) (x : Tab.Pq), l[j]? = some x → W.cell? ⟨b, j * 3, none⟩ = some (.string x.m.name) ∧ W.cell? ⟨b, j * 3 + 1, none⟩ = some (.int .i64 x.m.ar) ∧ W.cell? ⟨b, j * 3 + 2, none⟩ = some (.slice x.a x.n x.c)
theorem flat_getP (ms : List Tab.Pq) {j i : Nat} {x : Tab.Pq} (hx : ms[j]? = some x) (hi : i < 3) : j * 3 + i < (flatK pCells 3 ms.toArray).size ∧ (flatK pCells 3 ms.toArray)[j * 3 + i]! = (pCells x)[i]! := by
 obtain ⟨hj, rfl⟩ := List.getElem?_eq_some_iff.1 hx
 have hs : j * 3 + i < ms.toArray.size * 3 := by simp; omega
 refine ⟨by simpa using hs, ?_⟩
 rw [get_flatK pCells 3 ms.toArray _ hs]
 have e1 : (j * 3 + i) / 3 = j := by omega
 have e2 : (j * 3 + i) % 3 = i := by omega
 rw [e1, e2]
 congr 2
 simp [hj]
theorem holds_rowP {W : World} {n₁ b c : Nat} {ms : List Tab.Pq} (h : W.ownsRow n₁ 134 3 (.slice (some ⟨b, 0, none⟩) ms.length c) ms.length (ms.flatMap pCells)) : HoldsK pCells 3 W b 0 ms.toArray ∧ b < W.heap.size := by
 ·rcases h.2 with ⟨h0, _⟩ | ⟨g, cap, cur, hv, hb, hg, _⟩
  ·cases h0
  ·cases hv
   have hbk : Blk W b 134 cur := hg
   refine ⟨fun j hj => ?_, hbk.lt⟩
   have hj' : j < ms.length * 3 := by simpa using hj
   have hx : ms[j / 3]? = some ms[j / 3] := List.getElem?_eq_getElem (by omega)
   obtain ⟨_, hv⟩ := flat_getP ms hx (i := j % 3) (Nat.mod_lt _ (by omega))
   have e : j / 3 * 3 + j % 3 = j := by omega
   rw [e] at hv
   have hf := flat_at pCells pCells_len ms (j / 3) (j % 3) _ hx (Nat.mod_lt _ (by omega))
   rw [e] at hf
   have hlt : j % 3 < (pCells ms[j / 3]).length := by rw [pCells_len]; exact Nat.mod_lt _ (by omega)
   rw [List.getElem?_eq_getElem hlt] at hf
   have hc := h.cells (g := b) rfl _ _ hf
   rw [addr_plain] at hc
   refine ⟨?_, hbk.frozen _⟩
   rw [hc, hv]
   rw [getElem!_pos (pCells ms[j / 3]) (j % 3) hlt]; rfl
theorem at_of_holdsP {W : World} {b : Nat} {ms : List Tab.Pq} (h : HoldsK pCells 3 W b 0 ms.toArray) : PqAt W b ms := by
 intro j x hx
 have q : ∀ i, i < 3 → W.cell? ⟨b, 0 + (j * 3 + i), none⟩ = some (pCells x)[i]! := fun i hi => by
  obtain ⟨h1, h2⟩ := flat_getP ms hx hi
  rw [(h _ h1).1, h2]; rfl
 have q0 := q 0 (by omega)
 have q1 := q 1 (by omega)
 have q2 := q 2 (by omega)
 rw [Nat.zero_add] at q0 q1 q2
 exact ⟨q0, q1, q2⟩
theorem only_sortP {W : World} {b n : Nat} {d : Array Tab.Pq} {os : Array Obj} (hb : b < W.heap.size) : Only (· = b) W (sortWorldK pCells 3 W b 0 n d os) := by
 refine ⟨rfl, rfl, size_sortWorldK_c _ _ _ _ _ _ _ _, fun k hk hne => ?_⟩
 show (((putRowK pCells 3 (Sort.ahead W n) b 0 d).heap) ++ os)[k]? = _
 have hs : k < (putRowK pCells 3 (Sort.ahead W n) b 0 d).heap.size := by simpa [putRowK, putRow, mapBlock, Sort.ahead] using hk
 rw [Array.getElem?_append_left hs]
 have : b ≠ k := fun e => hne e.symm
 simp [putRowK, putRow, mapBlock, Sort.ahead, Array.getElem?_modify, this]
theorem clo_laysP (b size : Nat) (W : World) : CmpLays Tryz.prog 99 #[] pCells 3 cfP b 0 size W := fun _ _ _ _ x y => clo_cP x y _
/-- What a sort leaves. -/
def SoP (b : Nat) (ms : List Tab.Pq) (W W' : World) : Prop := ∃ ms' : List Tab.Pq, ms'.Perm ms ∧ (ms'.Pairwise fun x y => Tab.lt y.m.name x.m.name = false) ∧ Only (· = b) W W' ∧ PqAt W' b ms'
theorem pdq_cP (b c : Nat) (ms : List Tab.Pq) (n₁ : Nat) (W : World) (h : W.ownsRow n₁ 134 3 (.slice (some ⟨b, 0, none⟩) ms.length c) ms.length (ms.flatMap pCells)) (hs : ms.length ≤ 10000000) :
  Calls Tryz.prog 140 #[.slice (some ⟨b, 0, none⟩) ms.length c, .int .i64 0, .int .i64 ms.length, .int .i64 (Lib.bitLen ms.length : Nat), .func (.func 99) #[] #[]] W fun e w' => e = .returned (.tuple #[]) ∧ SoP b ms W w' := by
 have eg : ∀ args w, (callFunc 99 args).run Tryz.prog w = .ok (.enter 99 args) w := enters_of Tryz.func99 (by kernel_rfl) rfl
 obtain ⟨hH, hb⟩ := holds_rowP h
 have hlim : Lib.bitLen ms.toArray.size < 4611686018427387904 := Nat.lt_of_le_of_lt (Lib.bitLen_le _ 62 (by omega) (by simp; omega)) (by omega)
 have hp := AnyQ.pdqsortCmpFunc_all Tryz.pdqP 3 Tryz.isAgg134 Tryz.sizeOf134 pCells cfP 99 #[] swoP b 0 c ms.toArray W eg (clo_laysP b _ W)
  ⟨pCells_len, fun x v hv => by simp [pCells] at hv; rcases hv with rfl | rfl | rfl <;> rfl, hH, hb⟩ (ms.toArray.size + 1) 0 ms.toArray.size (Lib.bitLen ms.toArray.size) ms.toArray W (by omega) rfl (SWK.start hH) (Nat.zero_le _) (Nat.le_refl _) (by simp; omega) hlim (Or.inl rfl)
 change Calls Tryz.prog 140 _ _ _ at hp
 have hz : ms.toArray.size = ms.length := by simp
 rw [hz] at hp
 refine hp.mono ?_
 rintro e w' ⟨he, n, os, rfl⟩
 refine ⟨he, ?_⟩
 have hsrt := pdq_sorts (ltOf cfP) swoP ms.toArray 0 ms.toArray.size (Lib.bitLen ms.toArray.size) true true (Nat.zero_le _) (Nat.le_refl _) (Or.inl rfl)
 rw [hz] at hsrt
 generalize pdq (ltOf cfP) ms.toArray 0 ms.length (Lib.bitLen ms.length) true true = d at hsrt
 obtain ⟨⟨p1, _, p3⟩, p4⟩ := hsrt
 rw [hz] at p1
 refine ⟨d.toList, ?_, ?_, only_sortP hb, ?_⟩
 ·have e1 : (d.extract 0 ms.length).toList = d.toList := by rw [← p1]; simp
  have e2 : (ms.toArray.extract 0 ms.length).toList = ms := by simp
  rw [e1, e2] at p3
  exact p3
 ·rw [List.pairwise_iff_getElem]
  intro i k hi hk hik
  have hk' : k < d.size := by simpa using hk
  have hi' : i < d.size := by simpa using hi
  have := p4 i k (Nat.zero_le _) hik (by omega)
  rw [ltP, getElem!_pos d k hk', getElem!_pos d i hi'] at this
  simpa using this
 ·have hh : HoldsK pCells 3 (sortWorldK pCells 3 W b 0 n d os) b 0 d := holdsK_sortWorldK_c pCells 3 W b 0 ms.toArray d n os hH hb (by rw [p1]; simp)
  refine at_of_holdsP (ms := d.toList) ?_
  simpa using hh
theorem sort_cP (b c : Nat) (ms : List Tab.Pq) (n₁ : Nat) (W : World) (h : W.ownsRow n₁ 134 3 (.slice (some ⟨b, 0, none⟩) ms.length c) ms.length (ms.flatMap pCells)) (hs : ms.length ≤ 10000000) :
  Calls Tryz.prog 98 #[.slice (some ⟨b, 0, none⟩) ms.length c, .func (.func 99) #[] #[]] W fun e w' => e = .returned (.tuple #[]) ∧ SoP b ms W w' := by
 have HP := Lib.hid (pdq_cP b c ms n₁ W h hs)
 have HB := Lib.hid (show ∀ w, Calls Tryz.prog 141 #[.int .u64 (ms.length : Int)] w fun e w' => e = .returned (.int .i64 (Lib.bitLen ms.length : Nat)) ∧ w' = w from fun w => by
  have := Any.bits_Len Tryz.lays125 (ms.length : Int) w (by omega) (by omega)
  change Calls Tryz.prog 141 _ _ _ at this
  simpa using this)
 have wr : IntKind.u64.wrap (ms.length : Int) = ms.length := by simp [IntKind.wrap, IntKind.bits, IntKind.signed]; omega
 generalize Lib.bitLen ms.length = bl at HP HB
 have HW := Lib.hid h
 clear h
 go_enter Tryz.func98, Tryz.ntmps98
 go_wp2_with fail
 refine (HB.out _).mono ?_
 rintro e w1 ⟨rfl, rfl⟩
 go_wp2_with fail
 refine HP.out.mono ?_
 rintro e w1 ⟨rfl, hE⟩
 have HE := Lib.hid hE
 clear hE
 go_wp2_with fail
 refine bodyPost_end (results_none rfl _ _ _) rfl ?_
 exact ⟨rfl, HE.out⟩
theorem sort_nilP (W : World) :
  Calls Tryz.prog 98 #[.slice none 0 0, .func (.func 99) #[] #[]] W fun e w' => e = .returned (.tuple #[]) ∧ w' = W := by
 have HP := Lib.hid (show ∀ lim, Calls Tryz.prog 140 #[.slice none 0 0, .int .i64 0, .int .i64 0, .int .i64 lim, .func (.func 99) #[] #[]] W fun e w' => e = .returned (.tuple #[]) ∧ w' = W from fun lim =>
  AnyF.pdqsortCmpFunc_none Tryz.pdqP none 0 lim _ W)
 have HB := Lib.hid (show ∀ w, Calls Tryz.prog 141 #[.int .u64 0] w fun e w' => e = .returned (.int .i64 (Lib.bitLen 0 : Nat)) ∧ w' = w from fun w => by
  have := Any.bits_Len Tryz.lays125 0 w (by omega) (by omega)
  change Calls Tryz.prog 141 _ _ _ at this
  simpa using this)
 generalize Lib.bitLen 0 = bl at HB
 go_enter Tryz.func98, Tryz.ntmps98
 go_wp2_with fail
 refine (HB.out _).mono ?_
 rintro e w1 ⟨rfl, rfl⟩
 go_wp2_with fail
 refine (HP.out _).mono ?_
 rintro e w1 ⟨rfl, rfl⟩
 go_wp2_with fail
 refine bodyPost_end (results_none rfl _ _ _) rfl ?_
 exact ⟨rfl, rfl⟩
end Go.Proofs.YtjdkegfckkbpeaaGreatDoor
namespace Go.Proofs.YtjdkegfckkbpeaaGreatDoor
open Go.ChangeShapes Go.WideShapes Go.ChangeAt Go.RowKit Go.Shelf
/-- The types of a member. -/
def TyB (n₁ : Nat) (W : World) (x : Tab.Pq) : Prop := W.ownsRow n₁ 9 1 (.slice x.a x.n x.c) x.m.types.length (x.m.types.flatMap zCells)
/-- The members so far, and their types. -/
def MbR (n₁ : Nat) (w1 : World) (l : List Tab.Pq) (v : Value) (W : World) : Prop := RR 134 3 pCells n₁ w1 l v W ∧ ∀ x ∈ l, TyB n₁ W x
theorem MbR.start (n₁ : Nat) (w1 : World) : MbR n₁ w1 [] (.slice none 0 0) w1 := ⟨RR.start _ _ _ _ _, fun x h => by cases h⟩
theorem MbR.keep {n₁ : Nat} {w1 W X : World} {l : List Tab.Pq} {v : Value} (h : MbR n₁ w1 l v W) (hk : Kept W X) : MbR n₁ w1 l v X :=
 ⟨h.1.keep hk, fun x hx => owns_only (S := fun _ => False) (h.2 x hx) (Only.of_kept hk) (fun _ _ h => h)⟩
theorem MbR.from {n₁ : Nat} {w1 W : World} {l : List Tab.Pq} {v : Value} (h : MbR n₁ w1 l v W) : MbR n₁ W l v W := ⟨h.1.from, h.2⟩
theorem MbR.next {n₁ : Nat} {w1 X w2 : World} {l : List Tab.Pq} {v v' : Value} {x : Tab.Pq} (h : MbR n₁ w1 l v X) (hx : TyB n₁ X x)
  (hr : w2.ownsRow n₁ 134 3 v' (l.length + 1) (l.flatMap pCells ++ pCells x)) (hg : X.grownBy w2 v.ownBlock) (hl : v'.ownBlock = v.ownBlock ∨ v'.ownBlock = some X.heap.size) : MbR n₁ w1 (l ++ [x]) v' w2 := by
 refine ⟨h.1.next (Kept.refl _) hr hg hl, fun y hy => ?_⟩
 rcases List.mem_append.1 hy with hy | hy
 ·exact row_grown (h.2 y hy) h.1.1 (by decide) hg
 ·simp at hy
  subst hy
  exact row_grown hx h.1.1 (by decide) hg
theorem info_mbrP : (Tryz.prog.info? 134).map (fun i => (i.zero, i.size, i.bytes)) = some (some (.agg #[.string ⟨#[]⟩, .int .i64 0, .slice none 0 0]), 3, 48) := by kernel_rfl
theorem info_strP : (Tryz.prog.info? 9).map (fun i => (i.zero, i.size, i.bytes)) = some (some (.string ⟨#[]⟩), 1, 16) := by kernel_rfl
theorem src_mbrP (w : World) (x : Tab.Pq) : Src Tryz.prog 3 108 (.slice (some ⟨w.heap.size, 0, none⟩) 1 1) 1 (pCells x) (w.alloc (.cells #[.string x.m.name, .int .i64 x.m.ar, .slice x.a x.n x.c] 134)) := by
 refine Src.ofSlice _ Tryz.underlying108 ⟨w.heap.size, 0, none⟩ 1 1 (pCells x) rfl ?_ ?_
 ·intro j u hu
  rw [addr_plain, (Blk.new w _ _).cell, Nat.zero_add]
  simpa [pCells] using hu
 ·intro u hu
  simp [pCells] at hu
  rcases hu with rfl | rfl | rfl <;> rfl
theorem src_str1 (w : World) (n : ByteArray) : Src Tryz.prog 1 70 (.slice (some ⟨w.heap.size, 0, none⟩) 1 1) 1 (zCells n) (w.alloc (.cells #[.string n] 9)) := by
 refine Src.ofSlice _ Tryz.underlying70 ⟨w.heap.size, 0, none⟩ 1 1 (zCells n) rfl ?_ ?_
 ·intro j u hu
  rw [addr_plain, (Blk.new w _ _).cell, Nat.zero_add]
  simpa [zCells] using hu
 ·intro u hu
  simp [zCells] at hu
  subst hu; rfl
/-- One type of one's own. -/
theorem ty_oneP (w : World) (n₁ : Nat) (hn : n₁ ≤ w.heap.size) (nm : ByteArray) (ar : Int) (n : ByteArray) : TyB n₁ (w.alloc (.cells #[.string n] 9)) ⟨⟨nm, ar, [n]⟩, some ⟨w.heap.size, 0, none⟩, 1, 1⟩ := by
 refine ⟨rfl, .inr ⟨w.heap.size, 1, _, rfl, hn, heap_alloc_new w _, Nat.le_refl _, by unfold maxLen; omega, rfl, rfl⟩⟩
end Go.Proofs.YtjdkegfckkbpeaaGreatDoor
namespace Go.Proofs.YtjdkegfckkbpeaaGreatDoor.Tab
theorem addM_membP {l : List M} {m x : M} (h : x ∈ addM l m) : x = m ∨ x ∈ l := by
 unfold addM at h
 cases hi : ix M.name l m.name with
 | none =>
  rw [hi] at h
  rcases List.mem_append.1 h with h | h
  ·exact .inr h
  ·simp at h; exact .inl h
 | some k =>
  rw [hi] at h
  rcases List.mem_or_eq_of_mem_set h with h | h
  ·exact .inr h
  ·exact .inl h
theorem foldM_membP {x : M} : ∀ (ms l : List M), x ∈ ms.foldl addM l → x ∈ ms ∨ x ∈ l
 | [], l, h => .inr h
 | m :: r, l, h => by
  rcases foldM_membP r _ h with h | h
  ·exact .inl (List.mem_cons_of_mem _ h)
  ·rcases addM_membP h with rfl | h
   ·exact .inl (List.mem_cons_self ..)
   ·exact .inr h
theorem methods_membP {t : List C} {s : ByteArray} {m : M} (h : m ∈ methods t s) : ∃ i, i < t.length ∧ m ∈ (nth t i).methods := by
 unfold methods at h
 rcases foldM_membP _ _ h with h | h
 ·obtain ⟨i, hi, hm⟩ := List.mem_flatMap.1 h
  exact ⟨i, line_lt (List.mem_reverse.1 hi), hm⟩
 ·cases h
theorem fields_membP {t : List C} {s : ByteArray} {f : V} (h : f ∈ fields t s) : ∃ i, i < t.length ∧ f ∈ (nth t i).fields := by
 unfold fields at h
 obtain ⟨i, hi, hf⟩ := List.mem_flatMap.1 h
 exact ⟨i, line_lt (List.mem_reverse.1 hi), hf⟩
end Go.Proofs.YtjdkegfckkbpeaaGreatDoor.Tab
namespace Go.Proofs.YtjdkegfckkbpeaaGreatDoor
open Go.ChangeShapes Go.WideShapes Go.ChangeAt Go.RowKit Go.Shelf
/-- No text of a table is too long for a string. -/
theorem vars_sizedP {w : World} {v : Value} {l : List Tab.V} (h : Row 2 VarAt w v l) {x : Tab.V} (hx : x ∈ l) : x.name.size ≤ maxLen ∧ x.typ.size ≤ maxLen := by
 obtain ⟨a, c, _, _, _, q⟩ := h
 obtain ⟨i, hi, rfl⟩ := List.getElem_of_mem hx
 obtain ⟨b, o, _, r⟩ := q i _ (List.getElem?_eq_getElem hi)
 exact r.2.2
theorem fields_sizedP {w : World} {a : Option Addr} {c : Nat} {t : List Tab.C} (h : TabAt w (.slice a t.length c) t) {s : ByteArray} {f : Tab.V} (hf : f ∈ Tab.fields t s) : f.name.size ≤ maxLen ∧ f.typ.size ≤ maxLen := by
 obtain ⟨i, hi, hf⟩ := Tab.fields_membP hf
 obtain ⟨b, o, _, hc⟩ := Row.cellsC h hi
 obtain ⟨_, _, ⟨v, _, hv⟩, _⟩ := hc
 exact vars_sizedP hv hf
theorem methods_sizedP {w : World} {a : Option Addr} {c : Nat} {t : List Tab.C} (h : TabAt w (.slice a t.length c) t) (hS : Small t) {s : ByteArray} {m : Tab.M} (hm : m ∈ Tab.methods t s) : m.name.size ≤ maxLen ∧ m.res.size ≤ maxLen ∧ (∀ p ∈ m.params, p.name.size ≤ maxLen ∧ p.typ.size ≤ maxLen) ∧ m.params.length ≤ 1000 := by
 obtain ⟨i, hi, hm⟩ := Tab.methods_membP hm
 obtain ⟨b, o, _, hc⟩ := Row.cellsC h hi
 obtain ⟨_, _, _, ⟨v, _, hv⟩, _⟩ := hc
 obtain ⟨a', c', _, _, _, q⟩ := hv
 obtain ⟨k, hk, rfl⟩ := List.getElem_of_mem hm
 obtain ⟨b', o', _, r⟩ := q k _ (List.getElem?_eq_getElem hk)
 obtain ⟨_, ⟨v', _, hp⟩, _, h1, h2⟩ := r
 exact ⟨h1, h2, fun p hp' => vars_sizedP hp hp', hS.params _ (nth_mem hi) _ (List.getElem_mem hk)⟩
theorem any_statesP {P : Program} {md : Region.Mode} {ops : Array Oper} {Q : Exit → Act → World → Prop} {n : Nat} {mask : Array Bool} {a : Act} {w : World} (k : ∀ G : Nat → Array Bool → Act → World → Prop, G = wpAny P md ops Q → wpAny P md ops Q n mask a w) : wpAny P md ops Q n mask a w := k _ rfl
theorem any_eqP {P : Program} {md : Region.Mode} {ops : Array Oper} {Q : Exit → Act → World → Prop} {G : Nat → Array Bool → Act → World → Prop} (hG : G = wpAny P md ops Q) {n n' : Nat} {m m' : Array Bool} {a a' : Act} {w : World} (h1 : n = n') (h2 : m = m') (h3 : a = a') (h : G n' m' a' w) : wpAny P md ops Q n m a w := by
 rw [← hG, h1, h2, h3]; exact h
theorem RR.ofP {α : Type} {e : TypeId} {k : Nat} {f : α → List Value} {n₁ : Nat} {X : World} {l : List α} {v : Value} (h : X.ownsRow n₁ e k v l.length (l.flatMap f)) : RR e k f n₁ X l v X := by
 refine ⟨h, Only.refl _ _, fun g e => .inl ?_⟩
 rcases h.2 with ⟨rfl, _⟩ | ⟨g', cap, cur, rfl, hb, hh, _⟩
 ·simp [Value.ownBlock] at e
 ·obtain rfl : g' = g := by simpa [Value.ownBlock] using e
  exact ⟨hb, _, _, hh⟩
/-- The numbers of some types. -/
def tyB (l : List Tab.V) : List ByteArray := l.map (·.typ)
theorem tyB_snoc {l : List Tab.V} {j : Nat} {f : Tab.V} (h : l[j]? = some f) : tyB (l.take (j + 1)) = tyB (l.take j) ++ [f.typ] := by
 unfold tyB; rw [List.take_add_one, h]; simp
/-- What shapeOf answers: the members by ascending names, all in blocks of its own. -/
def MbOut (t : List Tab.C) (s : ByteArray) (w : World) (e : Ending) (w' : World) : Prop :=
 ∃ (L : List (Tab.Mb ByteArray)) (a : Option Addr) (c : Nat), e = .returned (.slice a L.length c) ∧ L.Perm (Tab.mbs t s) ∧ (L.Pairwise fun x y => Tab.lt y.name x.name = false) ∧
  ∀ w'', Only (fun k => k < w.heap.size) w' w'' → MbsAt w'' (.slice a L.length c) L
theorem str_rowB {W : World} {n₁ : Nat} {x : Tab.Pq} (h : TyB n₁ W x) (hsz : ∀ y ∈ x.m.types, y.size ≤ maxLen) : Row 1 StrAt W (.slice x.a x.n x.c) x.m.types := by
 unfold TyB at h
 rcases h.2 with ⟨h0, h1⟩ | ⟨g, cap, cur, hv, h1, h2, h3, h4, h5, h6⟩
 ·rw [h0]
  have : x.m.types = [] := List.eq_nil_of_length_eq_zero h1
  rw [this]
  exact Row.nil
 ·have hv' := hv
  injection hv' with e1 e2 e3
  refine ⟨_, cap, by rw [e1, e2, e3], h3, h4, fun i n hn => ⟨g, 0, rfl, ?_⟩⟩
  have hf := flat_at zCells zCells_len x.m.types i 0 n hn (by omega)
  rw [hv] at h
  have hc := World.ownsRow.cells h (g := g) rfl _ _ hf
  rw [addr_plain] at hc
  exact ⟨by simpa using hc, hsz _ (List.mem_of_getElem? hn)⟩
theorem mb_outB {t : List Tab.C} {s : ByteArray} {w W W' : World} {mq : List Tab.Pq} {b c n₁ : Nat} (hn : w.heap.size ≤ n₁) (hrow : W.ownsRow n₁ 134 3 (.slice (some ⟨b, 0, none⟩) mq.length c) mq.length (mq.flatMap pCells)) (hty : ∀ x ∈ mq, TyB n₁ W x)
  (hm : mq.map Tab.Pq.m = Tab.mbs t s) (hsz : ∀ x ∈ Tab.mbs t s, x.name.size ≤ maxLen) (hts : ∀ x ∈ Tab.mbs t s, ∀ y ∈ x.types, y.size ≤ maxLen) (h : SoP b mq W W') : MbOut t s w (.returned (.slice (some ⟨b, 0, none⟩) mq.length c)) W' := by
 obtain ⟨ms', hp, hs, ho, hat⟩ := h
 have hbb : n₁ ≤ b ∧ mq.length ≤ c ∧ c ≤ maxLen ∧ ∃ cur, W.heap[b]? = some (.cells cur 134 (0, 0)) := by
  rcases hrow.2 with ⟨h0, _⟩ | ⟨g, cap, cur, hv, h1, h2, h3, h4, _⟩
  ·cases h0
  ·cases hv
   exact ⟨h1, h3, h4, cur, h2⟩
 obtain ⟨hb1, hb2, hb3, cur, hb4⟩ := hbb
 have hbl : b < W.heap.size := (Array.getElem?_eq_some_iff.1 hb4).1
 refine ⟨ms'.map Tab.Pq.m, some ⟨b, 0, none⟩, c, by rw [List.length_map, hp.length_eq], by rw [← hm]; exact hp.map _, ?_, ?_⟩
 ·rw [List.pairwise_map]; exact hs
 ·intro w'' hw
  refine ⟨_, c, rfl, by rw [List.length_map, hp.length_eq]; exact hb2, hb3, fun i x hx => ⟨b, 0, rfl, ?_⟩⟩
  rw [List.getElem?_map] at hx
  obtain ⟨q, hq, rfl⟩ := Option.map_eq_some_iff.1 hx
  obtain ⟨c0, c1, c2⟩ := hat i q hq
  have hqm : q ∈ mq := hp.subset (List.mem_of_getElem? hq)
  have hblk : w''.heap[b]? = W'.heap[b]? := hw.block b (Nat.lt_of_lt_of_le hbl ho.size) (by omega)
  have cc : ∀ o, w''.cell? ⟨b, o, none⟩ = W'.cell? ⟨b, o, none⟩ := fun o => World.cell?_of_block hblk
  have ht1 : TyB n₁ W' q := owns_typed (hty q hqm) ho fun g cs fr hs hc => by
   subst hs
   rw [hb4] at hc
   injection hc with hc
   injection hc with _ h2
   exact absurd h2 (by decide)
  have ht2 : TyB n₁ w'' q := owns_only ht1 hw (fun g hg h => by omega)
  rw [Nat.zero_add]
  exact ⟨by rw [cc]; exact c0, by rw [cc]; exact c1, ⟨_, by rw [cc]; exact c2, str_rowB ht2 (hts _ (by rw [← hm]; exact List.mem_map_of_mem hqm))⟩, hsz _ (by rw [← hm]; exact List.mem_map_of_mem hqm)⟩
theorem mb_noneB {t : List Tab.C} {s : ByteArray} {w W : World} (h : Tab.mbs t s = []) : MbOut t s w (.returned (.slice none 0 0)) W :=
 ⟨[], none, 0, rfl, by rw [h], List.Pairwise.nil, fun w'' _ => Row.nil⟩
set_option maxHeartbeats 8000000 in
theorem membersOf_c (a : Option Addr) (c : Nat) (t : List Tab.C) (s : ByteArray) (w : World) (hT : TabAt w (.slice a t.length c) t) (hS : Small t) :
  Calls Tryz.prog 68 #[.slice a t.length c, .string s] w fun e w' => MbOut t s w e w' ∧ Kept w w' := by
 obtain ⟨i0, hi, hz0, hzz1, hzz2⟩ := info_parts info_mbrP
 obtain ⟨j0, hj', hy0, hyy1, hyy2⟩ := info_parts info_strP
 have HT := Lib.hid hT
 have HFL := Lib.hid (fldsOf_le hS (s := s) (List.prefix_refl (bk (Tab.line t s) 0)))
 rw [fldsOf_all] at HFL
 have hfl := HFL.out
 have HFS := Lib.hid (fun f (hf : f ∈ Tab.fields t s) => fields_sizedP hT hf)
 have HMS := Lib.hid (fun m (hm : m ∈ Tab.methods t s) => methods_sizedP hT hS hm)
 clear hT
 go_enter Tryz.func68, Tryz.ntmps68
 go_wp2_with fail
 refine (fields_c a c t s w HT.out hS).mono ?_
 rintro e w1 ⟨v, rfl, hrow, hk⟩
 obtain ⟨fa, fc, rfl⟩ := owns_slice_n hrow
 have HR := Lib.hid hrow
 have HK := Lib.hid hk
 clear hrow hk
 go_wp2_with fail
 go_loopw [5, 17] (fun l q wr => ∃ (j : Nat) (ms : List Tab.Pq), q = .int .i64 j ∧ j ≤ (Tab.fields t s).length ∧ MbR w1.heap.size w1 ms l wr ∧ Hid (ms.map Tab.Pq.m = Tab.flB ((Tab.fields t s).take j))) (fun l q wr => (Tab.fields t s).length - (intOf q).toNat)
 case atStart => exact ⟨0, [], rfl, Nat.zero_le _, MbR.start _ _, Lib.hid rfl⟩
 case round =>
  obtain ⟨j, ms, rfl, hj, hR, HM⟩ := hrel
  by_cases hlt : j < (Tab.fields t s).length
  ·have hltI : (j : Int) < ((Tab.fields t s).length : Int) := by omega
   have hx : (Tab.fields t s)[j]? = some (Tab.fields t s)[j] := List.getElem?_eq_getElem hlt
   have hxm : (Tab.fields t s)[j] ∈ Tab.fields t s := List.getElem_mem hlt
   generalize (Tab.fields t s)[j] = x at hx hxm
   obtain ⟨g, rfl, _⟩ := row_cells HR.out (by omega)
   obtain ⟨c0, c1⟩ := var_cells (hR.1.other (by decide) HR.out) hx
   have hkw := hR.1.kept HK.out HK.out.size
   have HX := Lib.hid (show (ms ++ [(⟨⟨x.name, -1, [x.typ]⟩, some ⟨wr.heap.size + 1, 0, none⟩, 1, 1⟩ : Tab.Pq)]).map Tab.Pq.m = Tab.flB ((Tab.fields t s).take (j + 1)) by
    rw [Tab.flB_snoc hx, List.map_append, HM.out]; rfl)
   have HL := Lib.hid (show ms.length = j by
    have := congrArg List.length HM.out
    unfold Tab.flB at this
    simp at this
    omega)
   obtain ⟨la, ln, lc, rfl⟩ := owns_slice hR.1.1
   have HB := Lib.hid (show w1.heap.size ≤ wr.heap.size from hR.1.2.1.size)
   have HRX := Lib.hid (hR.keep ((((Kept.refl wr).alloc (.cells #[.string x.name, .string x.typ] 72)).alloc (.cells #[.string x.typ] 9)).alloc (.cells #[.string x.name, .int .i64 (-1), .slice (some ⟨wr.heap.size + 1, 0, none⟩) 1 1] 134)))
   have hsx := src_mbrP ((wr.alloc (.cells #[.string x.name, .string x.typ] 72)).alloc (.cells #[.string x.typ] 9)) ⟨⟨x.name, -1, [x.typ]⟩, some ⟨wr.heap.size + 1, 0, none⟩, 1, 1⟩
   have hty := ty_oneP (wr.alloc (.cells #[.string x.name, .string x.typ] 72)) w1.heap.size (by have := HB.out; simp; omega) x.name (-1) (x.typ)
   rw [World.size_alloc, World.size_alloc] at hsx
   rw [World.size_alloc] at hty
   have HSX := Lib.hid hsx
   have HTY := Lib.hid (owns_only (S := fun _ => False) hty (Only.of_kept ((Kept.refl _).alloc (.cells #[.string x.name, .int .i64 (-1), .slice (some ⟨wr.heap.size + 1, 0, none⟩) 1 1] 134))) (fun _ _ h => h))
   clear hsx hty hx hR hkw hxm
   go_wp2_with (at_builtin; refine wpList_apk rfl (.tmp 21) (.tmp 28) 108 108 rfl w1.heap.size 3 134 i0 _ 48 Tryz.underlying108 hi hz0 hzz1 hzz2 rfl rfl HRX.out.1.1 rfl HSX.out (by rw [HL.out]; have := HFL.out; unfold maxLen; omega) (by rw [HL.out]; have := HFL.out; omega) (by have := HB.out; simp; omega) ?_; intro v' w2 hown' hgrow hlies; have HNX := Lib.hid (HRX.out.next HTY.out hown' hgrow hlies); obtain ⟨va', vn', vc', rfl⟩ := owns_slice hown'; clear hown' hgrow hlies)
   go_roundw
   case rel => exact ⟨j + 1, _, by go_num, by omega, HNX.out, HX⟩
   case measure => simp [intOf]; omega
  ·have hltI : ¬ (j : Int) < ((Tab.fields t s).length : Int) := by omega
   obtain rfl : j = (Tab.fields t s).length := by omega
   have hM1 := HM.out
   rw [List.take_length] at hM1
   have HM1 := Lib.hid hM1
   have hK1 := hR.1.kept HK.out HK.out.size
   have HR1 := Lib.hid hR
   have HK1 := Lib.hid hK1
   have HL1 := Lib.hid (show ms.length = (Tab.fields t s).length by
    have := congrArg List.length hM1
    unfold Tab.flB at this
    simpa using this)
   obtain ⟨la, ln, lc, rfl⟩ := owns_slice hR.1.1
   clear hR hlt hM1 hK1 HM
   go_wp2_with fail
   refine (methods_c a c t s wr (tab_kept HT.out HK1.out) hS).mono ?_
   rintro e w2 ⟨m2, v2, rfl, hf, hrow2, hrows, hlen2, hk2⟩
   obtain ⟨ma, mc, rfl⟩ := owns_slice_n hrow2
   have HR2 := Lib.hid hrow2
   have HRS := Lib.hid hrows
   have HF := Lib.hid hf
   have HK2 := Lib.hid (HK1.out.trans hk2)
   have HM2 := Lib.hid (HR1.out.keep hk2).from
   have HS2 := Lib.hid (show w1.heap.size ≤ w2.heap.size from Nat.le_trans HR1.out.1.2.1.size hk2.size)
   clear hrow2 hrows hf hk2
   go_wp2_with fail
   go_loopw [5, 35] (fun l q wr => ∃ (j : Nat) (mq : List Tab.Pq), q = .int .i64 j ∧ j ≤ m2.length ∧ MbR w1.heap.size w2 mq l wr ∧ Hid (mq.map Tab.Pq.m = Tab.flB (Tab.fields t s) ++ Tab.mtB ((m2.map Prod.fst).take j))) (fun l q wr => m2.length - (intOf q).toNat)
   case atStart => exact ⟨0, ms, rfl, Nat.zero_le _, HM2.out, Lib.hid (by rw [HM1.out]; simp [Tab.mtB])⟩
   case round =>
    obtain ⟨j, mq, rfl, hj, hR, HM⟩ := hrel
    have HRQ := Lib.hid hR
    have hkw := hR.1.kept HK2.out (Nat.le_trans HK.out.size (Nat.le_refl _))
    have HKW := Lib.hid hkw
    obtain ⟨ga, gn, gc, rfl⟩ := owns_slice hR.1.1
    obtain ⟨wo, rfl⟩ : ∃ wo, wo = wr := ⟨_, rfl⟩
    by_cases hlt : j < m2.length
    ·have hltI : (j : Int) < (m2.length : Int) := by omega
     have hx : m2[j]? = some m2[j] := List.getElem?_eq_getElem hlt
     have hxm : m2[j] ∈ m2 := List.getElem_mem hlt
     generalize m2[j] = x at hx hxm
     have hmz := HMS.out x.1 (by rw [← HF.out]; exact List.mem_map_of_mem hxm)
     have HMZ := Lib.hid hmz
     have hpl := hmz.2.2.2
     obtain ⟨g, rfl, _⟩ := row_cells HR2.out (by omega)
     obtain ⟨c0, c1, c2⟩ := sig_cells (hR.1.other (by decide) HR2.out) hx
     have HPR := Lib.hid (hR.1.other (by decide) (HRS.out x hxm))
     obtain ⟨pa, pc, hp⟩ := owns_slice_n (HRS.out x hxm)
     rw [hp] at c1 HPR
     have HX := Lib.hid (show (m2.map Prod.fst)[j]? = some x.1 by rw [List.getElem?_map, hx]; rfl)
     obtain ⟨X1, hmk, hr1, hg1⟩ := run_makeSlice_owned (P := Tryz.prog) (w := wo.alloc (.cells #[.string x.1.name, .slice pa x.1.params.length pc, .string x.1.res] 47)) (wo.heap.size + 1) 70 9 j0 _ 1 Tryz.underlying70 hj' hy0 hyy1 .i64 .i64 (x.1.params.length + 1) (by omega) (by rw [hyy2]; omega) (by unfold maxLen; omega) (by simp)
     have e1 : ((x.1.params.length + 1 : Nat) : Int) = (x.1.params.length : Int) + 1 := by omega
     rw [e1] at hmk
     rw [World.size_alloc] at hmk hr1
     have HKX := Lib.hid (((Kept.refl wo).alloc (.cells #[.string x.1.name, .slice pa x.1.params.length pc, .string x.1.res] 47)).grown hg1 (fun k e => by cases e))
     have HR1' := Lib.hid (RR.ofP (f := zCells) (l := []) hr1)
     have HB1 := Lib.hid ((Blk.new wo 47 #[.string x.1.name, .slice pa x.1.params.length pc, .string x.1.res]).grownBy hg1 (by simp))
     clear hx hxm hmz hp hr1 hg1 hkw hR e1
     have z1 := HB1.out.cell 1
     simp only [List.getElem?_toArray, List.getElem?_cons_zero, List.getElem?_cons_succ] at z1
     go_wp2_with fail
     go_loopw [10, 47] (fun l q wr => ∃ i : Nat, q = .int .i64 i ∧ i ≤ x.1.params.length ∧ RR 9 1 zCells (wo.heap.size + 1) X1 (tyB (x.1.params.take i)) l wr) (fun l q wr => x.1.params.length - (intOf q).toNat)
     case atStart => exact ⟨0, rfl, Nat.zero_le _, HR1'.out⟩
     case round =>
      obtain ⟨i, rfl, hi', hI⟩ := hrel
      have HI := Lib.hid hI
      have hko := hI.kept HKX.out (by omega)
      have HKO := Lib.hid hko
      have hzz := hI.2.1.size
      have hXX := HKX.out.size
      obtain ⟨ta, tn, tc, rfl⟩ := owns_slice hI.1
      by_cases hil : i < x.1.params.length
      ·have hilI : (i : Int) < (x.1.params.length : Int) := by omega
       have hy : x.1.params[i]? = some x.1.params[i] := List.getElem?_eq_getElem hil
       have hym : x.1.params[i] ∈ x.1.params := List.getElem_mem hil
       generalize x.1.params[i] = y at hy hym
       obtain ⟨pg, rfl, _⟩ := row_cells HPR.out (by omega)
       obtain ⟨p0, p1⟩ := var_cells (owns_only (S := fun _ => False) HPR.out (Only.of_kept hko) (fun _ _ h => h)) hy
       have HTX := Lib.hid (tyB_snoc hy)
       have HTL := Lib.hid (show (tyB (x.1.params.take i)).length = i by unfold tyB; simp; omega)
       have HIX := Lib.hid (hI.keep (((Kept.refl wr).alloc (.cells #[.string y.name, .string y.typ] 72)).alloc (.cells #[.string y.typ] 9)))
       have hsi := src_str1 (wr.alloc (.cells #[.string y.name, .string y.typ] 72)) y.typ
       rw [World.size_alloc] at hsi
       have HSI := Lib.hid hsi
       clear hsi hI hko hy hym z1 c0 c1 c2 hmk
       go_wp2_with (at_builtin; refine wpList_apk rfl (.tmp 51) (.tmp 54) 70 70 rfl (wo.heap.size + 1) 1 9 j0 _ 16 Tryz.underlying70 hj' hy0 hyy1 hyy2 rfl rfl HIX.out.1 rfl HSI.out (by rw [HTL.out]; unfold maxLen; omega) (by rw [HTL.out]; omega) (by simp; omega) ?_; intro v' w3 hown' hgrow hlies; have HNX := Lib.hid (HIX.out.next (Kept.refl _) hown' hgrow hlies); obtain ⟨va', vn', vc', rfl⟩ := owns_slice hown'; clear hown' hgrow hlies)
       go_roundw
       case rel => exact ⟨i + 1, by go_num, by omega, by rw [HTX.out]; exact HNX.out⟩
       case measure => simp [intOf]; omega
      ·have hilI : ¬ (i : Int) < (x.1.params.length : Int) := by omega
       obtain rfl : i = x.1.params.length := by omega
       rw [List.take_length] at hI
       have hbx : Blk wr wo.heap.size 47 #[.string x.1.name, .slice pa x.1.params.length pc, .string x.1.res] := HB1.out.only hI.2.1 (by have := HB1.out.lt; rintro (⟨h, _⟩ | h) <;> omega)
       have y0 := hbx.cell 0
       have y1 := hbx.cell 1
       have y2 := hbx.cell 2
       simp only [List.getElem?_toArray, List.getElem?_cons_zero, List.getElem?_cons_succ] at y0 y1 y2
       have HI2 := Lib.hid (hI.keep (((Kept.refl wr).drew).alloc (.cells #[.string x.1.res] 9)))
       have hsi := src_str1 wr.drew x.1.res
       have HSI := Lib.hid hsi
       have HTL := Lib.hid (show (tyB x.1.params).length = x.1.params.length by unfold tyB; simp)
       have HKO2 := Lib.hid hko
       clear hmk hI z1 hko hsi HI c0 c1 c2
       go_wp2_with fail
       have ya0 := (hbx.alloc (.cells #[.string x.1.res] 9)).cell 0
       have ya1 := (hbx.alloc (.cells #[.string x.1.res] 9)).cell 1
       have ya2 := (hbx.alloc (.cells #[.string x.1.res] 9)).cell 2
       simp only [List.getElem?_toArray, List.getElem?_cons_zero, List.getElem?_cons_succ] at ya0 ya1 ya2
       have hla : True := trivial
       have HKQ := Lib.hid (show w1.heap.size ≤ wo.heap.size + 1 by have := HS2.out; have := HRQ.out.1.2.1.size; omega)
       have HBQ := Lib.hid (show w1.heap.size ≤ wo.heap.size by have := HS2.out; have := HRQ.out.1.2.1.size; omega)
       have HLQ := Lib.hid (show mq.length = (Tab.fields t s).length + j by
        have := congrArg List.length HM.out
        unfold Tab.flB Tab.mtB at this
        simp at this
        omega)
       clear hbx
       refine wp_region_any (by kernel_rfl) ?_
       change wpAny _ _ _ _ _ _ _ (World.drew _)
       refine any_statesP (fun G hG => ?_)
       have hs0' : ∀ (va7 : Option Addr) (vn7 vc7 : Nat) (w7 : World), RR 9 1 zCells (wo.heap.size + 1) X1 (tyB x.1.params ++ [x.1.res]) (.slice va7 vn7 vc7) w7 → Kept wo w7 → G 4 #[true, true, true, true, true, true, true, true, true, true, true, false, false, false, false] { tmps := #[.slice a t.length c, .string s, undef, undef, .slice none 0 0, .slice ga gn gc, undef, u7, undef, .pointer (some ⟨wo.heap.size, 0, none⟩), .slice ta tn tc, undef, u12, .slice a t.length c, .string s, .slice fa (Tab.fields t s).length fc, .int .i64 ((Tab.fields t s).length : Nat), .int .i64 ((Tab.fields t s).length : Nat), .bool false, u19, u20, u21, u22, u23, u24, u25, u26, u27, u28, u29, u30, .slice a t.length c, .string s, .slice (some ⟨g, 0, none⟩) m2.length mc, .int .i64 (m2.length : Nat), .int .i64 (j : Nat), .bool true, .pointer (some ⟨g, j * 3, none⟩), .agg #[.string x.1.name, .slice pa x.1.params.length pc, .string x.1.res], .pointer (some ⟨wo.heap.size, 1, none⟩), .slice pa x.1.params.length pc, .int .i64 (x.1.params.length : Nat), .int .i64 ((x.1.params.length : Int) + 1), .slice (some ⟨wo.heap.size + 1, 0, none⟩) 0 (x.1.params.length + 1), .pointer (some ⟨wo.heap.size, 1, none⟩), .slice pa x.1.params.length pc, .int .i64 (x.1.params.length : Nat), .int .i64 (x.1.params.length : Nat), .bool false, u49, u50, u51, u52, u53, u54, u55, u56, .slice ga gn gc, .pointer (some ⟨wo.heap.size, 0, none⟩), .string x.1.name, .pointer (some ⟨wo.heap.size, 1, none⟩), .slice pa x.1.params.length pc, .int .i64 (x.1.params.length : Nat), .slice ta tn tc, .pointer (some ⟨wo.heap.size, 2, none⟩), .string x.1.res, .slice (some ⟨wr.heap.size, 0, none⟩) 1 1, .slice va7 vn7 vc7, u68, u69, u70, u71, undef, undef, undef], defers := [] } w7 := by
        intro va7 vn7 vc7 w7 h7 k7
        clear y0 y1 y2 ya0 ya1 ya2 hla
        have hb7 : Blk w7 wo.heap.size 47 #[.string x.1.name, .slice pa x.1.params.length pc, .string x.1.res] := HB1.out.only h7.2.1 (by have := HB1.out.lt; rintro (⟨h, _⟩ | h) <;> omega)
        have y0 := hb7.cell 0
        have y1 := hb7.cell 1
        have y2 := hb7.cell 2
        simp only [List.getElem?_toArray, List.getElem?_cons_zero, List.getElem?_cons_succ] at y0 y1 y2
        have H7 := Lib.hid h7
        have K7 := Lib.hid k7
        clear h7 k7 hb7
        rw [hG]
        have hbk := HKQ.out
        have HRY := Lib.hid ((HRQ.out.keep K7.out).keep ((Kept.refl w7).alloc (.cells #[.string x.1.name, .int .i64 (x.1.params.length : Nat), .slice va7 vn7 vc7] 134)))
        have hsy := src_mbrP w7 ⟨⟨x.1.name, (x.1.params.length : Nat), tyB x.1.params ++ [x.1.res]⟩, va7, vn7, vc7⟩
        have HSY := Lib.hid hsy
        have HTY := Lib.hid (show TyB w1.heap.size (w7.alloc (.cells #[.string x.1.name, .int .i64 (x.1.params.length : Nat), .slice va7 vn7 vc7] 134)) ⟨⟨x.1.name, (x.1.params.length : Nat), tyB x.1.params ++ [x.1.res]⟩, va7, vn7, vc7⟩ from
         owns_base (owns_only (S := fun _ => False) H7.out.1 (Only.of_kept ((Kept.refl w7).alloc _)) (fun _ _ h => h)) (by have := hbk; omega))
        have HXX := Lib.hid (show (mq ++ [(⟨⟨x.1.name, (x.1.params.length : Nat), tyB x.1.params ++ [x.1.res]⟩, va7, vn7, vc7⟩ : Tab.Pq)]).map Tab.Pq.m = Tab.flB (Tab.fields t s) ++ Tab.mtB ((m2.map Prod.fst).take (j + 1)) by
         rw [Tab.mtB_snoc HX.out, List.map_append, HM.out, ← List.append_assoc]; rfl)
        have hsz7 := K7.out.size
        clear hsy hbk
        refine tkV 11 (.agg #[.string x.1.name, .int .i64 (x.1.params.length : Nat), .slice va7 vn7 vc7]) ?_
        refine rdA [12] ?_
        refine aR (fun K hK => ?_) ?_
        ·go_simp
         refine hK _ _ ?_; clear hK K
         refine rdA [13] ?_
         refine aR (fun K hK => ?_) ?_
         ·refine step_apk rfl (.tmp 57) (.tmp 69) 108 108 rfl w1.heap.size 3 134 i0 _ 48 Tryz.underlying108 hi hz0 hzz1 hzz2 rfl rfl HRY.out.1.1 rfl HSY.out (by rw [HLQ.out]; unfold maxLen; omega) (by rw [HLQ.out]; omega) (by simp; have := HBQ.out; omega) ?_
          intro v' w8 hown' hgrow _ hlies
          have HNX := Lib.hid (HRY.out.next HTY.out hown' hgrow hlies)
          obtain ⟨va8, vn8, vc8, rfl⟩ := owns_slice hown'
          clear hown' hgrow hlies
          refine hK _ _ ?_; clear hK K
          refine tkV 14 (.slice va8 vn8 vc8) ?_
          refine wpAny_done (by kernel_rfl) ?_ _
          go_simp
          go_wp2_with fail
          go_roundw
          case rel => exact ⟨j + 1, _, by go_num, by omega, HNX.out, HXX⟩
          case measure => simp [intOf]; omega
         ·exact AllReady.nil
        ·exact AllReady.nil
       have hs0 := Lib.hid hs0'
       clear hs0'
       have hs1' : G 5 #[true, true, true, true, true, true, true, true, true, true, false, false, false, false, false] { tmps := #[.slice a t.length c, .string s, undef, undef, .slice none 0 0, .slice ga gn gc, undef, u7, undef, .pointer (some ⟨wo.heap.size, 0, none⟩), .slice ta tn tc, undef, u12, .slice a t.length c, .string s, .slice fa (Tab.fields t s).length fc, .int .i64 ((Tab.fields t s).length : Nat), .int .i64 ((Tab.fields t s).length : Nat), .bool false, u19, u20, u21, u22, u23, u24, u25, u26, u27, u28, u29, u30, .slice a t.length c, .string s, .slice (some ⟨g, 0, none⟩) m2.length mc, .int .i64 (m2.length : Nat), .int .i64 (j : Nat), .bool true, .pointer (some ⟨g, j * 3, none⟩), .agg #[.string x.1.name, .slice pa x.1.params.length pc, .string x.1.res], .pointer (some ⟨wo.heap.size, 1, none⟩), .slice pa x.1.params.length pc, .int .i64 (x.1.params.length : Nat), .int .i64 ((x.1.params.length : Int) + 1), .slice (some ⟨wo.heap.size + 1, 0, none⟩) 0 (x.1.params.length + 1), .pointer (some ⟨wo.heap.size, 1, none⟩), .slice pa x.1.params.length pc, .int .i64 (x.1.params.length : Nat), .int .i64 (x.1.params.length : Nat), .bool false, u49, u50, u51, u52, u53, u54, u55, u56, .slice ga gn gc, .pointer (some ⟨wo.heap.size, 0, none⟩), .string x.1.name, .pointer (some ⟨wo.heap.size, 1, none⟩), .slice pa x.1.params.length pc, .int .i64 (x.1.params.length : Nat), .slice ta tn tc, .pointer (some ⟨wo.heap.size, 2, none⟩), .string x.1.res, .slice (some ⟨wr.heap.size, 0, none⟩) 1 1, u67, u68, u69, u70, u71, undef, undef, undef], defers := [] } (wr.drew.alloc (.cells #[.string x.1.res] 9)) := by
        clear y0 y1 y2
        rw [hG]
        refine rdA [10] ?_
        refine aR (fun K hK => ?_) ?_
        ·refine step_apk rfl (.tmp 63) (.tmp 66) 70 70 rfl (wo.heap.size + 1) 1 9 j0 _ 16 Tryz.underlying70 hj' hy0 hyy1 hyy2 rfl rfl HI2.out.1 rfl HSI.out (by rw [HTL.out]; unfold maxLen; omega) (by rw [HTL.out]; omega) (by simp [World.size_alloc]; omega) ?_
         intro v' w7 hown' hgrow _ hlies
         have h7 := HI2.out.next (Kept.refl _) hown' hgrow hlies
         have k7 := h7.kept HKX.out (by omega)
         obtain ⟨va7, vn7, vc7, rfl⟩ := owns_slice hown'
         clear hown' hgrow hlies
         refine hK _ _ ?_; clear hK K
         exact any_eqP hG (by kernel_rfl) (by kernel_rfl) (by kernel_rfl) (hs0.out _ _ _ _ h7 k7)
        exact AllReady.nil
       have hs1 := Lib.hid hs1'
       clear hs1'
       have hs2' : G 6 #[true, true, true, true, true, true, true, true, true, false, false, false, false, false, false] { tmps := #[.slice a t.length c, .string s, undef, undef, .slice none 0 0, .slice ga gn gc, undef, u7, undef, .pointer (some ⟨wo.heap.size, 0, none⟩), .slice ta tn tc, undef, u12, .slice a t.length c, .string s, .slice fa (Tab.fields t s).length fc, .int .i64 ((Tab.fields t s).length : Nat), .int .i64 ((Tab.fields t s).length : Nat), .bool false, u19, u20, u21, u22, u23, u24, u25, u26, u27, u28, u29, u30, .slice a t.length c, .string s, .slice (some ⟨g, 0, none⟩) m2.length mc, .int .i64 (m2.length : Nat), .int .i64 (j : Nat), .bool true, .pointer (some ⟨g, j * 3, none⟩), .agg #[.string x.1.name, .slice pa x.1.params.length pc, .string x.1.res], .pointer (some ⟨wo.heap.size, 1, none⟩), .slice pa x.1.params.length pc, .int .i64 (x.1.params.length : Nat), .int .i64 ((x.1.params.length : Int) + 1), .slice (some ⟨wo.heap.size + 1, 0, none⟩) 0 (x.1.params.length + 1), .pointer (some ⟨wo.heap.size, 1, none⟩), .slice pa x.1.params.length pc, .int .i64 (x.1.params.length : Nat), .int .i64 (x.1.params.length : Nat), .bool false, u49, u50, u51, u52, u53, u54, u55, u56, .slice ga gn gc, .pointer (some ⟨wo.heap.size, 0, none⟩), .string x.1.name, .pointer (some ⟨wo.heap.size, 1, none⟩), .slice pa x.1.params.length pc, .int .i64 (x.1.params.length : Nat), .slice ta tn tc, .pointer (some ⟨wo.heap.size, 2, none⟩), .string x.1.res, u66, u67, u68, u69, u70, u71, undef, undef, undef], defers := [] } wr.drew := by
        clear ya0 ya1 ya2 hla
        rw [hG]
        refine rdA [9] ?_
        refine aR (fun K hK => ?_) ?_
        ·go_simp
         refine hK _ _ ?_; clear hK K
         exact any_eqP hG (by kernel_rfl) (by kernel_rfl) (by kernel_rfl) hs1.out
        exact AllReady.nil
       have hs2 := Lib.hid hs2'
       clear hs2'
       have hs3' : G 7 #[true, true, true, true, true, true, true, true, false, false, false, false, false, false, false] { tmps := #[.slice a t.length c, .string s, undef, undef, .slice none 0 0, .slice ga gn gc, undef, u7, undef, .pointer (some ⟨wo.heap.size, 0, none⟩), .slice ta tn tc, undef, u12, .slice a t.length c, .string s, .slice fa (Tab.fields t s).length fc, .int .i64 ((Tab.fields t s).length : Nat), .int .i64 ((Tab.fields t s).length : Nat), .bool false, u19, u20, u21, u22, u23, u24, u25, u26, u27, u28, u29, u30, .slice a t.length c, .string s, .slice (some ⟨g, 0, none⟩) m2.length mc, .int .i64 (m2.length : Nat), .int .i64 (j : Nat), .bool true, .pointer (some ⟨g, j * 3, none⟩), .agg #[.string x.1.name, .slice pa x.1.params.length pc, .string x.1.res], .pointer (some ⟨wo.heap.size, 1, none⟩), .slice pa x.1.params.length pc, .int .i64 (x.1.params.length : Nat), .int .i64 ((x.1.params.length : Int) + 1), .slice (some ⟨wo.heap.size + 1, 0, none⟩) 0 (x.1.params.length + 1), .pointer (some ⟨wo.heap.size, 1, none⟩), .slice pa x.1.params.length pc, .int .i64 (x.1.params.length : Nat), .int .i64 (x.1.params.length : Nat), .bool false, u49, u50, u51, u52, u53, u54, u55, u56, .slice ga gn gc, .pointer (some ⟨wo.heap.size, 0, none⟩), .string x.1.name, .pointer (some ⟨wo.heap.size, 1, none⟩), .slice pa x.1.params.length pc, .int .i64 (x.1.params.length : Nat), .slice ta tn tc, .pointer (some ⟨wo.heap.size, 2, none⟩), u65, u66, u67, u68, u69, u70, u71, undef, undef, undef], defers := [] } wr.drew := by
        clear ya0 ya1 ya2 hla
        rw [hG]
        refine rdA [8] ?_
        refine aR (fun K hK => ?_) ?_
        ·go_simp
         refine hK _ _ ?_; clear hK K
         exact any_eqP hG (by kernel_rfl) (by kernel_rfl) (by kernel_rfl) hs2.out
        exact AllReady.nil
       have hs3 := Lib.hid hs3'
       clear hs3'
       have hs4' : ∀ (va7 : Option Addr) (vn7 vc7 : Nat) (w7 : World), RR 9 1 zCells (wo.heap.size + 1) X1 (tyB x.1.params ++ [x.1.res]) (.slice va7 vn7 vc7) w7 → Kept wo w7 → G 6 #[true, true, true, true, false, false, true, true, true, true, true, false, false, false, false] { tmps := #[.slice a t.length c, .string s, undef, undef, .slice none 0 0, .slice ga gn gc, undef, u7, undef, .pointer (some ⟨wo.heap.size, 0, none⟩), .slice ta tn tc, undef, u12, .slice a t.length c, .string s, .slice fa (Tab.fields t s).length fc, .int .i64 ((Tab.fields t s).length : Nat), .int .i64 ((Tab.fields t s).length : Nat), .bool false, u19, u20, u21, u22, u23, u24, u25, u26, u27, u28, u29, u30, .slice a t.length c, .string s, .slice (some ⟨g, 0, none⟩) m2.length mc, .int .i64 (m2.length : Nat), .int .i64 (j : Nat), .bool true, .pointer (some ⟨g, j * 3, none⟩), .agg #[.string x.1.name, .slice pa x.1.params.length pc, .string x.1.res], .pointer (some ⟨wo.heap.size, 1, none⟩), .slice pa x.1.params.length pc, .int .i64 (x.1.params.length : Nat), .int .i64 ((x.1.params.length : Int) + 1), .slice (some ⟨wo.heap.size + 1, 0, none⟩) 0 (x.1.params.length + 1), .pointer (some ⟨wo.heap.size, 1, none⟩), .slice pa x.1.params.length pc, .int .i64 (x.1.params.length : Nat), .int .i64 (x.1.params.length : Nat), .bool false, u49, u50, u51, u52, u53, u54, u55, u56, .slice ga gn gc, .pointer (some ⟨wo.heap.size, 0, none⟩), .string x.1.name, .pointer (some ⟨wo.heap.size, 1, none⟩), u61, u62, .slice ta tn tc, .pointer (some ⟨wo.heap.size, 2, none⟩), .string x.1.res, .slice (some ⟨wr.heap.size, 0, none⟩) 1 1, .slice va7 vn7 vc7, u68, u69, u70, u71, undef, undef, undef], defers := [] } w7 := by
        intro va7 vn7 vc7 w7 h7 k7
        clear y0 y1 y2 ya0 ya1 ya2 hla
        have hb7 : Blk w7 wo.heap.size 47 #[.string x.1.name, .slice pa x.1.params.length pc, .string x.1.res] := HB1.out.only h7.2.1 (by have := HB1.out.lt; rintro (⟨h, _⟩ | h) <;> omega)
        have y0 := hb7.cell 0
        have y1 := hb7.cell 1
        have y2 := hb7.cell 2
        simp only [List.getElem?_toArray, List.getElem?_cons_zero, List.getElem?_cons_succ] at y0 y1 y2
        have H7 := Lib.hid h7
        have K7 := Lib.hid k7
        clear h7 k7 hb7
        rw [hG]
        refine rdA [4] ?_
        refine aR (fun K hK => ?_) ?_
        ·go_simp
         refine hK _ _ ?_; clear hK K
         refine tkW 5 (.int .i64 (x.1.params.length : Nat)) ?_
         exact any_eqP hG (by kernel_rfl) (by kernel_rfl) (by kernel_rfl) (hs0.out _ _ _ _ H7.out K7.out)
        exact AllReady.nil
       have hs4 := Lib.hid hs4'
       clear hs4'
       have hs5' : G 7 #[true, true, true, true, false, false, true, true, true, true, false, false, false, false, false] { tmps := #[.slice a t.length c, .string s, undef, undef, .slice none 0 0, .slice ga gn gc, undef, u7, undef, .pointer (some ⟨wo.heap.size, 0, none⟩), .slice ta tn tc, undef, u12, .slice a t.length c, .string s, .slice fa (Tab.fields t s).length fc, .int .i64 ((Tab.fields t s).length : Nat), .int .i64 ((Tab.fields t s).length : Nat), .bool false, u19, u20, u21, u22, u23, u24, u25, u26, u27, u28, u29, u30, .slice a t.length c, .string s, .slice (some ⟨g, 0, none⟩) m2.length mc, .int .i64 (m2.length : Nat), .int .i64 (j : Nat), .bool true, .pointer (some ⟨g, j * 3, none⟩), .agg #[.string x.1.name, .slice pa x.1.params.length pc, .string x.1.res], .pointer (some ⟨wo.heap.size, 1, none⟩), .slice pa x.1.params.length pc, .int .i64 (x.1.params.length : Nat), .int .i64 ((x.1.params.length : Int) + 1), .slice (some ⟨wo.heap.size + 1, 0, none⟩) 0 (x.1.params.length + 1), .pointer (some ⟨wo.heap.size, 1, none⟩), .slice pa x.1.params.length pc, .int .i64 (x.1.params.length : Nat), .int .i64 (x.1.params.length : Nat), .bool false, u49, u50, u51, u52, u53, u54, u55, u56, .slice ga gn gc, .pointer (some ⟨wo.heap.size, 0, none⟩), .string x.1.name, .pointer (some ⟨wo.heap.size, 1, none⟩), u61, u62, .slice ta tn tc, .pointer (some ⟨wo.heap.size, 2, none⟩), .string x.1.res, .slice (some ⟨wr.heap.size, 0, none⟩) 1 1, u67, u68, u69, u70, u71, undef, undef, undef], defers := [] } (wr.drew.alloc (.cells #[.string x.1.res] 9)) := by
        clear y0 y1 y2
        rw [hG]
        refine rdA [4, 10] ?_
        refine aR (fun K hK => ?_) ?_
        ·go_simp
         refine hK _ _ ?_; clear hK K
         refine tkW 5 (.int .i64 (x.1.params.length : Nat)) ?_
         exact any_eqP hG (by kernel_rfl) (by kernel_rfl) (by kernel_rfl) hs1.out
        refine aR (fun K hK => ?_) ?_
        ·refine step_apk rfl (.tmp 63) (.tmp 66) 70 70 rfl (wo.heap.size + 1) 1 9 j0 _ 16 Tryz.underlying70 hj' hy0 hyy1 hyy2 rfl rfl HI2.out.1 rfl HSI.out (by rw [HTL.out]; unfold maxLen; omega) (by rw [HTL.out]; omega) (by simp [World.size_alloc]; omega) ?_
         intro v' w7 hown' hgrow _ hlies
         have h7 := HI2.out.next (Kept.refl _) hown' hgrow hlies
         have k7 := h7.kept HKX.out (by omega)
         obtain ⟨va7, vn7, vc7, rfl⟩ := owns_slice hown'
         clear hown' hgrow hlies
         refine hK _ _ ?_; clear hK K
         exact any_eqP hG (by kernel_rfl) (by kernel_rfl) (by kernel_rfl) (hs4.out _ _ _ _ h7 k7)
        exact AllReady.nil
       have hs5 := Lib.hid hs5'
       clear hs5'
       have hs6' : G 8 #[true, true, true, true, false, false, true, true, true, false, false, false, false, false, false] { tmps := #[.slice a t.length c, .string s, undef, undef, .slice none 0 0, .slice ga gn gc, undef, u7, undef, .pointer (some ⟨wo.heap.size, 0, none⟩), .slice ta tn tc, undef, u12, .slice a t.length c, .string s, .slice fa (Tab.fields t s).length fc, .int .i64 ((Tab.fields t s).length : Nat), .int .i64 ((Tab.fields t s).length : Nat), .bool false, u19, u20, u21, u22, u23, u24, u25, u26, u27, u28, u29, u30, .slice a t.length c, .string s, .slice (some ⟨g, 0, none⟩) m2.length mc, .int .i64 (m2.length : Nat), .int .i64 (j : Nat), .bool true, .pointer (some ⟨g, j * 3, none⟩), .agg #[.string x.1.name, .slice pa x.1.params.length pc, .string x.1.res], .pointer (some ⟨wo.heap.size, 1, none⟩), .slice pa x.1.params.length pc, .int .i64 (x.1.params.length : Nat), .int .i64 ((x.1.params.length : Int) + 1), .slice (some ⟨wo.heap.size + 1, 0, none⟩) 0 (x.1.params.length + 1), .pointer (some ⟨wo.heap.size, 1, none⟩), .slice pa x.1.params.length pc, .int .i64 (x.1.params.length : Nat), .int .i64 (x.1.params.length : Nat), .bool false, u49, u50, u51, u52, u53, u54, u55, u56, .slice ga gn gc, .pointer (some ⟨wo.heap.size, 0, none⟩), .string x.1.name, .pointer (some ⟨wo.heap.size, 1, none⟩), u61, u62, .slice ta tn tc, .pointer (some ⟨wo.heap.size, 2, none⟩), .string x.1.res, u66, u67, u68, u69, u70, u71, undef, undef, undef], defers := [] } wr.drew := by
        clear ya0 ya1 ya2 hla
        rw [hG]
        refine rdA [4, 9] ?_
        refine aR (fun K hK => ?_) ?_
        ·go_simp
         refine hK _ _ ?_; clear hK K
         refine tkW 5 (.int .i64 (x.1.params.length : Nat)) ?_
         exact any_eqP hG (by kernel_rfl) (by kernel_rfl) (by kernel_rfl) hs2.out
        refine aR (fun K hK => ?_) ?_
        ·go_simp
         refine hK _ _ ?_; clear hK K
         exact any_eqP hG (by kernel_rfl) (by kernel_rfl) (by kernel_rfl) hs5.out
        exact AllReady.nil
       have hs6 := Lib.hid hs6'
       clear hs6'
       have hs7' : G 9 #[true, true, true, true, false, false, true, true, false, false, false, false, false, false, false] { tmps := #[.slice a t.length c, .string s, undef, undef, .slice none 0 0, .slice ga gn gc, undef, u7, undef, .pointer (some ⟨wo.heap.size, 0, none⟩), .slice ta tn tc, undef, u12, .slice a t.length c, .string s, .slice fa (Tab.fields t s).length fc, .int .i64 ((Tab.fields t s).length : Nat), .int .i64 ((Tab.fields t s).length : Nat), .bool false, u19, u20, u21, u22, u23, u24, u25, u26, u27, u28, u29, u30, .slice a t.length c, .string s, .slice (some ⟨g, 0, none⟩) m2.length mc, .int .i64 (m2.length : Nat), .int .i64 (j : Nat), .bool true, .pointer (some ⟨g, j * 3, none⟩), .agg #[.string x.1.name, .slice pa x.1.params.length pc, .string x.1.res], .pointer (some ⟨wo.heap.size, 1, none⟩), .slice pa x.1.params.length pc, .int .i64 (x.1.params.length : Nat), .int .i64 ((x.1.params.length : Int) + 1), .slice (some ⟨wo.heap.size + 1, 0, none⟩) 0 (x.1.params.length + 1), .pointer (some ⟨wo.heap.size, 1, none⟩), .slice pa x.1.params.length pc, .int .i64 (x.1.params.length : Nat), .int .i64 (x.1.params.length : Nat), .bool false, u49, u50, u51, u52, u53, u54, u55, u56, .slice ga gn gc, .pointer (some ⟨wo.heap.size, 0, none⟩), .string x.1.name, .pointer (some ⟨wo.heap.size, 1, none⟩), u61, u62, .slice ta tn tc, .pointer (some ⟨wo.heap.size, 2, none⟩), u65, u66, u67, u68, u69, u70, u71, undef, undef, undef], defers := [] } wr.drew := by
        clear ya0 ya1 ya2 hla
        rw [hG]
        refine rdA [4, 8] ?_
        refine aR (fun K hK => ?_) ?_
        ·go_simp
         refine hK _ _ ?_; clear hK K
         refine tkW 5 (.int .i64 (x.1.params.length : Nat)) ?_
         exact any_eqP hG (by kernel_rfl) (by kernel_rfl) (by kernel_rfl) hs3.out
        refine aR (fun K hK => ?_) ?_
        ·go_simp
         refine hK _ _ ?_; clear hK K
         exact any_eqP hG (by kernel_rfl) (by kernel_rfl) (by kernel_rfl) hs6.out
        exact AllReady.nil
       have hs7 := Lib.hid hs7'
       clear hs7'
       have hs8' : ∀ (va7 : Option Addr) (vn7 vc7 : Nat) (w7 : World), RR 9 1 zCells (wo.heap.size + 1) X1 (tyB x.1.params ++ [x.1.res]) (.slice va7 vn7 vc7) w7 → Kept wo w7 → G 5 #[true, true, false, true, true, true, true, true, true, true, true, false, false, false, false] { tmps := #[.slice a t.length c, .string s, undef, undef, .slice none 0 0, .slice ga gn gc, undef, u7, undef, .pointer (some ⟨wo.heap.size, 0, none⟩), .slice ta tn tc, undef, u12, .slice a t.length c, .string s, .slice fa (Tab.fields t s).length fc, .int .i64 ((Tab.fields t s).length : Nat), .int .i64 ((Tab.fields t s).length : Nat), .bool false, u19, u20, u21, u22, u23, u24, u25, u26, u27, u28, u29, u30, .slice a t.length c, .string s, .slice (some ⟨g, 0, none⟩) m2.length mc, .int .i64 (m2.length : Nat), .int .i64 (j : Nat), .bool true, .pointer (some ⟨g, j * 3, none⟩), .agg #[.string x.1.name, .slice pa x.1.params.length pc, .string x.1.res], .pointer (some ⟨wo.heap.size, 1, none⟩), .slice pa x.1.params.length pc, .int .i64 (x.1.params.length : Nat), .int .i64 ((x.1.params.length : Int) + 1), .slice (some ⟨wo.heap.size + 1, 0, none⟩) 0 (x.1.params.length + 1), .pointer (some ⟨wo.heap.size, 1, none⟩), .slice pa x.1.params.length pc, .int .i64 (x.1.params.length : Nat), .int .i64 (x.1.params.length : Nat), .bool false, u49, u50, u51, u52, u53, u54, u55, u56, .slice ga gn gc, .pointer (some ⟨wo.heap.size, 0, none⟩), u59, .pointer (some ⟨wo.heap.size, 1, none⟩), .slice pa x.1.params.length pc, .int .i64 (x.1.params.length : Nat), .slice ta tn tc, .pointer (some ⟨wo.heap.size, 2, none⟩), .string x.1.res, .slice (some ⟨wr.heap.size, 0, none⟩) 1 1, .slice va7 vn7 vc7, u68, u69, u70, u71, undef, undef, undef], defers := [] } w7 := by
        intro va7 vn7 vc7 w7 h7 k7
        clear y0 y1 y2 ya0 ya1 ya2 hla
        have hb7 : Blk w7 wo.heap.size 47 #[.string x.1.name, .slice pa x.1.params.length pc, .string x.1.res] := HB1.out.only h7.2.1 (by have := HB1.out.lt; rintro (⟨h, _⟩ | h) <;> omega)
        have y0 := hb7.cell 0
        have y1 := hb7.cell 1
        have y2 := hb7.cell 2
        simp only [List.getElem?_toArray, List.getElem?_cons_zero, List.getElem?_cons_succ] at y0 y1 y2
        have H7 := Lib.hid h7
        have K7 := Lib.hid k7
        clear h7 k7 hb7
        rw [hG]
        refine rdA [2] ?_
        refine aR (fun K hK => ?_) ?_
        ·go_simp
         refine hK _ _ ?_; clear hK K
         exact any_eqP hG (by kernel_rfl) (by kernel_rfl) (by kernel_rfl) (hs0.out _ _ _ _ H7.out K7.out)
        exact AllReady.nil
       have hs8 := Lib.hid hs8'
       clear hs8'
       have hs9' : G 6 #[true, true, false, true, true, true, true, true, true, true, false, false, false, false, false] { tmps := #[.slice a t.length c, .string s, undef, undef, .slice none 0 0, .slice ga gn gc, undef, u7, undef, .pointer (some ⟨wo.heap.size, 0, none⟩), .slice ta tn tc, undef, u12, .slice a t.length c, .string s, .slice fa (Tab.fields t s).length fc, .int .i64 ((Tab.fields t s).length : Nat), .int .i64 ((Tab.fields t s).length : Nat), .bool false, u19, u20, u21, u22, u23, u24, u25, u26, u27, u28, u29, u30, .slice a t.length c, .string s, .slice (some ⟨g, 0, none⟩) m2.length mc, .int .i64 (m2.length : Nat), .int .i64 (j : Nat), .bool true, .pointer (some ⟨g, j * 3, none⟩), .agg #[.string x.1.name, .slice pa x.1.params.length pc, .string x.1.res], .pointer (some ⟨wo.heap.size, 1, none⟩), .slice pa x.1.params.length pc, .int .i64 (x.1.params.length : Nat), .int .i64 ((x.1.params.length : Int) + 1), .slice (some ⟨wo.heap.size + 1, 0, none⟩) 0 (x.1.params.length + 1), .pointer (some ⟨wo.heap.size, 1, none⟩), .slice pa x.1.params.length pc, .int .i64 (x.1.params.length : Nat), .int .i64 (x.1.params.length : Nat), .bool false, u49, u50, u51, u52, u53, u54, u55, u56, .slice ga gn gc, .pointer (some ⟨wo.heap.size, 0, none⟩), u59, .pointer (some ⟨wo.heap.size, 1, none⟩), .slice pa x.1.params.length pc, .int .i64 (x.1.params.length : Nat), .slice ta tn tc, .pointer (some ⟨wo.heap.size, 2, none⟩), .string x.1.res, .slice (some ⟨wr.heap.size, 0, none⟩) 1 1, u67, u68, u69, u70, u71, undef, undef, undef], defers := [] } (wr.drew.alloc (.cells #[.string x.1.res] 9)) := by
        clear y0 y1 y2
        rw [hG]
        refine rdA [2, 10] ?_
        refine aR (fun K hK => ?_) ?_
        ·go_simp
         refine hK _ _ ?_; clear hK K
         exact any_eqP hG (by kernel_rfl) (by kernel_rfl) (by kernel_rfl) hs1.out
        refine aR (fun K hK => ?_) ?_
        ·refine step_apk rfl (.tmp 63) (.tmp 66) 70 70 rfl (wo.heap.size + 1) 1 9 j0 _ 16 Tryz.underlying70 hj' hy0 hyy1 hyy2 rfl rfl HI2.out.1 rfl HSI.out (by rw [HTL.out]; unfold maxLen; omega) (by rw [HTL.out]; omega) (by simp [World.size_alloc]; omega) ?_
         intro v' w7 hown' hgrow _ hlies
         have h7 := HI2.out.next (Kept.refl _) hown' hgrow hlies
         have k7 := h7.kept HKX.out (by omega)
         obtain ⟨va7, vn7, vc7, rfl⟩ := owns_slice hown'
         clear hown' hgrow hlies
         refine hK _ _ ?_; clear hK K
         exact any_eqP hG (by kernel_rfl) (by kernel_rfl) (by kernel_rfl) (hs8.out _ _ _ _ h7 k7)
        exact AllReady.nil
       have hs9 := Lib.hid hs9'
       clear hs9'
       have hs10' : G 7 #[true, true, false, true, true, true, true, true, true, false, false, false, false, false, false] { tmps := #[.slice a t.length c, .string s, undef, undef, .slice none 0 0, .slice ga gn gc, undef, u7, undef, .pointer (some ⟨wo.heap.size, 0, none⟩), .slice ta tn tc, undef, u12, .slice a t.length c, .string s, .slice fa (Tab.fields t s).length fc, .int .i64 ((Tab.fields t s).length : Nat), .int .i64 ((Tab.fields t s).length : Nat), .bool false, u19, u20, u21, u22, u23, u24, u25, u26, u27, u28, u29, u30, .slice a t.length c, .string s, .slice (some ⟨g, 0, none⟩) m2.length mc, .int .i64 (m2.length : Nat), .int .i64 (j : Nat), .bool true, .pointer (some ⟨g, j * 3, none⟩), .agg #[.string x.1.name, .slice pa x.1.params.length pc, .string x.1.res], .pointer (some ⟨wo.heap.size, 1, none⟩), .slice pa x.1.params.length pc, .int .i64 (x.1.params.length : Nat), .int .i64 ((x.1.params.length : Int) + 1), .slice (some ⟨wo.heap.size + 1, 0, none⟩) 0 (x.1.params.length + 1), .pointer (some ⟨wo.heap.size, 1, none⟩), .slice pa x.1.params.length pc, .int .i64 (x.1.params.length : Nat), .int .i64 (x.1.params.length : Nat), .bool false, u49, u50, u51, u52, u53, u54, u55, u56, .slice ga gn gc, .pointer (some ⟨wo.heap.size, 0, none⟩), u59, .pointer (some ⟨wo.heap.size, 1, none⟩), .slice pa x.1.params.length pc, .int .i64 (x.1.params.length : Nat), .slice ta tn tc, .pointer (some ⟨wo.heap.size, 2, none⟩), .string x.1.res, u66, u67, u68, u69, u70, u71, undef, undef, undef], defers := [] } wr.drew := by
        clear ya0 ya1 ya2 hla
        rw [hG]
        refine rdA [2, 9] ?_
        refine aR (fun K hK => ?_) ?_
        ·go_simp
         refine hK _ _ ?_; clear hK K
         exact any_eqP hG (by kernel_rfl) (by kernel_rfl) (by kernel_rfl) hs2.out
        refine aR (fun K hK => ?_) ?_
        ·go_simp
         refine hK _ _ ?_; clear hK K
         exact any_eqP hG (by kernel_rfl) (by kernel_rfl) (by kernel_rfl) hs9.out
        exact AllReady.nil
       have hs10 := Lib.hid hs10'
       clear hs10'
       have hs11' : G 8 #[true, true, false, true, true, true, true, true, false, false, false, false, false, false, false] { tmps := #[.slice a t.length c, .string s, undef, undef, .slice none 0 0, .slice ga gn gc, undef, u7, undef, .pointer (some ⟨wo.heap.size, 0, none⟩), .slice ta tn tc, undef, u12, .slice a t.length c, .string s, .slice fa (Tab.fields t s).length fc, .int .i64 ((Tab.fields t s).length : Nat), .int .i64 ((Tab.fields t s).length : Nat), .bool false, u19, u20, u21, u22, u23, u24, u25, u26, u27, u28, u29, u30, .slice a t.length c, .string s, .slice (some ⟨g, 0, none⟩) m2.length mc, .int .i64 (m2.length : Nat), .int .i64 (j : Nat), .bool true, .pointer (some ⟨g, j * 3, none⟩), .agg #[.string x.1.name, .slice pa x.1.params.length pc, .string x.1.res], .pointer (some ⟨wo.heap.size, 1, none⟩), .slice pa x.1.params.length pc, .int .i64 (x.1.params.length : Nat), .int .i64 ((x.1.params.length : Int) + 1), .slice (some ⟨wo.heap.size + 1, 0, none⟩) 0 (x.1.params.length + 1), .pointer (some ⟨wo.heap.size, 1, none⟩), .slice pa x.1.params.length pc, .int .i64 (x.1.params.length : Nat), .int .i64 (x.1.params.length : Nat), .bool false, u49, u50, u51, u52, u53, u54, u55, u56, .slice ga gn gc, .pointer (some ⟨wo.heap.size, 0, none⟩), u59, .pointer (some ⟨wo.heap.size, 1, none⟩), .slice pa x.1.params.length pc, .int .i64 (x.1.params.length : Nat), .slice ta tn tc, .pointer (some ⟨wo.heap.size, 2, none⟩), u65, u66, u67, u68, u69, u70, u71, undef, undef, undef], defers := [] } wr.drew := by
        clear ya0 ya1 ya2 hla
        rw [hG]
        refine rdA [2, 8] ?_
        refine aR (fun K hK => ?_) ?_
        ·go_simp
         refine hK _ _ ?_; clear hK K
         exact any_eqP hG (by kernel_rfl) (by kernel_rfl) (by kernel_rfl) hs3.out
        refine aR (fun K hK => ?_) ?_
        ·go_simp
         refine hK _ _ ?_; clear hK K
         exact any_eqP hG (by kernel_rfl) (by kernel_rfl) (by kernel_rfl) hs10.out
        exact AllReady.nil
       have hs11 := Lib.hid hs11'
       clear hs11'
       have hs12' : ∀ (va7 : Option Addr) (vn7 vc7 : Nat) (w7 : World), RR 9 1 zCells (wo.heap.size + 1) X1 (tyB x.1.params ++ [x.1.res]) (.slice va7 vn7 vc7) w7 → Kept wo w7 → G 7 #[true, true, false, true, false, false, true, true, true, true, true, false, false, false, false] { tmps := #[.slice a t.length c, .string s, undef, undef, .slice none 0 0, .slice ga gn gc, undef, u7, undef, .pointer (some ⟨wo.heap.size, 0, none⟩), .slice ta tn tc, undef, u12, .slice a t.length c, .string s, .slice fa (Tab.fields t s).length fc, .int .i64 ((Tab.fields t s).length : Nat), .int .i64 ((Tab.fields t s).length : Nat), .bool false, u19, u20, u21, u22, u23, u24, u25, u26, u27, u28, u29, u30, .slice a t.length c, .string s, .slice (some ⟨g, 0, none⟩) m2.length mc, .int .i64 (m2.length : Nat), .int .i64 (j : Nat), .bool true, .pointer (some ⟨g, j * 3, none⟩), .agg #[.string x.1.name, .slice pa x.1.params.length pc, .string x.1.res], .pointer (some ⟨wo.heap.size, 1, none⟩), .slice pa x.1.params.length pc, .int .i64 (x.1.params.length : Nat), .int .i64 ((x.1.params.length : Int) + 1), .slice (some ⟨wo.heap.size + 1, 0, none⟩) 0 (x.1.params.length + 1), .pointer (some ⟨wo.heap.size, 1, none⟩), .slice pa x.1.params.length pc, .int .i64 (x.1.params.length : Nat), .int .i64 (x.1.params.length : Nat), .bool false, u49, u50, u51, u52, u53, u54, u55, u56, .slice ga gn gc, .pointer (some ⟨wo.heap.size, 0, none⟩), u59, .pointer (some ⟨wo.heap.size, 1, none⟩), u61, u62, .slice ta tn tc, .pointer (some ⟨wo.heap.size, 2, none⟩), .string x.1.res, .slice (some ⟨wr.heap.size, 0, none⟩) 1 1, .slice va7 vn7 vc7, u68, u69, u70, u71, undef, undef, undef], defers := [] } w7 := by
        intro va7 vn7 vc7 w7 h7 k7
        clear y0 y1 y2 ya0 ya1 ya2 hla
        have hb7 : Blk w7 wo.heap.size 47 #[.string x.1.name, .slice pa x.1.params.length pc, .string x.1.res] := HB1.out.only h7.2.1 (by have := HB1.out.lt; rintro (⟨h, _⟩ | h) <;> omega)
        have y0 := hb7.cell 0
        have y1 := hb7.cell 1
        have y2 := hb7.cell 2
        simp only [List.getElem?_toArray, List.getElem?_cons_zero, List.getElem?_cons_succ] at y0 y1 y2
        have H7 := Lib.hid h7
        have K7 := Lib.hid k7
        clear h7 k7 hb7
        rw [hG]
        refine rdA [2, 4] ?_
        refine aR (fun K hK => ?_) ?_
        ·go_simp
         refine hK _ _ ?_; clear hK K
         exact any_eqP hG (by kernel_rfl) (by kernel_rfl) (by kernel_rfl) (hs4.out _ _ _ _ H7.out K7.out)
        refine aR (fun K hK => ?_) ?_
        ·go_simp
         refine hK _ _ ?_; clear hK K
         refine tkW 5 (.int .i64 (x.1.params.length : Nat)) ?_
         exact any_eqP hG (by kernel_rfl) (by kernel_rfl) (by kernel_rfl) (hs8.out _ _ _ _ H7.out K7.out)
        exact AllReady.nil
       have hs12 := Lib.hid hs12'
       clear hs12'
       have hs13' : G 8 #[true, true, false, true, false, false, true, true, true, true, false, false, false, false, false] { tmps := #[.slice a t.length c, .string s, undef, undef, .slice none 0 0, .slice ga gn gc, undef, u7, undef, .pointer (some ⟨wo.heap.size, 0, none⟩), .slice ta tn tc, undef, u12, .slice a t.length c, .string s, .slice fa (Tab.fields t s).length fc, .int .i64 ((Tab.fields t s).length : Nat), .int .i64 ((Tab.fields t s).length : Nat), .bool false, u19, u20, u21, u22, u23, u24, u25, u26, u27, u28, u29, u30, .slice a t.length c, .string s, .slice (some ⟨g, 0, none⟩) m2.length mc, .int .i64 (m2.length : Nat), .int .i64 (j : Nat), .bool true, .pointer (some ⟨g, j * 3, none⟩), .agg #[.string x.1.name, .slice pa x.1.params.length pc, .string x.1.res], .pointer (some ⟨wo.heap.size, 1, none⟩), .slice pa x.1.params.length pc, .int .i64 (x.1.params.length : Nat), .int .i64 ((x.1.params.length : Int) + 1), .slice (some ⟨wo.heap.size + 1, 0, none⟩) 0 (x.1.params.length + 1), .pointer (some ⟨wo.heap.size, 1, none⟩), .slice pa x.1.params.length pc, .int .i64 (x.1.params.length : Nat), .int .i64 (x.1.params.length : Nat), .bool false, u49, u50, u51, u52, u53, u54, u55, u56, .slice ga gn gc, .pointer (some ⟨wo.heap.size, 0, none⟩), u59, .pointer (some ⟨wo.heap.size, 1, none⟩), u61, u62, .slice ta tn tc, .pointer (some ⟨wo.heap.size, 2, none⟩), .string x.1.res, .slice (some ⟨wr.heap.size, 0, none⟩) 1 1, u67, u68, u69, u70, u71, undef, undef, undef], defers := [] } (wr.drew.alloc (.cells #[.string x.1.res] 9)) := by
        clear y0 y1 y2
        rw [hG]
        refine rdA [2, 4, 10] ?_
        refine aR (fun K hK => ?_) ?_
        ·go_simp
         refine hK _ _ ?_; clear hK K
         exact any_eqP hG (by kernel_rfl) (by kernel_rfl) (by kernel_rfl) hs5.out
        refine aR (fun K hK => ?_) ?_
        ·go_simp
         refine hK _ _ ?_; clear hK K
         refine tkW 5 (.int .i64 (x.1.params.length : Nat)) ?_
         exact any_eqP hG (by kernel_rfl) (by kernel_rfl) (by kernel_rfl) hs9.out
        refine aR (fun K hK => ?_) ?_
        ·refine step_apk rfl (.tmp 63) (.tmp 66) 70 70 rfl (wo.heap.size + 1) 1 9 j0 _ 16 Tryz.underlying70 hj' hy0 hyy1 hyy2 rfl rfl HI2.out.1 rfl HSI.out (by rw [HTL.out]; unfold maxLen; omega) (by rw [HTL.out]; omega) (by simp [World.size_alloc]; omega) ?_
         intro v' w7 hown' hgrow _ hlies
         have h7 := HI2.out.next (Kept.refl _) hown' hgrow hlies
         have k7 := h7.kept HKX.out (by omega)
         obtain ⟨va7, vn7, vc7, rfl⟩ := owns_slice hown'
         clear hown' hgrow hlies
         refine hK _ _ ?_; clear hK K
         exact any_eqP hG (by kernel_rfl) (by kernel_rfl) (by kernel_rfl) (hs12.out _ _ _ _ h7 k7)
        exact AllReady.nil
       have hs13 := Lib.hid hs13'
       clear hs13'
       have hs14' : G 9 #[true, true, false, true, false, false, true, true, true, false, false, false, false, false, false] { tmps := #[.slice a t.length c, .string s, undef, undef, .slice none 0 0, .slice ga gn gc, undef, u7, undef, .pointer (some ⟨wo.heap.size, 0, none⟩), .slice ta tn tc, undef, u12, .slice a t.length c, .string s, .slice fa (Tab.fields t s).length fc, .int .i64 ((Tab.fields t s).length : Nat), .int .i64 ((Tab.fields t s).length : Nat), .bool false, u19, u20, u21, u22, u23, u24, u25, u26, u27, u28, u29, u30, .slice a t.length c, .string s, .slice (some ⟨g, 0, none⟩) m2.length mc, .int .i64 (m2.length : Nat), .int .i64 (j : Nat), .bool true, .pointer (some ⟨g, j * 3, none⟩), .agg #[.string x.1.name, .slice pa x.1.params.length pc, .string x.1.res], .pointer (some ⟨wo.heap.size, 1, none⟩), .slice pa x.1.params.length pc, .int .i64 (x.1.params.length : Nat), .int .i64 ((x.1.params.length : Int) + 1), .slice (some ⟨wo.heap.size + 1, 0, none⟩) 0 (x.1.params.length + 1), .pointer (some ⟨wo.heap.size, 1, none⟩), .slice pa x.1.params.length pc, .int .i64 (x.1.params.length : Nat), .int .i64 (x.1.params.length : Nat), .bool false, u49, u50, u51, u52, u53, u54, u55, u56, .slice ga gn gc, .pointer (some ⟨wo.heap.size, 0, none⟩), u59, .pointer (some ⟨wo.heap.size, 1, none⟩), u61, u62, .slice ta tn tc, .pointer (some ⟨wo.heap.size, 2, none⟩), .string x.1.res, u66, u67, u68, u69, u70, u71, undef, undef, undef], defers := [] } wr.drew := by
        clear ya0 ya1 ya2 hla
        rw [hG]
        refine rdA [2, 4, 9] ?_
        refine aR (fun K hK => ?_) ?_
        ·go_simp
         refine hK _ _ ?_; clear hK K
         exact any_eqP hG (by kernel_rfl) (by kernel_rfl) (by kernel_rfl) hs6.out
        refine aR (fun K hK => ?_) ?_
        ·go_simp
         refine hK _ _ ?_; clear hK K
         refine tkW 5 (.int .i64 (x.1.params.length : Nat)) ?_
         exact any_eqP hG (by kernel_rfl) (by kernel_rfl) (by kernel_rfl) hs10.out
        refine aR (fun K hK => ?_) ?_
        ·go_simp
         refine hK _ _ ?_; clear hK K
         exact any_eqP hG (by kernel_rfl) (by kernel_rfl) (by kernel_rfl) hs13.out
        exact AllReady.nil
       have hs14 := Lib.hid hs14'
       clear hs14'
       have hs15' : G 10 #[true, true, false, true, false, false, true, true, false, false, false, false, false, false, false] { tmps := #[.slice a t.length c, .string s, undef, undef, .slice none 0 0, .slice ga gn gc, undef, u7, undef, .pointer (some ⟨wo.heap.size, 0, none⟩), .slice ta tn tc, undef, u12, .slice a t.length c, .string s, .slice fa (Tab.fields t s).length fc, .int .i64 ((Tab.fields t s).length : Nat), .int .i64 ((Tab.fields t s).length : Nat), .bool false, u19, u20, u21, u22, u23, u24, u25, u26, u27, u28, u29, u30, .slice a t.length c, .string s, .slice (some ⟨g, 0, none⟩) m2.length mc, .int .i64 (m2.length : Nat), .int .i64 (j : Nat), .bool true, .pointer (some ⟨g, j * 3, none⟩), .agg #[.string x.1.name, .slice pa x.1.params.length pc, .string x.1.res], .pointer (some ⟨wo.heap.size, 1, none⟩), .slice pa x.1.params.length pc, .int .i64 (x.1.params.length : Nat), .int .i64 ((x.1.params.length : Int) + 1), .slice (some ⟨wo.heap.size + 1, 0, none⟩) 0 (x.1.params.length + 1), .pointer (some ⟨wo.heap.size, 1, none⟩), .slice pa x.1.params.length pc, .int .i64 (x.1.params.length : Nat), .int .i64 (x.1.params.length : Nat), .bool false, u49, u50, u51, u52, u53, u54, u55, u56, .slice ga gn gc, .pointer (some ⟨wo.heap.size, 0, none⟩), u59, .pointer (some ⟨wo.heap.size, 1, none⟩), u61, u62, .slice ta tn tc, .pointer (some ⟨wo.heap.size, 2, none⟩), u65, u66, u67, u68, u69, u70, u71, undef, undef, undef], defers := [] } wr.drew := by
        clear ya0 ya1 ya2 hla
        rw [hG]
        refine rdA [2, 4, 8] ?_
        refine aR (fun K hK => ?_) ?_
        ·go_simp
         refine hK _ _ ?_; clear hK K
         exact any_eqP hG (by kernel_rfl) (by kernel_rfl) (by kernel_rfl) hs7.out
        refine aR (fun K hK => ?_) ?_
        ·go_simp
         refine hK _ _ ?_; clear hK K
         refine tkW 5 (.int .i64 (x.1.params.length : Nat)) ?_
         exact any_eqP hG (by kernel_rfl) (by kernel_rfl) (by kernel_rfl) hs11.out
        refine aR (fun K hK => ?_) ?_
        ·go_simp
         refine hK _ _ ?_; clear hK K
         exact any_eqP hG (by kernel_rfl) (by kernel_rfl) (by kernel_rfl) hs14.out
        exact AllReady.nil
       have hs15 := Lib.hid hs15'
       clear hs15'
       refine tkV 0 (.slice ga gn gc) ?_
       refine tkV 1 (.pointer (some ⟨wo.heap.size, 0, none⟩)) ?_
       refine tkV 3 (.pointer (some ⟨wo.heap.size, 1, none⟩)) ?_
       refine tkV 6 (.slice ta tn tc) ?_
       refine tkV 7 (.pointer (some ⟨wo.heap.size, 2, none⟩)) ?_
       exact any_eqP hG (by kernel_rfl) (by kernel_rfl) (by kernel_rfl) hs15.out
    ·have hltI : ¬ (j : Int) < (m2.length : Int) := by omega
     obtain rfl : j = m2.length := by omega
     have hM := HM.out
     rw [List.take_of_length_le (by simp), HF.out, ← Tab.mbs_eqB] at hM
     have HME := Lib.hid hM
     have hlen := congrArg List.length hM
     rw [List.length_map] at hlen
     have hsl : mq.length ≤ 10000000 := by
      rw [hlen, Tab.mbs_eqB]
      unfold Tab.flB Tab.mtB
      have := HFL.out
      rw [← HF.out]
      simp
      omega
     have hszs : ∀ x ∈ Tab.mbs t s, x.name.size ≤ maxLen := by
      intro x hx
      rw [Tab.mbs_eqB] at hx
      rcases List.mem_append.1 hx with hx | hx
      ·unfold Tab.flB at hx
       obtain ⟨f, hf, rfl⟩ := List.mem_map.1 hx
       exact (HFS.out f hf).1
      ·unfold Tab.mtB at hx
       obtain ⟨f, hf, rfl⟩ := List.mem_map.1 hx
       exact (HMS.out f hf).1
     have HSZ := Lib.hid hszs
     have HTS := Lib.hid (show ∀ x ∈ Tab.mbs t s, ∀ y ∈ x.types, y.size ≤ maxLen by
      intro x hx y hy
      rw [Tab.mbs_eqB] at hx
      rcases List.mem_append.1 hx with hx | hx
      ·unfold Tab.flB at hx
       obtain ⟨f, hf, rfl⟩ := List.mem_map.1 hx
       have hy : y ∈ [f.typ] := hy
       rw [List.mem_singleton.1 hy]
       exact (HFS.out f hf).2
      ·unfold Tab.mtB at hx
       obtain ⟨f, hf, rfl⟩ := List.mem_map.1 hx
       have hy : y ∈ f.params.map (·.typ) ++ [f.res] := hy
       rcases List.mem_append.1 hy with hy | hy
       ·obtain ⟨p, hp, rfl⟩ := List.mem_map.1 hy
        exact ((HMS.out f hf).2.2.1 p hp).2
       ·rw [List.mem_singleton.1 hy]
        exact (HMS.out f hf).2.1)
     have hown := hR.1.1
     clear hM hlen hszs hR hkw
     rcases hown.2 with ⟨h0, h1⟩ | ⟨b, cap, cur, hv, h1, h2, h3, h4, h5, h6⟩
     ·injection h0 with e1 e2 e3
      subst e1 e2 e3
      have HSN := Lib.hid (fun W => sort_nilP W)
      have HNE := Lib.hid (show Tab.mbs t s = [] by
       rw [← HME.out, List.eq_nil_of_length_eq_zero h1]; rfl)
      clear hown h1 hsl
      go_wp2_with fail
      refine (HSN.out _).mono ?_
      rintro e w9 ⟨rfl, rfl⟩
      go_wp2_with fail
      go_ret
      exact ⟨mb_noneB HNE.out, HKW.out⟩
     ·injection hv with e1 e2 e3
      subst e1 e2 e3
      have HSO := Lib.hid (sort_cP b gc mq w1.heap.size wo hown hsl)
      have HOW := Lib.hid hown
      have HBW := Lib.hid (show w.heap.size ≤ b from Nat.le_trans HK.out.size h1)
      clear hown h1 h2 h3 h4 h5 h6 hsl
      go_wp2_with fail
      refine HSO.out.mono ?_
      rintro e w9 ⟨rfl, hE⟩
      have HKE := Lib.hid (show Kept w w9 by
       obtain ⟨_, _, _, ho, _⟩ := hE
       exact HKW.out.onlyS ho (fun k e => by rw [e]; exact HBW.out))
      have HE := Lib.hid (mb_outB (w := w) HK.out.size HOW.out HRQ.out.2 HME.out HSZ.out HTS.out hE)
      clear hE
      go_wp2_with fail
      go_ret
      exact ⟨HE.out, HKE.out⟩
end Go.Proofs.YtjdkegfckkbpeaaGreatDoor
namespace Go.Proofs.YtjdkegfckkbpeaaGreatDoor
open Go.ChangeShapes Go.WideShapes Go.ChangeAt Go.RowKit Go.Shelf
open Go.Maps (Keyed)
def PrAt (w : World) (b o : Nat) (p : Tab.P2) : Prop := w.cell? ⟨b, o, none⟩ = some (.string p.1) ∧ w.cell? ⟨b, o + 1, none⟩ = some (.string p.2) ∧ Fine p
abbrev PrsAt (w : World) (v : Value) (l : List Tab.P2) : Prop := Row 2 PrAt w v l
theorem prs_kept {w w' : World} {v : Value} {l : List Tab.P2} (h : PrsAt w v l) (k : Kept w w') : PrsAt w' v l := h.mono fun _ _ _ r => ⟨k.cell r.1, k.cell r.2.1, r.2.2⟩
theorem Row.fine {w : World} {v : Value} {l : List Tab.P2} (h : PrsAt w v l) : ∀ p ∈ l, Fine p := by
 obtain ⟨_, _, _, _, _, q⟩ := h
 intro p hp
 obtain ⟨i, hi, rfl⟩ := List.getElem_of_mem hp
 obtain ⟨_, _, _, r⟩ := q i _ (List.getElem?_eq_getElem hi)
 exact r.2.2
/-- What a relation's map holds. -/
def NdV (v : Value) : Prop := ∃ h a n c k, v = .agg #[.bool h, .slice a n c, .int .i64 k]
theorem zero_needs (W : World) : (zeroValue 144).run Tryz.prog W = .ok (.agg #[.bool false, .slice none 0 0, .int .i64 0]) W := by kernel_rfl
theorem zero_members (W : World) : (zeroValue 108).run Tryz.prog W = .ok (.slice none 0 0) W := by kernel_rfl
/-- The classes of a table, in memory. -/
def ClM (t : List Tab.C) (ls : ByteArray → List (Tab.Mb ByteArray)) (b : Nat) (W : World) : Prop :=
 ∃ n f, MapF Tryz.prog 9 b n f W ∧ ∀ s, (f s).isSome = Tab.isC t s ∧ ∀ v, f s = some v → ∃ a c, v = .slice a (ls s).length c ∧ MbsAt W v (ls s)
theorem ClM.kept {t : List Tab.C} {ls : ByteArray → List (Tab.Mb ByteArray)} {b : Nat} {W W' : World} (h : ClM t ls b W) (k : Kept W W') : ClM t ls b W' := by
 obtain ⟨n, f, h1, h2⟩ := h
 refine ⟨n, f, h1.only (S := fun _ => False) (Only.of_kept k) (fun h => h), fun s => ⟨(h2 s).1, fun v hv => ?_⟩⟩
 obtain ⟨a, c, e, hm⟩ := (h2 s).2 v hv
 exact ⟨a, c, e, mbs_kept hm k⟩
theorem ClM.look {t : List Tab.C} {ls : ByteArray → List (Tab.Mb ByteArray)} {b : Nat} {W : World} (h : ClM t ls b W) {s : ByteArray} (hs : s.size ≤ maxLen) :
  ∃ v, (Instr.lookup 77 (.map (some b)) (.string s) true).run Tryz.prog W = .ok (.tuple #[v, .bool (Tab.isC t s)]) W := by
 obtain ⟨n, f, h1, h2⟩ := h
 have hr := MapF.look h1 (t := 77) (e := 108) (Maps.string_keyed Tryz.underlying9) Tryz.underlying77 (zero_members W) s (WideMaps.keyOf_string_mk Tryz.underlying9 hs)
 rw [(h2 s).1] at hr
 exact ⟨_, hr⟩
theorem ClM.look1 {t : List Tab.C} {ls : ByteArray → List (Tab.Mb ByteArray)} (hc : Tab.Cl t ls) {b : Nat} {W : World} (h : ClM t ls b W) {s : ByteArray} (hs : s.size ≤ maxLen) :
  ∃ a c, (Instr.lookup 77 (.map (some b)) (.string s) false).run Tryz.prog W = .ok (.slice a (ls s).length c) W ∧ MbsAt W (.slice a (ls s).length c) (ls s) := by
 obtain ⟨n, f, h1, h2⟩ := h
 have hr := MapF.look1 h1 (t := 77) (e := 108) (Maps.string_keyed Tryz.underlying9) Tryz.underlying77 (zero_members W) s (WideMaps.keyOf_string_mk Tryz.underlying9 hs)
 cases e : f s with
 | none =>
  have hi := (h2 s).1
  rw [e] at hi hr
  have hl := hc.none s hi.symm
  rw [hl]
  exact ⟨none, 0, hr, Row.nil⟩
 | some v =>
  rw [e] at hr
  obtain ⟨a, c, rfl, hm⟩ := (h2 s).2 v e
  exact ⟨a, c, hr, hm⟩
theorem always_c (s u : ByteArray) (w : World) :
  Calls Tryz.prog 69 #[.agg #[.string s, .string u]] w fun e w' => e = .returned (.bool (Tab.alw (s, u))) ∧ Kept w w' := by
 have ha : Tab.alw (s, u) = (decide (s = u) || decide (u = ⟨#[63]⟩)) := rfl
 rw [ha]
 by_cases h : s = u
 ·have hq := beq_yes h
  rw [decide_eq_true h]
  clear h ha
  go_enter Tryz.func69, Tryz.ntmps69
  go_wp2
  go_ret
  exact ⟨rfl, (Kept.refl _).alloc _⟩
 ·have hq := beq_no h
  rw [decide_eq_false h]
  clear h ha
  by_cases h2 : u = ⟨#[63]⟩
  ·have hq2 := lit_yes (l := [63]) h2
   rw [decide_eq_true h2]
   clear h2
   go_enter Tryz.func69, Tryz.ntmps69
   go_wp2
   go_ret
   exact ⟨rfl, (Kept.refl _).alloc _⟩
  ·have hq2 := lit_no (l := [63]) h2
   rw [decide_eq_false h2]
   clear h2
   go_enter Tryz.func69, Tryz.ntmps69
   go_wp2
   go_ret
   exact ⟨rfl, (Kept.refl _).alloc _⟩
theorem have_c (t : List Tab.C) (ls : ByteArray → List (Tab.Mb ByteArray)) (b : Nat) (s u : ByteArray) (w : World) (hM : ClM t ls b w) (hs : s.size ≤ maxLen) (hu : u.size ≤ maxLen) :
  Calls Tryz.prog 70 #[.map (some b), .agg #[.string s, .string u]] w fun e w' => e = .returned (.bool (Tab.both t (s, u))) ∧ Kept w w' := by
 have hb : Tab.both t (s, u) = (Tab.isC t s && Tab.isC t u) := rfl
 rw [hb]
 obtain ⟨v1, hl1⟩ := (hM.kept ((Kept.refl w).alloc (.cells #[.string s, .string u] 81))).look hs
 obtain ⟨v2, hl2⟩ := (hM.kept ((Kept.refl w).alloc (.cells #[.string s, .string u] 81))).look hu
 clear hM hb
 generalize Tab.isC t s = x at *
 generalize Tab.isC t u = y at *
 cases x <;> cases y <;> (
  go_enter Tryz.func70, Tryz.ntmps70
  go_wp2
  go_ret
  exact ⟨rfl, (Kept.refl _).alloc _⟩)
theorem hasP_c (b n : Nat) (D : List Tab.P2) (g : Tab.P2 → Value) (s u : ByteArray) (w : World) (hM : MapP b n D g w) (hp : Fine (s, u)) (hg : ∀ q ∈ D, NdV (g q)) :
  Calls Tryz.prog 73 #[.map (some b), .agg #[.string s, .string u]] w fun e w' => e = .returned (.bool (Tab.inP D (s, u))) ∧ Kept w w' := by
 have hl := (hM.kept ((Kept.refl w).alloc (.cells #[.string s, .string u] 81))).look (t := 111) (e := 144) Tryz.underlying111 (zero_needs _) hp
 have hv : ∃ h a n c k, (if Tab.inP D (s, u) = true then g (s, u) else .agg #[.bool false, .slice none 0 0, .int .i64 0]) = (.agg #[.bool h, .slice a n c, .int .i64 k] : Value) := by
  cases e : Tab.inP D (s, u) with
  | true =>
   obtain ⟨h, a, n, c, k, e'⟩ := hg _ (Tab.inP_iff.1 e)
   exact ⟨h, a, n, c, k, by simpa using e'⟩
  | false => exact ⟨false, none, 0, 0, 0, by simp⟩
 obtain ⟨h, a, m, c, k, e⟩ := hv
 rw [e] at hl
 have hl' : (Instr.lookup 111 (.map (some b)) (.agg #[.string s, .string u]) true).run Tryz.prog (w.alloc (.cells #[.string s, .string u] 81)) = .ok (.tuple #[.agg #[.bool h, .slice a m c, .int .i64 k], .bool (Tab.inP D (s, u))]) (w.alloc (.cells #[.string s, .string u] 81)) := hl
 clear hl e hM hg hp
 generalize Tab.inP D (s, u) = r at *
 go_enter Tryz.func73, Tryz.ntmps73
 go_wp2
 go_ret
 exact ⟨rfl, ((Kept.refl _).alloc _).alloc _⟩
theorem Row.emp {w : World} {a : Option Addr} : PrsAt w (.slice a 0 0) [] := ⟨a, 0, rfl, Nat.le_refl _, Nat.zero_le _, fun i x hx => by simp at hx⟩
theorem Row.tail {w : World} {b o c : Nat} {p : Tab.P2} {l : List Tab.P2} (h : PrsAt w (.slice (some ⟨b, o, none⟩) (l.length + 1) c) (p :: l)) : PrsAt w (.slice (some ⟨b, o + 2, none⟩) l.length (c - 1)) l := by
 obtain ⟨a', c', e, h1, h2, h3⟩ := h
 injection e with e1 _ e2
 subst e1 e2
 refine ⟨_, _, rfl, by simp at h1; omega, by omega, fun i x hx => ?_⟩
 obtain ⟨b', o', e, r⟩ := h3 (i + 1) x (by simpa using hx)
 injection e with e
 injection e with e1 e2
 subst e1 e2
 refine ⟨b, o + 2, rfl, ?_⟩
 have : o + 2 + i * 2 = o + (i + 1) * 2 := by omega
 rw [this]; exact r
set_option maxHeartbeats 4000000 in
theorem all_c (g : FuncId) (rv : Value) (f : Tab.P2 → Bool) (w0 : World) (hg : ∀ args w, (callFunc g args).run Tryz.prog w = .ok (.enter g args) w)
  (hf : ∀ s u W, Fine (s, u) → Kept w0 W → Calls Tryz.prog g #[rv, .agg #[.string s, .string u]] W fun e w' => e = .returned (.bool (f (s, u))) ∧ Kept W w') :
  ∀ (l : List Tab.P2) (a : Option Addr) (c : Nat) (W : World), PrsAt W (.slice a l.length c) l → Kept w0 W →
   Calls Tryz.prog 102 #[.slice a l.length c, .func (.func g) #[rv] #[]] W fun e w' => e = .returned (.bool (l.all f)) ∧ Kept W w'
 | [], a, c, W, h, k => by
  clear hf
  go_enter Tryz.func102, Tryz.ntmps102
  go_wp2
  go_ret
  exact ⟨rfl, Kept.refl _⟩
 | (s, u) :: l, a, c, W, h, k => by
  have IH := Lib.hid (all_c g rv f w0 hg hf l)
  obtain ⟨b, o, rfl, h0, h1, hF⟩ : ∃ b o, a = some ⟨b, o, none⟩ ∧ PrAt W b o (s, u) := by
   obtain ⟨a', c', e, _, _, q⟩ := h
   injection e with e1 _ _
   obtain ⟨b, o, e, r⟩ := q 0 (s, u) rfl
   refine ⟨b, o, e1.trans e, ?_⟩
   simpa using r
  have hc1 : l.length + 1 ≤ c ∧ c ≤ maxLen := by
   obtain ⟨a', c', e, q1, q2, _⟩ := h
   injection e with _ _ e2
   subst e2
   exact ⟨by simpa using q1, q2⟩
  have HC := Lib.hid (hf s u W hF k)
  have HT := Lib.hid (Row.tail h)
  have HK := Lib.hid k
  obtain ⟨n, hn⟩ : ∃ n, n = l.length := ⟨_, rfl⟩
  have hlen : ((s, u) :: l).length = n + 1 := by rw [hn]; rfl
  rw [hlen]
  rw [← hn] at hc1
  have hcI : (n : Int) + 1 ≤ c := by omega
  have hcM : (c : Int) ≤ 9223372036854775807 := by have := hc1.2; unfold maxLen at this; omega
  have HN := Lib.hid hn
  rw [show ((s, u) :: l).all f = (f (s, u) && l.all f) from rfl]
  have hr := hg
  clear h hF k hn hlen hf hg
  cases hfv : f (s, u) with
  | false =>
   rw [hfv] at HC
   go_enter Tryz.func102, Tryz.ntmps102
   go_wp2_with fail
   refine HC.out.mono ?_
   rintro e w1 ⟨rfl, k1⟩
   have HK1 := Lib.hid k1
   clear k1
   go_wp2_with fail
   go_ret
   exact ⟨rfl, HK1.out⟩
  | true =>
   rw [hfv] at HC
   go_enter Tryz.func102, Tryz.ntmps102
   go_wp2_with fail
   refine HC.out.mono ?_
   rintro e w1 ⟨rfl, k1⟩
   have HK1 := Lib.hid k1
   clear k1
   go_wp2_with fail
   case inl =>
    obtain rfl : n = 0 := by omega
    obtain rfl : l = [] := List.eq_nil_of_length_eq_zero HN.out.symm
    refine (IH.out (some ⟨b, o, none⟩) 0 _ Row.emp (HK.out.trans HK1.out)).mono ?_
    rintro e w2 ⟨rfl, k2⟩
    have HK2 := Lib.hid (HK1.out.trans k2)
    clear k2
    go_wp2_with fail
    go_ret
    exact ⟨rfl, HK2.out⟩
   case inr =>
    have e := HN.out
    subst e
    refine (IH.out (some ⟨b, o + 2, none⟩) (c - 1) _ (prs_kept HT.out HK1.out) (HK.out.trans HK1.out)).mono ?_
    rintro e w2 ⟨rfl, k2⟩
    have HK2 := Lib.hid (HK1.out.trans k2)
    clear k2
    go_wp2_with fail
    go_ret
    exact ⟨rfl, HK2.out⟩
end Go.Proofs.YtjdkegfckkbpeaaGreatDoor
namespace Go.Proofs.YtjdkegfckkbpeaaGreatDoor.Tab
theorem zipP_snoc (L U : List (Mb ByteArray)) {j : Nat} {m : Mb ByteArray} (hm : U[j]? = some m) : zipP L (U.take (j + 1)) = zipP L (U.take j) ++ zip1 L m := by
 unfold zipP; rw [List.take_add_one, hm]; simp
theorem zipT_snoc {l u : List ByteArray} {i : Nat} {a b : ByteArray} (ha : l[i]? = some a) (hb : u[i]? = some b) : zipT (l.take (i + 1)) (u.take (i + 1)) = zipT (l.take i) (u.take i) ++ (if alw (a, b) then [] else [(a, b)]) := by
 unfold zipT
 have hl : i < l.length := (List.getElem?_eq_some_iff.1 ha).1
 have hu : i < u.length := (List.getElem?_eq_some_iff.1 hb).1
 rw [List.take_add_one, List.take_add_one, ha, hb]
 simp only [Option.toList_some]
 rw [List.zip_append (by simp; omega), List.filter_append]
 congr 1
 cases h : alw (a, b) <;> simp [h]
theorem zipT_len (l u : List ByteArray) : (zipT l u).length ≤ u.length := by
 unfold zipT
 refine Nat.le_trans (List.length_filter_le _ _) ?_
 rw [List.length_zip]; omega
theorem zipT_pre {l u : List ByteArray} (i : Nat) : (zipT (l.take i) (u.take i)).length ≤ (zipT l u).length := by
 have e : (l.take i).zip (u.take i) = (l.zip u).take i := by rw [List.zip_eq_zipWith, List.zip_eq_zipWith, List.take_zipWith]
 unfold zipT
 rw [e]
 exact ((List.take_sublist _ _).filter _).length_le
theorem zip1_at {L : List (Mb ByteArray)} (hA : Asc L) {x m : Mb ByteArray} {k : Nat} (hx : L[k]? = some x) (hn : x.name = m.name) (ha : x.ar = m.ar) : zip1 L m = zipT x.types m.types := by
 unfold zip1
 rw [find_alike hA (List.mem_of_getElem? hx) (alike_iff.2 ⟨hn, ha⟩)]
theorem zipP_le (L U : List (Mb ByteArray)) {j : Nat} {m : Mb ByteArray} (hm : U[j]? = some m) {x : Mb ByteArray} (h1 : zip1 L m = zipT x.types m.types) (i : Nat) : (zipP L (U.take j) ++ zipT (x.types.take i) (m.types.take i)).length ≤ (zipP L U).length := by
 have hlt : j < U.length := (List.getElem?_eq_some_iff.1 hm).1
 have e : zipP L U = zipP L (U.take (j + 1)) ++ zipP L (U.drop (j + 1)) := by
  conv => lhs; rw [← List.take_append_drop (j + 1) U]
  unfold zipP
  rw [List.flatMap_append]
 rw [e, zipP_snoc L U hm, h1, List.length_append, List.length_append, List.length_append]
 have := zipT_pre (l := x.types) (u := m.types) i
 omega
end Go.Proofs.YtjdkegfckkbpeaaGreatDoor.Tab
namespace Go.Proofs.YtjdkegfckkbpeaaGreatDoor
open Go.ChangeShapes Go.WideShapes Go.ChangeAt Go.RowKit Go.Shelf
def qCells (p : Tab.P2) : List Value := [.string p.1, .string p.2]
theorem qCells_len (p : Tab.P2) : (qCells p).length = 2 := rfl
theorem info_pr : (Tryz.prog.info? 81).map (fun i => (i.zero, i.size, i.bytes)) = some (some (.agg #[.string ⟨#[]⟩, .string ⟨#[]⟩]), 2, 32) := by kernel_rfl
theorem src_pr (w : World) (s u : ByteArray) : Src Tryz.prog 2 140 (.slice (some ⟨w.heap.size, 0, none⟩) 1 1) 1 (qCells (s, u)) (w.alloc (.cells #[.string s, .string u] 81)) := by
 refine Src.ofSlice _ Tryz.underlying140 ⟨w.heap.size, 0, none⟩ 1 1 (qCells (s, u)) rfl ?_ ?_
 ·intro j v hv
  rw [addr_plain, (Blk.new w _ _).cell, Nat.zero_add]
  simpa [qCells] using hv
 ·intro v hv
  simp [qCells] at hv
  rcases hv with rfl | rfl <;> rfl
theorem prs_of_row {W : World} {n₁ : Nat} {v : Value} {l : List Tab.P2} (h : W.ownsRow n₁ 81 2 v l.length (l.flatMap qCells)) (hF : ∀ p ∈ l, Fine p) : PrsAt W v l := by
 rcases h.2 with ⟨h0, h1⟩ | ⟨g, cap, cur, hv, h1, h2, h3, h4, h5, h6⟩
 ·rw [h0]
  have : l = [] := List.eq_nil_of_length_eq_zero h1
  rw [this]
  exact Row.nil
 ·subst hv
  refine ⟨_, cap, rfl, h3, h4, fun i p hp => ⟨g, 0, rfl, ?_⟩⟩
  have c0 := h.cells (g := g) rfl _ _ (flat_at qCells qCells_len l i 0 p hp (by omega))
  have c1 := h.cells (g := g) rfl _ _ (flat_at qCells qCells_len l i 1 p hp (by omega))
  rw [addr_plain] at c0 c1
  refine ⟨by simpa using c0, ?_, hF p (List.mem_of_getElem? hp)⟩
  have : 0 + i * 2 + 1 = i * 2 + 1 := by omega
  rw [this]; simpa using c1
theorem mbs_fine {w : World} {v v' : Value} {L U : List (Tab.Mb ByteArray)} (h : MbsAt w v L) (h' : MbsAt w v' U) (hA : Tab.Asc L) : ∀ p ∈ Tab.zipP L U, Fine p := by
 intro p hp
 obtain ⟨m, hm, x, hx, _, hq⟩ := (Tab.mem_zipP hA).1 hp
 obtain ⟨⟨i, h1, h2⟩, _⟩ := Tab.mem_zipT.1 hq
 have go : ∀ {v : Value} {L : List (Tab.Mb ByteArray)}, MbsAt w v L → ∀ x ∈ L, ∀ s ∈ x.types, s.size ≤ maxLen := by
  intro v L h x hx s hs
  obtain ⟨_, _, _, _, _, q⟩ := h
  obtain ⟨k, hk, rfl⟩ := List.getElem_of_mem hx
  obtain ⟨_, _, _, _, _, ⟨_, _, r⟩, _⟩ := q k _ (List.getElem?_eq_getElem hk)
  obtain ⟨_, _, _, _, _, q⟩ := r
  obtain ⟨n, hn, rfl⟩ := List.getElem_of_mem hs
  obtain ⟨_, _, _, r⟩ := q n _ (List.getElem?_eq_getElem hn)
  exact r.2
 exact ⟨go h x hx _ (List.mem_of_getElem? h1), go h' m hm _ (List.mem_of_getElem? h2)⟩
def ZipOut (L U : List (Tab.Mb ByteArray)) (w : World) (e : Ending) (w' : World) : Prop := ∃ a c, e = .returned (.tuple #[.slice a (Tab.zipR L U).length c, .bool (Tab.hasB L U)]) ∧ (∀ w'', Only (fun k => k < w.heap.size) w' w'' → PrsAt w'' (.slice a (Tab.zipR L U).length c) (Tab.zipR L U)) ∧ Kept w w'
theorem zip_no {L U : List (Tab.Mb ByteArray)} {w w' : World} (h : Tab.hasB L U = false) (k : Kept w w') : ZipOut L U w (.returned (.tuple #[.slice none 0 0, .bool false])) w' := by
 have e : Tab.zipR L U = [] := by unfold Tab.zipR; rw [h]; rfl
 refine ⟨none, 0, by rw [h, e]; rfl, fun w'' _ => ?_, k⟩
 rw [e]
 exact Row.nil
theorem zip_yes {L U : List (Tab.Mb ByteArray)} {w w' : World} {v : Value} (h : Tab.hasB L U = true) (hr : RR 81 2 qCells w.heap.size w (Tab.zipP L U) v w') (hF : ∀ p ∈ Tab.zipP L U, Fine p) : ZipOut L U w (.returned (.tuple #[v, .bool true])) w' := by
 have e : Tab.zipR L U = Tab.zipP L U := by unfold Tab.zipR; rw [h, if_pos rfl]
 have hr1 := hr.1
 obtain ⟨a, c, rfl⟩ := owns_slice_n hr1
 refine ⟨a, c, by rw [h, e], fun w'' hw => ?_, hr.kept (Kept.refl _) (Nat.le_refl _)⟩
 rw [e]
 exact prs_of_row (owns_only hr1 hw (fun g hg h => by omega)) hF
set_option maxHeartbeats 8000000 in
theorem zip_c (L U : List (Tab.Mb ByteArray)) (a a' : Option Addr) (c c' : Nat) (w : World) (h : MbsAt w (.slice a L.length c) L) (h' : MbsAt w (.slice a' U.length c') U) (hL : Tab.Asc L) (hU : Tab.Asc U)
  (tL : ∀ x ∈ L, Tab.TLp x) (tU : ∀ x ∈ U, Tab.TLp x) (hB : (Tab.zipP L U).length ≤ 1000000000) :
  Calls Tryz.prog 101 #[.slice a L.length c, .slice a' U.length c'] w fun e w' => ZipOut L U w e w' := by
 obtain ⟨i0, hi, hz0, hzz1, hzz2⟩ := info_parts info_pr
 have HF := Lib.hid (mbs_fine h h' hL)
 have HL := Lib.hid h
 obtain ⟨x1, x2, e, hlc, hcm, hat'⟩ := h'
 injection e with e1 _ e2
 subst e1 e2
 unfold maxLen at hcm
 have HAT := Lib.hid hat'
 have hLm : L.length ≤ 9223372036854775807 := by
  obtain ⟨_, _, e, q1, q2, _⟩ := h
  unfold maxLen at q2
  omega
 have HTL := Lib.hid tL
 have HTU := Lib.hid tU
 have HBB := Lib.hid hB
 clear hat' h tL tU hB
 go_enter Tryz.func101, Tryz.ntmps101
 go_wp2_with fail
 go_loopw [6, 7, 15] (fun l q i wr => ∃ k j : Nat, k ≤ L.length ∧ j ≤ U.length ∧ q = .int .i64 k ∧ i = .int .i64 j ∧ RR 81 2 qCells w.heap.size w (Tab.zipP L (U.take j)) l wr ∧ Hid (Tab.Ahead L k U j) ∧ Hid ((U.take j).all (Tab.has1 L) = true)) (fun l q i wr => U.length - (intOf i).toNat)
 case atStart => exact ⟨0, 0, Nat.zero_le _, Nat.zero_le _, rfl, rfl, RR.start _ _ _ _ _, Lib.hid (Tab.Ahead.start _ _ _), Lib.hid (by simp)⟩
 case round =>
  obtain ⟨k, j, hk, hj, rfl, rfl, hR, HAH, HALL⟩ := hrel
  obtain ⟨wo, rfl⟩ : ∃ wo, wo = wr := ⟨_, rfl⟩
  have HR := Lib.hid hR
  have hkp := hR.kept (Kept.refl _) (Nat.le_refl _)
  have HKP := Lib.hid hkp
  obtain ⟨la, ln, lc, rfl⟩ := owns_slice hR.1
  clear hR
  by_cases hlt : j < U.length
  ·have hx : U[j]? = some U[j] := List.getElem?_eq_getElem hlt
   obtain ⟨b, o, rfl, hm⟩ := HAT.out j _ hx
   generalize U[j] = m at hx hm
   obtain ⟨m0, m1, ⟨mv, m2, hmv⟩, hms⟩ := hm
   have m0 := hkp.cell m0
   have m1 := hkp.cell m1
   have m2 := hkp.cell m2
   have HX := Lib.hid hx
   have HMV := Lib.hid hmv
   have hltI : (j : Int) < (U.length : Int) := by omega
   obtain ⟨va, vn, vc, rfl⟩ : ∃ va vn vc, mv = .slice va vn vc := by
    obtain ⟨va, vc, e, _⟩ := hmv
    exact ⟨_, _, _, e⟩
   have HB := Lib.hid (Blk.new wo 134 #[.string m.name, .int .i64 m.ar, .slice va vn vc])
   have HKM := Lib.hid ((Kept.refl wo).alloc (.cells #[.string m.name, .int .i64 m.ar, .slice va vn vc] 134))
   have HNX := Lib.hid (Tab.Ahead.next hU HAH.out hx)
   have HAT2 := Lib.hid (HAH.out.at hx)
   obtain ⟨sk, hsk⟩ : ∃ sk, sk = Tab.seek L k m.name := ⟨_, rfl⟩
   have HSK := Lib.hid hsk
   have HSL := Lib.hid (show sk ≤ L.length by rw [hsk]; exact Tab.seek_le hk)
   clear hx hkp hmv hms hsk
   go_wp2_with fail
   go_loopw [7] (fun q wr => ∃ k' : Nat, k' ≤ L.length ∧ q = .int .i64 k' ∧ Kept (wo.alloc (.cells #[.string m.name, .int .i64 m.ar, .slice va vn vc] 134)) wr ∧ Hid (Tab.seek L k' m.name = sk)) (fun q wr => L.length - (intOf q).toNat)
   case atStart => exact ⟨k, hk, rfl, Kept.refl _, Lib.hid HSK.out.symm⟩
   case round =>
    obtain ⟨k', hk', rfl, hkr, HS⟩ := hrel
    have hBk := HB.out.kept hkr
    have z0 := hBk.cell 0
    have z1 := hBk.cell 1
    have z2 := hBk.cell 2
    simp only [List.getElem?_toArray, List.getElem?_cons_zero, List.getElem?_cons_succ] at z0 z1 z2
    have HKR := Lib.hid hkr
    have HKA := Lib.hid ((HKP.out.trans HKM.out).trans hkr)
    by_cases hl2 : k' < L.length
    ·have hl2I : (k' : Int) < (L.length : Int) := by omega
     have hx : L[k']? = some L[k'] := List.getElem?_eq_getElem hl2
     obtain ⟨b2, o2, rfl, hm⟩ : ∃ b2 o2, a = some ⟨b2, o2, none⟩ ∧ MbBAt w b2 (o2 + k' * 3) L[k'] := by
      obtain ⟨y1, y2, e, _, _, q⟩ := HL.out
      injection e with e1 _ _
      subst e1
      exact q _ _ hx
     generalize L[k'] = x at hx hm
     obtain ⟨n0, n1, ⟨nv, n2, hnv⟩, _⟩ := hm
     have N2 := Lib.hid n2
     have n0 := HKA.out.cell n0
     have n1 := HKA.out.cell n1
     have n2 := HKA.out.cell n2
     cases hb : Tab.lt x.name m.name with
     | true =>
      have HN := Lib.hid ((Tab.seek_next hx hb).symm.trans HS.out)
      have hb' : Op.bytesLess x.name.toList m.name.toList = true := hb
      clear hx hb hkr hBk n1 n2 hnv m0 m1 m2 z1 z2
      go_wp2_with fail
      go_quiet (fail)
      go_wp2_with fail
      go_roundw
      case rel => exact ⟨k' + 1, by omega, by go_num, HKR.out.drewN _, HN⟩
      case measure => simp [intOf]; omega
     | false =>
      have hb' : Op.bytesLess x.name.toList m.name.toList = false := hb
      have e : sk = k' := HS.out.symm.trans (Tab.seek_here hx hb)
      subst e
      have HNV := Lib.hid hnv
      obtain ⟨wa, wn, wc, rfl⟩ : ∃ va vn vc, nv = .slice va vn vc := by
       obtain ⟨va, vc, e, _⟩ := hnv
       exact ⟨_, _, _, e⟩
      have HHX := Lib.hid hx
      have hne : ((sk : Int) == (L.length : Int)) = false := by simp; omega
      by_cases hn : x.name = m.name
      ·by_cases har : x.ar = m.ar
       ·have HAA := Lib.hid (And.intro hn har)
        have hq := beq_yes hn
        have hd : (x.ar == m.ar) = true := by simp [har]
        rw [har] at n1
        have HQZ := Lib.hid (Tab.zip1_at hL hx hn har)
        have HTT := Lib.hid (Tab.tl_same (HTL.out x (List.mem_of_getElem? hx)) (HTU.out m (List.mem_of_getElem? HX.out)) har)
        have HALN := Lib.hid (Tab.all_next HALL.out HX.out ((Tab.has1_at hL hx hn).trans (decide_eq_true har)))
        have HKD := Lib.hid (HKM.out.trans hkr)
        clear hx hb hkr hBk m0 m1 m2 hnv hn har
        go_wp2_with fail
        go_quiet (fail)
        go_wp2_with fail
        go_quiet (fail)
        go_wp2_with fail
        obtain ⟨wp, rfl⟩ : ∃ wp, wp = wr := ⟨_, rfl⟩
        go_loopw [6, 62] (fun l q wq => ∃ i : Nat, i ≤ m.types.length ∧ q = .int .i64 i ∧ RR 81 2 qCells w.heap.size w (Tab.zipP L (U.take j) ++ Tab.zipT (x.types.take i) (m.types.take i)) l wq) (fun l q wq => m.types.length - (intOf q).toNat)
        case atStart =>
         refine ⟨0, Nat.zero_le _, rfl, ?_⟩
         rw [show Tab.zipP L (U.take j) ++ Tab.zipT (x.types.take 0) (m.types.take 0) = Tab.zipP L (U.take j) by simp [Tab.zipT]]
         exact HR.out.keep (HKD.out.drewN _)
        case round =>
         obtain ⟨i, hi', rfl, hI⟩ := hrel
         have HI := Lib.hid hI
         have hki := hI.kept (Kept.refl _) (Nat.le_refl _)
         have HKI := Lib.hid hki
         have hzz := hki.size
         obtain ⟨la, ln, lc, rfl⟩ := owns_slice hI.1
         clear hI
         obtain ⟨g3, y1, e3, hml, hmc, hmq⟩ := HMV.out
         injection e3 with e3 e4 e5
         subst e3 e4 e5
         have hmlI : m.types.length ≤ 9223372036854775807 := by unfold maxLen at hmc; omega
         by_cases hil : i < m.types.length
         ·have hilI : (i : Int) < (m.types.length : Int) := by omega
          have hb : m.types[i]? = some m.types[i] := List.getElem?_eq_getElem hil
          have ha : x.types[i]? = some (x.types[i]'(by rw [HTT.out]; exact hil)) := List.getElem?_eq_getElem _
          generalize m.types[i] = tb at hb
          generalize x.types[i]'(by rw [HTT.out]; exact hil) = ta at ha
          obtain ⟨b3, o3, rfl, hs3⟩ := hmq i tb hb
          obtain ⟨g4, y2, e6, hxl, hxc, hxq⟩ := HNV.out
          injection e6 with e6 e7 e8
          subst e6 e7 e8
          obtain ⟨b4, o4, rfl, hs4⟩ := hxq i ta ha
          have p3 := hki.cell hs3.1
          have p4 := hki.cell hs4.1
          have n2 := hki.cell N2.out
          rw [Nat.mul_one] at p3 p4
          have hxlI : (i : Int) < (x.types.length : Int) := by rw [HTT.out]; omega
          have hskI : (sk : Int) < (L.length : Int) := hl2I
          have HSN := Lib.hid (Tab.zipT_snoc ha hb)
          have HLE := Lib.hid (Nat.le_trans (Tab.zipP_le L U HX.out HQZ.out i) HBB.out)
          have HBp := Lib.hid (Blk.new wr 81 #[.string ta, .string tb])
          have HKp := Lib.hid ((Kept.refl wr).alloc (.cells #[.string ta, .string tb] 81))
          have HA := Lib.hid (always_c ta tb)
          clear hki ha hb hs3 hs4 hmq hxq n0 n1 z0 z1 z2
          cases hal : Tab.alw (ta, tb) with
          | true =>
           rw [hal] at HA
           rw [hal] at HSN
           go_wp2_with fail
           refine (HA.out _).mono ?_
           rintro e w1 ⟨rfl, k1⟩
           have HNX2 := Lib.hid (HI.out.keep (HKp.out.trans k1))
           clear k1
           go_wp2_with fail
           go_roundw
           case rel =>
            refine ⟨i + 1, by omega, by go_num, ?_⟩
            rw [HSN.out]
            simpa using HNX2.out
           case measure => simp [intOf]; omega
          | false =>
           rw [hal] at HA
           rw [hal] at HSN
           go_wp2_with fail
           refine (HA.out _).mono ?_
           rintro e w1 ⟨rfl, k1⟩
           have hB1 := HBp.out.kept k1
           have r0 := hB1.cell 0
           have r1 := hB1.cell 1
           simp only [List.getElem?_toArray, List.getElem?_cons_zero, List.getElem?_cons_succ] at r0 r1
           have HRX := Lib.hid ((HI.out.keep (HKp.out.trans k1)).keep ((Kept.refl w1).alloc (.cells #[.string ta, .string tb] 81)))
           have HSX := Lib.hid (src_pr w1 ta tb)
           have hz1 := (HKp.out.trans k1).size
           clear k1 hB1 p3 p4 n2
           go_wp2_with (at_builtin; refine wpList_apk rfl (.tmp 80) (.tmp 82) 140 140 rfl w.heap.size 2 81 i0 _ 32 Tryz.underlying140 hi hz0 hzz1 hzz2 rfl rfl HRX.out.1 rfl HSX.out (by have := HLE.out; unfold maxLen; omega) (by have := HLE.out; omega) (by simp; omega) ?_; intro v' w2 hown' hgrow hlies; have HNX2 := Lib.hid (HRX.out.next (x := (ta, tb)) (Kept.refl _) hown' hgrow hlies); obtain ⟨va', vn', vc', rfl⟩ := owns_slice hown'; clear hown' hgrow hlies)
           go_roundw
           case rel =>
            refine ⟨i + 1, by omega, by go_num, ?_⟩
            rw [HSN.out]
            simpa using HNX2.out
           case measure => simp [intOf]; omega
         ·have hilI : ¬ (i : Int) < (m.types.length : Int) := by omega
          obtain rfl : i = m.types.length := by omega
          have HIE := Lib.hid (show RR 81 2 qCells w.heap.size w (Tab.zipP L (U.take (j + 1))) (.slice la ln lc) wr by
           rw [Tab.zipP_snoc L U HX.out, HQZ.out]
           have := HI.out
           rw [List.take_length, List.take_of_length_le (l := x.types) (by rw [HTT.out]; exact Nat.le_refl _)] at this
           exact this)
          clear hmq
          go_wp2_with fail
          go_roundw
          case rel => exact ⟨sk, j + 1, HSL.out, by omega, rfl, by go_num, HIE.out, Lib.hid (by rw [HSK.out]; exact HNX.out), HALN⟩
          case measure => simp [intOf]; omega
       ·have hq := beq_yes hn
        have hd : (x.ar == m.ar) = false := by simp [har]
        have HQ := Lib.hid (show Tab.hasB L U = false from Tab.all_no HX.out ((Tab.has1_at hL hx hn).trans (decide_eq_false har)))
        clear hx hb hkr hBk n2 hnv m0 m1 m2 z2 hn har
        go_wp2_with fail
        go_quiet (fail)
        go_wp2_with fail
        go_quiet (fail)
        go_wp2_with fail
        go_ret2
        exact zip_no HQ.out ((HKA.out.drewN _).drewN _)
      ·have hq := beq_no hn
       have HQ := Lib.hid (show Tab.hasB L U = false from Tab.all_no HX.out (Tab.has1_no hL hk HAT2.out (by rw [← HSK.out, Tab.hit_at hx]; exact decide_eq_false hn)))
       clear hx hb hkr hBk n2 hnv m0 m1 m2 z2 n1 z1
       go_wp2_with fail
       go_quiet (fail)
       go_wp2_with fail
       go_quiet (fail)
       go_wp2_with fail
       go_ret2
       exact zip_no HQ.out ((HKA.out.drewN _).drewN _)
    ·have hl2I : ¬ (k' : Int) < (L.length : Int) := by omega
     obtain rfl : k' = L.length := by omega
     have e : sk = L.length := HS.out.symm.trans Tab.seek_end
     have HQ := Lib.hid (show Tab.hasB L U = false from Tab.all_no HX.out (Tab.has1_no hL hk HAT2.out (by rw [← HSK.out, e, Tab.hit_end])))
     clear hkr hBk m0 m1 m2 z2 z1
     go_wp2_with fail
     go_quiet (fail)
     go_wp2_with fail
     go_quiet (fail)
     go_wp2_with fail
     go_ret2
     exact zip_no HQ.out ((HKA.out.drewN _).drewN _)
  ·have hltI : ¬ (j : Int) < (U.length : Int) := by omega
   obtain rfl : j = U.length := by omega
   have HQ := Lib.hid (show Tab.hasB L U = true from Tab.all_yes HALL.out)
   have HRE := Lib.hid (show RR 81 2 qCells w.heap.size w (Tab.zipP L U) (.slice la ln lc) wo by
    have := HR.out
    rwa [List.take_length] at this)
   clear hkp
   go_wp2_with fail
   go_ret2
   exact zip_yes HQ.out HRE.out HF.out
end Go.Proofs.YtjdkegfckkbpeaaGreatDoor
namespace Go.Proofs.YtjdkegfckkbpeaaGreatDoor
open Go.ChangeShapes Go.WideShapes Go.ChangeAt Go.RowKit Go.Shelf
open Go.Maps (Keyed)
theorem asc_ofP {L : List (Tab.Mb ByteArray)} (hs : L.Pairwise fun x y => Tab.lt y.name x.name = false) (hn : (L.map Tab.Mb.name).Nodup) : Tab.Asc L := by
 unfold Tab.Asc
 rw [List.pairwise_iff_getElem] at hs ⊢
 rw [List.nodup_iff_pairwise_ne, List.pairwise_iff_getElem] at hn
 intro i k hi hk hik
 have h1 := hs i k hi hk hik
 cases h : Tab.lt L[i].name L[k].name with
 | true => rfl
 | false =>
  have := hn i k (by simpa using hi) (by simpa using hk) hik
  simp only [List.getElem_map] at this
  exact absurd (Tab.lt_total h h1) this
/-- A class' members, in memory, whatever becomes of the map's block. -/
def ClE (t : List Tab.C) (mb : Nat) (W : World) (s : ByteArray) (v : Value) (L : List (Tab.Mb ByteArray)) : Prop :=
 ∃ a c, v = .slice a L.length c ∧ (∀ w'', Only (· = mb) W w'' → MbsAt w'' v L) ∧ L.Perm (Tab.mbs t s) ∧ L.Pairwise fun x y => Tab.lt y.name x.name = false
/-- The classes so far. -/
def ClI (t : List Tab.C) (w : World) (j : Nat) (f : ByteArray → Option Value) (wr : World) : Prop :=
 MapF Tryz.prog 9 w.heap.size j f wr ∧ Kept w wr ∧ ∀ s, (f s).isSome = (Tab.ix Tab.C.name (t.take j) s).isSome ∧ ∀ v, f s = some v → ∃ L, ClE t w.heap.size wr s v L
theorem ClE.step {t : List Tab.C} {mb : Nat} {W W' : World} {s : ByteArray} {v : Value} {L : List (Tab.Mb ByteArray)} (h : ClE t mb W s v L) (ho : Only (· = mb) W W') : ClE t mb W' s v L := by
 obtain ⟨a, c, e, h1, h2⟩ := h
 exact ⟨a, c, e, fun w'' hw => h1 w'' (ho.trans hw), h2⟩
def ClN (t : List Tab.C) (w : World) (j : Nat) (W' : World) : Prop := ∃ f, ClI t w j f W'
theorem cls_next {t : List Tab.C} (hv : Tab.Valid t) {j : Nat} (hj : j < t.length) {w wr w6 W' : World} {f : ByteArray → Option Value} (hk : Kept w wr) (h : ClI t w j f wr) {L : List (Tab.Mb ByteArray)} {la : Option Addr} {lc : Nat} (hpm : L.Perm (Tab.mbs t (Tab.nth t j).name))
  (hpw : L.Pairwise fun x y => Tab.lt y.name x.name = false) (hat : ∀ w'', Only (fun k => k < wr.drew.heap.size) w6 w'' → MbsAt w'' (.slice la L.length lc) L) (k6 : Kept wr w6)
  (hm' : MapF Tryz.prog 9 w.heap.size (j + 1) (fun x => if x = (Tab.nth t j).name then some (.slice la L.length lc) else f x) W') (hg' : w6.grownBy W' (some w.heap.size)) : ClN t w (j + 1) W' := by
 have ho6 : Only (· = w.heap.size) w6 W' := (Only.refl _ w6).grown hg' fun k e => by cases e; exact .inl rfl
 have ho : Only (· = w.heap.size) wr W' := (Only.of_kept k6).trans ho6
 have hlt : w.heap.size < wr.heap.size := h.1.lt
 refine ⟨_, hm', hk.onlyS ho (fun k e => by rw [e]; exact Nat.le_refl _), fun s => ?_⟩
 have hix : Tab.ix Tab.C.name (t.take (j + 1)) s = if s = (Tab.nth t j).name then some (t.take j).length else Tab.ix Tab.C.name (t.take j) s := by
  rw [List.take_add_one, Tab.of_nth hj]
  exact Tab.ixC_snoc (Tab.ix_none (hv.fresh hj)) s
 rw [hix]
 by_cases e : s = (Tab.nth t j).name
 ·subst e
  refine ⟨by simp, fun v hv' => ⟨L, la, lc, ?_, fun w'' hw => ?_, hpm, hpw⟩⟩
  ·simpa using hv'.symm
  ·have e : v = .slice la L.length lc := by simpa using hv'.symm
   rw [e]
   exact hat w'' ((ho6.trans hw).mono fun k _ e => by rw [e]; exact hlt)
 ·have := h.2.2 s
  simp only [e, if_false]
  refine ⟨this.1, fun v hv' => ?_⟩
  obtain ⟨L', hL'⟩ := this.2 v hv'
  exact ⟨L', hL'.step ho⟩
def ClsOut (t : List Tab.C) (w : World) (e : Ending) (w' : World) : Prop := ∃ mb ls, e = .returned (.map (some mb)) ∧ Tab.Cl t ls ∧ ClM t ls mb w' ∧ Kept w w'
theorem cls_end {t : List Tab.C} (hv : Tab.Valid t) {w wr : World} (h : ClN t w t.length wr) : ClsOut t w (.returned (.map (some w.heap.size))) wr := by
 obtain ⟨f, h1, h2, h3⟩ := h
 have hs : ∀ s, (f s).isSome = Tab.isC t s := fun s => by
  have := (h3 s).1
  rwa [List.take_length] at this
 have hL : ∀ s, ∃ L, (∀ v, f s = some v → ClE t w.heap.size wr s v L) ∧ (f s = none → L = []) := fun s => by
  cases e : f s with
  | none => exact ⟨[], fun v h => (by cases h), fun _ => rfl⟩
  | some v =>
   obtain ⟨L, hL⟩ := (h3 s).2 v e
   exact ⟨L, fun v' h => (by cases h; exact hL), fun h => (by cases h)⟩
 obtain ⟨ls, hls⟩ := Classical.skolem.1 hL
 clear hL
 refine ⟨w.heap.size, ls, rfl, ⟨?_, ?_, ?_, ?_⟩, ⟨t.length, f, h1, fun s => ⟨hs s, fun v hv' => ?_⟩⟩, h2⟩
 ·intro s hn
  refine (hls s).2 ?_
  have := hs s
  rw [hn] at this
  simpa using this
 ·intro s hc
  have := hs s
  rw [hc] at this
  obtain ⟨v, hv'⟩ := Option.isSome_iff_exists.1 this
  obtain ⟨_, _, _, _, hp, _⟩ := (hls s).1 v hv'
  exact hp
 ·intro s
  cases e : f s with
  | none =>
   show Tab.Asc (ls s)
   rw [(hls s).2 e]
   exact List.Pairwise.nil
  | some v =>
   obtain ⟨_, _, _, _, hp, hw⟩ := (hls s).1 v e
   have hc : Tab.isC t s = true := by rw [← hs s, e]; rfl
   obtain ⟨i, hi, rfl⟩ := Tab.isC_at hc
   refine asc_ofP hw ?_
   refine ((hp.map Tab.Mb.name).nodup_iff).2 ?_
   rw [Tab.mbs_names]
   exact (hv.good hi).names
 ·intro s x hx
  cases e : f s with
  | none =>
   have hx : x ∈ ls s := hx
   rw [(hls s).2 e] at hx
   cases hx
  | some v =>
   obtain ⟨_, _, _, _, hp, _⟩ := (hls s).1 v e
   exact Tab.mbs_tl t s x (hp.mem_iff.1 hx)
 ·obtain ⟨a, c, e, hm, _⟩ := (hls s).1 v hv'
  exact ⟨a, c, e, hm wr (Only.refl _ _)⟩
set_option maxHeartbeats 8000000 in
theorem classesOf_c (t : List Tab.C) (a : Option Addr) (c : Nat) (w : World) (hT : TabAt w (.slice a t.length c) t) (hS : Small t) (hv : Tab.Valid t) (ht : t.length ≤ 1000) :
  Calls Tryz.prog 41 #[.slice a t.length c] w fun e w' => ClsOut t w e w' := by
 have h0 := MapF.made w Tryz.prog 9
 have hmm := @run_makeMap Tryz.prog
 have HT := Lib.hid hT
 have HV := Lib.hid hv
 have HCN := Lib.hid (show ClN t w 0 (w.alloc (.map #[] 0)) from ⟨_, h0, (Kept.refl w).alloc _, fun s => ⟨by simp [Tab.ix], fun v h => by cases h⟩⟩)
 clear h0 hT
 go_enter Tryz.func41, Tryz.ntmps41
 go_wp2_with fail
 clear hmm
 go_loopw [8] (fun q wr => ∃ j : Nat, j ≤ t.length ∧ q = .int .i64 j ∧ ClN t w j wr) (fun q wr => t.length - (intOf q).toNat)
 case atStart => exact ⟨0, Nat.zero_le _, rfl, HCN.out⟩
 case round =>
  obtain ⟨j, hj, rfl, f, hCI⟩ := hrel
  have HKP := Lib.hid hCI.2.1
  have hmp := hCI.1
  have HCI := Lib.hid hCI
  clear hCI
  by_cases hlt : j < t.length
  ·have hltI : (j : Int) < (t.length : Int) := by omega
   obtain ⟨b, o, rfl, hcl⟩ := Row.cellsC (tab_kept HT.out HKP.out) hlt
   obtain ⟨q0, _, _, _, q1, _⟩ := hcl
   have HMC := Lib.hid (fun W (kw : Kept w W) => membersOf_c (some ⟨b, o, none⟩) c t (Tab.nth t j).name W (tab_kept HT.out kw) hS)
   go_wp2_with fail
   refine wp_region_any (by kernel_rfl) ?_
   change wpAny _ _ _ _ _ _ _ (World.drew _)
   refine tkA 0 ?_
   refine tkA 1 ?_
   refine tkA 2 ?_
   refine tkA 3 ?_
   refine tkA 4 ?_
   refine tkA 6 ?_
   refine tkA 7 ?_
   refine tkA 8 ?_
   refine tkA 9 ?_
   refine tkA 10 ?_
   refine rdA [5, 11] ?_
   refine aR (fun K hK => ?_) ?_
   ·go_simp
    refine hK _ _ ?_; clear hK K
    refine rdA [11] ?_
    refine aR (fun K hK => ?_) ?_
    ·go_simp
     refine hK _ _ ?_; clear hK K
     refine rdA [12] ?_
     refine aR (fun K hK => ?_) ?_
     ·go_simp
      go_wp2_with fail
      refine (HMC.out wr.drew HKP.out.drew).mono ?_
      rintro e w6 ⟨⟨L, la, lc, rfl, hpm, hpw, hat⟩, k6⟩
      have q6 := k6.cell q0
      have HMP := Lib.hid (show MapF Tryz.prog 9 w.heap.size j f w6 from hmp.only (S := fun _ => False) (Only.of_kept ((Kept.refl wr).drew.trans k6)) (fun h => h))
      obtain ⟨W', hup, hm', hg'⟩ := HMP.out.store (t := 77) (e := 108) (Maps.string_keyed Tryz.underlying9) Tryz.underlying77 (by unfold maxLen; omega) (Tab.nth t j).name (.slice la L.length lc) (WideMaps.keyOf_string_mk Tryz.underlying9 q1)
      have HE := Lib.hid (cls_next hv hlt HKP.out HCI.out hpm hpw (hat := hat) ((Kept.refl wr).drew.trans k6) hm' hg')
      clear hat hm' hg' hpm hpw
      dsimp only
      refine hK _ _ ?_; clear hK K
      refine rdA [13] ?_
      refine aR (fun K hK => ?_) ?_
      ·go_simp
       refine hK _ _ ?_; clear hK K
       refine wpAny_done (by kernel_rfl) ?_ _
       go_simp
       go_wp2_with fail
       go_roundw
       case rel => exact ⟨j + 1, by omega, by go_num, HE.out⟩
       case measure => simp [intOf]; omega
      exact AllReady.nil
     exact AllReady.nil
    exact AllReady.nil
   refine aR (fun K hK => ?_) ?_
   ·go_simp
    refine hK _ _ ?_; clear hK K
    refine rdA [5, 12] ?_
    refine aR (fun K hK => ?_) ?_
    ·go_simp
     refine hK _ _ ?_; clear hK K
     refine rdA [12] ?_
     refine aR (fun K hK => ?_) ?_
     ·go_simp
      go_wp2_with fail
      refine (HMC.out wr.drew HKP.out.drew).mono ?_
      rintro e w6 ⟨⟨L, la, lc, rfl, hpm, hpw, hat⟩, k6⟩
      have q6 := k6.cell q0
      have HMP := Lib.hid (show MapF Tryz.prog 9 w.heap.size j f w6 from hmp.only (S := fun _ => False) (Only.of_kept ((Kept.refl wr).drew.trans k6)) (fun h => h))
      obtain ⟨W', hup, hm', hg'⟩ := HMP.out.store (t := 77) (e := 108) (Maps.string_keyed Tryz.underlying9) Tryz.underlying77 (by unfold maxLen; omega) (Tab.nth t j).name (.slice la L.length lc) (WideMaps.keyOf_string_mk Tryz.underlying9 q1)
      have HE := Lib.hid (cls_next hv hlt HKP.out HCI.out hpm hpw (hat := hat) ((Kept.refl wr).drew.trans k6) hm' hg')
      clear hat hm' hg' hpm hpw
      dsimp only
      refine hK _ _ ?_; clear hK K
      refine rdA [13] ?_
      refine aR (fun K hK => ?_) ?_
      ·go_simp
       refine hK _ _ ?_; clear hK K
       refine wpAny_done (by kernel_rfl) ?_ _
       go_simp
       go_wp2_with fail
       go_roundw
       case rel => exact ⟨j + 1, by omega, by go_num, HE.out⟩
       case measure => simp [intOf]; omega
      exact AllReady.nil
     exact AllReady.nil
    refine aR (fun K hK => ?_) ?_
    ·go_simp
     go_wp2_with fail
     refine (HMC.out wr.drew HKP.out.drew).mono ?_
     rintro e w6 ⟨⟨L, la, lc, rfl, hpm, hpw, hat⟩, k6⟩
     have q6 := k6.cell q0
     have HMP := Lib.hid (show MapF Tryz.prog 9 w.heap.size j f w6 from hmp.only (S := fun _ => False) (Only.of_kept ((Kept.refl wr).drew.trans k6)) (fun h => h))
     obtain ⟨W', hup, hm', hg'⟩ := HMP.out.store (t := 77) (e := 108) (Maps.string_keyed Tryz.underlying9) Tryz.underlying77 (by unfold maxLen; omega) (Tab.nth t j).name (.slice la L.length lc) (WideMaps.keyOf_string_mk Tryz.underlying9 q1)
     have HE := Lib.hid (cls_next hv hlt HKP.out HCI.out hpm hpw (hat := hat) ((Kept.refl wr).drew.trans k6) hm' hg')
     clear hat hm' hg' hpm hpw
     dsimp only
     refine hK _ _ ?_; clear hK K
     refine rdA [5] ?_
     refine aR (fun K hK => ?_) ?_
     ·go_simp
      refine hK _ _ ?_; clear hK K
      refine rdA [13] ?_
      refine aR (fun K hK => ?_) ?_
      ·go_simp
       refine hK _ _ ?_; clear hK K
       refine wpAny_done (by kernel_rfl) ?_ _
       go_simp
       go_wp2_with fail
       go_roundw
       case rel => exact ⟨j + 1, by omega, by go_num, HE.out⟩
       case measure => simp [intOf]; omega
      exact AllReady.nil
     exact AllReady.nil
    exact AllReady.nil
   exact AllReady.nil
  ·have hltI : ¬ (j : Int) < (t.length : Int) := by omega
   obtain rfl : j = t.length := by omega
   have HE := Lib.hid (cls_end hv ⟨f, HCI.out⟩)
   clear hmp
   go_wp2_with fail
   go_ret
   exact HE.out
end Go.Proofs.YtjdkegfckkbpeaaGreatDoor
namespace Go.Proofs.YtjdkegfckkbpeaaGreatDoor.Tab
theorem flat_leP {α β : Type} (f : α → List β) (n : Nat) : ∀ (r : List α), (∀ x ∈ r, (f x).length ≤ n) → (r.flatMap f).length ≤ r.length * n
 | [], _ => by simp
 | y :: r, h => by
  have h1 := flat_leP f n r fun x hx => h x (List.mem_cons_of_mem _ hx)
  have h2 := h y (List.mem_cons_self ..)
  rw [List.flatMap_cons, List.length_append, List.length_cons, Nat.add_mul]
  omega
theorem head_bd {t : List C} (hv : Valid t) {i : Nat} (hi : i < t.length) : (nth t i).fields.length ≤ 20 ∧ (nth t i).methods.length ≤ 20 ∧ ∀ m ∈ (nth t i).methods, m.params.length ≤ 8 := by
 have h := hv.head i hi
 unfold chkHead at h
 rw [if_pos (hv.cls hi)] at h
 by_cases h1 : (ix C.name (t.take i) (nth t i).name).isSome = true
 ·rw [if_pos h1] at h; exact absurd h (by decide)
 ·rw [if_neg h1] at h
  by_cases h2 : 20 < (nth t i).fields.length
  ·rw [if_pos h2] at h; exact absurd h (by decide)
  ·rw [if_neg h2] at h
   by_cases h3 : 20 < (nth t i).methods.length
   ·rw [if_pos h3] at h; exact absurd h (by decide)
   ·rw [if_neg h3] at h
    by_cases h4 : (nth t i).methods.any (fun m => decide (8 < m.params.length)) = true
    ·rw [if_pos h4] at h; exact absurd h (by decide)
    ·refine ⟨by omega, by omega, fun m hm => ?_⟩
     have h4' : ∀ m ∈ (nth t i).methods, m.params.length ≤ 8 := by simpa using h4
     exact h4' m hm
theorem foldA_len : ∀ (ms l : List M), (ms.foldl addM l).length ≤ ms.length + l.length
 | [], l => by simp
 | m :: r, l => by
  have h := foldA_len r (addM l m)
  have : (addM l m).length ≤ l.length + 1 := by
   unfold addM
   split <;> simp
  rw [List.foldl_cons, List.length_cons]
  omega
theorem mbs_len {t : List C} (hv : Valid t) (ht : t.length ≤ 40) (c : ByteArray) : (mbs t c).length ≤ 1600 := by
 have hl := line_short t c
 have h1 : (fields t c).length ≤ 800 := by
  unfold fields
  have := flat_leP (fun i => (nth t i).fields) 20 (line t c).reverse fun i hi => (head_bd hv (line_lt (List.mem_reverse.1 hi))).1
  rw [List.length_reverse] at this
  omega
 have h2 : (methods t c).length ≤ 800 := by
  unfold methods
  have h3 := flat_leP (fun i => (nth t i).methods) 20 (line t c).reverse fun i hi => (head_bd hv (line_lt (List.mem_reverse.1 hi))).2.1
  rw [List.length_reverse] at h3
  refine Nat.le_trans (foldA_len _ _) ?_
  simp only [List.length_nil]
  omega
 unfold mbs
 rw [List.length_append, List.length_map, List.length_map]
 omega
theorem mbs_types {t : List C} (hv : Valid t) (c : ByteArray) : ∀ x ∈ mbs t c, x.types.length ≤ 9 := by
 intro x hx
 unfold mbs at hx
 rcases List.mem_append.1 hx with hx | hx
 ·obtain ⟨f, _, rfl⟩ := List.mem_map.1 hx
  unfold mbF; simp
 ·obtain ⟨m, hm, rfl⟩ := List.mem_map.1 hx
  obtain ⟨i, hi, hm⟩ := methods_membP hm
  have := (head_bd hv hi).2.2 m hm
  unfold mbM
  simp
  omega
theorem Cl.zip_len {t : List C} {ls : ByteArray → List (Mb ByteArray)} (h : Cl t ls) (hv : Valid t) (ht : t.length ≤ 40) (s u : ByteArray) : (zipP (ls s) (ls u)).length ≤ 14400 := by
 cases hu : isC t u with
 | false =>
  rw [h.none u hu]
  unfold zipP; simp
 | true =>
  have hp := h.perm u hu
  have h1 := flat_leP (zip1 (ls s)) 9 (ls u) fun m hm => by
   have := mbs_types hv u m (hp.mem_iff.1 hm)
   unfold zip1
   split
   ·exact Nat.le_trans (zipT_len _ _) this
   ·simp
  have h2 := mbs_len hv ht u
  rw [← hp.length_eq] at h2
  unfold zipP
  omega
theorem Cl.need_len {t : List C} {ls : ByteArray → List (Mb ByteArray)} (h : Cl t ls) (hv : Valid t) (ht : t.length ≤ 40) (p : P2) : (Tab.need ls p).length ≤ 14400 := by
 unfold Tab.need zipR
 split
 ·exact h.zip_len hv ht _ _
 ·simp
/-- Pairs of classes that differ are no more than there are. -/
theorem pairs_le {t : List C} {D : List P2} (hn : D.Nodup) (hD : ∀ p ∈ D, both t p = true) : D.length ≤ t.length * t.length := by
 let N := t.map C.name
 let A := N.flatMap fun s => N.map fun u => (s, u)
 have hA : A.length = t.length * t.length := by
  show (List.flatMap _ _).length = _
  rw [List.length_flatMap]
  simp only [N, List.length_map, List.map_map, Function.comp_def, List.map_const']
  first | (rw [List.sum_replicate_nat]) | simp
 rw [← hA]
 refine List.Nodup.length_le_of_subset hn fun p hp => ?_
 have hb := hD p hp
 unfold both at hb
 simp only [Bool.and_eq_true] at hb
 obtain ⟨i, hi, e1⟩ := isC_at hb.1
 obtain ⟨k, hk, e2⟩ := isC_at hb.2
 have mem : ∀ i, i < t.length → (nth t i).name ∈ N := fun i hi => List.mem_map.2 ⟨nth t i, List.mem_of_getElem? (of_nth hi), rfl⟩
 refine List.mem_flatMap.2 ⟨p.1, e1 ▸ mem i hi, List.mem_map.2 ⟨p.2, e2 ▸ mem k hk, rfl⟩⟩
end Go.Proofs.YtjdkegfckkbpeaaGreatDoor.Tab
namespace Go.Proofs.YtjdkegfckkbpeaaGreatDoor
open Go.ChangeShapes Go.WideShapes Go.ChangeAt Go.RowKit Go.Shelf
open Go.Maps (Keyed)
theorem src_prs {w : World} {a : Option Addr} {c : Nat} {l : List Tab.P2} (h : PrsAt w (.slice a l.length c) l) : Src Tryz.prog 2 140 (.slice a l.length c) l.length (l.flatMap qCells) w := by
 obtain ⟨a', c', e, h1, h2, h3⟩ := h
 injection e with e1 _ e2
 subst e1 e2
 cases a with
 | none =>
  have : l = [] := by
   cases l with
   | nil => rfl
   | cons x r =>
    obtain ⟨_, _, e, _⟩ := h3 0 x rfl
    cases e
  subst this
  exact Src.ofNil _ Tryz.underlying140 c
 | some ad =>
  refine Src.ofSlice _ Tryz.underlying140 ad l.length c (l.flatMap qCells) (flat_len qCells qCells_len l) ?_ ?_
  ·intro j v hv
   have hj : j < l.length * 2 := by
    have := (List.getElem?_eq_some_iff.1 hv).1
    rwa [flat_len qCells qCells_len l] at this
   have hx : l[j / 2]? = some l[j / 2] := List.getElem?_eq_getElem (by omega)
   obtain ⟨b, o, e, r0, r1, _⟩ := h3 _ _ hx
   injection e with e
   subst e
   have hf := flat_at qCells qCells_len l (j / 2) (j % 2) _ hx (Nat.mod_lt _ (by omega))
   have ej : j / 2 * 2 + j % 2 = j := by omega
   rw [ej, hv] at hf
   rw [addr_plain]
   rcases Nat.mod_two_eq_zero_or_one j with e | e
   ·rw [e] at hf
    have : v = .string l[j / 2].1 := by simpa [qCells] using hf
    rw [this]
    have e2 : o + j / 2 * 2 = o + j := by omega
    rw [← e2]; exact r0
   ·rw [e] at hf
    have : v = .string l[j / 2].2 := by simpa [qCells] using hf
    rw [this]
    have e2 : o + j / 2 * 2 + 1 = o + j := by omega
    rw [← e2]; exact r1
  ·intro v hv
   obtain ⟨p, _, hp⟩ := List.mem_flatMap.1 hv
   simp [qCells] at hp
   rcases hp with rfl | rfl <;> rfl
/-- What one pair of a relation needs, in memory, whatever becomes of some blocks. -/
def NdAt (ls : ByteArray → List (Tab.Mb ByteArray)) (S : Nat → Prop) (W : World) (v : Value) (p : Tab.P2) : Prop :=
 ∃ a c k, v = .agg #[.bool (Tab.hsv ls p), .slice a (Tab.need ls p).length c, .int .i64 k] ∧ ∀ w'', Only S W w'' → PrsAt w'' (.slice a (Tab.need ls p).length c) (Tab.need ls p)
theorem NdAt.ndv {ls : ByteArray → List (Tab.Mb ByteArray)} {S : Nat → Prop} {W : World} {v : Value} {p : Tab.P2} (h : NdAt ls S W v p) : NdV v := by
 obtain ⟨a, c, k, e, _⟩ := h
 exact ⟨_, _, _, _, _, e⟩
theorem NdAt.step {ls : ByteArray → List (Tab.Mb ByteArray)} {S T : Nat → Prop} {W W' : World} {v : Value} {p : Tab.P2} (h : NdAt ls S W v p) (ho : Only S W W') (hT : ∀ k, k < W.heap.size → T k → S k) : NdAt ls T W' v p := by
 obtain ⟨a, c, k, e, q⟩ := h
 exact ⟨a, c, k, e, fun w'' hw => q w'' (ho.trans' hw hT)⟩
/-- What the loop may turn: the map, and the list's own row. -/
def SP (v : Value) (mb b : Nat) : Prop := b = mb ∨ v.ownBlock = some b
theorem MapP.map_at {b n : Nat} {D : List Tab.P2} {g : Tab.P2 → Value} {W : World} (h : MapP b n D g W) : ∃ es clock, W.heap[b]? = some (.map es clock) := by
 obtain ⟨d, ⟨es, clock, hb, _⟩, _⟩ := h
 exact ⟨es, clock, hb⟩
theorem row_ne_map {W : World} {base k n b : Nat} {e : TypeId} {v : Value} {xs : List Value} (h : W.ownsRow base e k v n xs) (hm : ∃ es clock, W.heap[b]? = some (.map es clock)) : v.ownBlock ≠ some b := by
 obtain ⟨es, clock, hm⟩ := hm
 rcases h.2 with ⟨rfl, _⟩ | ⟨g, cap, cur, rfl, _, hg, _⟩
 ·simp [Value.ownBlock]
 ·intro e
  obtain rfl : g = b := by simpa [Value.ownBlock] using e
  rw [hg] at hm
  cases hm
theorem row_lt {W : World} {base k n : Nat} {e : TypeId} {v : Value} {xs : List Value} (h : W.ownsRow base e k v n xs) {b : Nat} (hb : v.ownBlock = some b) : base ≤ b ∧ b < W.heap.size := by
 rcases h.2 with ⟨rfl, _⟩ | ⟨g, cap, cur, rfl, h1, hg, _⟩
 ·simp [Value.ownBlock] at hb
 ·obtain rfl : g = b := by simpa [Value.ownBlock] using hb
  exact ⟨h1, (Array.getElem?_eq_some_iff.1 hg).1⟩
structure ReI (t : List Tab.C) (ls : ByteArray → List (Tab.Mb ByteArray)) (asked : Tab.P2) (w : World) (mb i : Nat) (D todo : List Tab.P2) (g : Tab.P2 → Value) (v : Value) (wr : World) : Prop where
 row : wr.ownsRow w.heap.size 81 2 v todo.length (todo.flatMap qCells)
 map : MapP mb D.length D g wr
 kept : Kept w wr
 mbn : w.heap.size ≤ mb
 td : Tab.Todo t ls asked 14400 D todo i
 nd : ∀ p ∈ D, NdAt ls (SP v mb) wr (g p) p
 fine : ∀ p ∈ todo, Fine p
section
variable {t : List Tab.C} {ls : ByteArray → List (Tab.Mb ByteArray)} {asked : Tab.P2} {w : World} {mb i : Nat} {D todo : List Tab.P2} {g : Tab.P2 → Value} {v : Value} {wr : World}
theorem ReI.short (h : ReI t ls asked w mb i D todo g v wr) (ht : t.length ≤ 40) : todo.length ≤ 23040001 := by
 have h1 := h.td.len
 have h2 := Tab.pairs_le h.map.nodup fun p hp => h.td.have' p (h.td.from' p hp)
 have h3 : t.length * t.length ≤ 40 * 40 := Nat.mul_le_mul ht ht
 have h4 : 14400 * D.length ≤ 14400 * 1600 := Nat.mul_le_mul_left _ (by omega)
 omega
theorem ReI.few (h : ReI t ls asked w mb i D todo g v wr) (ht : t.length ≤ 40) : D.length ≤ 1600 := by
 have h2 := Tab.pairs_le h.map.nodup fun p hp => h.td.have' p (h.td.from' p hp)
 have h3 : t.length * t.length ≤ 40 * 40 := Nat.mul_le_mul ht ht
 omega
theorem ReI.keep (h : ReI t ls asked w mb i D todo g v wr) {W : World} (k : Kept wr W) : ReI t ls asked w mb i D todo g v W :=
 ⟨owns_only (S := fun _ => False) h.row (Only.of_kept k) (fun _ _ h => h), h.map.kept k, h.kept.trans k, h.mbn, h.td, fun p hp => (h.nd p hp).step (Only.of_kept k) (fun _ _ h => h), h.fine⟩
theorem ReI.skip (h : ReI t ls asked w mb i D todo g v wr) {p : Tab.P2} (hp : todo[i]? = some p) (hd : p ∈ D) : ReI t ls asked w mb (i + 1) D todo g v wr :=
 { h with td := h.td.skip hp hd }
/-- A pair more in the map: all but the list. -/
theorem ReI.store (h : ReI t ls asked w mb i D todo g v wr) {X w2 w3 : World} (hX : Kept wr X) (k2 : Kept wr w2) {p : Tab.P2} (hd : ¬ p ∈ D) {a : Option Addr} {c : Nat} {k : Int}
  (hz : ∀ w'', Only (fun k => k < X.heap.size) w2 w'' → PrsAt w'' (.slice a (Tab.need ls p).length c) (Tab.need ls p))
  (hm : MapP mb (D.length + 1) (D ++ [p]) (fun q => if q = p then .agg #[.bool (Tab.hsv ls p), .slice a (Tab.need ls p).length c, .int .i64 k] else g q) w3) (hg : w2.grownBy w3 (some mb)) :
  w3.ownsRow w.heap.size 81 2 v todo.length (todo.flatMap qCells) ∧ Kept w w3 ∧ (∀ q ∈ D ++ [p], NdAt ls (SP v mb) w3 ((fun q => if q = p then .agg #[.bool (Tab.hsv ls p), .slice a (Tab.need ls p).length c, .int .i64 k] else g q) q) q) := by
 have h2 := h.keep k2
 have ho : Only (· = mb) w2 w3 := (Only.refl _ w2).grown hg fun k e => by cases e; exact .inl rfl
 have hmlt := h.map.lt
 have hbl : ∀ b, SP v mb b → b < wr.heap.size := fun b hb => by
  rcases hb with rfl | hb
  ·exact hmlt
  ·exact (row_lt h.row hb).2
 refine ⟨owns_typed h2.row ho fun g cs fr e hc => ?_, h2.kept.onlyS ho fun k e => by rw [e]; exact h.mbn, fun q hq => ?_⟩
 ·subst e
  obtain ⟨es, clock, hm⟩ := h2.map.map_at
  rw [hm] at hc
  cases hc
 ·by_cases e : q = p
  ·subst e
   refine ⟨a, c, k, by simp, fun w'' hw => hz w'' ?_⟩
   have hXs := hX.size
   refine (ho.mono fun b _ e => ?_).trans (hw.mono fun b _ e => ?_)
   ·rw [e]; omega
   ·have := hbl b e; omega
  ·rcases List.mem_append.1 hq with hq | hq
   ·simp only [e, if_false]
    exact (h2.nd q hq).step (ho.mono fun b _ e => .inl e) (fun _ _ h => h)
   ·simp at hq; exact absurd hq e
/-- .. the list as it was. -/
theorem ReI.put (h : ReI t ls asked w mb i D todo g v wr) {w3 w4 : World} {g' : Tab.P2 → Value} {p : Tab.P2} (hp : todo[i]? = some p) (hlen : (Tab.need ls p).length ≤ 14400) (ha : (Tab.need ls p).all (Tab.both t) = false)
  (hr : w3.ownsRow w.heap.size 81 2 v todo.length (todo.flatMap qCells)) (hk : Kept w w3) (hn : ∀ q ∈ D ++ [p], NdAt ls (SP v mb) w3 (g' q) q) (hm : MapP mb (D.length + 1) (D ++ [p]) g' w3) (k4 : Kept w3 w4) :
  ReI t ls asked w mb (i + 1) (D ++ [p]) todo g' v w4 := by
 have ht := h.td.put hp hlen
 rw [ha] at ht
 exact ⟨owns_only (S := fun _ => False) hr (Only.of_kept k4) (fun _ _ h => h), by rw [List.length_append]; exact hm.kept k4, hk.trans k4, h.mbn, ht, fun q hq => (hn q hq).step (Only.of_kept k4) (fun _ _ h => h), h.fine⟩
/-- .. what is needed behind it. -/
theorem ReI.more (h : ReI t ls asked w mb i D todo g v wr) {w3 w4 w5 : World} {g' : Tab.P2 → Value} {p : Tab.P2} {v' : Value} (hp : todo[i]? = some p) (hlen : (Tab.need ls p).length ≤ 14400) (ha : (Tab.need ls p).all (Tab.both t) = true)
  (hr : w3.ownsRow w.heap.size 81 2 v todo.length (todo.flatMap qCells)) (hk : Kept w w3) (hn : ∀ q ∈ D ++ [p], NdAt ls (SP v mb) w3 (g' q) q) (hm : MapP mb (D.length + 1) (D ++ [p]) g' w3) (k4 : Kept w3 w4) (hF : ∀ q ∈ Tab.need ls p, Fine q)
  (hown : w5.ownsRow w.heap.size 81 2 v' (todo.length + (Tab.need ls p).length) (todo.flatMap qCells ++ (Tab.need ls p).flatMap qCells)) (hg : w4.grownBy w5 v.ownBlock) (hl : v'.ownBlock = v.ownBlock ∨ v'.ownBlock = some w4.heap.size) :
  ReI t ls asked w mb (i + 1) (D ++ [p]) (todo ++ Tab.need ls p) g' v' w5 := by
 have ht := h.td.put hp hlen
 rw [ha, if_pos rfl] at ht
 have hr4 := owns_only (S := fun _ => False) hr (Only.of_kept k4) (fun _ _ h => h)
 have hm4 := hm.kept k4
 have ho : Only (fun b => v.ownBlock = some b) w4 w5 := (Only.refl _ w4).grown hg fun k e => .inl e
 refine ⟨by rw [List.length_append, List.flatMap_append]; exact hown, ?_, (hk.trans k4).onlyS ho fun k e => (row_lt hr4 e).1, h.mbn, ht, fun q hq => ?_, fun q hq => ?_⟩
 ·rw [List.length_append]
  exact hm4.only ho (row_ne_map hr4 hm4.map_at)
 ·have h4 : NdAt ls (SP v mb) w4 (g' q) q := (hn q hq).step (Only.of_kept k4) (fun _ _ h => h)
  refine h4.step (ho.mono fun b _ e => .inr e) fun k hk e => ?_
  rcases e with e | e
  ·exact .inl e
  ·rcases hl with hl | hl
   ·exact .inr (hl ▸ e)
   ·rw [hl] at e
    injection e with e
    omega
 ·rcases List.mem_append.1 hq with hq | hq
  ·exact h.fine q hq
  ·exact hF q hq
end
/-- What relation answers. -/
def ReOut (t : List Tab.C) (ls : ByteArray → List (Tab.Mb ByteArray)) (asked : Tab.P2) (w : World) (e : Ending) (w' : World) : Prop :=
 ∃ mb D g, e = .returned (.map (some mb)) ∧ MapP mb D.length D g w' ∧ Tab.Rel t ls D ∧ asked ∈ D ∧ Kept w w' ∧ w.heap.size ≤ mb ∧ ∀ p ∈ D, NdAt ls (· = mb) w' (g p) p
theorem ReI.out {t : List Tab.C} {ls : ByteArray → List (Tab.Mb ByteArray)} {asked : Tab.P2} {w : World} {mb : Nat} {D todo : List Tab.P2} {g : Tab.P2 → Value} {v : Value} {wr : World} (h : ReI t ls asked w mb todo.length D todo g v wr) (hc : Tab.Cl t ls) : ReOut t ls asked w (.returned (.map (some mb))) wr := by
 obtain ⟨h1, h2⟩ := h.td.end hc
 exact ⟨mb, D, g, rfl, h.map, h1, h2, h.kept, h.mbn, fun p hp => (h.nd p hp).step (Only.refl _ _) (fun k _ e => .inl e)⟩
theorem ReI.start {t : List Tab.C} {ls : ByteArray → List (Tab.Mb ByteArray)} {s u : ByteArray} {w : World} (hb : Tab.both t (s, u) = true) (hF : Fine (s, u)) (g : Tab.P2 → Value) :
  ReI t ls (s, u) w (w.heap.size + 1) 0 [] [(s, u)] g (.slice (some ⟨w.heap.size + 1 + 1, 0, none⟩) 1 1) (((w.alloc (.cells #[.string s, .string u] 81)).alloc (.map #[] 0)).alloc (.cells #[.string s, .string u] 81)) := by
 have hm := MapP.made (w.alloc (.cells #[.string s, .string u] 81)) g
 rw [World.size_alloc] at hm
 have hn := heap_alloc_new ((w.alloc (.cells #[.string s, .string u] 81)).alloc (.map #[] 0)) (.cells #[.string s, .string u] 81)
 rw [World.size_alloc, World.size_alloc] at hn
 exact ⟨⟨rfl, .inr ⟨w.heap.size + 1 + 1, 1, _, rfl, by omega, hn, Nat.le_refl _, by unfold maxLen; omega, rfl, rfl⟩⟩, hm.kept ((Kept.refl _).alloc _), (((Kept.refl w).alloc _).alloc _).alloc _, by omega, Tab.Todo.start hb, fun p hp => (by cases hp), fun p hp => (by simp at hp; subst hp; exact hF)⟩
theorem row_pair {w : World} {base g n c : Nat} {l : List Tab.P2} (h : w.ownsRow base 81 2 (.slice (some ⟨g, 0, none⟩) n c) l.length (l.flatMap qCells)) {j : Nat} {p : Tab.P2} (hp : l[j]? = some p) : w.cell? ⟨g, j * 2, none⟩ = some (.string p.1) ∧ w.cell? ⟨g, j * 2 + 1, none⟩ = some (.string p.2) := by
 have c0 := h.cells (g := g) rfl _ _ (flat_at qCells qCells_len l j 0 p hp (by omega))
 have c1 := h.cells (g := g) rfl _ _ (flat_at qCells qCells_len l j 1 p hp (by omega))
 rw [addr_plain] at c0 c1
 exact ⟨by simpa using c0, by simpa using c1⟩
theorem enters_have (args : Array Value) (w : World) : (callFunc 70 args).run Tryz.prog w = .ok (.enter 70 args) w := enters_of Tryz.func70 (by kernel_rfl) rfl args w
theorem enters_hasP (args : Array Value) (w : World) : (callFunc 73 args).run Tryz.prog w = .ok (.enter 73 args) w := enters_of Tryz.func73 (by kernel_rfl) rfl args w
set_option maxHeartbeats 8000000 in
theorem relation_c (t : List Tab.C) (ls : ByteArray → List (Tab.Mb ByteArray)) (cb : Nat) (s u : ByteArray) (w : World) (hc : Tab.Cl t ls) (hv : Tab.Valid t) (ht : t.length ≤ 40) (hC : ClM t ls cb w) (hF : Fine (s, u)) (hb : Tab.both t (s, u) = true) :
  Calls Tryz.prog 71 #[.map (some cb), .agg #[.string s, .string u]] w fun e w' => ReOut t ls (s, u) w e w' := by
 obtain ⟨i0, hi, hz0, hzz1, hzz2⟩ := info_parts info_pr
 have hmm := @run_makeMap Tryz.prog
 have HST := Lib.hid (ReI.start (t := t) (ls := ls) (w := w) hb hF fun _ => undef)
 have HC := Lib.hid hC
 clear hC hF hb
 go_enter Tryz.func71, Tryz.ntmps71
 go_wp2_with fail
 clear hmm
 go_loopw [6, 7] (fun l q wr => ∃ (i : Nat) (D todo : List Tab.P2) (g : Tab.P2 → Value), q = .int .i64 i ∧ i ≤ todo.length ∧ ReI t ls (s, u) w (w.heap.size + 1) i D todo g l wr) (fun l q wr => 30000000 - (intOf q).toNat)
 case atStart => exact ⟨0, [], [(s, u)], _, rfl, Nat.zero_le _, HST.out⟩
 case round =>
  obtain ⟨i, D, todo, g, rfl, hi', hI⟩ := hrel
  obtain ⟨wo, rfl⟩ : ∃ wo, wo = wr := ⟨_, rfl⟩
  have HI := Lib.hid hI
  have hshort := hI.short ht
  obtain ⟨la, lc, rfl⟩ := owns_slice_n hI.row
  have hlc : todo.length ≤ lc ∧ lc ≤ maxLen := by
   rcases hI.row.2 with ⟨h0, h1⟩ | ⟨_, _, _, hv', _, _, h3, h4, _⟩
   ·injection h0 with _ e2 e3
    rw [e2, e3]; exact ⟨Nat.le_refl _, Nat.zero_le _⟩
   ·injection hv' with _ _ e3
    rw [e3]; exact ⟨h3, h4⟩
  by_cases hlt : i < todo.length
  ·have hltI : (i : Int) < (todo.length : Int) := by omega
   have hx : todo[i]? = some todo[i] := List.getElem?_eq_getElem hlt
   generalize todo[i] = p at hx
   obtain ⟨p1, p2⟩ := p
   have hpF := hI.fine _ (List.mem_of_getElem? hx)
   have hpb := hI.td.have' _ (List.mem_of_getElem? hx)
   obtain ⟨gb, rfl, _⟩ := row_cells hI.row (by omega)
   obtain ⟨c0, c1⟩ := row_pair hI.row hx
   have HX := Lib.hid hx
   have HKp := Lib.hid ((Kept.refl wo).alloc (.cells #[.string p1, .string p2] 81))
   have HB := Lib.hid (Blk.new wo 81 #[.string p1, .string p2])
   have HH := Lib.hid (hasP_c (w.heap.size + 1) D.length D g p1 p2 _ ((hI.map).kept HKp.out) hpF fun q hq => (hI.nd q hq).ndv)
   have HPF := Lib.hid hpF
   clear hI hx
   cases hin : Tab.inP D (p1, p2) with
   | true =>
    rw [hin] at HH
    have HD := Lib.hid (Tab.inP_iff.1 hin)
    go_wp2_with fail
    refine HH.out.mono ?_
    rintro e w1 ⟨rfl, k1⟩
    have HN := Lib.hid ((HI.out.keep (HKp.out.trans k1)).skip HX.out HD.out)
    clear k1
    go_wp2_with fail
    go_roundw
    case rel => exact ⟨i + 1, D, todo, g, by go_num, by omega, HN.out⟩
    case measure => simp [intOf]; omega
   | false =>
    rw [hin] at HH
    have HD := Lib.hid (Tab.inP_no.1 hin)
    have HDN := Lib.hid hin
    go_wp2_with fail
    refine HH.out.mono ?_
    rintro e w1 ⟨rfl, k1⟩
    have hB1 := HB.out.kept k1
    have r0 := hB1.cell 0
    have r1 := hB1.cell 1
    simp only [List.getElem?_toArray, List.getElem?_cons_zero, List.getElem?_cons_succ] at r0 r1
    have HK1 := Lib.hid (HKp.out.trans k1)
    have HKW := Lib.hid (HI.out.kept.trans (HKp.out.trans k1))
    obtain ⟨a1, cc1, hl1, hm1⟩ := (HC.out.kept HKW.out).look1 hc HPF.out.1
    obtain ⟨a2, cc2, hl2, hm2⟩ := (HC.out.kept HKW.out).look1 hc HPF.out.2
    have HZ := Lib.hid (zip_c (ls p1) (ls p2) a1 a2 cc1 cc2 w1 hm1 hm2 (hc.asc _) (hc.asc _) (hc.tl _) (hc.tl _) (Nat.le_trans (hc.zip_len hv ht p1 p2) (by omega)))
    have HB1 := Lib.hid hB1
    clear k1 hB1 hm1 hm2 hin c0 c1
    go_wp2_with fail
    refine HZ.out.mono ?_
    rintro e w2 ⟨za, zc, rfl, hz, k2⟩
    have hB2 := HB1.out.kept k2
    have s0 := hB2.cell 0
    have s1 := hB2.cell 1
    simp only [List.getElem?_toArray, List.getElem?_cons_zero, List.getElem?_cons_succ] at s0 s1
    have HK2 := Lib.hid (HK1.out.trans k2)
    have hmlt : w.heap.size + 1 < w1.heap.size := Nat.lt_of_lt_of_le HI.out.map.lt HK1.out.size
    obtain ⟨w3, hup, hm', hg'⟩ := (HI.out.map.kept HK2.out).store (t := 111) (e := 144) Tryz.underlying111 (by have := HI.out.few ht; unfold maxLen; omega) HPF.out HDN.out (.agg #[.bool (Tab.hsv ls (p1, p2)), .slice za (Tab.need ls (p1, p2)).length zc, .int .i64 (i : Int)])
    have ho3 : Only (fun k => k < w1.heap.size) w2 w3 := (Only.refl _ w2).grown hg' fun k e => by cases e; exact .inl hmlt
    obtain ⟨q1, q2, q3⟩ := HI.out.store HK1.out HK2.out HD.out hz hm' hg'
    have hup' : (Instr.mapUpdate 111 (.map (some (w.heap.size + 1))) (.agg #[.string p1, .string p2]) (.agg #[.bool (Tab.hasB (ls p1) (ls p2)), .slice za (Tab.zipR (ls p1) (ls p2)).length zc, .int .i64 (i : Int)])).run Tryz.prog w2 = .ok () w3 := hup
    have HZ3 := Lib.hid (fun w'' (h : Only (fun k => k < w1.heap.size) w3 w'') => hz w'' (ho3.trans h))
    have HA := Lib.hid (all_c 70 (.map (some cb)) (Tab.both t) w3 enters_have (fun s u W hF kW => have_c t ls cb s u W ((HC.out.kept q2).kept kW) hF.1 hF.2) (Tab.zipR (ls p1) (ls p2)) za zc w3 (HZ3.out w3 (Only.refl _ _)) (Kept.refl _))
    have HM3 := Lib.hid hm'
    have HR3 := Lib.hid q1
    have HK3 := Lib.hid q2
    have HN3 := Lib.hid q3
    have HLN := Lib.hid (hc.need_len hv ht (p1, p2))
    clear hz k2 hB2 hup hm' hg' q1 q2 q3 ho3 hmlt
    cases hal : (Tab.zipR (ls p1) (ls p2)).all (Tab.both t) with
    | false =>
     rw [hal] at HA
     have HAL := Lib.hid (show (Tab.need ls (p1, p2)).all (Tab.both t) = false from hal)
     clear hal
     go_wp2_with fail
     refine HA.out.mono ?_
     rintro e w4 ⟨rfl, k4⟩
     have HE := Lib.hid (HI.out.put HX.out HLN.out HAL.out HR3.out HK3.out HN3.out HM3.out k4)
     clear k4
     go_wp2_with fail
     go_roundw
     case rel => exact ⟨i + 1, _, todo, _, by go_num, by omega, HE.out⟩
     case measure => simp [intOf]; omega
    | true =>
     rw [hal] at HA
     have HAL := Lib.hid (show (Tab.need ls (p1, p2)).all (Tab.both t) = true from hal)
     clear hal
     go_wp2_with fail
     refine HA.out.mono ?_
     rintro e w4 ⟨rfl, k4⟩
     have HK4 := Lib.hid k4
     have HR4 := Lib.hid (owns_only (S := fun _ => False) HR3.out (Only.of_kept k4) (fun _ _ h => h))
     have HZ4 := Lib.hid (HZ3.out w4 (Only.of_kept k4))
     have HS4 := Lib.hid (src_prs HZ4.out)
     have HLM : (Tab.zipR (ls p1) (ls p2)).length ≤ 14400 := HLN.out
     have hws := (HK3.out.trans k4).size
     clear k4
     go_wp2_with (at_builtin; refine wpList_apk rfl (.tmp 49) (.tmp 50) 140 140 rfl w.heap.size 2 81 i0 _ 32 Tryz.underlying140 hi hz0 hzz1 hzz2 rfl rfl HR4.out rfl HS4.out (by unfold maxLen; omega) (by omega) hws ?_; intro v' w5 hown' hgrow hlies; have HE := Lib.hid (HI.out.more HX.out HLN.out HAL.out HR3.out HK3.out HN3.out HM3.out HK4.out (Row.fine HZ4.out) hown' hgrow hlies); obtain ⟨va', vn', vc', rfl⟩ := owns_slice hown'; clear hown' hgrow hlies)
     go_roundw
     case rel => exact ⟨i + 1, _, _, _, by go_num, by rw [List.length_append]; omega, HE.out⟩
     case measure => simp [intOf]; omega
  ·have hltI : ¬ (i : Int) < (todo.length : Int) := by omega
   obtain rfl : i = todo.length := by omega
   have HO := Lib.hid (HI.out.out hc)
   clear hI
   go_wp2_with fail
   go_ret
   exact HO.out
end Go.Proofs.YtjdkegfckkbpeaaGreatDoor
namespace Go.Proofs.YtjdkegfckkbpeaaGreatDoor
open Go.ChangeShapes Go.WideShapes Go.ChangeAt Go.RowKit Go.Shelf
open Go.Maps (Keyed)
attribute [local go_sem] Oper.semAt_some
theorem ranges_only {H : Type} {P : Program} {k : TypeId} {R : Value → Option (DataW H × List MemPlace)} {w w' : World} {b r n : Nat} {D : DataW H} {left : Lit → Bool} {cnt : Nat} {S : Nat → Prop}
  (h : w.ranges P k R b r n D left cnt) (ho : Only S w w') (hb : ¬ S b) (hr : ¬ S r) : w'.ranges P k R b r n D left cnt := by
 obtain ⟨es, clock, since, seen, c0, h1, F, hs, hD, h2, rest⟩ := h
 exact ⟨es, clock, since, seen, c0, ho.same h1 hb, F, hs, hD, ho.same h2 hr, rest⟩
/-- The keys so far. -/
def CollP (D : List Tab.P2) (left : Lit → Bool) (ss : List Tab.P2) : Prop := ss.Nodup ∧ (∀ p ∈ ss, Fine p) ∧ ∀ p, Fine p → (p ∈ ss ↔ (p ∈ D ∧ left (kl p) = false))
theorem CollP.start {b n : Nat} {D : List Tab.P2} {g : Tab.P2 → Value} {d : DataW Value} (h : ∀ p, Fine p → Maps.has d (kl p) = Tab.inP D p) : CollP D (Maps.has d) [] :=
 ⟨List.nodup_nil, fun p h => (by cases h), fun p hp => by
  rw [h p hp, Tab.inP_no]
  simp⟩
theorem CollP.step {D : List Tab.P2} {left : Lit → Bool} {ss : List Tab.P2} (h : CollP D left ss) {p : Tab.P2} (hp : Fine p) (hd : p ∈ D) (hl : left (kl p) = true) : CollP D (fun z => left z && !z.sameKey (kl p)) (ss ++ [p]) := by
 have hnew : ¬ p ∈ ss := fun hx => by have := ((h.2.2 p hp).1 hx).2; rw [hl] at this; cases this
 refine ⟨List.nodup_append.2 ⟨h.1, by simp, fun a ha b hb => by simp at hb; subst hb; exact fun e => hnew (e ▸ ha)⟩, fun q hq => ?_, fun q hq => ?_⟩
 ·rcases List.mem_append.1 hq with hq | hq
  ·exact h.2.1 q hq
  ·simp at hq; subst hq; exact hp
 ·by_cases e : q = p
  ·subst e
   have hs : (kl q).sameKey (kl q) = true := WideAt.sameKey_self kl_isKey
   show q ∈ ss ++ [q] ↔ (q ∈ D ∧ (left (kl q) && !(kl q).sameKey (kl q)) = false)
   rw [hs]
   simp [hd]
  ·have hk : (kl q).sameKey (kl p) = false := Maps.sameKey_ne fun h => e (kl_inj hq hp h)
   show q ∈ ss ++ [p] ↔ (q ∈ D ∧ (left (kl q) && !(kl q).sameKey (kl p)) = false)
   rw [hk]
   simp [h.2.2 q hq, e]
theorem CollP.end {D : List Tab.P2} {left : Lit → Bool} {ss : List Tab.P2} (h : CollP D left ss) (hn : D.Nodup) (hF : ∀ p ∈ D, Fine p) (hl : ∀ z, left z = false) : ss.Perm D := by
 refine (List.perm_ext_iff_of_nodup h.1 hn).2 fun p => ⟨fun hp => ((h.2.2 p (h.2.1 p hp)).1 hp).1, fun hp => (h.2.2 p (hF p hp)).2 ⟨hp, hl _⟩⟩
/-- What the body is told of the keys so far. -/
def KeyG (D : List Tab.P2) (pre : List Tab.P2) : Prop := pre.Nodup ∧ ∀ p ∈ pre, p ∈ D
theorem CollP.keyG {D : List Tab.P2} {left : Lit → Bool} {ss : List Tab.P2} (h : CollP D left ss) : KeyG D ss := ⟨h.1, fun p hp => ((h.2.2 p (h.2.1 p hp)).1 hp).1⟩
theorem KeyG.le {D pre : List Tab.P2} (h : KeyG D pre) : pre.length ≤ D.length := List.Nodup.length_le_of_subset h.1 h.2
def kEnc (p : Tab.P2) : Array Value := #[.agg #[.string p.1, .string p.2]]
set_option maxHeartbeats 4000000 in
theorem keys1_own (n : Nat) (hn : 1 ≤ n) (b nn Bm : Nat) (D : List Tab.P2) (g : Tab.P2 → Value) (U : Nat → Prop) (W1 : World) (hM : MapP b nn D g W1) (hbm : Blk W1 Bm 111 #[.map (some b)])
  (hU : ∀ k, U k → k ≠ b ∧ k ≠ W1.heap.size) (hb : b + 1 < W1.heap.size) :
  SeqOwn Fence.wide n Tryz.prog 183 #[.pointer (some ⟨Bm, 0, none⟩)] kEnc (fun _ => False) U (fun xs => xs.Perm D) (fun _ => True) (KeyG D) 1 W1 := by
 intro l J Jx hl abJ abX hY hJ0
 have HM := hM
 obtain ⟨d, hown, hsz, hnd, hfine, hhas, hat0⟩ := hM
 have c0 := hbm.cell 0
 simp at c0
 have HY := Lib.hid hY
 have HJ := Lib.hid abJ
 have HHAS := Lib.hid hhas
 have HFI := Lib.hid hfine
 have HU := Lib.hid hU
 clear hY abJ hat0 hU hhas hfine
 refine callsIn_of_wp Tryz.func183 rfl trivial ?_ rfl
 simp only [Tryz.ntmps183, List.size_toArray, List.length_cons, List.length_nil, Nat.reduceAdd, Nat.reduceSub, Array.replicate_succ, Array.replicate_zero, List.push_toArray, List.append_toArray, List.nil_append, List.cons_append]
 gi_wp2_with (first
  | (gi_at_range; refine wpListIn_range_own _ rfl _ 111 rfl 81 144 pair_law Tryz.underlying111 _ b nn _ rfl hown ?_; intro w0 hrg0 hg0 hs0)
  | gi_in)
 try go_frame
 gi_loopw [3] (fun _ wr => ∃ (left : Lit → Bool) (cnt : Nat) (ss : List Tab.P2), wr.ranges Tryz.prog 81 selfElem b W1.heap.size nn d left cnt ∧ CollP D left ss ∧ J ss wr ∧ W1.heap.size + 1 ≤ wr.heap.size)
  (fun _ wr => wr.rangeLeft b W1.heap.size)
 case atStart => exact ⟨_, _, [], hrg0, CollP.start (b := b) (n := nn) (g := g) HHAS.out, HJ.out _ _ _ hJ0 ((Only.refl _ _).grown hg0 fun k e => by cases e), by omega⟩
 case round =>
  obtain ⟨left, cnt, ss, hrg, hC, hJs, hsw⟩ := hrel
  gi_wp2_with (first
   | (gi_at_next; refine wpListIn_next_ranges _ rfl _ rfl 81 pair_law selfElem (fun p : Tab.P2 => (.agg #[.string p.1, .string p.2] : Value)) id (fun key kl' hk => by obtain ⟨x, hx, _⟩ := keyOf_inv hk; exact ⟨x, hx⟩) (fun v _ _ => ⟨v, rfl⟩) b W1.heap.size nn _ _ _ rfl hrg ?_ ?_)
   | gi_in)
  ·intro hc0 hl0
   gi_wp2
   go_end0
   exact ⟨⟨_, rfl⟩, .inl ⟨ss, hC.end hnd HFI.out hl0, hJs⟩⟩
  ·intro x1 x2 c kl' yd yp w2 cnt2 hkey hlk hv hat hrg2 hlt hg2 hs2 hen
   obtain ⟨p, hp, hF⟩ := keyOf_inv hkey
   have ep : p = (x1, x2) := by
    obtain ⟨p1, p2⟩ := p
    simp at hp
    rw [hp.1, hp.2]
   subst ep
   have ekl : kl' = kl (x1, x2) := Option.some.inj (hkey.symm.trans (keyOf_pair hF))
   subst ekl
   have hxD : (x1, x2) ∈ D := Tab.inP_iff.1 (by rw [← HHAS.out _ hF]; exact Maps.has_true_of_atKey hat)
   have HC2 := Lib.hid (hC.step hF hxD hlk)
   have ho2 : Only (fun k => False ∨ W1.heap.size ≤ k ∧ k < W1.heap.size + 1) wr (w2.alloc (.cells #[.string x1, .string x2] 81)) := ((Only.refl _ wr).grown hg2 fun k e => by cases e; exact .inl (.inr ⟨Nat.le_refl _, by omega⟩)).alloc _
   have HJ2 := Lib.hid (HJ.out _ _ _ hJs ho2)
   have HR2 := Lib.hid (hrg2.alloc (.cells #[.string x1, .string x2] 81))
   have HLT := Lib.hid (show cnt2 < wr.rangeLeft b W1.heap.size by rw [hrg.left_eq]; exact hlt)
   obtain ⟨fn, tmps, assign, body, hy, hR⟩ := HY.out ss (x1, x2) _ HJ2.out HC2.out.keyG (by rw [World.size_alloc]; omega)
   have hy' : (Instr.yield l #[.agg #[.string x1, .string x2]]).run Tryz.prog (w2.alloc (.cells #[.string x1, .string x2] 81)) = .ok (.round l fn tmps assign body) (w2.alloc (.cells #[.string x1, .string x2] 81)) := hy
   have hen' : (Instr.entry (.pointer (some ⟨W1.heap.size, 0, none⟩))).run Tryz.prog w2 = .ok (.tuple #[.agg #[.string x1, .string x2], c]) w2 := hen
   have hsz2 : W1.heap.size + 1 ≤ (w2.alloc (.cells #[.string x1, .string x2] 81)).heap.size := by rw [World.size_alloc]; omega
   clear hy hen hs2 hg2 hrg2 hrg hC hJs ho2 hat hkey hlk hp hv hlt hxD
   gi_wp2
   refine hR.mono ?_
   rintro e W4 (⟨rfl, hJ4, ho4⟩ | ⟨rfl, hX4⟩)
   ·have HR4 := Lib.hid (ranges_only HR2.out ho4 (fun h => by rcases h with h | h; exact (HU.out _ h).1 rfl; omega) (fun h => by rcases h with h | h; exact (HU.out _ h).2 rfl; omega))
    have HJ4 := Lib.hid hJ4
    have HS4 := Lib.hid (Nat.le_trans hsz2 ho4.size)
    clear hJ4 ho4
    gi_wp2
    go_roundw
    case rel => exact ⟨_, cnt2, ss ++ [(x1, x2)], HR4.out, HC2.out, HJ4.out, HS4.out⟩
    case measure => rw [HR4.out.left_eq]; exact HLT.out
   ·gi_wp2
    refine bodyPost_ret (results_none rfl _ _ _) rfl ?_
    exact ⟨⟨_, rfl⟩, .inr ⟨_, trivial, hX4⟩⟩
def keyW (p : Tab.P2) (W : World) : World := W.alloc (.cells #[.string p.1, .string p.2] 81)
theorem keyW_kept (p : Tab.P2) (W : World) : Kept W (keyW p W) := (Kept.refl W).alloc _
/-- Within AppendSeq's loop: the keys so far. -/
def KyI (w : World) (pre : List Tab.P2) (W : World) : Prop :=
 (∃ v, Blk W w.heap.size 140 #[v] ∧ W.ownsRow (w.heap.size + 4) 81 2 v pre.length (pre.flatMap qCells)) ∧ Kept w W
theorem appended_only2 {W w1 : World} {B n₁ n m : Nat} {v v' : Value} {xs ys : List Value} (hv : Blk W B 140 #[v]) (hrow : W.ownsRow n₁ 81 2 v n xs) (hN : n₁ ≤ W.heap.size) (hB : B < n₁)
  (hown : w1.ownsRow n₁ 81 2 v' m ys) (hg : W.grownBy w1 v.ownBlock) :
  Blk w1 B 140 #[v] ∧ Blk (w1.setCell ⟨B, 0, none⟩ v') B 140 #[v'] ∧ (w1.setCell ⟨B, 0, none⟩ v').ownsRow n₁ 81 2 v' m ys ∧ Only (fun k => k = B ∨ n₁ ≤ k) W (w1.setCell ⟨B, 0, none⟩ v') := by
 have hb1 : Blk w1 B 140 #[v] := hv.grownBy hg (ne_row_blk hv (by decide) hrow)
 refine ⟨hb1, hb1.put 0 v', owns_only hown ((Only.refl (· = B) w1).put 0 v') (fun g hg' e => by omega), ?_⟩
 have h1 : Only (fun k => k = B ∨ n₁ ≤ k) W w1 := (Only.refl _ W).grown hg fun k e => .inl (.inr (row_lt hrow e).1)
 exact h1.trans (((Only.refl (· = B) w1).put 0 v').mono fun k _ e => .inl e)
theorem pair_new (W : World) (p1 p2 : ByteArray) : ∀ (j : Nat) (v : Value), [Value.string p1, .string p2][j]? = some v → (W.alloc (.cells #[.string p1, .string p2] 81)).cell? ((⟨W.heap.size, 0, none⟩ : Addr).add j) = some v := by
 intro j v hv
 rw [addr_plain, (Blk.new W _ _).cell, Nat.zero_add]
 simpa using hv
set_option maxHeartbeats 4000000 in
theorem appkeys_c (b nn Bm : Nat) (D : List Tab.P2) (g : Tab.P2 → Value) (w : World) (hM : MapP b nn D g w) (hbm : Blk w Bm 111 #[.map (some b)]) (hD : D.length ≤ 1000000) :
  Calls Tryz.prog 210 #[.slice none 0 0, .func (.func 183) #[] #[.pointer (some ⟨Bm, 0, none⟩)]] w fun e w' =>
   ∃ (v : Value) (ps : List Tab.P2), e = .returned v ∧ ps.Perm D ∧ w'.ownsRow (w.heap.size + 4) 81 2 v ps.length (ps.flatMap qCells) ∧ Kept w w' := by
 obtain ⟨i0, hi, hz0, hzz1, hzz2⟩ := info_parts info_pr
 refine (callsIn_wide (n := 3)).1 (callsIn_of_wp_marks Tryz.func210 rfl trivial (wpIn_wide.2 ?_) rfl)
 simp only [Tryz.ntmps210, List.size_toArray, List.length_cons, List.length_nil, Nat.reduceAdd, Nat.reduceSub, Array.replicate_succ, Array.replicate_zero, List.push_toArray, List.append_toArray, List.nil_append, List.cons_append]
 go_wp2_with fail
 have hk0 : Kept w (w.alloc (.cells #[.slice none 0 0] 140)) := (Kept.refl w).alloc _
 have b0 := Blk.new w 140 #[.slice none 0 0]
 have l1 := hM.lt
 have l2 := hbm.lt
 obtain ⟨W0, hW0⟩ : ∃ W0, w.alloc (.cells #[.slice none 0 0] 140) = W0 := ⟨_, rfl⟩
 have hsz : W0.heap.size = w.heap.size + 1 := by rw [← hW0]; simp
 rw [hW0] at hk0 b0 ⊢
 have hUU : ∀ k, (k = w.heap.size ∨ w.heap.size + 4 ≤ k) → k ≠ b ∧ k ≠ W0.heap.size + 2 := fun k h => by omega
 refine wpIn_wide.1 (wpIn_rangeFunc_ownA (F := Fence.wide) (n := 3) rfl (by omega) rfl trivial (enters_of Tryz.func183 (by kernel_rfl) rfl)
  (It := fun _ => False) (U := fun k => k = w.heap.size ∨ w.heap.size + 4 ≤ k) (S := fun xs => xs.Perm D) (Sp := fun _ => True) (G := KeyG D) (m := 1) (encs := kEnc)
  (fun W1 hk1 hs1 => keys1_own (3 - 1) (by omega) b nn Bm D g (fun k => k = w.heap.size ∨ w.heap.size + 4 ≤ k) W1 (hM.kept (hk0.trans hk1)) (hbm.kept (hk0.trans hk1)) (fun k h => by have := hUU k h; omega) (by omega))
  (fun k e => e.elim) (fun k h => by rcases h with h | h <;> omega) (fun _ => rfl)
  (KyI w) (fun _ _ _ => False) ?hI (fun _ _ _ _ h _ => h) ⟨⟨_, b0, World.ownsRow_nil _ _ _ _⟩, hk0⟩
  (fun p W => { tmps := #[.slice none 0 0, .func (.func 183) #[] #[.pointer (some ⟨Bm, 0, none⟩)], .pointer (some ⟨w.heap.size, 0, none⟩), undef, .slice none 0 0, .pointer (some ⟨W.heap.size, 0, none⟩), .func (.func 183) #[] #[.pointer (some ⟨Bm, 0, none⟩)], .agg #[.string p.1, .string p.2], undef, undef, undef, undef, undef], defers := [] }) keyW keyW_kept ?assign ?body ?done ?stop)
 case hI =>
  rintro pre A B ⟨⟨v, h1, h2⟩, h4⟩ ho
  exact ⟨⟨v, Blk.only h1 ho (by rintro (h | h) <;> omega), owns_only h2 ho (fun g hg h => by rcases h with h | h <;> omega)⟩, h4.onlyS ho (fun k h => by rcases h with h | h; exact h.elim; omega)⟩
 case assign =>
  intro l p W K hK
  unfold keyW at hK
  simp only [kEnc]
  gi_wp2
  exact hK
 case body =>
  rintro l pre ⟨p1, p2⟩ Wa W rfl hlW hoW ⟨r, hr⟩ ⟨⟨v, hv, hrow⟩, hKp⟩ hpre hsize
  have hlen : pre.length ≤ 1000000 := by
   have h1 := hpre.le
   simp at h1
   omega
  have hc := hv.cell 0
  simp at hc
  have hN : w.heap.size + 4 ≤ W.heap.size := by omega
  have hbp : Blk W Wa.heap.size 81 #[.string p1, .string p2] := (Blk.new Wa 81 #[.string p1, .string p2]).only hoW (by omega)
  have d0 := hbp.cell 0
  have d1 := hbp.cell 1
  simp only [List.getElem?_toArray, List.getElem?_cons_zero, List.getElem?_cons_succ] at d0 d1
  have HSX := Lib.hid (src_pr W p1 p2)
  have HV := Lib.hid hv
  have HROW := Lib.hid hrow
  have HKP := Lib.hid hKp
  obtain ⟨va, vn, vc, rfl⟩ := owns_slice hrow
  clear b0 hk0 hpre hv hrow hKp hbp hoW hr
  gi_wp2_with (gi_at_builtin; refine wpListIn_append_own _ rfl _ _ 140 rfl (w.heap.size + 4) 81 i0 (.agg #[.string ⟨#[]⟩, .string ⟨#[]⟩]) 2 32 Tryz.underlying140 hi hz0 hzz1 hzz2 rfl (by decide) _ _ _ rfl (HROW.out.alloc _) ⟨W.heap.size, 0, none⟩ 1 1 [.string p1, .string p2] rfl rfl (pair_new W p1 p2) (by simp [Value.oneCell']) (by unfold maxLen; omega) (by omega) (by simp; omega) ?_; intro v' w1 hown' hgrow _; obtain ⟨va', vn', vc', rfl⟩ := owns_slice hown'; obtain ⟨hv1, hv2, hr2, hb2⟩ := appended_only2 (HV.out.alloc (.cells #[.string p1, .string p2] 81)) (HROW.out.alloc (.cells #[.string p1, .string p2] 81)) (by simp; omega) (by omega) hown' hgrow; have hc1 := hv1.cell 0; have hf1 := hv1.frozen 0; have HV2 := Lib.hid hv2; have HR2 := Lib.hid hr2; have HB2 := Lib.hid hb2; clear hv1 hv2 hr2 hb2 hown' hgrow)
  have HO := Lib.hid ((((Only.refl (fun k => k = w.heap.size ∨ w.heap.size + 4 ≤ k) W).alloc (.cells #[.string p1, .string p2] 81))).trans HB2.out)
  refine ⟨HO.out, ⟨_, HV2.out, ?_⟩, HKP.out.onlyS HO.out (fun k h => by rcases h with h | h <;> omega)⟩
  rw [List.length_append, List.flatMap_append]
  simpa [qCells] using HR2.out
 case done =>
  rintro D' xs W hD' hS ⟨⟨v, hv, hrow⟩, hKp⟩ hd
  have HD := Lib.hid (hD'.trans hsz)
  clear hD'
  have hc := hv.cell 0
  simp at hc
  have HO := Lib.hid (show Only (· = D') W (W.putObj D' (.deferred none)) from Only.putObj (Only.refl (· = D') W) (.inl rfl) _)
  have HR := Lib.hid hrow
  have HS := Lib.hid hS
  have hcs : v = .slice none 0 0 ∨ ∃ g cap n, v = .slice (some ⟨g, 0, none⟩) n cap := hrow.2.elim (fun h => .inl h.1) (fun ⟨g, cap, _, h, _⟩ => .inr ⟨g, cap, _, h⟩)
  clear hrow hS
  rcases hcs with rfl | ⟨g, cap, n, rfl⟩
  all_goals
   go_wp2
   refine ⟨by simp, .inl ⟨_, _, rfl, run_takeDeferred hd, ?_⟩⟩
   exact ⟨_, results_tmp rfl _ _ _, _, xs, rfl, HS.out, owns_only HR.out HO.out (by intro g hg e; have := HD.out; omega), hKp.onlyS HO.out (by intro k e; have := HD.out; omega)⟩
 case stop =>
  rintro D' c pre W _ _ h _
  exact h.elim
end Go.Proofs.YtjdkegfckkbpeaaGreatDoor
namespace Go.Proofs.YtjdkegfckkbpeaaGreatDoor
open Go.ChangeShapes Go.WideShapes Go.ChangeAt Go.RowKit Go.Shelf Go.Sort
/-- Pairs of types that a key may be made of. -/
def FP := {p : Tab.P2 // Fine p}
theorem fine_none : Fine (⟨#[]⟩, ⟨#[]⟩) := ⟨Nat.zero_le _, Nat.zero_le _⟩
instance : Inhabited FP := ⟨⟨(⟨#[]⟩, ⟨#[]⟩), fine_none⟩⟩
def fCells (x : FP) : List Value := [.string x.1.1, .string x.1.2]
theorem fCells_len (x : FP) : (fCells x).length = 2 := rfl
def atV : Value → Int
 | .agg a => match a.toList with
  | [_, _, .int _ k] => k
  | _ => 0
 | _ => 0
def cmpI (a b : Int) : Int := if a < b then -1 else if b < a then 1 else 0
theorem cmpI_lt (a b : Int) : decide (cmpI a b < 0) = decide (a < b) := by
 unfold cmpI
 by_cases h : a < b
 ·simp [h]
 ·by_cases k : b < a <;> simp [h, k]
/-- When a pair was found. -/
def atP (D : List Tab.P2) (g : Tab.P2 → Value) (p : Tab.P2) : Int := if Tab.inP D p then atV (g p) else 0
def cfQ (h : Tab.P2 → Int) (x y : FP) : Int := cmpI (h y.1) (h x.1)
theorem ltQ (h : Tab.P2 → Int) (x y : FP) : ltOf (cfQ h) x y = decide (h y.1 < h x.1) := by
 show decide (cmpI _ _ < 0) = _
 exact cmpI_lt _ _
theorem swoQ (h : Tab.P2 → Int) : SWO (ltOf (cfQ h)) where
 irrefl x := by rw [ltQ]; simp
 trans x y z h1 h2 := by rw [ltQ] at *; simp only [decide_eq_true_eq] at *; omega
 ntrans x y z h1 h2 := by rw [ltQ] at *; simp only [decide_eq_false_iff_not] at *; omega
theorem cmpInt_c (a b : Int) (w : World) :
  Calls Tryz.prog 146 #[.int .i64 a, .int .i64 b] w fun e w' => e = .returned (.int .i64 (cmpI a b)) ∧ w' = w := by
 have ha : (a == a) = true := by simp
 have hb : (b == b) = true := by simp
 by_cases h : a < b
 ·have hq : cmpI a b = -1 := by unfold cmpI; simp [h]
  rw [hq]
  clear hq
  go_enter Tryz.func146, Tryz.ntmps146
  go_wp2
  go_ret
  exact ⟨rfl, rfl⟩
 ·by_cases k : b < a
  ·have hq : cmpI a b = 1 := by unfold cmpI; simp [h, k]
   rw [hq]
   clear hq
   go_enter Tryz.func146, Tryz.ntmps146
   go_wp2
   go_ret
   exact ⟨rfl, rfl⟩
  ·have hq : cmpI a b = 0 := by unfold cmpI; simp [h, k]
   rw [hq]
   clear hq
   go_enter Tryz.func146, Tryz.ntmps146
   go_wp2
   go_ret
   exact ⟨rfl, rfl⟩
/-- What a look-up in a relation tells, with when the pair was found. -/
theorem MapP.look_at {b n : Nat} {D : List Tab.P2} {g : Tab.P2 → Value} {W : World} (h : MapP b n D g W) (hg : ∀ q ∈ D, NdV (g q)) (s u : ByteArray) (hp : Fine (s, u)) :
  ∃ x a m c, (Instr.lookup 111 (.map (some b)) (.agg #[.string s, .string u]) false).run Tryz.prog W = .ok (.agg #[.bool x, .slice a m c, .int .i64 (atP D g (s, u))]) W := by
 have hl := h.look1 (t := 111) (e := 144) Tryz.underlying111 (zero_needs _) hp
 cases e : Tab.inP D (s, u) with
 | true =>
  obtain ⟨x, a, m, c, k, e'⟩ := hg _ (Tab.inP_iff.1 e)
  rw [e, e'] at hl
  refine ⟨x, a, m, c, ?_⟩
  have : atP D g (s, u) = k := by unfold atP; rw [e, e']; rfl
  rw [this]
  simpa using hl
 | false =>
  rw [e] at hl
  refine ⟨false, none, 0, 0, ?_⟩
  have : atP D g (s, u) = 0 := by unfold atP; rw [e]; rfl
  rw [this]
  simpa using hl
set_option maxHeartbeats 2000000 in
theorem cloQ_c (b n B : Nat) (D : List Tab.P2) (g : Tab.P2 → Value) (x1 x2 y1 y2 : ByteArray) (W : World) (hM : MapP b n D g W) (hg : ∀ q ∈ D, NdV (g q)) (hB : Blk W B 111 #[.map (some b)]) (hx : Fine (x1, x2)) (hy : Fine (y1, y2)) :
  Calls Tryz.prog 145 #[.agg #[.string x1, .string x2], .agg #[.string y1, .string y2], .pointer (some ⟨B, 0, none⟩)] W fun e w' =>
   e = .returned (.int .i64 (cmpI (atP D g (y1, y2)) (atP D g (x1, x2)))) ∧ ∃ q os', w' = Go.Sort.grow (W.drewN q) os' := by
 have HC := Lib.hid (fun w => cmpInt_c (atP D g (y1, y2)) (atP D g (x1, x2)) w)
 have k2 : Kept W ((W.alloc (.cells #[.string x1, .string x2] 81)).alloc (.cells #[.string y1, .string y2] 81)) := ((Kept.refl W).alloc _).alloc _
 have HG := Lib.hid (show ((W.alloc (.cells #[.string x1, .string x2] 81)).alloc (.cells #[.string y1, .string y2] 81)).drew = Go.Sort.grow (W.drewN 1) #[.cells #[.string x1, .string x2] 81, .cells #[.string y1, .string y2] 81] by
  rw [Go.Sort.alloc_eq_grow, Go.Sort.alloc_eq_grow, Go.Sort.grow_grow]; rfl)
 have hb1 := ((Blk.new W 81 #[.string x1, .string x2]).alloc (.cells #[.string y1, .string y2] 81))
 have hb2 := Blk.new (W.alloc (.cells #[.string x1, .string x2] 81)) 81 #[.string y1, .string y2]
 rw [World.size_alloc] at hb2
 have hB2 := hB.kept k2
 obtain ⟨xh, xa, xm, xc, hl1⟩ := (hM.kept k2.drew).look_at hg x1 x2 hx
 obtain ⟨yh, ya, ym, yc, hl2⟩ := (hM.kept k2.drew).look_at hg y1 y2 hy
 obtain ⟨W1, hW1⟩ : ∃ W1, (W.alloc (.cells #[.string x1, .string x2] 81)).alloc (.cells #[.string y1, .string y2] 81) = W1 := ⟨_, rfl⟩
 rw [hW1] at hb1 hb2 hB2 hl1 hl2 HG
 have HW := Lib.hid hW1
 have c0 := hb1.cell 0
 have c1 := hb1.cell 1
 have d0 := hb2.cell 0
 have d1 := hb2.cell 1
 have e0 := hB2.cell 0
 simp only [List.getElem?_toArray, List.getElem?_cons_zero, List.getElem?_cons_succ] at c0 c1 d0 d1 e0
 have hfd : ∀ (h : Bool) (a : Option Addr) (m c : Nat) (k : Int) (w : World), (Instr.field 144 (.agg #[.bool h, .slice a m c, .int .i64 k]) 2).run Tryz.prog w = .ok (.int .i64 k) w := fun _ _ _ _ _ _ => by kernel_rfl
 generalize cmpI (atP D g (y1, y2)) (atP D g (x1, x2)) = r at HC ⊢
 generalize atP D g (x1, x2) = px at *
 generalize atP D g (y1, y2) = py at *
 clear hM hg hB hx hy k2 hb1 hb2 hB2 hW1
 go_enter Tryz.func145, Tryz.ntmps145
 go_wp2_with fail
 rw [HW.out]
 go_still_tail 8, (by kernel_rfl)
 change wpList _ _ _ _ _ W1.drew
 clear c0 c1 d0 d1 e0 hl1 hl2
 go_wp2_with fail
 refine (HC.out _).mono ?_
 rintro e w1 ⟨rfl, rfl⟩
 go_wp2_with fail
 go_ret
 exact ⟨rfl, 1, _, HG.out⟩
theorem flat_getQ (ms : List FP) {j i : Nat} {x : FP} (hx : ms[j]? = some x) (hi : i < 2) : j * 2 + i < (flatK fCells 2 ms.toArray).size ∧ (flatK fCells 2 ms.toArray)[j * 2 + i]! = (fCells x)[i]! := by
 obtain ⟨hj, rfl⟩ := List.getElem?_eq_some_iff.1 hx
 have hs : j * 2 + i < ms.toArray.size * 2 := by simp; omega
 refine ⟨by simpa using hs, ?_⟩
 rw [get_flatK fCells 2 ms.toArray _ hs]
 have e1 : (j * 2 + i) / 2 = j := by omega
 have e2 : (j * 2 + i) % 2 = i := by omega
 rw [e1, e2]
 congr 2
 simp [hj]
theorem holds_rowQ {W : World} {n₁ b c : Nat} {ms : List FP} (h : W.ownsRow n₁ 81 2 (.slice (some ⟨b, 0, none⟩) ms.length c) ms.length (ms.flatMap fCells)) : HoldsK fCells 2 W b 0 ms.toArray ∧ b < W.heap.size := by
 ·rcases h.2 with ⟨h0, _⟩ | ⟨g, cap, cur, hv, hb, hg, _⟩
  ·cases h0
  ·cases hv
   have hbk : Blk W b 81 cur := hg
   refine ⟨fun j hj => ?_, hbk.lt⟩
   have hj' : j < ms.length * 2 := by simpa using hj
   have hx : ms[j / 2]? = some ms[j / 2] := List.getElem?_eq_getElem (by omega)
   obtain ⟨_, hv⟩ := flat_getQ ms hx (i := j % 2) (Nat.mod_lt _ (by omega))
   have e : j / 2 * 2 + j % 2 = j := by omega
   rw [e] at hv
   have hf := flat_at fCells fCells_len ms (j / 2) (j % 2) _ hx (Nat.mod_lt _ (by omega))
   rw [e] at hf
   have hlt : j % 2 < (fCells ms[j / 2]).length := by rw [fCells_len]; exact Nat.mod_lt _ (by omega)
   rw [List.getElem?_eq_getElem hlt] at hf
   have hc := h.cells (g := b) rfl _ _ hf
   rw [addr_plain] at hc
   refine ⟨?_, hbk.frozen _⟩
   rw [hc, hv]
   rw [getElem!_pos (fCells ms[j / 2]) (j % 2) hlt]; rfl
theorem only_sortQ {W : World} {b n : Nat} {d : Array FP} {os : Array Obj} (hb : b < W.heap.size) : Only (· = b) W (sortWorldK fCells 2 W b 0 n d os) := by
 refine ⟨rfl, rfl, size_sortWorldK_c _ _ _ _ _ _ _ _, fun k hk hne => ?_⟩
 show (((putRowK fCells 2 (Sort.ahead W n) b 0 d).heap) ++ os)[k]? = _
 have hs : k < (putRowK fCells 2 (Sort.ahead W n) b 0 d).heap.size := by simpa [putRowK, putRow, mapBlock, Sort.ahead] using hk
 rw [Array.getElem?_append_left hs]
 have : b ≠ k := fun e => hne e.symm
 simp [putRowK, putRow, mapBlock, Sort.ahead, Array.getElem?_modify, this]
/-- What a sort leaves. -/
def SoQ (b c : Nat) (ms : List FP) (W W' : World) : Prop := ∃ ms' : List FP, ms'.Perm ms ∧ Only (· = b) W W' ∧ ∀ w'', Only (fun k => ¬ k = b) W' w'' → PrsAt w'' (.slice (some ⟨b, 0, none⟩) ms'.length c) (ms'.map (·.1))
theorem prs_of_holdsQ {W : World} {b c : Nat} {ms : List FP} (h : HoldsK fCells 2 W b 0 ms.toArray) (h1 : ms.length ≤ c) (h2 : c ≤ maxLen) (hb : b < W.heap.size) : ∀ w'', Only (fun k => ¬ k = b) W w'' → PrsAt w'' (.slice (some ⟨b, 0, none⟩) ms.length c) (ms.map (·.1)) := by
 intro w'' hw
 have hblk : w''.heap[b]? = W.heap[b]? := hw.block b hb (by simp)
 have cc : ∀ o, w''.cell? ⟨b, o, none⟩ = W.cell? ⟨b, o, none⟩ := fun o => World.cell?_of_block hblk
 refine ⟨_, c, by rw [List.length_map], by rw [List.length_map]; exact h1, h2, fun i p hp => ⟨b, 0, rfl, ?_⟩⟩
 rw [List.getElem?_map] at hp
 obtain ⟨x, hx, rfl⟩ := Option.map_eq_some_iff.1 hp
 have q : ∀ k, k < 2 → W.cell? ⟨b, 0 + (i * 2 + k), none⟩ = some (fCells x)[k]! := fun k hk => by
  obtain ⟨q1, q2⟩ := flat_getQ ms hx hk
  rw [(h _ q1).1, q2]; rfl
 have q0 := q 0 (by omega)
 have q1 := q 1 (by omega)
 refine ⟨by rw [cc]; simpa [fCells] using q0, ?_, x.2⟩
 rw [cc]
 have e : 0 + i * 2 + 1 = 0 + (i * 2 + 1) := by omega
 rw [e]
 simpa [fCells] using q1
theorem clo_laysQ (mb n B b size : Nat) (D : List Tab.P2) (g : Tab.P2 → Value) (W : World) (hM : MapP mb n D g W) (hg : ∀ q ∈ D, NdV (g q)) (hB : Blk W B 111 #[.map (some mb)]) (hb : b < W.heap.size) (h1 : mb ≠ b) (h2 : B ≠ b) :
  CmpLays Tryz.prog 145 #[.pointer (some ⟨B, 0, none⟩)] fCells 2 (cfQ (atP D g)) b 0 size W := fun m os dk _ x y => by
 have ho := only_sortQ (W := W) (n := m) (d := dk) (os := os) hb
 exact cloQ_c mb n B D g x.1.1 x.1.2 y.1.1 y.1.2 _ (hM.only ho h1) hg (hB.only ho h2) x.2 y.2
theorem pdq_cQ (mb n B b c : Nat) (D : List Tab.P2) (g : Tab.P2 → Value) (ms : List FP) (n₁ : Nat) (W : World) (hM : MapP mb n D g W) (hg : ∀ q ∈ D, NdV (g q)) (hB : Blk W B 111 #[.map (some mb)]) (h1 : mb ≠ b) (h2 : B ≠ b)
  (h : W.ownsRow n₁ 81 2 (.slice (some ⟨b, 0, none⟩) ms.length c) ms.length (ms.flatMap fCells)) (hs : ms.length ≤ 10000000) :
  Calls Tryz.prog 211 #[.slice (some ⟨b, 0, none⟩) ms.length c, .int .i64 0, .int .i64 ms.length, .int .i64 (Lib.bitLen ms.length : Nat), .func (.func 145) #[] #[.pointer (some ⟨B, 0, none⟩)]] W fun e w' => e = .returned (.tuple #[]) ∧ SoQ b c ms W w' := by
 have eg : ∀ args w, (callFunc 145 args).run Tryz.prog w = .ok (.enter 145 args) w := enters_of Tryz.func145 (by kernel_rfl) rfl
 obtain ⟨hH, hb⟩ := holds_rowQ h
 have hcap : ms.length ≤ c ∧ c ≤ maxLen := by
  rcases h.2 with ⟨h0, _⟩ | ⟨_, _, _, hv, _, _, h3, h4, _⟩
  ·cases h0
  ·cases hv
   exact ⟨h3, h4⟩
 have hlim : Lib.bitLen ms.toArray.size < 4611686018427387904 := Nat.lt_of_le_of_lt (Lib.bitLen_le _ 62 (by omega) (by simp; omega)) (by omega)
 have hp := AnyQ.pdqsortCmpFunc_all Tryz.pdqR 2 Tryz.isAgg81 Tryz.sizeOf81 fCells (cfQ (atP D g)) 145 #[.pointer (some ⟨B, 0, none⟩)] (swoQ (atP D g)) b 0 c ms.toArray W eg (clo_laysQ mb n B b _ D g W hM hg hB hb h1 h2)
  ⟨fCells_len, fun x v hv => by simp [fCells] at hv; rcases hv with rfl | rfl <;> rfl, hH, hb⟩ (ms.toArray.size + 1) 0 ms.toArray.size (Lib.bitLen ms.toArray.size) ms.toArray W (by omega) rfl (SWK.start hH) (Nat.zero_le _) (Nat.le_refl _) (by simp; omega) hlim (Or.inl rfl)
 change Calls Tryz.prog 211 _ _ _ at hp
 have hz : ms.toArray.size = ms.length := by simp
 rw [hz] at hp
 refine hp.mono ?_
 rintro e w' ⟨he, m, os, rfl⟩
 refine ⟨he, ?_⟩
 have hsrt := pdq_sorts (ltOf (cfQ (atP D g))) (swoQ (atP D g)) ms.toArray 0 ms.toArray.size (Lib.bitLen ms.toArray.size) true true (Nat.zero_le _) (Nat.le_refl _) (Or.inl rfl)
 rw [hz] at hsrt
 generalize pdq (ltOf (cfQ (atP D g))) ms.toArray 0 ms.length (Lib.bitLen ms.length) true true = d at hsrt
 obtain ⟨⟨p1, _, p3⟩, p4⟩ := hsrt
 rw [hz] at p1
 have hpm : d.toList.Perm ms := by
  have e1 : (d.extract 0 ms.length).toList = d.toList := by rw [← p1]; simp
  have e2 : (ms.toArray.extract 0 ms.length).toList = ms := by simp
  rw [e1, e2] at p3
  exact p3
 refine ⟨d.toList, hpm, only_sortQ hb, ?_⟩
 have hh : HoldsK fCells 2 (sortWorldK fCells 2 W b 0 m d os) b 0 d := holdsK_sortWorldK_c fCells 2 W b 0 ms.toArray d m os hH hb (by rw [p1]; simp)
 refine prs_of_holdsQ (ms := d.toList) (by simpa using hh) (by rw [hpm.length_eq]; exact hcap.1) hcap.2 ?_
 exact Nat.lt_of_lt_of_le hb (only_sortQ (W := W) (n := m) (d := d) (os := os) hb).size
theorem sort_cQ (mb n B b c : Nat) (D : List Tab.P2) (g : Tab.P2 → Value) (ms : List FP) (n₁ : Nat) (W : World) (hM : MapP mb n D g W) (hg : ∀ q ∈ D, NdV (g q)) (hB : Blk W B 111 #[.map (some mb)]) (h1 : mb ≠ b) (h2 : B ≠ b)
  (h : W.ownsRow n₁ 81 2 (.slice (some ⟨b, 0, none⟩) ms.length c) ms.length (ms.flatMap fCells)) (hs : ms.length ≤ 10000000) :
  Calls Tryz.prog 182 #[.slice (some ⟨b, 0, none⟩) ms.length c, .func (.func 145) #[] #[.pointer (some ⟨B, 0, none⟩)]] W fun e w' => e = .returned (.tuple #[]) ∧ SoQ b c ms W w' := by
 have HP := Lib.hid (pdq_cQ mb n B b c D g ms n₁ W hM hg hB h1 h2 h hs)
 have HB := Lib.hid (show ∀ w, Calls Tryz.prog 141 #[.int .u64 (ms.length : Int)] w fun e w' => e = .returned (.int .i64 (Lib.bitLen ms.length : Nat)) ∧ w' = w from fun w => by
  have := Any.bits_Len Tryz.lays125 (ms.length : Int) w (by omega) (by omega)
  change Calls Tryz.prog 141 _ _ _ at this
  simpa using this)
 have wr : IntKind.u64.wrap (ms.length : Int) = ms.length := by simp [IntKind.wrap, IntKind.bits, IntKind.signed]; omega
 generalize Lib.bitLen ms.length = bl at HP HB
 clear hM hg hB h
 go_enter Tryz.func182, Tryz.ntmps182
 go_wp2_with fail
 refine (HB.out _).mono ?_
 rintro e w1 ⟨rfl, rfl⟩
 go_wp2_with fail
 refine HP.out.mono ?_
 rintro e w1 ⟨rfl, hE⟩
 have HE := Lib.hid hE
 clear hE
 go_wp2_with fail
 refine bodyPost_end (results_none rfl _ _ _) rfl ?_
 exact ⟨rfl, HE.out⟩
theorem sort_nilQ (B : Nat) (W : World) :
  Calls Tryz.prog 182 #[.slice none 0 0, .func (.func 145) #[] #[.pointer (some ⟨B, 0, none⟩)]] W fun e w' => e = .returned (.tuple #[]) ∧ w' = W := by
 have HP := Lib.hid (show ∀ lim, Calls Tryz.prog 211 #[.slice none 0 0, .int .i64 0, .int .i64 0, .int .i64 lim, .func (.func 145) #[] #[.pointer (some ⟨B, 0, none⟩)]] W fun e w' => e = .returned (.tuple #[]) ∧ w' = W from fun lim =>
  AnyF.pdqsortCmpFunc_none Tryz.pdqR none 0 lim _ W)
 have HB := Lib.hid (show ∀ w, Calls Tryz.prog 141 #[.int .u64 0] w fun e w' => e = .returned (.int .i64 (Lib.bitLen 0 : Nat)) ∧ w' = w from fun w => by
  have := Any.bits_Len Tryz.lays125 0 w (by omega) (by omega)
  change Calls Tryz.prog 141 _ _ _ at this
  simpa using this)
 generalize Lib.bitLen 0 = bl at HB
 go_enter Tryz.func182, Tryz.ntmps182
 go_wp2_with fail
 refine (HB.out _).mono ?_
 rintro e w1 ⟨rfl, rfl⟩
 go_wp2_with fail
 refine (HP.out _).mono ?_
 rintro e w1 ⟨rfl, rfl⟩
 go_wp2_with fail
 refine bodyPost_end (results_none rfl _ _ _) rfl ?_
 exact ⟨rfl, rfl⟩
end Go.Proofs.YtjdkegfckkbpeaaGreatDoor
namespace Go.Proofs.YtjdkegfckkbpeaaGreatDoor
open Go.ChangeShapes Go.WideShapes Go.ChangeAt Go.RowKit Go.Shelf
theorem keysP_c (b : Nat) (w : World) :
  Calls Tryz.prog 144 #[.map (some b)] w fun e w' => e = .returned (.func (.func 183) #[] #[.pointer (some ⟨w.heap.size, 0, none⟩)]) ∧ w' = w.alloc (.cells #[.map (some b)] 111) := by
 go_enter Tryz.func144, Tryz.ntmps144
 go_wp2
 go_ret
 exact ⟨rfl, rfl⟩
theorem collectP_c (b nn Bm : Nat) (D : List Tab.P2) (g : Tab.P2 → Value) (w : World) (hM : MapP b nn D g w) (hbm : Blk w Bm 111 #[.map (some b)]) (hD : D.length ≤ 1000000) :
  Calls Tryz.prog 181 #[.func (.func 183) #[] #[.pointer (some ⟨Bm, 0, none⟩)]] w fun e w' =>
   ∃ (v : Value) (ps : List Tab.P2), e = .returned v ∧ ps.Perm D ∧ w'.ownsRow (w.heap.size + 4) 81 2 v ps.length (ps.flatMap qCells) ∧ Kept w w' := by
 have H := Lib.hid (appkeys_c b nn Bm D g w hM hbm hD)
 clear hM hbm
 go_enter Tryz.func181, Tryz.ntmps181
 go_wp2_with fail
 refine H.out.mono ?_
 rintro e w1 ⟨v, ps, rfl, hp, hrow, hK⟩
 have HR := Lib.hid hrow
 have HP := Lib.hid hp
 have hcs : v = .slice none 0 0 ∨ ∃ g cap n, v = .slice (some ⟨g, 0, none⟩) n cap := hrow.2.elim (fun h => .inl h.1) (fun ⟨g, cap, _, h, _⟩ => .inr ⟨g, cap, _, h⟩)
 clear hrow hp
 rcases hcs with rfl | ⟨g, cap, n, rfl⟩
 all_goals
  go_wp2_with fail
  go_ret
  exact ⟨_, ps, rfl, HP.out, HR.out, hK⟩
theorem fp_list : ∀ ps : List Tab.P2, (∀ p ∈ ps, Fine p) → ∃ ms : List FP, ms.map (·.1) = ps
 | [], _ => ⟨[], rfl⟩
 | p :: r, h => by
  obtain ⟨ms, hm⟩ := fp_list r fun q hq => h q (List.mem_cons_of_mem _ hq)
  exact ⟨(⟨p, h p (List.mem_cons_self ..)⟩ : FP) :: ms, congrArg (List.cons p) hm⟩
theorem fp_cells (ms : List FP) : ms.flatMap fCells = (ms.map (·.1)).flatMap qCells := by
 rw [List.flatMap_map]; rfl
/-- What latestFirst answers. -/
def LfOut (D : List Tab.P2) (w : World) (e : Ending) (w' : World) : Prop :=
 ∃ (a : Option Addr) (c : Nat) (ps : List Tab.P2), e = .returned (.slice a ps.length c) ∧ ps.Perm D ∧ (∀ w'', Only (fun k => k < w.heap.size) w' w'' → PrsAt w'' (.slice a ps.length c) ps) ∧ Kept w w'
theorem sortedF_c (b n Bm B : Nat) (D : List Tab.P2) (g : Tab.P2 → Value) (w : World) (hM : MapP b n D g w) (hg : ∀ q ∈ D, NdV (g q)) (hbm : Blk w Bm 111 #[.map (some b)]) (hB : Blk w B 111 #[.map (some b)]) (hD : D.length ≤ 1000000) :
  Calls Tryz.prog 143 #[.func (.func 183) #[] #[.pointer (some ⟨Bm, 0, none⟩)], .func (.func 145) #[] #[.pointer (some ⟨B, 0, none⟩)]] w fun e w' => LfOut D w e w' := by
 have HC := Lib.hid (collectP_c b n Bm D g w hM hbm hD)
 have HM := Lib.hid hM
 have HB := Lib.hid hB
 have HG := Lib.hid hg
 have hbl := hB.lt
 have hml := hM.lt
 clear hM hg hbm hB
 go_enter Tryz.func143, Tryz.ntmps143
 go_wp2_with fail
 refine HC.out.mono ?_
 rintro e w1 ⟨v, ps, rfl, hp, hrow, hK⟩
 have HP := Lib.hid hp
 have HK := Lib.hid hK
 have HF := Lib.hid (show ∀ p ∈ ps, Fine p from fun p h => HM.out.fine p (hp.mem_iff.1 h))
 have HLN := Lib.hid (show ps.length ≤ 1000000 by rw [hp.length_eq]; exact hD)
 have HR := Lib.hid hrow
 have hcs : (v = .slice none 0 0 ∧ ps.length = 0) ∨ ∃ g cap, v = .slice (some ⟨g, 0, none⟩) ps.length cap ∧ w.heap.size + 4 ≤ g := hrow.2.elim (fun h => .inl ⟨h.1, h.2⟩) (fun ⟨g, cap, _, h, h1, _⟩ => .inr ⟨g, cap, h, h1⟩)
 clear hrow hp hK
 rcases hcs with ⟨rfl, h0⟩ | ⟨gb, cap, rfl, hgb⟩
 ·obtain rfl : ps = [] := List.eq_nil_of_length_eq_zero h0
  have HS := Lib.hid (fun W => sort_nilQ B W)
  clear h0
  go_wp2_with fail
  refine (HS.out _).mono ?_
  rintro e w2 ⟨rfl, rfl⟩
  go_wp2_with fail
  go_ret
  exact ⟨none, 0, [], rfl, HP.out, fun w'' _ => Row.nil, HK.out⟩
 ·obtain ⟨ms, hms⟩ := fp_list ps HF.out
  have hlen : ms.length = ps.length := by rw [← hms]; simp
  have hrow' := HR.out
  rw [← hlen, ← hms, ← fp_cells] at hrow'
  have HS := Lib.hid (sort_cQ b n B gb cap D g ms (w.heap.size + 4) w1 (HM.out.kept HK.out) HG.out (HB.out.kept HK.out) (by omega) (by omega) hrow' (by rw [hlen]; have := HLN.out; omega))
  rw [hlen] at HS
  have HMS := Lib.hid hms
  have HLM := Lib.hid hlen
  clear hrow' hms hlen
  go_wp2_with fail
  refine HS.out.mono ?_
  rintro e w2 ⟨rfl, ms', hp', ho', hat⟩
  have HE := Lib.hid (show LfOut D w (.returned (.slice (some ⟨gb, 0, none⟩) ps.length cap)) w2 by
   have e1 : ms'.length = ps.length := by rw [hp'.length_eq, HLM.out]
   refine ⟨_, cap, ms'.map (·.1), by rw [List.length_map, e1], ?_, fun w'' hw => ?_, HK.out.onlyS ho' fun k e => by rw [e]; omega⟩
   ·exact (hp'.map _).trans (by rw [HMS.out]; exact HP.out)
   ·have := hat w'' (hw.mono fun k _ h e => by omega)
    rw [List.length_map]
    exact this)
  clear hp' ho' hat
  go_wp2_with fail
  go_ret
  exact HE.out
theorem latest_c (b n : Nat) (D : List Tab.P2) (g : Tab.P2 → Value) (w : World) (hM : MapP b n D g w) (hg : ∀ q ∈ D, NdV (g q)) (hD : D.length ≤ 1000000) :
  Calls Tryz.prog 103 #[.map (some b)] w fun e w' => LfOut D w e w' := by
 have k1 : Kept w (w.alloc (.cells #[.map (some b)] 111)) := (Kept.refl w).alloc _
 have k2 : Kept w ((w.alloc (.cells #[.map (some b)] 111)).alloc (.cells #[.map (some b)] 111)) := k1.alloc _
 have hb1 := Blk.new w 111 #[.map (some b)]
 have hb2 := Blk.new (w.alloc (.cells #[.map (some b)] 111)) 111 #[.map (some b)]
 rw [World.size_alloc] at hb2
 have HS := Lib.hid (sortedF_c b n (w.heap.size + 1) w.heap.size D g _ (hM.kept k2) hg hb2 (hb1.alloc _) hD)
 have HY := Lib.hid (keysP_c b (w.alloc (.cells #[.map (some b)] 111)))
 rw [World.size_alloc] at HY
 have HK := Lib.hid k2
 clear hM hg hb1 hb2 k1 k2
 go_enter Tryz.func103, Tryz.ntmps103
 go_wp2_with fail
 refine HY.out.mono ?_
 rintro e w1 ⟨rfl, rfl⟩
 go_wp2_with fail
 refine HS.out.mono ?_
 rintro e w2 ⟨a, c, ps, rfl, hp, hat, hk⟩
 have HE := Lib.hid (show LfOut D w (.returned (.slice a ps.length c)) w2 from ⟨a, c, ps, rfl, hp, fun w'' hw => hat w'' (hw.mono fun k _ h => by rw [World.size_alloc, World.size_alloc]; omega), HK.out.trans hk⟩)
 clear hp hat hk
 go_wp2_with fail
 go_ret
 exact HE.out
/-- What strike leaves. -/
structure StP (t : List Tab.C) (ls : ByteArray → List (Tab.Mb ByteArray)) (mb n : Nat) (K : List Tab.P2) (g : Tab.P2 → Value) (w : World) (D : List Tab.P2) (wr : World) : Prop where
 map : MapP mb n D g wr
 only : Only (· = mb) w wr
 left : Tab.Left t K D
theorem StP.keep {t : List Tab.C} {ls : ByteArray → List (Tab.Mb ByteArray)} {mb n : Nat} {K D : List Tab.P2} {g : Tab.P2 → Value} {w wr W : World} (h : StP t ls mb n K g w D wr) (k : Kept wr W) : StP t ls mb n K g w D W :=
 ⟨h.map.kept k, h.only.trans (Only.of_kept k), h.left⟩
def StOut (t : List Tab.C) (ls : ByteArray → List (Tab.Mb ByteArray)) (mb n : Nat) (K : List Tab.P2) (g : Tab.P2 → Value) (asked : Tab.P2) (w : World) (e : Ending) (w' : World) : Prop :=
 ∃ D, e = .returned (.tuple #[]) ∧ StP t ls mb n K g w D w' ∧ Tab.inP D asked = Tab.prec t asked
theorem wpList_delP {ops : Array Oper} {rest : List Oper} {o : Oper} {a : Act} {Q : Exit → Act → World → Prop} (w : World) (hg : o.guard = none) (m x : Operand)
  (hop : o.op = Op.call { callee := Callee.builtin Builtin.delete, args := #[m, x], argTypes := #[111, 81] }) {b n : Nat} {D : List Tab.P2} {g : Tab.P2 → Value} {p : Tab.P2}
  (hm : a.eval m = .map (some b)) (hM : MapP b n D g w) (hp : Fine p) (hx : a.eval x = .agg #[.string p.1, .string p.2])
  (hK : ∀ w', MapP b n (Tab.offP D p) g w' → w.grownBy w' (some b) → wpList Tryz.prog ops Q rest (a.put o.dst (.tuple #[])) w') : wpList Tryz.prog ops Q (o :: rest) a w := by
 refine wpList_plain hg fun K' hK' => ?_
 obtain ⟨w', hrun, r1, r2⟩ := hM.drop (t := 111) (e := 144) Tryz.underlying111 hp o.type
 unfold Oper.wp
 simp [execOp, hop, resolve, invoke, builtin, hm, hx, hrun, Result.andThen]
 exact hK' _ _ (hK w' r1 r2)
set_option maxHeartbeats 8000000 in
theorem strikeP_c (t : List Tab.C) (ls : ByteArray → List (Tab.Mb ByteArray)) (mb n : Nat) (K : List Tab.P2) (g : Tab.P2 → Value) (s u : ByteArray) (w : World) (hc : Tab.Cl t ls) (hK : Tab.Rel t ls K) (hM : MapP mb n K g w) (hnd : ∀ p ∈ K, NdAt ls (· = mb) w (g p) p) (hin : (s, u) ∈ K) (hKl : K.length ≤ 1000000) :
  Calls Tryz.prog 72 #[.map (some mb), .agg #[.string s, .string u]] w fun e w' => StOut t ls mb n K g (s, u) w e w' := by
 have hF := hM.fine _ hin
 have hml := hM.lt
 have hI0 : StP t ls mb n K g w K (w.alloc (.cells #[.string s, .string u] 81)) := (⟨hM, Only.refl _ _, ⟨fun p h => h, fun p h _ => h⟩⟩ : StP t ls mb n K g w K w).keep ((Kept.refl w).alloc _)
 have hB0 := Blk.new w 81 #[.string s, .string u]
 have HI0 := Lib.hid hI0
 have HB0 := Lib.hid hB0
 have HND := Lib.hid hnd
 have HK := Lib.hid hK
 have HG : Hid (∀ D : List Tab.P2, (∀ p ∈ D, p ∈ K) → ∀ q ∈ D, NdV (g q)) := Lib.hid fun D hD q hq => (hnd q (hD q hq)).ndv
 clear hM hnd hI0 hB0 hK
 go_enter Tryz.func72, Tryz.ntmps72
 go_wp2_with fail
 go_loopg [4] (2 * K.length + 2) (fun G q wr => ∃ (bf : Nat) (D : List Tab.P2), q = .int .i64 bf ∧ 2 * D.length + (if bf = D.length then 0 else 1) < G ∧ StP t ls mb n K g w D wr ∧ Blk wr w.heap.size 81 #[.string s, .string u] ∧ Hid (bf = D.length → ∀ p ∈ D, Tab.okN ls D p = true))
 case atStart => exact ⟨0, K, rfl, by split <;> omega, HI0.out, HB0.out, Lib.hid fun h p hp => by have := List.length_pos_of_mem hp; omega⟩
 case round =>
  obtain ⟨bf, D, rfl, hG, hI, hB, HD⟩ := hrel
  obtain ⟨wo, rfl⟩ : ∃ wo, wo = wr := ⟨_, rfl⟩
  have HI := Lib.hid hI
  have HB := Lib.hid hB
  have hlen : D.length ≤ 1000000 := by
   have := List.Nodup.length_le_of_subset hI.map.nodup hI.left.1
   omega
  have hln := hI.map.len (t := 111) (e := 144) Tryz.underlying111
  have b0 := hB.cell 0
  have b1 := hB.cell 1
  simp only [List.getElem?_toArray, List.getElem?_cons_zero, List.getElem?_cons_succ] at b0 b1
  have HH := Lib.hid (hasP_c mb n D g s u wo hI.map hF (HG.out D hI.left.1))
  clear hI hB
  by_cases hbf : bf = D.length
  ·have hbfI : ((bf : Int) == (D.length : Int)) = true := by simp [hbf]
   have HO := Lib.hid (show StOut t ls mb n K g (s, u) w (.returned (.tuple #[])) wo from ⟨D, rfl, HI.out, HI.out.left.end hc HK.out (HD.out hbf) hin⟩)
   go_wp2_with fail
   refine bodyPost_end (results_none rfl _ _ _) rfl ?_
   exact HO.out
  ·have hbfI : ((bf : Int) == (D.length : Int)) = false := by simp; omega
   obtain ⟨G, rfl⟩ : ∃ G, gk = G + 1 := ⟨gk - 1, by omega⟩
   rw [if_neg hbf] at hG
   cases hia : Tab.inP D (s, u) with
   | false =>
    rw [hia] at HH
    have HQ := Lib.hid (HI.out.left.gone hin (Tab.inP_no.1 hia))
    have HIA := Lib.hid hia
    clear hia
    go_wp2_with fail
    refine HH.out.mono ?_
    rintro e w1 ⟨rfl, k1⟩
    have HO := Lib.hid (show StOut t ls mb n K g (s, u) w (.returned (.tuple #[])) w1 from ⟨D, rfl, HI.out.keep k1, by rw [HIA.out, HQ.out]⟩)
    clear k1
    go_wp2_with fail
    refine bodyPost_end (results_none rfl _ _ _) rfl ?_
    exact HO.out
   | true =>
    rw [hia] at HH
    clear hia
    go_wp2_with fail
    refine HH.out.mono ?_
    rintro e w1 ⟨rfl, k1⟩
    have HI1 := Lib.hid (HI.out.keep k1)
    have HB1 := Lib.hid (HB.out.kept k1)
    have hln1 := HI1.out.map.len (t := 111) (e := 144) Tryz.underlying111
    have HL := Lib.hid (latest_c mb n D g w1 HI1.out.map (HG.out D HI1.out.left.1) hlen)
    have hmw1 := HI1.out.map.lt
    clear k1 hln b0 b1 hbfI
    go_wp2_with fail
    refine HL.out.mono ?_
    rintro e w2 ⟨a, c, ps, rfl, hp, hat, k2⟩
    have HP := Lib.hid hp
    have HAT := Lib.hid hat
    have HI2 := Lib.hid (HI1.out.keep k2)
    have HB2 := Lib.hid (HB1.out.kept k2)
    have hpl : ps.length ≤ 1000000 := by rw [hp.length_eq]; exact hlen
    clear hp hat k2 hln1
    go_wp2_with fail
    go_loopg [22] ps.length (fun H q wr => ∃ (j : Nat) (D' : List Tab.P2), H = ps.length - j ∧ j ≤ ps.length ∧ q = .int .i64 j ∧ StP t ls mb n K g w D' wr ∧ Only (· = mb) w2 wr ∧ Blk wr w.heap.size 81 #[.string s, .string u] ∧ Hid (Tab.Mid ls D D' ps j))
    case atStart => exact ⟨0, D, by omega, Nat.zero_le _, rfl, HI2.out, Only.refl _ _, HB2.out, Lib.hid Tab.Mid.start⟩
    case round =>
     obtain ⟨j, D', rfl, hj, rfl, hI, hO, hB, HMD⟩ := hrel
     obtain ⟨wm, rfl⟩ : ∃ wm, wm = wr := ⟨_, rfl⟩
     have HI3 := Lib.hid hI
     have HO3 := Lib.hid hO
     have HB3 := Lib.hid hB
     have hps := HAT.out wm (hO.mono fun k _ e => by rw [e]; exact hmw1)
     clear hI hO hB
     by_cases hjl : j < ps.length
     ·have hjI : (j : Int) < (ps.length : Int) := by omega
      have hx : ps[j]? = some ps[j] := List.getElem?_eq_getElem hjl
      generalize ps[j] = p at hx
      obtain ⟨p1, p2⟩ := p
      obtain ⟨a', c', e, hpl2, hcm, hq⟩ := hps
      injection e with e1 _ e2
      subst e1 e2
      obtain ⟨pb, po, rfl, q0, q1, hpF⟩ := hq j _ hx
      unfold maxLen at hcm
      have HX := Lib.hid hx
      have HPF := Lib.hid hpF
      have k3 : Kept wm (wm.alloc (.cells #[.string p1, .string p2] 81)) := (Kept.refl wm).alloc _
      have hBp := Blk.new wm 81 #[.string p1, .string p2]
      have hl := ((HI3.out.map).kept k3).look1 (t := 111) (e := 144) Tryz.underlying111 (zero_needs _) hpF
      have HK3 := Lib.hid k3
      have HBP := Lib.hid hBp
      clear hx hq hpl2 k3 hBp
      cases hin2 : Tab.inP D' (p1, p2) with
      | false =>
       have hl' : (Instr.lookup 111 (.map (some mb)) (.agg #[.string p1, .string p2]) false).run Tryz.prog (wm.alloc (.cells #[.string p1, .string p2] 81)) = .ok (.agg #[.bool false, .slice none 0 0, .int .i64 0]) (wm.alloc (.cells #[.string p1, .string p2] 81)) := by
        rw [hin2] at hl
        simpa using hl
       have HN := Lib.hid (Tab.inP_no.1 hin2)
       have HMx := Lib.hid (HI3.out.map.kept (HK3.out.alloc (.cells #[.bool false, .slice none 0 0, .int .i64 0] 144)))
       clear hl hin2
       go_wp2_with (at_delete; refine wpList_delP _ rfl _ _ rfl rfl HMx.out HPF.out rfl ?_; intro w6 hm6 hg6; have hm6 := Tab.offP_no HN.out ▸ hm6; have HM6 := Lib.hid hm6; have HG6 := Lib.hid hg6; clear hm6 hg6)
       have HO6 := Lib.hid ((Only.of_kept (S := (· = mb)) (HK3.out.alloc (.cells #[.bool false, .slice none 0 0, .int .i64 0] 144))).grown HG6.out fun k e => by cases e; exact .inl rfl)
       go_roundg (ps.length - (j + 1))
       case measure => omega
       case rel => exact ⟨j + 1, D', rfl, by omega, by go_num, ⟨HM6.out, HI3.out.only.trans HO6.out, HI3.out.left⟩, HO3.out.trans HO6.out, HB3.out.only HO6.out (by omega), Lib.hid (HMD.out.keep HX.out fun h => absurd h HN.out)⟩
      | true =>
       have hpD := Tab.inP_iff.1 hin2
       obtain ⟨na, nc, nk, eg, hnat⟩ := HND.out _ (HI3.out.left.1 _ hpD)
       have hl' : (Instr.lookup 111 (.map (some mb)) (.agg #[.string p1, .string p2]) false).run Tryz.prog (wm.alloc (.cells #[.string p1, .string p2] 81)) = .ok (.agg #[.bool (Tab.hsv ls (p1, p2)), .slice na (Tab.need ls (p1, p2)).length nc, .int .i64 nk]) (wm.alloc (.cells #[.string p1, .string p2] 81)) := by
        rw [hin2, eg] at hl
        simpa using hl
       have HPD := Lib.hid hpD
       have HK4 := Lib.hid (HK3.out.alloc (.cells #[.bool (Tab.hsv ls (p1, p2)), .slice na (Tab.need ls (p1, p2)).length nc, .int .i64 nk] 144))
       have HMx := Lib.hid (HI3.out.map.kept HK4.out)
       have hB4 := HBP.out.alloc (.cells #[.bool (Tab.hsv ls (p1, p2)), .slice na (Tab.need ls (p1, p2)).length nc, .int .i64 nk] 144)
       have hpr4 := hnat _ (HI3.out.only.trans (Only.of_kept HK4.out))
       have HA := Lib.hid (all_c 73 (.map (some mb)) (Tab.inP D') _ enters_hasP (fun s u W hF kW => hasP_c mb n D' g s u W (HMx.out.kept kW) hF (HG.out D' HI3.out.left.1)) (Tab.need ls (p1, p2)) na nc _ hpr4 (Kept.refl _))
       have HBX := Lib.hid hB4
       have HOK := Lib.hid (show Tab.okN ls D' (p1, p2) = (Tab.hsv ls (p1, p2) && (Tab.need ls (p1, p2)).all (Tab.inP D')) from rfl)
       have x0 := hB4.cell 0
       have x1 := hB4.cell 1
       simp only [List.getElem?_toArray, List.getElem?_cons_zero, List.getElem?_cons_succ] at x0 x1
       clear hl hin2 eg hnat hpr4 hB4 hpD
       cases hhs : Tab.hsv ls (p1, p2) with
       | false =>
        rw [hhs] at hl' HMx HA HK4 x0 x1 HBX HOK
        clear hhs HA
        go_wp2_with (at_delete; refine wpList_delP _ rfl _ _ rfl rfl HMx.out HPF.out rfl ?_; intro w6 hm6 hg6; have HM6 := Lib.hid hm6; have HG6 := Lib.hid hg6; clear hm6 hg6)
        have HO6 := Lib.hid ((Only.of_kept (S := (· = mb)) HK4.out).grown HG6.out fun k e => by cases e; exact .inl rfl)
        go_roundg (ps.length - (j + 1))
        case measure => omega
        case rel => exact ⟨j + 1, Tab.offP D' (p1, p2), rfl, by omega, by go_num, ⟨HM6.out, HI3.out.only.trans HO6.out, HI3.out.left.off hc HK.out HOK.out⟩, HO3.out.trans HO6.out, HB3.out.only HO6.out (by omega), Lib.hid (HMD.out.off HI3.out.map.nodup HPD.out)⟩
       | true =>
        rw [hhs] at hl' HMx HA HK4 x0 x1 HBX HOK
        clear hhs
        cases hal : (Tab.need ls (p1, p2)).all (Tab.inP D') with
        | false =>
         rw [hal] at HA HOK
         clear hal
         go_wp2_with fail
         refine HA.out.mono ?_
         rintro e w5 ⟨rfl, k5⟩
         have hB5 := HBX.out.kept k5
         have y0 := hB5.cell 0
         have y1 := hB5.cell 1
         simp only [List.getElem?_toArray, List.getElem?_cons_zero, List.getElem?_cons_succ] at y0 y1
         have HM5 := Lib.hid (HMx.out.kept k5)
         have HK5 := Lib.hid (HK4.out.trans k5)
         clear k5 hB5
         go_wp2_with (at_delete; refine wpList_delP _ rfl _ _ rfl rfl HM5.out HPF.out rfl ?_; intro w6 hm6 hg6; have HM6 := Lib.hid hm6; have HG6 := Lib.hid hg6; clear hm6 hg6)
         have HO6 := Lib.hid ((Only.of_kept (S := (· = mb)) HK5.out).grown HG6.out fun k e => by cases e; exact .inl rfl)
         go_roundg (ps.length - (j + 1))
         case measure => omega
         case rel => exact ⟨j + 1, Tab.offP D' (p1, p2), rfl, by omega, by go_num, ⟨HM6.out, HI3.out.only.trans HO6.out, HI3.out.left.off hc HK.out HOK.out⟩, HO3.out.trans HO6.out, HB3.out.only HO6.out (by omega), Lib.hid (HMD.out.off HI3.out.map.nodup HPD.out)⟩
        | true =>
         rw [hal] at HA HOK
         clear hal
         go_wp2_with fail
         refine HA.out.mono ?_
         rintro e w5 ⟨rfl, k5⟩
         have HK5 := Lib.hid (HK4.out.trans k5)
         clear k5
         go_wp2_with fail
         go_roundg (ps.length - (j + 1))
         case measure => omega
         case rel => exact ⟨j + 1, D', rfl, by omega, by go_num, HI3.out.keep HK5.out, HO3.out.trans (Only.of_kept HK5.out), HB3.out.kept HK5.out, Lib.hid (HMD.out.keep HX.out fun _ => HOK.out)⟩
     ·have hjI : ¬ (j : Int) < (ps.length : Int) := by omega
      obtain rfl : j = ps.length := by omega
      have HE := Lib.hid (show (D'.length = D.length ∧ ∀ p ∈ D', Tab.okN ls D' p = true) ∨ D'.length < D.length by
       rcases HMD.out with ⟨rfl, h⟩ | h
       ·refine .inl ⟨rfl, fun p hp => h p ?_ hp⟩
        rw [List.take_length]
        exact HP.out.mem_iff.2 hp
       ·exact .inr h)
      clear hps
      go_wp2_with fail
      go_roundg G
      case measure => omega
      case rel =>
       refine ⟨D.length, D', rfl, ?_, HI3.out, HB3.out, Lib.hid fun h => ?_⟩
       ·rcases HE.out with ⟨h, _⟩ | h
        ·rw [if_pos h.symm]; omega
        ·rw [if_neg (by omega)]; omega
       ·rcases HE.out with ⟨_, h2⟩ | h2
        ·exact h2
        ·omega
end Go.Proofs.YtjdkegfckkbpeaaGreatDoor
namespace Go.Proofs.YtjdkegfckkbpeaaGreatDoor.Tab
theorem ok_len8 {t : List C} (h : ok t = true) : t.length ≤ 40 := by
 have h := check_zero (of_decide_eq_true h)
 unfold check at h
 by_cases h0 : 40 < t.length
 ·rw [if_pos h0] at h; exact absurd h (by decide)
 ·omega
theorem sub_nil (s : ByteArray) : sub [] s s = decide (s ∈ basics) := by
 have h1 : ok [] = true := by decide +kernel
 have h2 : isC [] s = false := rfl
 have h3 : isT [] s = decide (s ∈ basics) := by unfold isT; rw [h2, Bool.or_false]
 have h4 : up [] s = [s] := by unfold up; rw [h2]; rfl
 unfold sub ats
 rw [h1, h3, h4]
 have h5 : decide (s ∈ [s]) = true := decide_eq_true (by simp)
 rw [h5]
 cases decide (s ∈ basics) <;> rfl
end Go.Proofs.YtjdkegfckkbpeaaGreatDoor.Tab
namespace Go.Proofs.YtjdkegfckkbpeaaGreatDoor
open Go.ChangeShapes Go.WideShapes Go.ChangeAt Go.RowKit
theorem small_nil : Small [] := ⟨by simp, fun c h => (by cases h), fun c h => (by cases h), fun c h => (by cases h)⟩
theorem isTypeP_c (t : List Tab.C) (v : Value) (s : ByteArray) (w : World) (hTb : Tb w) (h : Row 4 ClsAt w v t) :
  Calls Tryz.prog 66 #[v, .string s] w fun e w' => e = .returned (.bool (Tab.isT t s)) ∧ Kept w w' := by
 have HC := Lib.hid (tfind_c t v s w h)
 unfold FindPost at HC
 have HS := Lib.hid (sub_c [] none 0 s s w hTb Row.nil small_nil)
 rw [Tab.sub_nil] at HS
 have ht : Tab.isT t s = (decide (s ∈ Tab.basics) || (Tab.ix Tab.C.name t s).isSome) := rfl
 rw [ht]
 generalize Tab.num (Tab.ix Tab.C.name t s) = n at HC ⊢
 generalize (Tab.ix Tab.C.name t s).isSome = y at HC ⊢
 generalize decide (s ∈ Tab.basics) = z at HS ⊢
 obtain ⟨a, c, rfl, _⟩ := h
 clear ht hTb
 cases y with
 | true =>
  go_enter Tryz.func66, Tryz.ntmps66
  go_wp2_with fail
  refine HC.out.mono ?_
  rintro e w1 ⟨rfl, rfl⟩
  go_wp2_with fail
  go_ret
  exact ⟨by simp, Kept.refl _⟩
 | false =>
  go_enter Tryz.func66, Tryz.ntmps66
  go_wp2_with fail
  refine HC.out.mono ?_
  rintro e w1 ⟨rfl, rfl⟩
  go_wp2_with fail
  refine HS.out.mono ?_
  rintro e w1 ⟨rfl, k1⟩
  go_wp2_with fail
  go_ret
  exact ⟨by simp, k1⟩
theorem areTypesP_c (t : List Tab.C) (a : Option Addr) (cp : Nat) (s u : ByteArray) (w : World) (hTb : Tb w) (h : TabAt w (.slice a t.length cp) t) (hS : Small t) :
  Calls Tryz.prog 40 #[.slice a t.length cp, .string s, .string u] w fun e w' => e = .returned (.bool (Tab.ats t s u)) ∧ Kept w w' := by
 have H1 := Lib.hid (isTypeP_c t (.slice a t.length cp) s w hTb h)
 have H2 := Lib.hid (fun W (k : Kept w W) => isTypeP_c t (.slice a t.length cp) u W (hTb.kept k) (tab_kept h k))
 have H3 := Lib.hid (fun W (k : Kept w W) => check_c t a cp W (hTb.kept k) (tab_kept h k) hS)
 have hq : Tab.ats t s u = (Tab.isT t s && Tab.isT t u && Tab.ok t) := rfl
 rw [hq]
 clear hTb h hS hq
 cases x1 : Tab.isT t s with
 | false =>
  rw [x1] at H1
  clear x1 H2 H3
  go_enter Tryz.func40, Tryz.ntmps40
  go_wp2_with fail
  refine H1.out.mono ?_
  rintro e w1 ⟨rfl, k1⟩
  go_wp2_with fail
  go_ret
  exact ⟨rfl, k1⟩
 | true =>
  rw [x1] at H1
  cases x2 : Tab.isT t u with
  | false =>
   rw [x2] at H2
   clear x1 x2 H3
   go_enter Tryz.func40, Tryz.ntmps40
   go_wp2_with fail
   refine H1.out.mono ?_
   rintro e w1 ⟨rfl, k1⟩
   have HK := Lib.hid k1
   clear k1
   go_wp2_with fail
   refine (H2.out _ HK.out).mono ?_
   rintro e w2 ⟨rfl, k2⟩
   have HK2 := Lib.hid (HK.out.trans k2)
   clear k2
   go_wp2_with fail
   go_ret
   exact ⟨rfl, HK2.out⟩
  | true =>
   rw [x2] at H2
   obtain ⟨fe, fa, hfe⟩ : ∃ fe fa, Tab.check t = (fe, fa) := ⟨_, _, rfl⟩
   rw [hfe] at H3
   dsimp only at H3
   have hfd : ∀ w : World, (Instr.field 30 (.agg #[.int .i64 fe, .int .i64 fa]) 0).run Tryz.prog w = .ok (.int .i64 fe) w := fun _ => by kernel_rfl
   have hokd : Tab.ok t = decide (fe = 0) := by unfold Tab.ok; rw [hfe]
   rw [hokd]
   have hdd : (fe == 0) = decide (fe = 0) := by by_cases e : fe = 0 <;> simp [e]
   clear x1 x2 hfe hokd
   by_cases hz : fe = 0
   ·subst hz
    clear hdd
    go_enter Tryz.func40, Tryz.ntmps40
    go_wp2_with fail
    refine H1.out.mono ?_
    rintro e w1 ⟨rfl, k1⟩
    have HK := Lib.hid k1
    clear k1
    go_wp2_with fail
    refine (H2.out _ HK.out).mono ?_
    rintro e w2 ⟨rfl, k2⟩
    have HK2 := Lib.hid (HK.out.trans k2)
    clear k2
    go_wp2_with fail
    refine (H3.out _ HK2.out).mono ?_
    rintro e w3 ⟨rfl, k3⟩
    have HK3 := Lib.hid (HK2.out.trans k3)
    clear k3
    go_wp2_with fail
    go_ret
    exact ⟨by rfl, HK3.out⟩
   ·have hb : (fe == 0) = false := by simp [hz]
    rw [decide_eq_false hz]
    clear hdd
    go_enter Tryz.func40, Tryz.ntmps40
    go_wp2_with fail
    refine H1.out.mono ?_
    rintro e w1 ⟨rfl, k1⟩
    have HK := Lib.hid k1
    clear k1
    go_wp2_with fail
    refine (H2.out _ HK.out).mono ?_
    rintro e w2 ⟨rfl, k2⟩
    have HK2 := Lib.hid (HK.out.trans k2)
    clear k2
    go_wp2_with fail
    refine (H3.out _ HK2.out).mono ?_
    rintro e w3 ⟨rfl, k3⟩
    have HK3 := Lib.hid (HK2.out.trans k3)
    clear k3
    go_wp2_with fail
    go_ret
    exact ⟨by rfl, HK3.out⟩
set_option maxHeartbeats 4000000 in
theorem preciseP_c (t : List Tab.C) (ls : ByteArray → List (Tab.Mb ByteArray)) (cb : Nat) (s u : ByteArray) (w : World) (hc : Tab.Cl t ls) (hv : Tab.Valid t) (ht : t.length ≤ 40) (hC : ClM t ls cb w) (hs : s.size ≤ maxLen) (hu : u.size ≤ maxLen) :
  Calls Tryz.prog 42 #[.map (some cb), .agg #[.string s, .string u]] w fun e w' => e = .returned (.bool (Tab.pcs t (s, u))) ∧ Kept w w' := by
 have k1 : Kept w (w.alloc (.cells #[.string s, .string u] 81)) := (Kept.refl w).alloc _
 have hB := Blk.new w 81 #[.string s, .string u]
 have HB := Lib.hid hB
 have HK1 := Lib.hid k1
 have HC := Lib.hid hC
 have b0 := hB.cell 0
 have b1 := hB.cell 1
 simp only [List.getElem?_toArray, List.getElem?_cons_zero, List.getElem?_cons_succ] at b0 b1
 have HA := Lib.hid (always_c s u (w.alloc (.cells #[.string s, .string u] 81)))
 have HP := Lib.hid (show Tab.pcs t (s, u) = (Tab.alw (s, u) || Tab.prec t (s, u)) from rfl)
 obtain ⟨r, hr⟩ : ∃ r, r = Tab.pcs t (s, u) := ⟨_, rfl⟩
 rw [← hr] at HP ⊢
 clear hr k1 hB hC
 cases ha : Tab.alw (s, u) with
 | true =>
  rw [ha] at HA HP
  have HQ := Lib.hid (show r = true from HP.out)
  clear ha
  go_enter Tryz.func42, Tryz.ntmps42
  go_wp2_with fail
  refine HA.out.mono ?_
  rintro e w1 ⟨rfl, k1⟩
  have HK2 := Lib.hid (HK1.out.trans k1)
  clear k1
  go_wp2_with fail
  go_ret
  exact ⟨by rw [HQ.out]; rfl, HK2.out⟩
 | false =>
  rw [ha] at HA HP
  have HQ := Lib.hid (show r = Tab.prec t (s, u) from HP.out)
  clear ha
  have HH := Lib.hid (fun W (k : Kept w W) => have_c t ls cb s u W (HC.out.kept k) hs hu)
  cases hb : Tab.both t (s, u) with
  | false =>
   rw [hb] at HH
   have HN := Lib.hid (show Tab.prec t (s, u) = false by
    cases h : Tab.prec t (s, u) with
    | false => rfl
    | true => rw [Tab.pre_both (Tab.prec_iff.1 h)] at hb; cases hb)
   clear hb
   go_enter Tryz.func42, Tryz.ntmps42
   go_wp2_with fail
   refine HA.out.mono ?_
   rintro e w1 ⟨rfl, k1⟩
   have hB1 := HB.out.kept k1
   have x0 := hB1.cell 0
   have x1 := hB1.cell 1
   simp only [List.getElem?_toArray, List.getElem?_cons_zero, List.getElem?_cons_succ] at x0 x1
   have HK2 := Lib.hid (HK1.out.trans k1)
   clear k1 hB1
   go_wp2_with fail
   refine (HH.out _ HK2.out).mono ?_
   rintro e w2 ⟨rfl, k2⟩
   have HK3 := Lib.hid (HK2.out.trans k2)
   clear k2
   go_wp2_with fail
   go_ret
   exact ⟨by rw [HQ.out, HN.out]; rfl, HK3.out⟩
  | true =>
   rw [hb] at HH
   have HBT := Lib.hid hb
   clear hb
   go_enter Tryz.func42, Tryz.ntmps42
   go_wp2_with fail
   refine HA.out.mono ?_
   rintro e w1 ⟨rfl, k1⟩
   have hB1 := HB.out.kept k1
   have HB1 := Lib.hid hB1
   have x0 := hB1.cell 0
   have x1 := hB1.cell 1
   simp only [List.getElem?_toArray, List.getElem?_cons_zero, List.getElem?_cons_succ] at x0 x1
   have HK2 := Lib.hid (HK1.out.trans k1)
   clear k1 hB1
   go_wp2_with fail
   refine (HH.out _ HK2.out).mono ?_
   rintro e w2 ⟨rfl, k2⟩
   have hB2 := HB1.out.kept k2
   have HB2 := Lib.hid hB2
   have y0 := hB2.cell 0
   have y1 := hB2.cell 1
   simp only [List.getElem?_toArray, List.getElem?_cons_zero, List.getElem?_cons_succ] at y0 y1
   have HK3 := Lib.hid (HK2.out.trans k2)
   have HR := Lib.hid (relation_c t ls cb s u w2 hc hv ht (HC.out.kept HK3.out) ⟨hs, hu⟩ HBT.out)
   clear k2 hB2 x0 x1
   go_wp2_with fail
   refine HR.out.mono ?_
   rintro e w3 ⟨mb, D, g, rfl, hm, hrel, hin, hk3, hmb, hnd⟩
   have hlen : D.length ≤ 1000000 := by
    have h2 := Tab.pairs_le hm.nodup hrel.1
    have h3 : t.length * t.length ≤ 40 * 40 := Nat.mul_le_mul ht ht
    omega
   have HST := Lib.hid (strikeP_c t ls mb D.length D g s u w3 hc hrel hm hnd hin hlen)
   have hB3 := HB2.out.kept hk3
   have HB3 := Lib.hid hB3
   have z0 := hB3.cell 0
   have z1 := hB3.cell 1
   simp only [List.getElem?_toArray, List.getElem?_cons_zero, List.getElem?_cons_succ] at z0 z1
   have HK4 := Lib.hid (HK3.out.trans hk3)
   have HMB := Lib.hid hmb
   have HGV := Lib.hid (fun (D' : List Tab.P2) (hD : ∀ p ∈ D', p ∈ D) q (hq : q ∈ D') => (hnd q (hD q hq)).ndv)
   have hw2 := HK3.out.size
   have hbl := HB2.out.lt
   clear hm hrel hin hk3 hmb hnd y0 y1 hB3 hlen
   go_wp2_with fail
   refine HST.out.mono ?_
   rintro e w4 ⟨D', rfl, hst, hD'⟩
   have hB4 := HB3.out.only hst.only (by have := HMB.out; omega)
   have v0 := hB4.cell 0
   have v1 := hB4.cell 1
   simp only [List.getElem?_toArray, List.getElem?_cons_zero, List.getElem?_cons_succ] at v0 v1
   have HK5 := Lib.hid (HK4.out.onlyS hst.only fun k e => by rw [e]; have := HMB.out; omega)
   have HHP := Lib.hid (hasP_c mb D.length D' g s u w4 hst.map ⟨hs, hu⟩ (HGV.out D' hst.left.1))
   rw [hD'] at HHP
   clear hst hD' hB4 z0 z1
   go_wp2_with fail
   refine HHP.out.mono ?_
   rintro e w5 ⟨rfl, k5⟩
   have HK6 := Lib.hid (HK5.out.trans k5)
   clear k5
   go_wp2_with fail
   go_ret
   exact ⟨by rw [HQ.out]; rfl, HK6.out⟩
/-- All that the three calls do first. -/
def PreK (t : List Tab.C) (w : World) (cb : Nat) (W : World) : Prop := Kept w W ∧ ∀ W', Kept W W' → ∀ s u : ByteArray, s.size ≤ maxLen → u.size ≤ maxLen →
 Calls Tryz.prog 42 #[.map (some cb), .agg #[.string s, .string u]] W' fun e w' => e = .returned (.bool (Tab.pcs t (s, u))) ∧ Kept W' w'
theorem cls_pre {t : List Tab.C} {a : Option Addr} {cp : Nat} {s u : ByteArray} {w w1 : World} (h : TabAt w (.slice a t.length cp) t) (hS : Small t) (ho : Tab.ats t s u = true) (k1 : Kept w w1) :
  Calls Tryz.prog 41 #[.slice a t.length cp] w1 fun e w' => ∃ cb, e = .returned (.map (some cb)) ∧ PreK t w cb w' := by
 have hok : Tab.ok t = true := by unfold Tab.ats at ho; simp only [Bool.and_eq_true] at ho; exact ho.2
 have hv := Tab.ok_valid hok
 have ht := Tab.ok_len8 hok
 refine (classesOf_c t a cp w1 (tab_kept h k1) hS hv hS.len).mono ?_
 rintro e w2 ⟨cb, ls, rfl, hc, hC, k2⟩
 exact ⟨cb, rfl, k1.trans k2, fun W' kW s u hs hu => preciseP_c t ls cb s u W' hc hv ht (hC.kept kW) hs hu⟩
theorem precise_cc (t : List Tab.C) (a : Option Addr) (cp : Nat) (s u : ByteArray) (w : World) (hTb : Tb w) (h : TabAt w (.slice a t.length cp) t) (hS : Small t) (hs : s.size ≤ maxLen) (hu : u.size ≤ maxLen) :
  Calls Tryz.prog 28 #[.slice a t.length cp, .string s, .string u] w fun e w' => e = .returned (.bool (Tab.precise t s u)) ∧ Kept w w' := by
 have H1 := Lib.hid (areTypesP_c t a cp s u w hTb h hS)
 have hq : Tab.precise t s u = (Tab.ats t s u && Tab.pcs t (s, u)) := rfl
 rw [hq]
 cases x1 : Tab.ats t s u with
 | false =>
  rw [x1] at H1
  clear x1 hTb h hS hq
  go_enter Tryz.func28, Tryz.ntmps28
  go_wp2_with fail
  refine H1.out.mono ?_
  rintro e w1 ⟨rfl, k1⟩
  go_wp2_with fail
  go_ret
  exact ⟨rfl, k1⟩
 | true =>
  rw [x1] at H1
  have H2 := Lib.hid (fun w1 (k1 : Kept w w1) => cls_pre h hS x1 k1)
  clear x1 hTb h hS hq
  obtain ⟨r, hr⟩ : ∃ r, r = Tab.pcs t (s, u) := ⟨_, rfl⟩
  rw [← hr]
  have HR := Lib.hid hr
  clear hr
  go_enter Tryz.func28, Tryz.ntmps28
  go_wp2_with fail
  refine H1.out.mono ?_
  rintro e w1 ⟨rfl, k1⟩
  have HK1 := Lib.hid k1
  clear k1
  go_wp2_with fail
  refine (H2.out _ HK1.out).mono ?_
  rintro e w2 ⟨cb, rfl, hp⟩
  have HP := Lib.hid (hp.2 w2 (Kept.refl _) s u hs hu)
  rw [← HR.out] at HP
  have HK2 := Lib.hid hp.1
  clear hp
  go_wp2_with fail
  refine HP.out.mono ?_
  rintro e w3 ⟨rfl, k3⟩
  have HK3 := Lib.hid (HK2.out.trans k3)
  clear k3
  go_wp2_with fail
  go_ret
  exact ⟨by rfl, HK3.out⟩
end Go.Proofs.YtjdkegfckkbpeaaGreatDoor
