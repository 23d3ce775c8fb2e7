/- The contract of slices.SortFunc at precision's members, by their names. The contract of precise.membersOf: the members of a class with their types, by ascending names. -/
import Derived.Test.YthooiofaicdhgaaGreatDoorShelf
import Derived.Test.YthooiofaicdhgaaGreatDoorCsr
import Derived.Test.YthooiofaicdhgaaGreatDoorFi2
import Derived.Test.YthooiofaicdhgaaGreatDoorMts
import Derived.Test.YthooiofaicdhgaaGreatDoorPcn
import Derived.Laws.MakeOwn
set_option linter.unusedSimpArgs false
set_option linter.unusedVariables false
set_option maxRecDepth 100000
namespace Go.Proofs.YthooiofaicdhgaaGreatDoor.Tab

/-- A member, and where its types lie. -/
structure Pq where
  m : Mb ByteArray
  a : Option Addr
  n : Nat
  c : Nat
instance : Inhabited Pq := ⟨⟨default, none, 0, 0⟩⟩
def flB (l : List V) : List (Mb ByteArray) := l.map mbF
def mtB (l : List M) : List (Mb ByteArray) := l.map mbM
theorem mbs_eqB (t : List C) (c : ByteArray) : mbs t c = flB (fields t c) ++ mtB (methods t c) := rfl
theorem flB_snoc {l : List V} {j : Nat} {f : V} (h : l[j]? = some f) : flB (l.take (j + 1)) = flB (l.take j) ++ [⟨f.name, -1, [f.typ]⟩] := by
  unfold flB; rw [List.take_add_one, h]; simp [mbF]
theorem mtB_snoc {l : List M} {j : Nat} {m : M} (h : l[j]? = some m) : mtB (l.take (j + 1)) = mtB (l.take j) ++ [⟨m.name, m.params.length, m.params.map (·.typ) ++ [m.res]⟩] := by
  unfold mtB; rw [List.take_add_one, h]; simp [mbM]
end Go.Proofs.YthooiofaicdhgaaGreatDoor.Tab

namespace Go.Proofs.YthooiofaicdhgaaGreatDoor
open Go.ChangeShapes Go.WideShapes Go.ChangeAt Go.RowKit Go.Shelf Go.Sort

def pCells (x : Tab.Pq) : List Value := [.string x.m.name, .int .i64 x.m.ar, .slice x.a x.n x.c]
theorem pCells_len (x : Tab.Pq) : (pCells x).length = 3 := rfl
def zCells (s : ByteArray) : List Value := [.string s]
theorem zCells_len (s : ByteArray) : (zCells s).length = 1 := rfl
def StrAt (w : World) (b o : Nat) (s : ByteArray) : Prop := w.cell? ⟨b, o, none⟩ = some (.string s) ∧ s.size ≤ maxLen
def MbBAt (w : World) (b o : Nat) (x : Tab.Mb ByteArray) : Prop :=
  w.cell? ⟨b, o, none⟩ = some (.string x.name) ∧ w.cell? ⟨b, o + 1, none⟩ = some (.int .i64 x.ar) ∧ (∃ v, w.cell? ⟨b, o + 2, none⟩ = some v ∧ Row 1 StrAt w v x.types) ∧ x.name.size ≤ maxLen
abbrev MbsAt (w : World) (v : Value) (L : List (Tab.Mb ByteArray)) : Prop := Row 3 MbBAt w v L
theorem MbBAt.kept {w w' : World} {b o : Nat} {x : Tab.Mb ByteArray} (h : MbBAt w b o x) (k : Kept w w') : MbBAt w' b o x := by
  obtain ⟨h1, h2, ⟨v, h3, h4⟩, h5⟩ := h
  exact ⟨k.cell h1, k.cell h2, ⟨v, k.cell h3, h4.mono fun _ _ _ r => ⟨k.cell r.1, r.2⟩⟩, h5⟩
theorem mbs_kept {w w' : World} {v : Value} {l : List (Tab.Mb ByteArray)} (h : MbsAt w v l) (k : Kept w w') : MbsAt w' v l := h.mono fun _ _ _ r => r.kept k

theorem clo_cP (x y : Tab.Pq) (w : World) :
    Calls Tryz.prog 194 #[.agg #[.string x.m.name, .int .i64 x.m.ar, .slice x.a x.n x.c], .agg #[.string y.m.name, .int .i64 y.m.ar, .slice y.a y.n y.c]] w fun e w' =>
      e = .returned (.int .i64 (Tab.cfS x.m.name y.m.name)) ∧ ∃ q os', w' = Go.Sort.grow (w.drewN q) os' := by
  have HC := Lib.hid (fun W => cmpS_c x.m.name y.m.name W)
  generalize Tab.cfS x.m.name y.m.name = r at HC ⊢
  go_enter Tryz.func194, Tryz.ntmps194
  go_wp2_with fail
  refine (HC.out _).mono ?_
  rintro e w1 ⟨rfl, rfl⟩
  go_wp2_with fail
  go_ret
  exact ⟨rfl, 0, _, by rw [Go.Sort.alloc_eq_grow, Go.Sort.alloc_eq_grow, Go.Sort.grow_grow]; rfl⟩

abbrev cfP (x y : Tab.Pq) : Int := Tab.cfS x.m.name y.m.name
theorem ltP (x y : Tab.Pq) : ltOf cfP x y = Tab.lt x.m.name y.m.name := by
  show decide (Tab.cfS _ _ < 0) = _
  exact Tab.cfS_lt _ _
theorem swoP : SWO (ltOf cfP) where
  irrefl x := by rw [ltP]; exact Tab.lt_irr _
  trans x y z h1 h2 := by rw [ltP] at *; exact Tab.lt_trans h1 h2
  ntrans x y z h1 h2 := by
    rw [ltP] at *
    cases h3 : Tab.lt x.m.name z.m.name with
    | false => rfl
    | true =>
      cases h4 : Tab.lt y.m.name x.m.name with
      | true => rw [Tab.lt_trans h4 h3] at h2; cases h2
      | false =>
        have e := Tab.lt_total h1 h4
        rw [e, h2] at h3; cases h3

/-- A row of members lies so. -/
def PqAt (W : World) (b : Nat) (l : List Tab.Pq) : Prop := ∀ (j : Nat) (x : Tab.Pq), l[j]? = some x → W.cell? ⟨b, j * 3, none⟩ = some (.string x.m.name) ∧ W.cell? ⟨b, j * 3 + 1, none⟩ = some (.int .i64 x.m.ar) ∧ W.cell? ⟨b, j * 3 + 2, none⟩ = some (.slice x.a x.n x.c)

theorem flat_getP (ms : List Tab.Pq) {j i : Nat} {x : Tab.Pq} (hx : ms[j]? = some x) (hi : i < 3) : j * 3 + i < (flatK pCells 3 ms.toArray).size ∧ (flatK pCells 3 ms.toArray)[j * 3 + i]! = (pCells x)[i]! := by
  obtain ⟨hj, rfl⟩ := List.getElem?_eq_some_iff.1 hx
  have hs : j * 3 + i < ms.toArray.size * 3 := by simp; omega
  refine ⟨by simpa using hs, ?_⟩
  rw [get_flatK pCells 3 ms.toArray _ hs]
  have e1 : (j * 3 + i) / 3 = j := by omega
  have e2 : (j * 3 + i) % 3 = i := by omega
  rw [e1, e2]
  congr 2
  simp [hj]

theorem holds_rowP {W : World} {n₁ b c : Nat} {ms : List Tab.Pq} (h : W.ownsRow n₁ 222 3 (.slice (some ⟨b, 0, none⟩) ms.length c) ms.length (ms.flatMap pCells)) : HoldsK pCells 3 W b 0 ms.toArray ∧ b < W.heap.size := by
  · rcases h.2 with ⟨h0, _⟩ | ⟨g, cap, cur, hv, hb, hg, _⟩
    · cases h0
    · cases hv
      have hbk : Blk W b 222 cur := hg
      refine ⟨fun j hj => ?_, hbk.lt⟩
      have hj' : j < ms.length * 3 := by simpa using hj
      have hx : ms[j / 3]? = some ms[j / 3] := List.getElem?_eq_getElem (by omega)
      obtain ⟨_, hv⟩ := flat_getP ms hx (i := j % 3) (Nat.mod_lt _ (by omega))
      have e : j / 3 * 3 + j % 3 = j := by omega
      rw [e] at hv
      have hf := flat_at pCells pCells_len ms (j / 3) (j % 3) _ hx (Nat.mod_lt _ (by omega))
      rw [e] at hf
      have hlt : j % 3 < (pCells ms[j / 3]).length := by rw [pCells_len]; exact Nat.mod_lt _ (by omega)
      rw [List.getElem?_eq_getElem hlt] at hf
      have hc := h.cells (g := b) rfl _ _ hf
      rw [addr_plain] at hc
      refine ⟨?_, hbk.frozen _⟩
      rw [hc, hv]
      rw [getElem!_pos (pCells ms[j / 3]) (j % 3) hlt]; rfl

theorem at_of_holdsP {W : World} {b : Nat} {ms : List Tab.Pq} (h : HoldsK pCells 3 W b 0 ms.toArray) : PqAt W b ms := by
  intro j x hx
  have q : ∀ i, i < 3 → W.cell? ⟨b, 0 + (j * 3 + i), none⟩ = some (pCells x)[i]! := fun i hi => by
    obtain ⟨h1, h2⟩ := flat_getP ms hx hi
    rw [(h _ h1).1, h2]; rfl
  have q0 := q 0 (by omega)
  have q1 := q 1 (by omega)
  have q2 := q 2 (by omega)
  rw [Nat.zero_add] at q0 q1 q2
  exact ⟨q0, q1, q2⟩

theorem only_sortP {W : World} {b n : Nat} {d : Array Tab.Pq} {os : Array Obj} (hb : b < W.heap.size) : Only (· = b) W (sortWorldK pCells 3 W b 0 n d os) := by
  refine ⟨rfl, rfl, size_sortWorldK_c _ _ _ _ _ _ _ _, fun k hk hne => ?_⟩
  show (((putRowK pCells 3 (Sort.ahead W n) b 0 d).heap) ++ os)[k]? = _
  have hs : k < (putRowK pCells 3 (Sort.ahead W n) b 0 d).heap.size := by simpa [putRowK, putRow, mapBlock, Sort.ahead] using hk
  rw [Array.getElem?_append_left hs]
  have : b ≠ k := fun e => hne e.symm
  simp [putRowK, putRow, mapBlock, Sort.ahead, Array.getElem?_modify, this]

theorem clo_laysP (b size : Nat) (W : World) : CmpLays Tryz.prog 194 #[] pCells 3 cfP b 0 size W := fun _ _ _ _ x y => clo_cP x y _

/-- What a sort leaves. -/
def SoP (b : Nat) (ms : List Tab.Pq) (W W' : World) : Prop := ∃ ms' : List Tab.Pq, ms'.Perm ms ∧ (ms'.Pairwise fun x y => Tab.lt y.m.name x.m.name = false) ∧ Only (· = b) W W' ∧ PqAt W' b ms'

theorem pdq_cP (b c : Nat) (ms : List Tab.Pq) (n₁ : Nat) (W : World) (h : W.ownsRow n₁ 222 3 (.slice (some ⟨b, 0, none⟩) ms.length c) ms.length (ms.flatMap pCells)) (hs : ms.length ≤ 10000000) :
    Calls Tryz.prog 224 #[.slice (some ⟨b, 0, none⟩) ms.length c, .int .i64 0, .int .i64 ms.length, .int .i64 (Lib.bitLen ms.length : Nat), .func (.func 194) #[] #[]] W fun e w' => e = .returned (.tuple #[]) ∧ SoP b ms W w' := by
  have eg : ∀ args w, (callFunc 194 args).run Tryz.prog w = .ok (.enter 194 args) w := enters_of Tryz.func194 (by kernel_rfl) rfl
  obtain ⟨hH, hb⟩ := holds_rowP h
  have hlim : Lib.bitLen ms.toArray.size < 4611686018427387904 := Nat.lt_of_le_of_lt (Lib.bitLen_le _ 62 (by omega) (by simp; omega)) (by omega)
  have hp := AnyQ.pdqsortCmpFunc_all Tryz.pdqP 3 Tryz.isAgg222 Tryz.sizeOf222 pCells cfP 194 #[] swoP b 0 c ms.toArray W eg (clo_laysP b _ W)
    ⟨pCells_len, fun x v hv => by simp [pCells] at hv; rcases hv with rfl | rfl | rfl <;> rfl, hH, hb⟩ (ms.toArray.size + 1) 0 ms.toArray.size (Lib.bitLen ms.toArray.size) ms.toArray W (by omega) rfl (SWK.start hH) (Nat.zero_le _) (Nat.le_refl _) (by simp; omega) hlim (Or.inl rfl)
  change Calls Tryz.prog 224 _ _ _ at hp
  have hz : ms.toArray.size = ms.length := by simp
  rw [hz] at hp
  refine hp.mono ?_
  rintro e w' ⟨he, n, os, rfl⟩
  refine ⟨he, ?_⟩
  have hsrt := pdq_sorts (ltOf cfP) swoP ms.toArray 0 ms.toArray.size (Lib.bitLen ms.toArray.size) true true (Nat.zero_le _) (Nat.le_refl _) (Or.inl rfl)
  rw [hz] at hsrt
  generalize pdq (ltOf cfP) ms.toArray 0 ms.length (Lib.bitLen ms.length) true true = d at hsrt
  obtain ⟨⟨p1, _, p3⟩, p4⟩ := hsrt
  rw [hz] at p1
  refine ⟨d.toList, ?_, ?_, only_sortP hb, ?_⟩
  · have e1 : (d.extract 0 ms.length).toList = d.toList := by rw [← p1]; simp
    have e2 : (ms.toArray.extract 0 ms.length).toList = ms := by simp
    rw [e1, e2] at p3
    exact p3
  · rw [List.pairwise_iff_getElem]
    intro i k hi hk hik
    have hk' : k < d.size := by simpa using hk
    have hi' : i < d.size := by simpa using hi
    have := p4 i k (Nat.zero_le _) hik (by omega)
    rw [ltP, getElem!_pos d k hk', getElem!_pos d i hi'] at this
    simpa using this
  · have hh : HoldsK pCells 3 (sortWorldK pCells 3 W b 0 n d os) b 0 d := holdsK_sortWorldK_c pCells 3 W b 0 ms.toArray d n os hH hb (by rw [p1]; simp)
    refine at_of_holdsP (ms := d.toList) ?_
    simpa using hh

theorem sort_cP (b c : Nat) (ms : List Tab.Pq) (n₁ : Nat) (W : World) (h : W.ownsRow n₁ 222 3 (.slice (some ⟨b, 0, none⟩) ms.length c) ms.length (ms.flatMap pCells)) (hs : ms.length ≤ 10000000) :
    Calls Tryz.prog 193 #[.slice (some ⟨b, 0, none⟩) ms.length c, .func (.func 194) #[] #[]] W fun e w' => e = .returned (.tuple #[]) ∧ SoP b ms W w' := by
  have HP := Lib.hid (pdq_cP b c ms n₁ W h hs)
  have HB := Lib.hid (show ∀ w, Calls Tryz.prog 174 #[.int .u64 (ms.length : Int)] w fun e w' => e = .returned (.int .i64 (Lib.bitLen ms.length : Nat)) ∧ w' = w from fun w => by
    have := Any.bits_Len Tryz.lays125 (ms.length : Int) w (by omega) (by omega)
    change Calls Tryz.prog 174 _ _ _ at this
    simpa using this)
  have wr : IntKind.u64.wrap (ms.length : Int) = ms.length := by simp [IntKind.wrap, IntKind.bits, IntKind.signed]; omega
  generalize Lib.bitLen ms.length = bl at HP HB
  have HW := Lib.hid h
  clear h
  go_enter Tryz.func193, Tryz.ntmps193
  go_wp2_with fail
  refine (HB.out _).mono ?_
  rintro e w1 ⟨rfl, rfl⟩
  go_wp2_with fail
  refine HP.out.mono ?_
  rintro e w1 ⟨rfl, hE⟩
  have HE := Lib.hid hE
  clear hE
  go_wp2_with fail
  refine bodyPost_end (results_none rfl _ _ _) rfl ?_
  exact ⟨rfl, HE.out⟩

theorem sort_nilP (W : World) :
    Calls Tryz.prog 193 #[.slice none 0 0, .func (.func 194) #[] #[]] W fun e w' => e = .returned (.tuple #[]) ∧ w' = W := by
  have HP := Lib.hid (show ∀ lim, Calls Tryz.prog 224 #[.slice none 0 0, .int .i64 0, .int .i64 0, .int .i64 lim, .func (.func 194) #[] #[]] W fun e w' => e = .returned (.tuple #[]) ∧ w' = W from fun lim =>
    AnyF.pdqsortCmpFunc_none Tryz.pdqP none 0 lim _ W)
  have HB := Lib.hid (show ∀ w, Calls Tryz.prog 174 #[.int .u64 0] w fun e w' => e = .returned (.int .i64 (Lib.bitLen 0 : Nat)) ∧ w' = w from fun w => by
    have := Any.bits_Len Tryz.lays125 0 w (by omega) (by omega)
    change Calls Tryz.prog 174 _ _ _ at this
    simpa using this)
  generalize Lib.bitLen 0 = bl at HB
  go_enter Tryz.func193, Tryz.ntmps193
  go_wp2_with fail
  refine (HB.out _).mono ?_
  rintro e w1 ⟨rfl, rfl⟩
  go_wp2_with fail
  refine (HP.out _).mono ?_
  rintro e w1 ⟨rfl, rfl⟩
  go_wp2_with fail
  refine bodyPost_end (results_none rfl _ _ _) rfl ?_
  exact ⟨rfl, rfl⟩

end Go.Proofs.YthooiofaicdhgaaGreatDoor

namespace Go.Proofs.YthooiofaicdhgaaGreatDoor
open Go.ChangeShapes Go.WideShapes Go.ChangeAt Go.RowKit Go.Shelf

/-- The types of a member. -/
def TyB (n₁ : Nat) (W : World) (x : Tab.Pq) : Prop := W.ownsRow n₁ 9 1 (.slice x.a x.n x.c) x.m.types.length (x.m.types.flatMap zCells)
/-- The members so far, and their types. -/
def MbR (n₁ : Nat) (w1 : World) (l : List Tab.Pq) (v : Value) (W : World) : Prop := RR 222 3 pCells n₁ w1 l v W ∧ ∀ x ∈ l, TyB n₁ W x

theorem MbR.start (n₁ : Nat) (w1 : World) : MbR n₁ w1 [] (.slice none 0 0) w1 := ⟨RR.start _ _ _ _ _, fun x h => by cases h⟩
theorem MbR.keep {n₁ : Nat} {w1 W X : World} {l : List Tab.Pq} {v : Value} (h : MbR n₁ w1 l v W) (hk : Kept W X) : MbR n₁ w1 l v X :=
  ⟨h.1.keep hk, fun x hx => owns_only (S := fun _ => False) (h.2 x hx) (Only.of_kept hk) (fun _ _ h => h)⟩
theorem MbR.from {n₁ : Nat} {w1 W : World} {l : List Tab.Pq} {v : Value} (h : MbR n₁ w1 l v W) : MbR n₁ W l v W := ⟨h.1.from, h.2⟩
theorem MbR.next {n₁ : Nat} {w1 X w2 : World} {l : List Tab.Pq} {v v' : Value} {x : Tab.Pq} (h : MbR n₁ w1 l v X) (hx : TyB n₁ X x)
    (hr : w2.ownsRow n₁ 222 3 v' (l.length + 1) (l.flatMap pCells ++ pCells x)) (hg : X.grownBy w2 v.ownBlock) (hl : v'.ownBlock = v.ownBlock ∨ v'.ownBlock = some X.heap.size) : MbR n₁ w1 (l ++ [x]) v' w2 := by
  refine ⟨h.1.next (Kept.refl _) hr hg hl, fun y hy => ?_⟩
  rcases List.mem_append.1 hy with hy | hy
  · exact row_grown (h.2 y hy) h.1.1 (by decide) hg
  · simp at hy
    subst hy
    exact row_grown hx h.1.1 (by decide) hg

theorem info_mbrP : (Tryz.prog.info? 222).map (fun i => (i.zero, i.size, i.bytes)) = some (some (.agg #[.string ⟨#[]⟩, .int .i64 0, .slice none 0 0]), 3, 48) := by kernel_rfl
theorem info_strP : (Tryz.prog.info? 9).map (fun i => (i.zero, i.size, i.bytes)) = some (some (.string ⟨#[]⟩), 1, 16) := by kernel_rfl

theorem src_mbrP (w : World) (x : Tab.Pq) : Src Tryz.prog 3 187 (.slice (some ⟨w.heap.size, 0, none⟩) 1 1) 1 (pCells x) (w.alloc (.cells #[.string x.m.name, .int .i64 x.m.ar, .slice x.a x.n x.c] 222)) := by
  refine Src.ofSlice _ Tryz.underlying187 ⟨w.heap.size, 0, none⟩ 1 1 (pCells x) rfl ?_ ?_
  · intro j u hu
    rw [addr_plain, (Blk.new w _ _).cell, Nat.zero_add]
    simpa [pCells] using hu
  · intro u hu
    simp [pCells] at hu
    rcases hu with rfl | rfl | rfl <;> rfl
theorem src_str1 (w : World) (n : ByteArray) : Src Tryz.prog 1 28 (.slice (some ⟨w.heap.size, 0, none⟩) 1 1) 1 (zCells n) (w.alloc (.cells #[.string n] 9)) := by
  refine Src.ofSlice _ Tryz.underlying28 ⟨w.heap.size, 0, none⟩ 1 1 (zCells n) rfl ?_ ?_
  · intro j u hu
    rw [addr_plain, (Blk.new w _ _).cell, Nat.zero_add]
    simpa [zCells] using hu
  · intro u hu
    simp [zCells] at hu
    subst hu; rfl

/-- One type of one's own. -/
theorem ty_oneP (w : World) (n₁ : Nat) (hn : n₁ ≤ w.heap.size) (nm : ByteArray) (ar : Int) (n : ByteArray) : TyB n₁ (w.alloc (.cells #[.string n] 9)) ⟨⟨nm, ar, [n]⟩, some ⟨w.heap.size, 0, none⟩, 1, 1⟩ := by
  refine ⟨rfl, .inr ⟨w.heap.size, 1, _, rfl, hn, heap_alloc_new w _, Nat.le_refl _, by unfold maxLen; omega, rfl, rfl⟩⟩

end Go.Proofs.YthooiofaicdhgaaGreatDoor

namespace Go.Proofs.YthooiofaicdhgaaGreatDoor.Tab

theorem addM_membP {l : List M} {m x : M} (h : x ∈ addM l m) : x = m ∨ x ∈ l := by
  unfold addM at h
  cases hi : ix M.name l m.name with
  | none =>
    rw [hi] at h
    rcases List.mem_append.1 h with h | h
    · exact .inr h
    · simp at h; exact .inl h
  | some k =>
    rw [hi] at h
    rcases List.mem_or_eq_of_mem_set h with h | h
    · exact .inr h
    · exact .inl h
theorem foldM_membP {x : M} : ∀ (ms l : List M), x ∈ ms.foldl addM l → x ∈ ms ∨ x ∈ l
  | [], l, h => .inr h
  | m :: r, l, h => by
    rcases foldM_membP r _ h with h | h
    · exact .inl (List.mem_cons_of_mem _ h)
    · rcases addM_membP h with rfl | h
      · exact .inl (List.mem_cons_self ..)
      · exact .inr h
theorem methods_membP {t : List C} {s : ByteArray} {m : M} (h : m ∈ methods t s) : ∃ i, i < t.length ∧ m ∈ (nth t i).methods := by
  unfold methods at h
  rcases foldM_membP _ _ h with h | h
  · obtain ⟨i, hi, hm⟩ := List.mem_flatMap.1 h
    exact ⟨i, line_lt (List.mem_reverse.1 hi), hm⟩
  · cases h
theorem fields_membP {t : List C} {s : ByteArray} {f : V} (h : f ∈ fields t s) : ∃ i, i < t.length ∧ f ∈ (nth t i).fields := by
  unfold fields at h
  obtain ⟨i, hi, hf⟩ := List.mem_flatMap.1 h
  exact ⟨i, line_lt (List.mem_reverse.1 hi), hf⟩

end Go.Proofs.YthooiofaicdhgaaGreatDoor.Tab

namespace Go.Proofs.YthooiofaicdhgaaGreatDoor
open Go.ChangeShapes Go.WideShapes Go.ChangeAt Go.RowKit Go.Shelf

/-- No text of a table is too long for a string. -/
theorem vars_sizedP {w : World} {v : Value} {l : List Tab.V} (h : Row 2 VarAt w v l) {x : Tab.V} (hx : x ∈ l) : x.name.size ≤ maxLen ∧ x.typ.size ≤ maxLen := by
  obtain ⟨a, c, _, _, _, q⟩ := h
  obtain ⟨i, hi, rfl⟩ := List.getElem_of_mem hx
  obtain ⟨b, o, _, r⟩ := q i _ (List.getElem?_eq_getElem hi)
  exact r.2.2
theorem fields_sizedP {w : World} {a : Option Addr} {c : Nat} {t : List Tab.C} (h : TabAt w (.slice a t.length c) t) {s : ByteArray} {f : Tab.V} (hf : f ∈ Tab.fields t s) : f.name.size ≤ maxLen ∧ f.typ.size ≤ maxLen := by
  obtain ⟨i, hi, hf⟩ := Tab.fields_membP hf
  obtain ⟨b, o, _, hc⟩ := Row.cellsC h hi
  obtain ⟨_, _, ⟨v, _, hv⟩, _⟩ := hc
  exact vars_sizedP hv hf
theorem methods_sizedP {w : World} {a : Option Addr} {c : Nat} {t : List Tab.C} (h : TabAt w (.slice a t.length c) t) (hS : Small t) {s : ByteArray} {m : Tab.M} (hm : m ∈ Tab.methods t s) : m.name.size ≤ maxLen ∧ m.res.size ≤ maxLen ∧ (∀ p ∈ m.params, p.name.size ≤ maxLen ∧ p.typ.size ≤ maxLen) ∧ m.params.length ≤ 1000 := by
  obtain ⟨i, hi, hm⟩ := Tab.methods_membP hm
  obtain ⟨b, o, _, hc⟩ := Row.cellsC h hi
  obtain ⟨_, _, _, ⟨v, _, hv⟩, _⟩ := hc
  obtain ⟨a', c', _, _, _, q⟩ := hv
  obtain ⟨k, hk, rfl⟩ := List.getElem_of_mem hm
  obtain ⟨b', o', _, r⟩ := q k _ (List.getElem?_eq_getElem hk)
  obtain ⟨_, ⟨v', _, hp⟩, _, h1, h2⟩ := r
  exact ⟨h1, h2, fun p hp' => vars_sizedP hp hp', hS.params _ (nth_mem hi) _ (List.getElem_mem hk)⟩

theorem any_statesP {P : Program} {md : Region.Mode} {ops : Array Oper} {Q : Exit → Act → World → Prop} {n : Nat} {mask : Array Bool} {a : Act} {w : World} (k : ∀ G : Nat → Array Bool → Act → World → Prop, G = wpAny P md ops Q → wpAny P md ops Q n mask a w) : wpAny P md ops Q n mask a w := k _ rfl
theorem any_eqP {P : Program} {md : Region.Mode} {ops : Array Oper} {Q : Exit → Act → World → Prop} {G : Nat → Array Bool → Act → World → Prop} (hG : G = wpAny P md ops Q) {n n' : Nat} {m m' : Array Bool} {a a' : Act} {w : World} (h1 : n = n') (h2 : m = m') (h3 : a = a') (h : G n' m' a' w) : wpAny P md ops Q n m a w := by
  rw [← hG, h1, h2, h3]; exact h

theorem RR.ofP {α : Type} {e : TypeId} {k : Nat} {f : α → List Value} {n₁ : Nat} {X : World} {l : List α} {v : Value} (h : X.ownsRow n₁ e k v l.length (l.flatMap f)) : RR e k f n₁ X l v X := by
  refine ⟨h, Only.refl _ _, fun g e => .inl ?_⟩
  rcases h.2 with ⟨rfl, _⟩ | ⟨g', cap, cur, rfl, hb, hh, _⟩
  · simp [Value.ownBlock] at e
  · obtain rfl : g' = g := by simpa [Value.ownBlock] using e
    exact ⟨hb, _, _, hh⟩

/-- The numbers of some types. -/
def tyB (l : List Tab.V) : List ByteArray := l.map (·.typ)
theorem tyB_snoc {l : List Tab.V} {j : Nat} {f : Tab.V} (h : l[j]? = some f) : tyB (l.take (j + 1)) = tyB (l.take j) ++ [f.typ] := by
  unfold tyB; rw [List.take_add_one, h]; simp

/-- What shapeOf answers: the members by ascending names, all in blocks of its own. -/
def MbOut (t : List Tab.C) (s : ByteArray) (w : World) (e : Ending) (w' : World) : Prop :=
  ∃ (L : List (Tab.Mb ByteArray)) (a : Option Addr) (c : Nat), e = .returned (.slice a L.length c) ∧ L.Perm (Tab.mbs t s) ∧ (L.Pairwise fun x y => Tab.lt y.name x.name = false) ∧
    ∀ w'', Only (fun k => k < w.heap.size) w' w'' → MbsAt w'' (.slice a L.length c) L

theorem str_rowB {W : World} {n₁ : Nat} {x : Tab.Pq} (h : TyB n₁ W x) (hsz : ∀ y ∈ x.m.types, y.size ≤ maxLen) : Row 1 StrAt W (.slice x.a x.n x.c) x.m.types := by
  unfold TyB at h
  rcases h.2 with ⟨h0, h1⟩ | ⟨g, cap, cur, hv, h1, h2, h3, h4, h5, h6⟩
  · rw [h0]
    have : x.m.types = [] := List.eq_nil_of_length_eq_zero h1
    rw [this]
    exact Row.nil
  · have hv' := hv
    injection hv' with e1 e2 e3
    refine ⟨_, cap, by rw [e1, e2, e3], h3, h4, fun i n hn => ⟨g, 0, rfl, ?_⟩⟩
    have hf := flat_at zCells zCells_len x.m.types i 0 n hn (by omega)
    rw [hv] at h
    have hc := World.ownsRow.cells h (g := g) rfl _ _ hf
    rw [addr_plain] at hc
    exact ⟨by simpa using hc, hsz _ (List.mem_of_getElem? hn)⟩

theorem mb_outB {t : List Tab.C} {s : ByteArray} {w W W' : World} {mq : List Tab.Pq} {b c n₁ : Nat} (hn : w.heap.size ≤ n₁) (hrow : W.ownsRow n₁ 222 3 (.slice (some ⟨b, 0, none⟩) mq.length c) mq.length (mq.flatMap pCells)) (hty : ∀ x ∈ mq, TyB n₁ W x)
    (hm : mq.map Tab.Pq.m = Tab.mbs t s) (hsz : ∀ x ∈ Tab.mbs t s, x.name.size ≤ maxLen) (hts : ∀ x ∈ Tab.mbs t s, ∀ y ∈ x.types, y.size ≤ maxLen) (h : SoP b mq W W') : MbOut t s w (.returned (.slice (some ⟨b, 0, none⟩) mq.length c)) W' := by
  obtain ⟨ms', hp, hs, ho, hat⟩ := h
  have hbb : n₁ ≤ b ∧ mq.length ≤ c ∧ c ≤ maxLen ∧ ∃ cur, W.heap[b]? = some (.cells cur 222 (0, 0)) := by
    rcases hrow.2 with ⟨h0, _⟩ | ⟨g, cap, cur, hv, h1, h2, h3, h4, _⟩
    · cases h0
    · cases hv
      exact ⟨h1, h3, h4, cur, h2⟩
  obtain ⟨hb1, hb2, hb3, cur, hb4⟩ := hbb
  have hbl : b < W.heap.size := (Array.getElem?_eq_some_iff.1 hb4).1
  refine ⟨ms'.map Tab.Pq.m, some ⟨b, 0, none⟩, c, by rw [List.length_map, hp.length_eq], by rw [← hm]; exact hp.map _, ?_, ?_⟩
  · rw [List.pairwise_map]; exact hs
  · intro w'' hw
    refine ⟨_, c, rfl, by rw [List.length_map, hp.length_eq]; exact hb2, hb3, fun i x hx => ⟨b, 0, rfl, ?_⟩⟩
    rw [List.getElem?_map] at hx
    obtain ⟨q, hq, rfl⟩ := Option.map_eq_some_iff.1 hx
    obtain ⟨c0, c1, c2⟩ := hat i q hq
    have hqm : q ∈ mq := hp.subset (List.mem_of_getElem? hq)
    have hblk : w''.heap[b]? = W'.heap[b]? := hw.block b (Nat.lt_of_lt_of_le hbl ho.size) (by omega)
    have cc : ∀ o, w''.cell? ⟨b, o, none⟩ = W'.cell? ⟨b, o, none⟩ := fun o => World.cell?_of_block hblk
    have ht1 : TyB n₁ W' q := owns_typed (hty q hqm) ho fun g cs fr hs hc => by
      subst hs
      rw [hb4] at hc
      injection hc with hc
      injection hc with _ h2
      exact absurd h2 (by decide)
    have ht2 : TyB n₁ w'' q := owns_only ht1 hw (fun g hg h => by omega)
    rw [Nat.zero_add]
    exact ⟨by rw [cc]; exact c0, by rw [cc]; exact c1, ⟨_, by rw [cc]; exact c2, str_rowB ht2 (hts _ (by rw [← hm]; exact List.mem_map_of_mem hqm))⟩, hsz _ (by rw [← hm]; exact List.mem_map_of_mem hqm)⟩
theorem mb_noneB {t : List Tab.C} {s : ByteArray} {w W : World} (h : Tab.mbs t s = []) : MbOut t s w (.returned (.slice none 0 0)) W :=
  ⟨[], none, 0, rfl, by rw [h], List.Pairwise.nil, fun w'' _ => Row.nil⟩

set_option maxHeartbeats 8000000 in
theorem membersOf_c (a : Option Addr) (c : Nat) (t : List Tab.C) (s : ByteArray) (w : World) (hT : TabAt w (.slice a t.length c) t) (hS : Small t) :
    Calls Tryz.prog 156 #[.slice a t.length c, .string s] w fun e w' => MbOut t s w e w' ∧ Kept w w' := by
  obtain ⟨i0, hi, hz0, hzz1, hzz2⟩ := info_parts info_mbrP
  obtain ⟨j0, hj', hy0, hyy1, hyy2⟩ := info_parts info_strP
  have HT := Lib.hid hT
  have HFL := Lib.hid (fldsOf_le hS (s := s) (List.prefix_refl (bk (Tab.line t s) 0)))
  rw [fldsOf_all] at HFL
  have hfl := HFL.out
  have HFS := Lib.hid (fun f (hf : f ∈ Tab.fields t s) => fields_sizedP hT hf)
  have HMS := Lib.hid (fun m (hm : m ∈ Tab.methods t s) => methods_sizedP hT hS hm)
  clear hT
  go_enter Tryz.func156, Tryz.ntmps156
  go_wp2_with fail
  refine (fields_c a c t s w HT.out hS).mono ?_
  rintro e w1 ⟨v, rfl, hrow, hk⟩
  obtain ⟨fa, fc, rfl⟩ := owns_slice_n hrow
  have HR := Lib.hid hrow
  have HK := Lib.hid hk
  clear hrow hk
  go_wp2_with fail
  go_loopw [5, 17] (fun l q wr => ∃ (j : Nat) (ms : List Tab.Pq), q = .int .i64 j ∧ j ≤ (Tab.fields t s).length ∧ MbR w1.heap.size w1 ms l wr ∧ Hid (ms.map Tab.Pq.m = Tab.flB ((Tab.fields t s).take j))) (fun l q wr => (Tab.fields t s).length - (intOf q).toNat)
  case atStart => exact ⟨0, [], rfl, Nat.zero_le _, MbR.start _ _, Lib.hid rfl⟩
  case round =>
    obtain ⟨j, ms, rfl, hj, hR, HM⟩ := hrel
    by_cases hlt : j < (Tab.fields t s).length
    · have hltI : (j : Int) < ((Tab.fields t s).length : Int) := by omega
      have hx : (Tab.fields t s)[j]? = some (Tab.fields t s)[j] := List.getElem?_eq_getElem hlt
      have hxm : (Tab.fields t s)[j] ∈ Tab.fields t s := List.getElem_mem hlt
      generalize (Tab.fields t s)[j] = x at hx hxm
      obtain ⟨g, rfl, _⟩ := row_cells HR.out (by omega)
      obtain ⟨c0, c1⟩ := var_cells (hR.1.other (by decide) HR.out) hx
      have hkw := hR.1.kept HK.out HK.out.size
      have HX := Lib.hid (show (ms ++ [(⟨⟨x.name, -1, [x.typ]⟩, some ⟨wr.heap.size + 1, 0, none⟩, 1, 1⟩ : Tab.Pq)]).map Tab.Pq.m = Tab.flB ((Tab.fields t s).take (j + 1)) by
        rw [Tab.flB_snoc hx, List.map_append, HM.out]; rfl)
      have HL := Lib.hid (show ms.length = j by
        have := congrArg List.length HM.out
        unfold Tab.flB at this
        simp at this
        omega)
      obtain ⟨la, ln, lc, rfl⟩ := owns_slice hR.1.1
      have HB := Lib.hid (show w1.heap.size ≤ wr.heap.size from hR.1.2.1.size)
      have HRX := Lib.hid (hR.keep ((((Kept.refl wr).alloc (.cells #[.string x.name, .string x.typ] 50)).alloc (.cells #[.string x.typ] 9)).alloc (.cells #[.string x.name, .int .i64 (-1), .slice (some ⟨wr.heap.size + 1, 0, none⟩) 1 1] 222)))
      have hsx := src_mbrP ((wr.alloc (.cells #[.string x.name, .string x.typ] 50)).alloc (.cells #[.string x.typ] 9)) ⟨⟨x.name, -1, [x.typ]⟩, some ⟨wr.heap.size + 1, 0, none⟩, 1, 1⟩
      have hty := ty_oneP (wr.alloc (.cells #[.string x.name, .string x.typ] 50)) w1.heap.size (by have := HB.out; simp; omega) x.name (-1) (x.typ)
      rw [World.size_alloc, World.size_alloc] at hsx
      rw [World.size_alloc] at hty
      have HSX := Lib.hid hsx
      have HTY := Lib.hid (owns_only (S := fun _ => False) hty (Only.of_kept ((Kept.refl _).alloc (.cells #[.string x.name, .int .i64 (-1), .slice (some ⟨wr.heap.size + 1, 0, none⟩) 1 1] 222))) (fun _ _ h => h))
      clear hsx hty hx hR hkw hxm
      go_wp2_with (at_builtin; refine wpList_apk rfl (.tmp 21) (.tmp 28) 187 187 rfl w1.heap.size 3 222 i0 _ 48 Tryz.underlying187 hi hz0 hzz1 hzz2 rfl rfl HRX.out.1.1 rfl HSX.out (by rw [HL.out]; have := HFL.out; unfold maxLen; omega) (by rw [HL.out]; have := HFL.out; omega) (by have := HB.out; simp; omega) ?_; intro v' w2 hown' hgrow hlies; have HNX := Lib.hid (HRX.out.next HTY.out hown' hgrow hlies); obtain ⟨va', vn', vc', rfl⟩ := owns_slice hown'; clear hown' hgrow hlies)
      go_roundw
      case rel => exact ⟨j + 1, _, by go_num, by omega, HNX.out, HX⟩
      case measure => simp [intOf]; omega
    · have hltI : ¬ (j : Int) < ((Tab.fields t s).length : Int) := by omega
      obtain rfl : j = (Tab.fields t s).length := by omega
      have hM1 := HM.out
      rw [List.take_length] at hM1
      have HM1 := Lib.hid hM1
      have hK1 := hR.1.kept HK.out HK.out.size
      have HR1 := Lib.hid hR
      have HK1 := Lib.hid hK1
      have HL1 := Lib.hid (show ms.length = (Tab.fields t s).length by
        have := congrArg List.length hM1
        unfold Tab.flB at this
        simpa using this)
      obtain ⟨la, ln, lc, rfl⟩ := owns_slice hR.1.1
      clear hR hlt hM1 hK1 HM
      go_wp2_with fail
      refine (methods_c a c t s wr (tab_kept HT.out HK1.out) hS).mono ?_
      rintro e w2 ⟨m2, v2, rfl, hf, hrow2, hrows, hlen2, hk2⟩
      obtain ⟨ma, mc, rfl⟩ := owns_slice_n hrow2
      have HR2 := Lib.hid hrow2
      have HRS := Lib.hid hrows
      have HF := Lib.hid hf
      have HK2 := Lib.hid (HK1.out.trans hk2)
      have HM2 := Lib.hid (HR1.out.keep hk2).from
      have HS2 := Lib.hid (show w1.heap.size ≤ w2.heap.size from Nat.le_trans HR1.out.1.2.1.size hk2.size)
      clear hrow2 hrows hf hk2
      go_wp2_with fail
      go_loopw [5, 35] (fun l q wr => ∃ (j : Nat) (mq : List Tab.Pq), q = .int .i64 j ∧ j ≤ m2.length ∧ MbR w1.heap.size w2 mq l wr ∧ Hid (mq.map Tab.Pq.m = Tab.flB (Tab.fields t s) ++ Tab.mtB ((m2.map Prod.fst).take j))) (fun l q wr => m2.length - (intOf q).toNat)
      case atStart => exact ⟨0, ms, rfl, Nat.zero_le _, HM2.out, Lib.hid (by rw [HM1.out]; simp [Tab.mtB])⟩
      case round =>
        obtain ⟨j, mq, rfl, hj, hR, HM⟩ := hrel
        have HRQ := Lib.hid hR
        have hkw := hR.1.kept HK2.out (Nat.le_trans HK.out.size (Nat.le_refl _))
        have HKW := Lib.hid hkw
        obtain ⟨ga, gn, gc, rfl⟩ := owns_slice hR.1.1
        obtain ⟨wo, rfl⟩ : ∃ wo, wo = wr := ⟨_, rfl⟩
        by_cases hlt : j < m2.length
        · have hltI : (j : Int) < (m2.length : Int) := by omega
          have hx : m2[j]? = some m2[j] := List.getElem?_eq_getElem hlt
          have hxm : m2[j] ∈ m2 := List.getElem_mem hlt
          generalize m2[j] = x at hx hxm
          have hmz := HMS.out x.1 (by rw [← HF.out]; exact List.mem_map_of_mem hxm)
          have HMZ := Lib.hid hmz
          have hpl := hmz.2.2.2
          obtain ⟨g, rfl, _⟩ := row_cells HR2.out (by omega)
          obtain ⟨c0, c1, c2⟩ := sig_cells (hR.1.other (by decide) HR2.out) hx
          have HPR := Lib.hid (hR.1.other (by decide) (HRS.out x hxm))
          obtain ⟨pa, pc, hp⟩ := owns_slice_n (HRS.out x hxm)
          rw [hp] at c1 HPR
          have HX := Lib.hid (show (m2.map Prod.fst)[j]? = some x.1 by rw [List.getElem?_map, hx]; rfl)
          obtain ⟨X1, hmk, hr1, hg1⟩ := run_makeSlice_owned (P := Tryz.prog) (w := wo.alloc (.cells #[.string x.1.name, .slice pa x.1.params.length pc, .string x.1.res] 53)) (wo.heap.size + 1) 28 9 j0 _ 1 Tryz.underlying28 hj' hy0 hyy1 .i64 .i64 (x.1.params.length + 1) (by omega) (by rw [hyy2]; omega) (by unfold maxLen; omega) (by simp)
          have e1 : ((x.1.params.length + 1 : Nat) : Int) = (x.1.params.length : Int) + 1 := by omega
          rw [e1] at hmk
          rw [World.size_alloc] at hmk hr1
          have HKX := Lib.hid (((Kept.refl wo).alloc (.cells #[.string x.1.name, .slice pa x.1.params.length pc, .string x.1.res] 53)).grown hg1 (fun k e => by cases e))
          have HR1' := Lib.hid (RR.ofP (f := zCells) (l := []) hr1)
          have HB1 := Lib.hid ((Blk.new wo 53 #[.string x.1.name, .slice pa x.1.params.length pc, .string x.1.res]).grownBy hg1 (by simp))
          clear hx hxm hmz hp hr1 hg1 hkw hR e1
          have z1 := HB1.out.cell 1
          simp only [List.getElem?_toArray, List.getElem?_cons_zero, List.getElem?_cons_succ] at z1
          go_wp2_with fail
          go_loopw [10, 47] (fun l q wr => ∃ i : Nat, q = .int .i64 i ∧ i ≤ x.1.params.length ∧ RR 9 1 zCells (wo.heap.size + 1) X1 (tyB (x.1.params.take i)) l wr) (fun l q wr => x.1.params.length - (intOf q).toNat)
          case atStart => exact ⟨0, rfl, Nat.zero_le _, HR1'.out⟩
          case round =>
            obtain ⟨i, rfl, hi', hI⟩ := hrel
            have HI := Lib.hid hI
            have hko := hI.kept HKX.out (by omega)
            have HKO := Lib.hid hko
            have hzz := hI.2.1.size
            have hXX := HKX.out.size
            obtain ⟨ta, tn, tc, rfl⟩ := owns_slice hI.1
            by_cases hil : i < x.1.params.length
            · have hilI : (i : Int) < (x.1.params.length : Int) := by omega
              have hy : x.1.params[i]? = some x.1.params[i] := List.getElem?_eq_getElem hil
              have hym : x.1.params[i] ∈ x.1.params := List.getElem_mem hil
              generalize x.1.params[i] = y at hy hym
              obtain ⟨pg, rfl, _⟩ := row_cells HPR.out (by omega)
              obtain ⟨p0, p1⟩ := var_cells (owns_only (S := fun _ => False) HPR.out (Only.of_kept hko) (fun _ _ h => h)) hy
              have HTX := Lib.hid (tyB_snoc hy)
              have HTL := Lib.hid (show (tyB (x.1.params.take i)).length = i by unfold tyB; simp; omega)
              have HIX := Lib.hid (hI.keep (((Kept.refl wr).alloc (.cells #[.string y.name, .string y.typ] 50)).alloc (.cells #[.string y.typ] 9)))
              have hsi := src_str1 (wr.alloc (.cells #[.string y.name, .string y.typ] 50)) y.typ
              rw [World.size_alloc] at hsi
              have HSI := Lib.hid hsi
              clear hsi hI hko hy hym z1 c0 c1 c2 hmk
              go_wp2_with (at_builtin; refine wpList_apk rfl (.tmp 51) (.tmp 54) 28 28 rfl (wo.heap.size + 1) 1 9 j0 _ 16 Tryz.underlying28 hj' hy0 hyy1 hyy2 rfl rfl HIX.out.1 rfl HSI.out (by rw [HTL.out]; unfold maxLen; omega) (by rw [HTL.out]; omega) (by simp; omega) ?_; intro v' w3 hown' hgrow hlies; have HNX := Lib.hid (HIX.out.next (Kept.refl _) hown' hgrow hlies); obtain ⟨va', vn', vc', rfl⟩ := owns_slice hown'; clear hown' hgrow hlies)
              go_roundw
              case rel => exact ⟨i + 1, by go_num, by omega, by rw [HTX.out]; exact HNX.out⟩
              case measure => simp [intOf]; omega
            · have hilI : ¬ (i : Int) < (x.1.params.length : Int) := by omega
              obtain rfl : i = x.1.params.length := by omega
              rw [List.take_length] at hI
              have hbx : Blk wr wo.heap.size 53 #[.string x.1.name, .slice pa x.1.params.length pc, .string x.1.res] := HB1.out.only hI.2.1 (by have := HB1.out.lt; rintro (⟨h, _⟩ | h) <;> omega)
              have y0 := hbx.cell 0
              have y1 := hbx.cell 1
              have y2 := hbx.cell 2
              simp only [List.getElem?_toArray, List.getElem?_cons_zero, List.getElem?_cons_succ] at y0 y1 y2
              have HI2 := Lib.hid (hI.keep (((Kept.refl wr).drew).alloc (.cells #[.string x.1.res] 9)))
              have hsi := src_str1 wr.drew x.1.res
              have HSI := Lib.hid hsi
              have HTL := Lib.hid (show (tyB x.1.params).length = x.1.params.length by unfold tyB; simp)
              have HKO2 := Lib.hid hko
              clear hmk hI z1 hko hsi HI c0 c1 c2
              go_wp2_with fail
              have ya0 := (hbx.alloc (.cells #[.string x.1.res] 9)).cell 0
              have ya1 := (hbx.alloc (.cells #[.string x.1.res] 9)).cell 1
              have ya2 := (hbx.alloc (.cells #[.string x.1.res] 9)).cell 2
              simp only [List.getElem?_toArray, List.getElem?_cons_zero, List.getElem?_cons_succ] at ya0 ya1 ya2
              have hla : True := trivial
              have HKQ := Lib.hid (show w1.heap.size ≤ wo.heap.size + 1 by have := HS2.out; have := HRQ.out.1.2.1.size; omega)
              have HBQ := Lib.hid (show w1.heap.size ≤ wo.heap.size by have := HS2.out; have := HRQ.out.1.2.1.size; omega)
              have HLQ := Lib.hid (show mq.length = (Tab.fields t s).length + j by
                have := congrArg List.length HM.out
                unfold Tab.flB Tab.mtB at this
                simp at this
                omega)
              clear hbx
              refine wp_region_any (by kernel_rfl) ?_
              change wpAny _ _ _ _ _ _ _ (World.drew _)
              refine any_statesP (fun G hG => ?_)
              have hs0' : ∀ (va7 : Option Addr) (vn7 vc7 : Nat) (w7 : World), RR 9 1 zCells (wo.heap.size + 1) X1 (tyB x.1.params ++ [x.1.res]) (.slice va7 vn7 vc7) w7 → Kept wo w7 → G 4 #[true, true, true, true, true, true, true, true, true, true, true, false, false, false, false] { tmps := #[.slice a t.length c, .string s, undef, undef, .slice none 0 0, .slice ga gn gc, undef, u7, undef, .pointer (some ⟨wo.heap.size, 0, none⟩), .slice ta tn tc, undef, u12, .slice a t.length c, .string s, .slice fa (Tab.fields t s).length fc, .int .i64 ((Tab.fields t s).length : Nat), .int .i64 ((Tab.fields t s).length : Nat), .bool false, u19, u20, u21, u22, u23, u24, u25, u26, u27, u28, u29, u30, .slice a t.length c, .string s, .slice (some ⟨g, 0, none⟩) m2.length mc, .int .i64 (m2.length : Nat), .int .i64 (j : Nat), .bool true, .pointer (some ⟨g, j * 3, none⟩), .agg #[.string x.1.name, .slice pa x.1.params.length pc, .string x.1.res], .pointer (some ⟨wo.heap.size, 1, none⟩), .slice pa x.1.params.length pc, .int .i64 (x.1.params.length : Nat), .int .i64 ((x.1.params.length : Int) + 1), .slice (some ⟨wo.heap.size + 1, 0, none⟩) 0 (x.1.params.length + 1), .pointer (some ⟨wo.heap.size, 1, none⟩), .slice pa x.1.params.length pc, .int .i64 (x.1.params.length : Nat), .int .i64 (x.1.params.length : Nat), .bool false, u49, u50, u51, u52, u53, u54, u55, u56, .slice ga gn gc, .pointer (some ⟨wo.heap.size, 0, none⟩), .string x.1.name, .pointer (some ⟨wo.heap.size, 1, none⟩), .slice pa x.1.params.length pc, .int .i64 (x.1.params.length : Nat), .slice ta tn tc, .pointer (some ⟨wo.heap.size, 2, none⟩), .string x.1.res, .slice (some ⟨wr.heap.size, 0, none⟩) 1 1, .slice va7 vn7 vc7, u68, u69, u70, u71, undef, undef, undef], defers := [] } w7 := by
                intro va7 vn7 vc7 w7 h7 k7
                clear y0 y1 y2 ya0 ya1 ya2 hla
                have hb7 : Blk w7 wo.heap.size 53 #[.string x.1.name, .slice pa x.1.params.length pc, .string x.1.res] := HB1.out.only h7.2.1 (by have := HB1.out.lt; rintro (⟨h, _⟩ | h) <;> omega)
                have y0 := hb7.cell 0
                have y1 := hb7.cell 1
                have y2 := hb7.cell 2
                simp only [List.getElem?_toArray, List.getElem?_cons_zero, List.getElem?_cons_succ] at y0 y1 y2
                have H7 := Lib.hid h7
                have K7 := Lib.hid k7
                clear h7 k7 hb7
                rw [hG]
                have hbk := HKQ.out
                have HRY := Lib.hid ((HRQ.out.keep K7.out).keep ((Kept.refl w7).alloc (.cells #[.string x.1.name, .int .i64 (x.1.params.length : Nat), .slice va7 vn7 vc7] 222)))
                have hsy := src_mbrP w7 ⟨⟨x.1.name, (x.1.params.length : Nat), tyB x.1.params ++ [x.1.res]⟩, va7, vn7, vc7⟩
                have HSY := Lib.hid hsy
                have HTY := Lib.hid (show TyB w1.heap.size (w7.alloc (.cells #[.string x.1.name, .int .i64 (x.1.params.length : Nat), .slice va7 vn7 vc7] 222)) ⟨⟨x.1.name, (x.1.params.length : Nat), tyB x.1.params ++ [x.1.res]⟩, va7, vn7, vc7⟩ from
                  owns_base (owns_only (S := fun _ => False) H7.out.1 (Only.of_kept ((Kept.refl w7).alloc _)) (fun _ _ h => h)) (by have := hbk; omega))
                have HXX := Lib.hid (show (mq ++ [(⟨⟨x.1.name, (x.1.params.length : Nat), tyB x.1.params ++ [x.1.res]⟩, va7, vn7, vc7⟩ : Tab.Pq)]).map Tab.Pq.m = Tab.flB (Tab.fields t s) ++ Tab.mtB ((m2.map Prod.fst).take (j + 1)) by
                  rw [Tab.mtB_snoc HX.out, List.map_append, HM.out, ← List.append_assoc]; rfl)
                have hsz7 := K7.out.size
                clear hsy hbk
                refine wpAny_take (i := 11) (v := .agg #[.string x.1.name, .int .i64 (x.1.params.length : Nat), .slice va7 vn7 vc7]) rfl (by kernel_rfl) (by kernel_rfl) (by kernel_rfl) (fun _ _ _ h => h) (Or.inl ⟨by kernel_rfl, by intro w; kernel_rfl⟩) ?_
                refine wpAny_ready (rs := [12]) (by kernel_rfl) (by simp) ?_
                refine AllReady.cons rfl (fun K hK => ?_) ?_
                · go_simp
                  refine hK _ _ ?_; clear hK K
                  refine wpAny_ready (rs := [13]) (by kernel_rfl) (by simp) ?_
                  refine AllReady.cons rfl (fun K hK => ?_) ?_
                  · refine step_apk rfl (.tmp 57) (.tmp 69) 187 187 rfl w1.heap.size 3 222 i0 _ 48 Tryz.underlying187 hi hz0 hzz1 hzz2 rfl rfl HRY.out.1.1 rfl HSY.out (by rw [HLQ.out]; unfold maxLen; omega) (by rw [HLQ.out]; omega) (by simp; have := HBQ.out; omega) ?_
                    intro v' w8 hown' hgrow _ hlies
                    have HNX := Lib.hid (HRY.out.next HTY.out hown' hgrow hlies)
                    obtain ⟨va8, vn8, vc8, rfl⟩ := owns_slice hown'
                    clear hown' hgrow hlies
                    refine hK _ _ ?_; clear hK K
                    refine wpAny_take (i := 14) (v := .slice va8 vn8 vc8) rfl (by kernel_rfl) (by kernel_rfl) (by kernel_rfl) (fun _ _ _ h => h) (Or.inl ⟨by kernel_rfl, by intro w; kernel_rfl⟩) ?_
                    refine wpAny_done (by kernel_rfl) ?_ _
                    go_simp
                    go_wp2_with fail
                    go_roundw
                    case rel => exact ⟨j + 1, _, by go_num, by omega, HNX.out, HXX⟩
                    case measure => simp [intOf]; omega
                  · exact AllReady.nil
                · exact AllReady.nil
              have hs0 := Lib.hid hs0'
              clear hs0'
              have hs1' : G 5 #[true, true, true, true, true, true, true, true, true, true, false, false, false, false, false] { tmps := #[.slice a t.length c, .string s, undef, undef, .slice none 0 0, .slice ga gn gc, undef, u7, undef, .pointer (some ⟨wo.heap.size, 0, none⟩), .slice ta tn tc, undef, u12, .slice a t.length c, .string s, .slice fa (Tab.fields t s).length fc, .int .i64 ((Tab.fields t s).length : Nat), .int .i64 ((Tab.fields t s).length : Nat), .bool false, u19, u20, u21, u22, u23, u24, u25, u26, u27, u28, u29, u30, .slice a t.length c, .string s, .slice (some ⟨g, 0, none⟩) m2.length mc, .int .i64 (m2.length : Nat), .int .i64 (j : Nat), .bool true, .pointer (some ⟨g, j * 3, none⟩), .agg #[.string x.1.name, .slice pa x.1.params.length pc, .string x.1.res], .pointer (some ⟨wo.heap.size, 1, none⟩), .slice pa x.1.params.length pc, .int .i64 (x.1.params.length : Nat), .int .i64 ((x.1.params.length : Int) + 1), .slice (some ⟨wo.heap.size + 1, 0, none⟩) 0 (x.1.params.length + 1), .pointer (some ⟨wo.heap.size, 1, none⟩), .slice pa x.1.params.length pc, .int .i64 (x.1.params.length : Nat), .int .i64 (x.1.params.length : Nat), .bool false, u49, u50, u51, u52, u53, u54, u55, u56, .slice ga gn gc, .pointer (some ⟨wo.heap.size, 0, none⟩), .string x.1.name, .pointer (some ⟨wo.heap.size, 1, none⟩), .slice pa x.1.params.length pc, .int .i64 (x.1.params.length : Nat), .slice ta tn tc, .pointer (some ⟨wo.heap.size, 2, none⟩), .string x.1.res, .slice (some ⟨wr.heap.size, 0, none⟩) 1 1, u67, u68, u69, u70, u71, undef, undef, undef], defers := [] } (wr.drew.alloc (.cells #[.string x.1.res] 9)) := by
                clear y0 y1 y2
                rw [hG]
                refine wpAny_ready (rs := [10]) (by kernel_rfl) (by simp) ?_
                refine AllReady.cons rfl (fun K hK => ?_) ?_
                · refine step_apk rfl (.tmp 63) (.tmp 66) 28 28 rfl (wo.heap.size + 1) 1 9 j0 _ 16 Tryz.underlying28 hj' hy0 hyy1 hyy2 rfl rfl HI2.out.1 rfl HSI.out (by rw [HTL.out]; unfold maxLen; omega) (by rw [HTL.out]; omega) (by simp [World.size_alloc]; omega) ?_
                  intro v' w7 hown' hgrow _ hlies
                  have h7 := HI2.out.next (Kept.refl _) hown' hgrow hlies
                  have k7 := h7.kept HKX.out (by omega)
                  obtain ⟨va7, vn7, vc7, rfl⟩ := owns_slice hown'
                  clear hown' hgrow hlies
                  refine hK _ _ ?_; clear hK K
                  exact any_eqP hG (by kernel_rfl) (by kernel_rfl) (by kernel_rfl) (hs0.out _ _ _ _ h7 k7)
                exact AllReady.nil
              have hs1 := Lib.hid hs1'
              clear hs1'
              have hs2' : G 6 #[true, true, true, true, true, true, true, true, true, false, false, false, false, false, false] { tmps := #[.slice a t.length c, .string s, undef, undef, .slice none 0 0, .slice ga gn gc, undef, u7, undef, .pointer (some ⟨wo.heap.size, 0, none⟩), .slice ta tn tc, undef, u12, .slice a t.length c, .string s, .slice fa (Tab.fields t s).length fc, .int .i64 ((Tab.fields t s).length : Nat), .int .i64 ((Tab.fields t s).length : Nat), .bool false, u19, u20, u21, u22, u23, u24, u25, u26, u27, u28, u29, u30, .slice a t.length c, .string s, .slice (some ⟨g, 0, none⟩) m2.length mc, .int .i64 (m2.length : Nat), .int .i64 (j : Nat), .bool true, .pointer (some ⟨g, j * 3, none⟩), .agg #[.string x.1.name, .slice pa x.1.params.length pc, .string x.1.res], .pointer (some ⟨wo.heap.size, 1, none⟩), .slice pa x.1.params.length pc, .int .i64 (x.1.params.length : Nat), .int .i64 ((x.1.params.length : Int) + 1), .slice (some ⟨wo.heap.size + 1, 0, none⟩) 0 (x.1.params.length + 1), .pointer (some ⟨wo.heap.size, 1, none⟩), .slice pa x.1.params.length pc, .int .i64 (x.1.params.length : Nat), .int .i64 (x.1.params.length : Nat), .bool false, u49, u50, u51, u52, u53, u54, u55, u56, .slice ga gn gc, .pointer (some ⟨wo.heap.size, 0, none⟩), .string x.1.name, .pointer (some ⟨wo.heap.size, 1, none⟩), .slice pa x.1.params.length pc, .int .i64 (x.1.params.length : Nat), .slice ta tn tc, .pointer (some ⟨wo.heap.size, 2, none⟩), .string x.1.res, u66, u67, u68, u69, u70, u71, undef, undef, undef], defers := [] } wr.drew := by
                clear ya0 ya1 ya2 hla
                rw [hG]
                refine wpAny_ready (rs := [9]) (by kernel_rfl) (by simp) ?_
                refine AllReady.cons rfl (fun K hK => ?_) ?_
                · go_simp
                  refine hK _ _ ?_; clear hK K
                  exact any_eqP hG (by kernel_rfl) (by kernel_rfl) (by kernel_rfl) hs1.out
                exact AllReady.nil
              have hs2 := Lib.hid hs2'
              clear hs2'
              have hs3' : G 7 #[true, true, true, true, true, true, true, true, false, false, false, false, false, false, false] { tmps := #[.slice a t.length c, .string s, undef, undef, .slice none 0 0, .slice ga gn gc, undef, u7, undef, .pointer (some ⟨wo.heap.size, 0, none⟩), .slice ta tn tc, undef, u12, .slice a t.length c, .string s, .slice fa (Tab.fields t s).length fc, .int .i64 ((Tab.fields t s).length : Nat), .int .i64 ((Tab.fields t s).length : Nat), .bool false, u19, u20, u21, u22, u23, u24, u25, u26, u27, u28, u29, u30, .slice a t.length c, .string s, .slice (some ⟨g, 0, none⟩) m2.length mc, .int .i64 (m2.length : Nat), .int .i64 (j : Nat), .bool true, .pointer (some ⟨g, j * 3, none⟩), .agg #[.string x.1.name, .slice pa x.1.params.length pc, .string x.1.res], .pointer (some ⟨wo.heap.size, 1, none⟩), .slice pa x.1.params.length pc, .int .i64 (x.1.params.length : Nat), .int .i64 ((x.1.params.length : Int) + 1), .slice (some ⟨wo.heap.size + 1, 0, none⟩) 0 (x.1.params.length + 1), .pointer (some ⟨wo.heap.size, 1, none⟩), .slice pa x.1.params.length pc, .int .i64 (x.1.params.length : Nat), .int .i64 (x.1.params.length : Nat), .bool false, u49, u50, u51, u52, u53, u54, u55, u56, .slice ga gn gc, .pointer (some ⟨wo.heap.size, 0, none⟩), .string x.1.name, .pointer (some ⟨wo.heap.size, 1, none⟩), .slice pa x.1.params.length pc, .int .i64 (x.1.params.length : Nat), .slice ta tn tc, .pointer (some ⟨wo.heap.size, 2, none⟩), u65, u66, u67, u68, u69, u70, u71, undef, undef, undef], defers := [] } wr.drew := by
                clear ya0 ya1 ya2 hla
                rw [hG]
                refine wpAny_ready (rs := [8]) (by kernel_rfl) (by simp) ?_
                refine AllReady.cons rfl (fun K hK => ?_) ?_
                · go_simp
                  refine hK _ _ ?_; clear hK K
                  exact any_eqP hG (by kernel_rfl) (by kernel_rfl) (by kernel_rfl) hs2.out
                exact AllReady.nil
              have hs3 := Lib.hid hs3'
              clear hs3'
              have hs4' : ∀ (va7 : Option Addr) (vn7 vc7 : Nat) (w7 : World), RR 9 1 zCells (wo.heap.size + 1) X1 (tyB x.1.params ++ [x.1.res]) (.slice va7 vn7 vc7) w7 → Kept wo w7 → G 6 #[true, true, true, true, false, false, true, true, true, true, true, false, false, false, false] { tmps := #[.slice a t.length c, .string s, undef, undef, .slice none 0 0, .slice ga gn gc, undef, u7, undef, .pointer (some ⟨wo.heap.size, 0, none⟩), .slice ta tn tc, undef, u12, .slice a t.length c, .string s, .slice fa (Tab.fields t s).length fc, .int .i64 ((Tab.fields t s).length : Nat), .int .i64 ((Tab.fields t s).length : Nat), .bool false, u19, u20, u21, u22, u23, u24, u25, u26, u27, u28, u29, u30, .slice a t.length c, .string s, .slice (some ⟨g, 0, none⟩) m2.length mc, .int .i64 (m2.length : Nat), .int .i64 (j : Nat), .bool true, .pointer (some ⟨g, j * 3, none⟩), .agg #[.string x.1.name, .slice pa x.1.params.length pc, .string x.1.res], .pointer (some ⟨wo.heap.size, 1, none⟩), .slice pa x.1.params.length pc, .int .i64 (x.1.params.length : Nat), .int .i64 ((x.1.params.length : Int) + 1), .slice (some ⟨wo.heap.size + 1, 0, none⟩) 0 (x.1.params.length + 1), .pointer (some ⟨wo.heap.size, 1, none⟩), .slice pa x.1.params.length pc, .int .i64 (x.1.params.length : Nat), .int .i64 (x.1.params.length : Nat), .bool false, u49, u50, u51, u52, u53, u54, u55, u56, .slice ga gn gc, .pointer (some ⟨wo.heap.size, 0, none⟩), .string x.1.name, .pointer (some ⟨wo.heap.size, 1, none⟩), u61, u62, .slice ta tn tc, .pointer (some ⟨wo.heap.size, 2, none⟩), .string x.1.res, .slice (some ⟨wr.heap.size, 0, none⟩) 1 1, .slice va7 vn7 vc7, u68, u69, u70, u71, undef, undef, undef], defers := [] } w7 := by
                intro va7 vn7 vc7 w7 h7 k7
                clear y0 y1 y2 ya0 ya1 ya2 hla
                have hb7 : Blk w7 wo.heap.size 53 #[.string x.1.name, .slice pa x.1.params.length pc, .string x.1.res] := HB1.out.only h7.2.1 (by have := HB1.out.lt; rintro (⟨h, _⟩ | h) <;> omega)
                have y0 := hb7.cell 0
                have y1 := hb7.cell 1
                have y2 := hb7.cell 2
                simp only [List.getElem?_toArray, List.getElem?_cons_zero, List.getElem?_cons_succ] at y0 y1 y2
                have H7 := Lib.hid h7
                have K7 := Lib.hid k7
                clear h7 k7 hb7
                rw [hG]
                refine wpAny_ready (rs := [4]) (by kernel_rfl) (by simp) ?_
                refine AllReady.cons rfl (fun K hK => ?_) ?_
                · go_simp
                  refine hK _ _ ?_; clear hK K
                  refine wpAny_take (i := 5) (v := .int .i64 (x.1.params.length : Nat)) rfl (by kernel_rfl) (by kernel_rfl) (by kernel_rfl) (fun _ _ _ h => h) (Or.inl ⟨by kernel_rfl, by intro w; go_simp; try with_reducible rfl⟩) ?_
                  exact any_eqP hG (by kernel_rfl) (by kernel_rfl) (by kernel_rfl) (hs0.out _ _ _ _ H7.out K7.out)
                exact AllReady.nil
              have hs4 := Lib.hid hs4'
              clear hs4'
              have hs5' : G 7 #[true, true, true, true, false, false, true, true, true, true, false, false, false, false, false] { tmps := #[.slice a t.length c, .string s, undef, undef, .slice none 0 0, .slice ga gn gc, undef, u7, undef, .pointer (some ⟨wo.heap.size, 0, none⟩), .slice ta tn tc, undef, u12, .slice a t.length c, .string s, .slice fa (Tab.fields t s).length fc, .int .i64 ((Tab.fields t s).length : Nat), .int .i64 ((Tab.fields t s).length : Nat), .bool false, u19, u20, u21, u22, u23, u24, u25, u26, u27, u28, u29, u30, .slice a t.length c, .string s, .slice (some ⟨g, 0, none⟩) m2.length mc, .int .i64 (m2.length : Nat), .int .i64 (j : Nat), .bool true, .pointer (some ⟨g, j * 3, none⟩), .agg #[.string x.1.name, .slice pa x.1.params.length pc, .string x.1.res], .pointer (some ⟨wo.heap.size, 1, none⟩), .slice pa x.1.params.length pc, .int .i64 (x.1.params.length : Nat), .int .i64 ((x.1.params.length : Int) + 1), .slice (some ⟨wo.heap.size + 1, 0, none⟩) 0 (x.1.params.length + 1), .pointer (some ⟨wo.heap.size, 1, none⟩), .slice pa x.1.params.length pc, .int .i64 (x.1.params.length : Nat), .int .i64 (x.1.params.length : Nat), .bool false, u49, u50, u51, u52, u53, u54, u55, u56, .slice ga gn gc, .pointer (some ⟨wo.heap.size, 0, none⟩), .string x.1.name, .pointer (some ⟨wo.heap.size, 1, none⟩), u61, u62, .slice ta tn tc, .pointer (some ⟨wo.heap.size, 2, none⟩), .string x.1.res, .slice (some ⟨wr.heap.size, 0, none⟩) 1 1, u67, u68, u69, u70, u71, undef, undef, undef], defers := [] } (wr.drew.alloc (.cells #[.string x.1.res] 9)) := by
                clear y0 y1 y2
                rw [hG]
                refine wpAny_ready (rs := [4, 10]) (by kernel_rfl) (by simp) ?_
                refine AllReady.cons rfl (fun K hK => ?_) ?_
                · go_simp
                  refine hK _ _ ?_; clear hK K
                  refine wpAny_take (i := 5) (v := .int .i64 (x.1.params.length : Nat)) rfl (by kernel_rfl) (by kernel_rfl) (by kernel_rfl) (fun _ _ _ h => h) (Or.inl ⟨by kernel_rfl, by intro w; go_simp; try with_reducible rfl⟩) ?_
                  exact any_eqP hG (by kernel_rfl) (by kernel_rfl) (by kernel_rfl) hs1.out
                refine AllReady.cons rfl (fun K hK => ?_) ?_
                · refine step_apk rfl (.tmp 63) (.tmp 66) 28 28 rfl (wo.heap.size + 1) 1 9 j0 _ 16 Tryz.underlying28 hj' hy0 hyy1 hyy2 rfl rfl HI2.out.1 rfl HSI.out (by rw [HTL.out]; unfold maxLen; omega) (by rw [HTL.out]; omega) (by simp [World.size_alloc]; omega) ?_
                  intro v' w7 hown' hgrow _ hlies
                  have h7 := HI2.out.next (Kept.refl _) hown' hgrow hlies
                  have k7 := h7.kept HKX.out (by omega)
                  obtain ⟨va7, vn7, vc7, rfl⟩ := owns_slice hown'
                  clear hown' hgrow hlies
                  refine hK _ _ ?_; clear hK K
                  exact any_eqP hG (by kernel_rfl) (by kernel_rfl) (by kernel_rfl) (hs4.out _ _ _ _ h7 k7)
                exact AllReady.nil
              have hs5 := Lib.hid hs5'
              clear hs5'
              have hs6' : G 8 #[true, true, true, true, false, false, true, true, true, false, false, false, false, false, false] { tmps := #[.slice a t.length c, .string s, undef, undef, .slice none 0 0, .slice ga gn gc, undef, u7, undef, .pointer (some ⟨wo.heap.size, 0, none⟩), .slice ta tn tc, undef, u12, .slice a t.length c, .string s, .slice fa (Tab.fields t s).length fc, .int .i64 ((Tab.fields t s).length : Nat), .int .i64 ((Tab.fields t s).length : Nat), .bool false, u19, u20, u21, u22, u23, u24, u25, u26, u27, u28, u29, u30, .slice a t.length c, .string s, .slice (some ⟨g, 0, none⟩) m2.length mc, .int .i64 (m2.length : Nat), .int .i64 (j : Nat), .bool true, .pointer (some ⟨g, j * 3, none⟩), .agg #[.string x.1.name, .slice pa x.1.params.length pc, .string x.1.res], .pointer (some ⟨wo.heap.size, 1, none⟩), .slice pa x.1.params.length pc, .int .i64 (x.1.params.length : Nat), .int .i64 ((x.1.params.length : Int) + 1), .slice (some ⟨wo.heap.size + 1, 0, none⟩) 0 (x.1.params.length + 1), .pointer (some ⟨wo.heap.size, 1, none⟩), .slice pa x.1.params.length pc, .int .i64 (x.1.params.length : Nat), .int .i64 (x.1.params.length : Nat), .bool false, u49, u50, u51, u52, u53, u54, u55, u56, .slice ga gn gc, .pointer (some ⟨wo.heap.size, 0, none⟩), .string x.1.name, .pointer (some ⟨wo.heap.size, 1, none⟩), u61, u62, .slice ta tn tc, .pointer (some ⟨wo.heap.size, 2, none⟩), .string x.1.res, u66, u67, u68, u69, u70, u71, undef, undef, undef], defers := [] } wr.drew := by
                clear ya0 ya1 ya2 hla
                rw [hG]
                refine wpAny_ready (rs := [4, 9]) (by kernel_rfl) (by simp) ?_
                refine AllReady.cons rfl (fun K hK => ?_) ?_
                · go_simp
                  refine hK _ _ ?_; clear hK K
                  refine wpAny_take (i := 5) (v := .int .i64 (x.1.params.length : Nat)) rfl (by kernel_rfl) (by kernel_rfl) (by kernel_rfl) (fun _ _ _ h => h) (Or.inl ⟨by kernel_rfl, by intro w; go_simp; try with_reducible rfl⟩) ?_
                  exact any_eqP hG (by kernel_rfl) (by kernel_rfl) (by kernel_rfl) hs2.out
                refine AllReady.cons rfl (fun K hK => ?_) ?_
                · go_simp
                  refine hK _ _ ?_; clear hK K
                  exact any_eqP hG (by kernel_rfl) (by kernel_rfl) (by kernel_rfl) hs5.out
                exact AllReady.nil
              have hs6 := Lib.hid hs6'
              clear hs6'
              have hs7' : G 9 #[true, true, true, true, false, false, true, true, false, false, false, false, false, false, false] { tmps := #[.slice a t.length c, .string s, undef, undef, .slice none 0 0, .slice ga gn gc, undef, u7, undef, .pointer (some ⟨wo.heap.size, 0, none⟩), .slice ta tn tc, undef, u12, .slice a t.length c, .string s, .slice fa (Tab.fields t s).length fc, .int .i64 ((Tab.fields t s).length : Nat), .int .i64 ((Tab.fields t s).length : Nat), .bool false, u19, u20, u21, u22, u23, u24, u25, u26, u27, u28, u29, u30, .slice a t.length c, .string s, .slice (some ⟨g, 0, none⟩) m2.length mc, .int .i64 (m2.length : Nat), .int .i64 (j : Nat), .bool true, .pointer (some ⟨g, j * 3, none⟩), .agg #[.string x.1.name, .slice pa x.1.params.length pc, .string x.1.res], .pointer (some ⟨wo.heap.size, 1, none⟩), .slice pa x.1.params.length pc, .int .i64 (x.1.params.length : Nat), .int .i64 ((x.1.params.length : Int) + 1), .slice (some ⟨wo.heap.size + 1, 0, none⟩) 0 (x.1.params.length + 1), .pointer (some ⟨wo.heap.size, 1, none⟩), .slice pa x.1.params.length pc, .int .i64 (x.1.params.length : Nat), .int .i64 (x.1.params.length : Nat), .bool false, u49, u50, u51, u52, u53, u54, u55, u56, .slice ga gn gc, .pointer (some ⟨wo.heap.size, 0, none⟩), .string x.1.name, .pointer (some ⟨wo.heap.size, 1, none⟩), u61, u62, .slice ta tn tc, .pointer (some ⟨wo.heap.size, 2, none⟩), u65, u66, u67, u68, u69, u70, u71, undef, undef, undef], defers := [] } wr.drew := by
                clear ya0 ya1 ya2 hla
                rw [hG]
                refine wpAny_ready (rs := [4, 8]) (by kernel_rfl) (by simp) ?_
                refine AllReady.cons rfl (fun K hK => ?_) ?_
                · go_simp
                  refine hK _ _ ?_; clear hK K
                  refine wpAny_take (i := 5) (v := .int .i64 (x.1.params.length : Nat)) rfl (by kernel_rfl) (by kernel_rfl) (by kernel_rfl) (fun _ _ _ h => h) (Or.inl ⟨by kernel_rfl, by intro w; go_simp; try with_reducible rfl⟩) ?_
                  exact any_eqP hG (by kernel_rfl) (by kernel_rfl) (by kernel_rfl) hs3.out
                refine AllReady.cons rfl (fun K hK => ?_) ?_
                · go_simp
                  refine hK _ _ ?_; clear hK K
                  exact any_eqP hG (by kernel_rfl) (by kernel_rfl) (by kernel_rfl) hs6.out
                exact AllReady.nil
              have hs7 := Lib.hid hs7'
              clear hs7'
              have hs8' : ∀ (va7 : Option Addr) (vn7 vc7 : Nat) (w7 : World), RR 9 1 zCells (wo.heap.size + 1) X1 (tyB x.1.params ++ [x.1.res]) (.slice va7 vn7 vc7) w7 → Kept wo w7 → G 5 #[true, true, false, true, true, true, true, true, true, true, true, false, false, false, false] { tmps := #[.slice a t.length c, .string s, undef, undef, .slice none 0 0, .slice ga gn gc, undef, u7, undef, .pointer (some ⟨wo.heap.size, 0, none⟩), .slice ta tn tc, undef, u12, .slice a t.length c, .string s, .slice fa (Tab.fields t s).length fc, .int .i64 ((Tab.fields t s).length : Nat), .int .i64 ((Tab.fields t s).length : Nat), .bool false, u19, u20, u21, u22, u23, u24, u25, u26, u27, u28, u29, u30, .slice a t.length c, .string s, .slice (some ⟨g, 0, none⟩) m2.length mc, .int .i64 (m2.length : Nat), .int .i64 (j : Nat), .bool true, .pointer (some ⟨g, j * 3, none⟩), .agg #[.string x.1.name, .slice pa x.1.params.length pc, .string x.1.res], .pointer (some ⟨wo.heap.size, 1, none⟩), .slice pa x.1.params.length pc, .int .i64 (x.1.params.length : Nat), .int .i64 ((x.1.params.length : Int) + 1), .slice (some ⟨wo.heap.size + 1, 0, none⟩) 0 (x.1.params.length + 1), .pointer (some ⟨wo.heap.size, 1, none⟩), .slice pa x.1.params.length pc, .int .i64 (x.1.params.length : Nat), .int .i64 (x.1.params.length : Nat), .bool false, u49, u50, u51, u52, u53, u54, u55, u56, .slice ga gn gc, .pointer (some ⟨wo.heap.size, 0, none⟩), u59, .pointer (some ⟨wo.heap.size, 1, none⟩), .slice pa x.1.params.length pc, .int .i64 (x.1.params.length : Nat), .slice ta tn tc, .pointer (some ⟨wo.heap.size, 2, none⟩), .string x.1.res, .slice (some ⟨wr.heap.size, 0, none⟩) 1 1, .slice va7 vn7 vc7, u68, u69, u70, u71, undef, undef, undef], defers := [] } w7 := by
                intro va7 vn7 vc7 w7 h7 k7
                clear y0 y1 y2 ya0 ya1 ya2 hla
                have hb7 : Blk w7 wo.heap.size 53 #[.string x.1.name, .slice pa x.1.params.length pc, .string x.1.res] := HB1.out.only h7.2.1 (by have := HB1.out.lt; rintro (⟨h, _⟩ | h) <;> omega)
                have y0 := hb7.cell 0
                have y1 := hb7.cell 1
                have y2 := hb7.cell 2
                simp only [List.getElem?_toArray, List.getElem?_cons_zero, List.getElem?_cons_succ] at y0 y1 y2
                have H7 := Lib.hid h7
                have K7 := Lib.hid k7
                clear h7 k7 hb7
                rw [hG]
                refine wpAny_ready (rs := [2]) (by kernel_rfl) (by simp) ?_
                refine AllReady.cons rfl (fun K hK => ?_) ?_
                · go_simp
                  refine hK _ _ ?_; clear hK K
                  exact any_eqP hG (by kernel_rfl) (by kernel_rfl) (by kernel_rfl) (hs0.out _ _ _ _ H7.out K7.out)
                exact AllReady.nil
              have hs8 := Lib.hid hs8'
              clear hs8'
              have hs9' : G 6 #[true, true, false, true, true, true, true, true, true, true, false, false, false, false, false] { tmps := #[.slice a t.length c, .string s, undef, undef, .slice none 0 0, .slice ga gn gc, undef, u7, undef, .pointer (some ⟨wo.heap.size, 0, none⟩), .slice ta tn tc, undef, u12, .slice a t.length c, .string s, .slice fa (Tab.fields t s).length fc, .int .i64 ((Tab.fields t s).length : Nat), .int .i64 ((Tab.fields t s).length : Nat), .bool false, u19, u20, u21, u22, u23, u24, u25, u26, u27, u28, u29, u30, .slice a t.length c, .string s, .slice (some ⟨g, 0, none⟩) m2.length mc, .int .i64 (m2.length : Nat), .int .i64 (j : Nat), .bool true, .pointer (some ⟨g, j * 3, none⟩), .agg #[.string x.1.name, .slice pa x.1.params.length pc, .string x.1.res], .pointer (some ⟨wo.heap.size, 1, none⟩), .slice pa x.1.params.length pc, .int .i64 (x.1.params.length : Nat), .int .i64 ((x.1.params.length : Int) + 1), .slice (some ⟨wo.heap.size + 1, 0, none⟩) 0 (x.1.params.length + 1), .pointer (some ⟨wo.heap.size, 1, none⟩), .slice pa x.1.params.length pc, .int .i64 (x.1.params.length : Nat), .int .i64 (x.1.params.length : Nat), .bool false, u49, u50, u51, u52, u53, u54, u55, u56, .slice ga gn gc, .pointer (some ⟨wo.heap.size, 0, none⟩), u59, .pointer (some ⟨wo.heap.size, 1, none⟩), .slice pa x.1.params.length pc, .int .i64 (x.1.params.length : Nat), .slice ta tn tc, .pointer (some ⟨wo.heap.size, 2, none⟩), .string x.1.res, .slice (some ⟨wr.heap.size, 0, none⟩) 1 1, u67, u68, u69, u70, u71, undef, undef, undef], defers := [] } (wr.drew.alloc (.cells #[.string x.1.res] 9)) := by
                clear y0 y1 y2
                rw [hG]
                refine wpAny_ready (rs := [2, 10]) (by kernel_rfl) (by simp) ?_
                refine AllReady.cons rfl (fun K hK => ?_) ?_
                · go_simp
                  refine hK _ _ ?_; clear hK K
                  exact any_eqP hG (by kernel_rfl) (by kernel_rfl) (by kernel_rfl) hs1.out
                refine AllReady.cons rfl (fun K hK => ?_) ?_
                · refine step_apk rfl (.tmp 63) (.tmp 66) 28 28 rfl (wo.heap.size + 1) 1 9 j0 _ 16 Tryz.underlying28 hj' hy0 hyy1 hyy2 rfl rfl HI2.out.1 rfl HSI.out (by rw [HTL.out]; unfold maxLen; omega) (by rw [HTL.out]; omega) (by simp [World.size_alloc]; omega) ?_
                  intro v' w7 hown' hgrow _ hlies
                  have h7 := HI2.out.next (Kept.refl _) hown' hgrow hlies
                  have k7 := h7.kept HKX.out (by omega)
                  obtain ⟨va7, vn7, vc7, rfl⟩ := owns_slice hown'
                  clear hown' hgrow hlies
                  refine hK _ _ ?_; clear hK K
                  exact any_eqP hG (by kernel_rfl) (by kernel_rfl) (by kernel_rfl) (hs8.out _ _ _ _ h7 k7)
                exact AllReady.nil
              have hs9 := Lib.hid hs9'
              clear hs9'
              have hs10' : G 7 #[true, true, false, true, true, true, true, true, true, false, false, false, false, false, false] { tmps := #[.slice a t.length c, .string s, undef, undef, .slice none 0 0, .slice ga gn gc, undef, u7, undef, .pointer (some ⟨wo.heap.size, 0, none⟩), .slice ta tn tc, undef, u12, .slice a t.length c, .string s, .slice fa (Tab.fields t s).length fc, .int .i64 ((Tab.fields t s).length : Nat), .int .i64 ((Tab.fields t s).length : Nat), .bool false, u19, u20, u21, u22, u23, u24, u25, u26, u27, u28, u29, u30, .slice a t.length c, .string s, .slice (some ⟨g, 0, none⟩) m2.length mc, .int .i64 (m2.length : Nat), .int .i64 (j : Nat), .bool true, .pointer (some ⟨g, j * 3, none⟩), .agg #[.string x.1.name, .slice pa x.1.params.length pc, .string x.1.res], .pointer (some ⟨wo.heap.size, 1, none⟩), .slice pa x.1.params.length pc, .int .i64 (x.1.params.length : Nat), .int .i64 ((x.1.params.length : Int) + 1), .slice (some ⟨wo.heap.size + 1, 0, none⟩) 0 (x.1.params.length + 1), .pointer (some ⟨wo.heap.size, 1, none⟩), .slice pa x.1.params.length pc, .int .i64 (x.1.params.length : Nat), .int .i64 (x.1.params.length : Nat), .bool false, u49, u50, u51, u52, u53, u54, u55, u56, .slice ga gn gc, .pointer (some ⟨wo.heap.size, 0, none⟩), u59, .pointer (some ⟨wo.heap.size, 1, none⟩), .slice pa x.1.params.length pc, .int .i64 (x.1.params.length : Nat), .slice ta tn tc, .pointer (some ⟨wo.heap.size, 2, none⟩), .string x.1.res, u66, u67, u68, u69, u70, u71, undef, undef, undef], defers := [] } wr.drew := by
                clear ya0 ya1 ya2 hla
                rw [hG]
                refine wpAny_ready (rs := [2, 9]) (by kernel_rfl) (by simp) ?_
                refine AllReady.cons rfl (fun K hK => ?_) ?_
                · go_simp
                  refine hK _ _ ?_; clear hK K
                  exact any_eqP hG (by kernel_rfl) (by kernel_rfl) (by kernel_rfl) hs2.out
                refine AllReady.cons rfl (fun K hK => ?_) ?_
                · go_simp
                  refine hK _ _ ?_; clear hK K
                  exact any_eqP hG (by kernel_rfl) (by kernel_rfl) (by kernel_rfl) hs9.out
                exact AllReady.nil
              have hs10 := Lib.hid hs10'
              clear hs10'
              have hs11' : G 8 #[true, true, false, true, true, true, true, true, false, false, false, false, false, false, false] { tmps := #[.slice a t.length c, .string s, undef, undef, .slice none 0 0, .slice ga gn gc, undef, u7, undef, .pointer (some ⟨wo.heap.size, 0, none⟩), .slice ta tn tc, undef, u12, .slice a t.length c, .string s, .slice fa (Tab.fields t s).length fc, .int .i64 ((Tab.fields t s).length : Nat), .int .i64 ((Tab.fields t s).length : Nat), .bool false, u19, u20, u21, u22, u23, u24, u25, u26, u27, u28, u29, u30, .slice a t.length c, .string s, .slice (some ⟨g, 0, none⟩) m2.length mc, .int .i64 (m2.length : Nat), .int .i64 (j : Nat), .bool true, .pointer (some ⟨g, j * 3, none⟩), .agg #[.string x.1.name, .slice pa x.1.params.length pc, .string x.1.res], .pointer (some ⟨wo.heap.size, 1, none⟩), .slice pa x.1.params.length pc, .int .i64 (x.1.params.length : Nat), .int .i64 ((x.1.params.length : Int) + 1), .slice (some ⟨wo.heap.size + 1, 0, none⟩) 0 (x.1.params.length + 1), .pointer (some ⟨wo.heap.size, 1, none⟩), .slice pa x.1.params.length pc, .int .i64 (x.1.params.length : Nat), .int .i64 (x.1.params.length : Nat), .bool false, u49, u50, u51, u52, u53, u54, u55, u56, .slice ga gn gc, .pointer (some ⟨wo.heap.size, 0, none⟩), u59, .pointer (some ⟨wo.heap.size, 1, none⟩), .slice pa x.1.params.length pc, .int .i64 (x.1.params.length : Nat), .slice ta tn tc, .pointer (some ⟨wo.heap.size, 2, none⟩), u65, u66, u67, u68, u69, u70, u71, undef, undef, undef], defers := [] } wr.drew := by
                clear ya0 ya1 ya2 hla
                rw [hG]
                refine wpAny_ready (rs := [2, 8]) (by kernel_rfl) (by simp) ?_
                refine AllReady.cons rfl (fun K hK => ?_) ?_
                · go_simp
                  refine hK _ _ ?_; clear hK K
                  exact any_eqP hG (by kernel_rfl) (by kernel_rfl) (by kernel_rfl) hs3.out
                refine AllReady.cons rfl (fun K hK => ?_) ?_
                · go_simp
                  refine hK _ _ ?_; clear hK K
                  exact any_eqP hG (by kernel_rfl) (by kernel_rfl) (by kernel_rfl) hs10.out
                exact AllReady.nil
              have hs11 := Lib.hid hs11'
              clear hs11'
              have hs12' : ∀ (va7 : Option Addr) (vn7 vc7 : Nat) (w7 : World), RR 9 1 zCells (wo.heap.size + 1) X1 (tyB x.1.params ++ [x.1.res]) (.slice va7 vn7 vc7) w7 → Kept wo w7 → G 7 #[true, true, false, true, false, false, true, true, true, true, true, false, false, false, false] { tmps := #[.slice a t.length c, .string s, undef, undef, .slice none 0 0, .slice ga gn gc, undef, u7, undef, .pointer (some ⟨wo.heap.size, 0, none⟩), .slice ta tn tc, undef, u12, .slice a t.length c, .string s, .slice fa (Tab.fields t s).length fc, .int .i64 ((Tab.fields t s).length : Nat), .int .i64 ((Tab.fields t s).length : Nat), .bool false, u19, u20, u21, u22, u23, u24, u25, u26, u27, u28, u29, u30, .slice a t.length c, .string s, .slice (some ⟨g, 0, none⟩) m2.length mc, .int .i64 (m2.length : Nat), .int .i64 (j : Nat), .bool true, .pointer (some ⟨g, j * 3, none⟩), .agg #[.string x.1.name, .slice pa x.1.params.length pc, .string x.1.res], .pointer (some ⟨wo.heap.size, 1, none⟩), .slice pa x.1.params.length pc, .int .i64 (x.1.params.length : Nat), .int .i64 ((x.1.params.length : Int) + 1), .slice (some ⟨wo.heap.size + 1, 0, none⟩) 0 (x.1.params.length + 1), .pointer (some ⟨wo.heap.size, 1, none⟩), .slice pa x.1.params.length pc, .int .i64 (x.1.params.length : Nat), .int .i64 (x.1.params.length : Nat), .bool false, u49, u50, u51, u52, u53, u54, u55, u56, .slice ga gn gc, .pointer (some ⟨wo.heap.size, 0, none⟩), u59, .pointer (some ⟨wo.heap.size, 1, none⟩), u61, u62, .slice ta tn tc, .pointer (some ⟨wo.heap.size, 2, none⟩), .string x.1.res, .slice (some ⟨wr.heap.size, 0, none⟩) 1 1, .slice va7 vn7 vc7, u68, u69, u70, u71, undef, undef, undef], defers := [] } w7 := by
                intro va7 vn7 vc7 w7 h7 k7
                clear y0 y1 y2 ya0 ya1 ya2 hla
                have hb7 : Blk w7 wo.heap.size 53 #[.string x.1.name, .slice pa x.1.params.length pc, .string x.1.res] := HB1.out.only h7.2.1 (by have := HB1.out.lt; rintro (⟨h, _⟩ | h) <;> omega)
                have y0 := hb7.cell 0
                have y1 := hb7.cell 1
                have y2 := hb7.cell 2
                simp only [List.getElem?_toArray, List.getElem?_cons_zero, List.getElem?_cons_succ] at y0 y1 y2
                have H7 := Lib.hid h7
                have K7 := Lib.hid k7
                clear h7 k7 hb7
                rw [hG]
                refine wpAny_ready (rs := [2, 4]) (by kernel_rfl) (by simp) ?_
                refine AllReady.cons rfl (fun K hK => ?_) ?_
                · go_simp
                  refine hK _ _ ?_; clear hK K
                  exact any_eqP hG (by kernel_rfl) (by kernel_rfl) (by kernel_rfl) (hs4.out _ _ _ _ H7.out K7.out)
                refine AllReady.cons rfl (fun K hK => ?_) ?_
                · go_simp
                  refine hK _ _ ?_; clear hK K
                  refine wpAny_take (i := 5) (v := .int .i64 (x.1.params.length : Nat)) rfl (by kernel_rfl) (by kernel_rfl) (by kernel_rfl) (fun _ _ _ h => h) (Or.inl ⟨by kernel_rfl, by intro w; go_simp; try with_reducible rfl⟩) ?_
                  exact any_eqP hG (by kernel_rfl) (by kernel_rfl) (by kernel_rfl) (hs8.out _ _ _ _ H7.out K7.out)
                exact AllReady.nil
              have hs12 := Lib.hid hs12'
              clear hs12'
              have hs13' : G 8 #[true, true, false, true, false, false, true, true, true, true, false, false, false, false, false] { tmps := #[.slice a t.length c, .string s, undef, undef, .slice none 0 0, .slice ga gn gc, undef, u7, undef, .pointer (some ⟨wo.heap.size, 0, none⟩), .slice ta tn tc, undef, u12, .slice a t.length c, .string s, .slice fa (Tab.fields t s).length fc, .int .i64 ((Tab.fields t s).length : Nat), .int .i64 ((Tab.fields t s).length : Nat), .bool false, u19, u20, u21, u22, u23, u24, u25, u26, u27, u28, u29, u30, .slice a t.length c, .string s, .slice (some ⟨g, 0, none⟩) m2.length mc, .int .i64 (m2.length : Nat), .int .i64 (j : Nat), .bool true, .pointer (some ⟨g, j * 3, none⟩), .agg #[.string x.1.name, .slice pa x.1.params.length pc, .string x.1.res], .pointer (some ⟨wo.heap.size, 1, none⟩), .slice pa x.1.params.length pc, .int .i64 (x.1.params.length : Nat), .int .i64 ((x.1.params.length : Int) + 1), .slice (some ⟨wo.heap.size + 1, 0, none⟩) 0 (x.1.params.length + 1), .pointer (some ⟨wo.heap.size, 1, none⟩), .slice pa x.1.params.length pc, .int .i64 (x.1.params.length : Nat), .int .i64 (x.1.params.length : Nat), .bool false, u49, u50, u51, u52, u53, u54, u55, u56, .slice ga gn gc, .pointer (some ⟨wo.heap.size, 0, none⟩), u59, .pointer (some ⟨wo.heap.size, 1, none⟩), u61, u62, .slice ta tn tc, .pointer (some ⟨wo.heap.size, 2, none⟩), .string x.1.res, .slice (some ⟨wr.heap.size, 0, none⟩) 1 1, u67, u68, u69, u70, u71, undef, undef, undef], defers := [] } (wr.drew.alloc (.cells #[.string x.1.res] 9)) := by
                clear y0 y1 y2
                rw [hG]
                refine wpAny_ready (rs := [2, 4, 10]) (by kernel_rfl) (by simp) ?_
                refine AllReady.cons rfl (fun K hK => ?_) ?_
                · go_simp
                  refine hK _ _ ?_; clear hK K
                  exact any_eqP hG (by kernel_rfl) (by kernel_rfl) (by kernel_rfl) hs5.out
                refine AllReady.cons rfl (fun K hK => ?_) ?_
                · go_simp
                  refine hK _ _ ?_; clear hK K
                  refine wpAny_take (i := 5) (v := .int .i64 (x.1.params.length : Nat)) rfl (by kernel_rfl) (by kernel_rfl) (by kernel_rfl) (fun _ _ _ h => h) (Or.inl ⟨by kernel_rfl, by intro w; go_simp; try with_reducible rfl⟩) ?_
                  exact any_eqP hG (by kernel_rfl) (by kernel_rfl) (by kernel_rfl) hs9.out
                refine AllReady.cons rfl (fun K hK => ?_) ?_
                · refine step_apk rfl (.tmp 63) (.tmp 66) 28 28 rfl (wo.heap.size + 1) 1 9 j0 _ 16 Tryz.underlying28 hj' hy0 hyy1 hyy2 rfl rfl HI2.out.1 rfl HSI.out (by rw [HTL.out]; unfold maxLen; omega) (by rw [HTL.out]; omega) (by simp [World.size_alloc]; omega) ?_
                  intro v' w7 hown' hgrow _ hlies
                  have h7 := HI2.out.next (Kept.refl _) hown' hgrow hlies
                  have k7 := h7.kept HKX.out (by omega)
                  obtain ⟨va7, vn7, vc7, rfl⟩ := owns_slice hown'
                  clear hown' hgrow hlies
                  refine hK _ _ ?_; clear hK K
                  exact any_eqP hG (by kernel_rfl) (by kernel_rfl) (by kernel_rfl) (hs12.out _ _ _ _ h7 k7)
                exact AllReady.nil
              have hs13 := Lib.hid hs13'
              clear hs13'
              have hs14' : G 9 #[true, true, false, true, false, false, true, true, true, false, false, false, false, false, false] { tmps := #[.slice a t.length c, .string s, undef, undef, .slice none 0 0, .slice ga gn gc, undef, u7, undef, .pointer (some ⟨wo.heap.size, 0, none⟩), .slice ta tn tc, undef, u12, .slice a t.length c, .string s, .slice fa (Tab.fields t s).length fc, .int .i64 ((Tab.fields t s).length : Nat), .int .i64 ((Tab.fields t s).length : Nat), .bool false, u19, u20, u21, u22, u23, u24, u25, u26, u27, u28, u29, u30, .slice a t.length c, .string s, .slice (some ⟨g, 0, none⟩) m2.length mc, .int .i64 (m2.length : Nat), .int .i64 (j : Nat), .bool true, .pointer (some ⟨g, j * 3, none⟩), .agg #[.string x.1.name, .slice pa x.1.params.length pc, .string x.1.res], .pointer (some ⟨wo.heap.size, 1, none⟩), .slice pa x.1.params.length pc, .int .i64 (x.1.params.length : Nat), .int .i64 ((x.1.params.length : Int) + 1), .slice (some ⟨wo.heap.size + 1, 0, none⟩) 0 (x.1.params.length + 1), .pointer (some ⟨wo.heap.size, 1, none⟩), .slice pa x.1.params.length pc, .int .i64 (x.1.params.length : Nat), .int .i64 (x.1.params.length : Nat), .bool false, u49, u50, u51, u52, u53, u54, u55, u56, .slice ga gn gc, .pointer (some ⟨wo.heap.size, 0, none⟩), u59, .pointer (some ⟨wo.heap.size, 1, none⟩), u61, u62, .slice ta tn tc, .pointer (some ⟨wo.heap.size, 2, none⟩), .string x.1.res, u66, u67, u68, u69, u70, u71, undef, undef, undef], defers := [] } wr.drew := by
                clear ya0 ya1 ya2 hla
                rw [hG]
                refine wpAny_ready (rs := [2, 4, 9]) (by kernel_rfl) (by simp) ?_
                refine AllReady.cons rfl (fun K hK => ?_) ?_
                · go_simp
                  refine hK _ _ ?_; clear hK K
                  exact any_eqP hG (by kernel_rfl) (by kernel_rfl) (by kernel_rfl) hs6.out
                refine AllReady.cons rfl (fun K hK => ?_) ?_
                · go_simp
                  refine hK _ _ ?_; clear hK K
                  refine wpAny_take (i := 5) (v := .int .i64 (x.1.params.length : Nat)) rfl (by kernel_rfl) (by kernel_rfl) (by kernel_rfl) (fun _ _ _ h => h) (Or.inl ⟨by kernel_rfl, by intro w; go_simp; try with_reducible rfl⟩) ?_
                  exact any_eqP hG (by kernel_rfl) (by kernel_rfl) (by kernel_rfl) hs10.out
                refine AllReady.cons rfl (fun K hK => ?_) ?_
                · go_simp
                  refine hK _ _ ?_; clear hK K
                  exact any_eqP hG (by kernel_rfl) (by kernel_rfl) (by kernel_rfl) hs13.out
                exact AllReady.nil
              have hs14 := Lib.hid hs14'
              clear hs14'
              have hs15' : G 10 #[true, true, false, true, false, false, true, true, false, false, false, false, false, false, false] { tmps := #[.slice a t.length c, .string s, undef, undef, .slice none 0 0, .slice ga gn gc, undef, u7, undef, .pointer (some ⟨wo.heap.size, 0, none⟩), .slice ta tn tc, undef, u12, .slice a t.length c, .string s, .slice fa (Tab.fields t s).length fc, .int .i64 ((Tab.fields t s).length : Nat), .int .i64 ((Tab.fields t s).length : Nat), .bool false, u19, u20, u21, u22, u23, u24, u25, u26, u27, u28, u29, u30, .slice a t.length c, .string s, .slice (some ⟨g, 0, none⟩) m2.length mc, .int .i64 (m2.length : Nat), .int .i64 (j : Nat), .bool true, .pointer (some ⟨g, j * 3, none⟩), .agg #[.string x.1.name, .slice pa x.1.params.length pc, .string x.1.res], .pointer (some ⟨wo.heap.size, 1, none⟩), .slice pa x.1.params.length pc, .int .i64 (x.1.params.length : Nat), .int .i64 ((x.1.params.length : Int) + 1), .slice (some ⟨wo.heap.size + 1, 0, none⟩) 0 (x.1.params.length + 1), .pointer (some ⟨wo.heap.size, 1, none⟩), .slice pa x.1.params.length pc, .int .i64 (x.1.params.length : Nat), .int .i64 (x.1.params.length : Nat), .bool false, u49, u50, u51, u52, u53, u54, u55, u56, .slice ga gn gc, .pointer (some ⟨wo.heap.size, 0, none⟩), u59, .pointer (some ⟨wo.heap.size, 1, none⟩), u61, u62, .slice ta tn tc, .pointer (some ⟨wo.heap.size, 2, none⟩), u65, u66, u67, u68, u69, u70, u71, undef, undef, undef], defers := [] } wr.drew := by
                clear ya0 ya1 ya2 hla
                rw [hG]
                refine wpAny_ready (rs := [2, 4, 8]) (by kernel_rfl) (by simp) ?_
                refine AllReady.cons rfl (fun K hK => ?_) ?_
                · go_simp
                  refine hK _ _ ?_; clear hK K
                  exact any_eqP hG (by kernel_rfl) (by kernel_rfl) (by kernel_rfl) hs7.out
                refine AllReady.cons rfl (fun K hK => ?_) ?_
                · go_simp
                  refine hK _ _ ?_; clear hK K
                  refine wpAny_take (i := 5) (v := .int .i64 (x.1.params.length : Nat)) rfl (by kernel_rfl) (by kernel_rfl) (by kernel_rfl) (fun _ _ _ h => h) (Or.inl ⟨by kernel_rfl, by intro w; go_simp; try with_reducible rfl⟩) ?_
                  exact any_eqP hG (by kernel_rfl) (by kernel_rfl) (by kernel_rfl) hs11.out
                refine AllReady.cons rfl (fun K hK => ?_) ?_
                · go_simp
                  refine hK _ _ ?_; clear hK K
                  exact any_eqP hG (by kernel_rfl) (by kernel_rfl) (by kernel_rfl) hs14.out
                exact AllReady.nil
              have hs15 := Lib.hid hs15'
              clear hs15'
              refine wpAny_take (i := 0) (v := .slice ga gn gc) rfl (by kernel_rfl) (by kernel_rfl) (by kernel_rfl) (fun _ _ _ h => h) (Or.inl ⟨by kernel_rfl, by intro w; kernel_rfl⟩) ?_
              refine wpAny_take (i := 1) (v := .pointer (some ⟨wo.heap.size, 0, none⟩)) rfl (by kernel_rfl) (by kernel_rfl) (by kernel_rfl) (fun _ _ _ h => h) (Or.inl ⟨by kernel_rfl, by intro w; kernel_rfl⟩) ?_
              refine wpAny_take (i := 3) (v := .pointer (some ⟨wo.heap.size, 1, none⟩)) rfl (by kernel_rfl) (by kernel_rfl) (by kernel_rfl) (fun _ _ _ h => h) (Or.inl ⟨by kernel_rfl, by intro w; kernel_rfl⟩) ?_
              refine wpAny_take (i := 6) (v := .slice ta tn tc) rfl (by kernel_rfl) (by kernel_rfl) (by kernel_rfl) (fun _ _ _ h => h) (Or.inl ⟨by kernel_rfl, by intro w; kernel_rfl⟩) ?_
              refine wpAny_take (i := 7) (v := .pointer (some ⟨wo.heap.size, 2, none⟩)) rfl (by kernel_rfl) (by kernel_rfl) (by kernel_rfl) (fun _ _ _ h => h) (Or.inl ⟨by kernel_rfl, by intro w; kernel_rfl⟩) ?_
              exact any_eqP hG (by kernel_rfl) (by kernel_rfl) (by kernel_rfl) hs15.out
        · have hltI : ¬ (j : Int) < (m2.length : Int) := by omega
          obtain rfl : j = m2.length := by omega
          have hM := HM.out
          rw [List.take_of_length_le (by simp), HF.out, ← Tab.mbs_eqB] at hM
          have HME := Lib.hid hM
          have hlen := congrArg List.length hM
          rw [List.length_map] at hlen
          have hsl : mq.length ≤ 10000000 := by
            rw [hlen, Tab.mbs_eqB]
            unfold Tab.flB Tab.mtB
            have := HFL.out
            rw [← HF.out]
            simp
            omega
          have hszs : ∀ x ∈ Tab.mbs t s, x.name.size ≤ maxLen := by
            intro x hx
            rw [Tab.mbs_eqB] at hx
            rcases List.mem_append.1 hx with hx | hx
            · unfold Tab.flB at hx
              obtain ⟨f, hf, rfl⟩ := List.mem_map.1 hx
              exact (HFS.out f hf).1
            · unfold Tab.mtB at hx
              obtain ⟨f, hf, rfl⟩ := List.mem_map.1 hx
              exact (HMS.out f hf).1
          have HSZ := Lib.hid hszs
          have HTS := Lib.hid (show ∀ x ∈ Tab.mbs t s, ∀ y ∈ x.types, y.size ≤ maxLen by
            intro x hx y hy
            rw [Tab.mbs_eqB] at hx
            rcases List.mem_append.1 hx with hx | hx
            · unfold Tab.flB at hx
              obtain ⟨f, hf, rfl⟩ := List.mem_map.1 hx
              have hy : y ∈ [f.typ] := hy
              rw [List.mem_singleton.1 hy]
              exact (HFS.out f hf).2
            · unfold Tab.mtB at hx
              obtain ⟨f, hf, rfl⟩ := List.mem_map.1 hx
              have hy : y ∈ f.params.map (·.typ) ++ [f.res] := hy
              rcases List.mem_append.1 hy with hy | hy
              · obtain ⟨p, hp, rfl⟩ := List.mem_map.1 hy
                exact ((HMS.out f hf).2.2.1 p hp).2
              · rw [List.mem_singleton.1 hy]
                exact (HMS.out f hf).2.1)
          have hown := hR.1.1
          clear hM hlen hszs hR hkw
          rcases hown.2 with ⟨h0, h1⟩ | ⟨b, cap, cur, hv, h1, h2, h3, h4, h5, h6⟩
          · injection h0 with e1 e2 e3
            subst e1 e2 e3
            have HSN := Lib.hid (fun W => sort_nilP W)
            have HNE := Lib.hid (show Tab.mbs t s = [] by
              rw [← HME.out, List.eq_nil_of_length_eq_zero h1]; rfl)
            clear hown h1 hsl
            go_wp2_with fail
            refine (HSN.out _).mono ?_
            rintro e w9 ⟨rfl, rfl⟩
            go_wp2_with fail
            go_ret
            exact ⟨mb_noneB HNE.out, HKW.out⟩
          · injection hv with e1 e2 e3
            subst e1 e2 e3
            have HSO := Lib.hid (sort_cP b gc mq w1.heap.size wo hown hsl)
            have HOW := Lib.hid hown
            have HBW := Lib.hid (show w.heap.size ≤ b from Nat.le_trans HK.out.size h1)
            clear hown h1 h2 h3 h4 h5 h6 hsl
            go_wp2_with fail
            refine HSO.out.mono ?_
            rintro e w9 ⟨rfl, hE⟩
            have HKE := Lib.hid (show Kept w w9 by
              obtain ⟨_, _, _, ho, _⟩ := hE
              exact HKW.out.onlyS ho (fun k e => by rw [e]; exact HBW.out))
            have HE := Lib.hid (mb_outB (w := w) HK.out.size HOW.out HRQ.out.2 HME.out HSZ.out HTS.out hE)
            clear hE
            go_wp2_with fail
            go_ret
            exact ⟨HE.out, HKE.out⟩

end Go.Proofs.YthooiofaicdhgaaGreatDoor
