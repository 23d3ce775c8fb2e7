/- The contract of slices.SortFunc at members, by their names. The contract of consist.shapeOf: the members of a class, by ascending names. Shapes in plain words: the order of members doesn't matter to what holds; what a valid table's shapes are. The contract of consist.related: which classes of a valid table go to which ones. -/
import Derived.Test.YtjdkegfckkbpeaaGreatDoorQTkk
import Derived.Test.YtjdkegfckkbpeaaGreatDoorQShelf
import Derived.Test.YtjdkegfckkbpeaaGreatDoorQz4
import Derived.Laws.MakeOwn
import Derived.Test.YtjdkegfckkbpeaaGreatDoorQCst
set_option linter.unusedSimpArgs false
set_option linter.unusedVariables false
set_option maxRecDepth 100000
namespace Go.Proofs.YtjdkegfckkbpeaaGreatDoor
open Go.ChangeShapes Go.WideShapes Go.ChangeAt Go.RowKit Go.Shelf Go.Sort
abbrev cfM (x y : Tab.Mq) : Int := Tab.cfS x.m.name y.m.name
theorem ltM (x y : Tab.Mq) : ltOf cfM x y = Tab.lt x.m.name y.m.name := by
  show decide (Tab.cfS _ _ < 0) = _
  exact Tab.cfS_lt _ _
theorem swoM : SWO (ltOf cfM) where
  irrefl x := by rw [ltM]; exact Tab.lt_irr _
  trans x y z h1 h2 := by rw [ltM] at *; exact Tab.lt_trans h1 h2
  ntrans x y z h1 h2 := by
    rw [ltM] at *
    cases h3 : Tab.lt x.m.name z.m.name with
    | false => rfl
    | true =>
      cases h4 : Tab.lt y.m.name x.m.name with
      | true => rw [Tab.lt_trans h4 h3] at h2; cases h2
      | false =>
        have e := Tab.lt_total h1 h4
        rw [e, h2] at h3; cases h3
/-- A row of members lies so. -/
def MqAt (W : World) (b : Nat) (l : List Tab.Mq) : Prop := ∀ (j : Nat) (x : Tab.Mq), l[j]? = some x → W.cell? ⟨b, j * 3, none⟩ = some (.string x.m.name) ∧ W.cell? ⟨b, j * 3 + 1, none⟩ = some (.int .i64 x.m.ar) ∧ W.cell? ⟨b, j * 3 + 2, none⟩ = some (.slice x.a x.n x.c)
theorem flat_get (ms : List Tab.Mq) {j i : Nat} {x : Tab.Mq} (hx : ms[j]? = some x) (hi : i < 3) : j * 3 + i < (flatK cCells 3 ms.toArray).size ∧ (flatK cCells 3 ms.toArray)[j * 3 + i]! = (cCells x)[i]! := by
  obtain ⟨hj, rfl⟩ := List.getElem?_eq_some_iff.1 hx
  have hs : j * 3 + i < ms.toArray.size * 3 := by simp; omega
  refine ⟨by simpa using hs, ?_⟩
  rw [get_flatK cCells 3 ms.toArray _ hs]
  have e1 : (j * 3 + i) / 3 = j := by omega
  have e2 : (j * 3 + i) % 3 = i := by omega
  rw [e1, e2]
  congr 2
  simp [hj]
theorem holds_row {W : World} {n₁ b c : Nat} {ms : List Tab.Mq} (h : W.ownsRow n₁ 170 3 (.slice (some ⟨b, 0, none⟩) ms.length c) ms.length (ms.flatMap cCells)) : HoldsK cCells 3 W b 0 ms.toArray ∧ b < W.heap.size := by
  · rcases h.2 with ⟨h0, _⟩ | ⟨g, cap, cur, hv, hb, hg, _⟩
    · cases h0
    · cases hv
      have hbk : Blk W b 170 cur := hg
      refine ⟨fun j hj => ?_, hbk.lt⟩
      have hj' : j < ms.length * 3 := by simpa using hj
      have hx : ms[j / 3]? = some ms[j / 3] := List.getElem?_eq_getElem (by omega)
      obtain ⟨_, hv⟩ := flat_get ms hx (i := j % 3) (Nat.mod_lt _ (by omega))
      have e : j / 3 * 3 + j % 3 = j := by omega
      rw [e] at hv
      have hf := flat_at cCells cCells_len ms (j / 3) (j % 3) _ hx (Nat.mod_lt _ (by omega))
      rw [e] at hf
      have hlt : j % 3 < (cCells ms[j / 3]).length := by rw [cCells_len]; exact Nat.mod_lt _ (by omega)
      rw [List.getElem?_eq_getElem hlt] at hf
      have hc := h.cells (g := b) rfl _ _ hf
      rw [addr_plain] at hc
      refine ⟨?_, hbk.frozen _⟩
      rw [hc, hv]
      rw [getElem!_pos (cCells ms[j / 3]) (j % 3) hlt]; rfl
theorem at_of_holds {W : World} {b : Nat} {ms : List Tab.Mq} (h : HoldsK cCells 3 W b 0 ms.toArray) : MqAt W b ms := by
  intro j x hx
  have q : ∀ i, i < 3 → W.cell? ⟨b, 0 + (j * 3 + i), none⟩ = some (cCells x)[i]! := fun i hi => by
    obtain ⟨h1, h2⟩ := flat_get ms hx hi
    rw [(h _ h1).1, h2]; rfl
  have q0 := q 0 (by omega)
  have q1 := q 1 (by omega)
  have q2 := q 2 (by omega)
  rw [Nat.zero_add] at q0 q1 q2
  exact ⟨q0, q1, q2⟩
theorem only_sort {W : World} {b n : Nat} {d : Array Tab.Mq} {os : Array Obj} (hb : b < W.heap.size) : Only (· = b) W (sortWorldK cCells 3 W b 0 n d os) := by
  refine ⟨rfl, rfl, size_sortWorldK_c _ _ _ _ _ _ _ _, fun k hk hne => ?_⟩
  show (((putRowK cCells 3 (Sort.ahead W n) b 0 d).heap) ++ os)[k]? = _
  have hs : k < (putRowK cCells 3 (Sort.ahead W n) b 0 d).heap.size := by simpa [putRowK, putRow, mapBlock, Sort.ahead] using hk
  rw [Array.getElem?_append_left hs]
  have : b ≠ k := fun e => hne e.symm
  simp [putRowK, putRow, mapBlock, Sort.ahead, Array.getElem?_modify, this]
theorem clo_lays (b size : Nat) (W : World) : CmpLays Tryz.prog 120 #[] cCells 3 cfM b 0 size W := fun _ _ _ _ x y => clo_c x y _
/-- What a sort leaves. -/
def SoE (b : Nat) (ms : List Tab.Mq) (W W' : World) : Prop := ∃ ms' : List Tab.Mq, ms'.Perm ms ∧ (ms'.Pairwise fun x y => Tab.lt y.m.name x.m.name = false) ∧ Only (· = b) W W' ∧ MqAt W' b ms'
theorem pdq_c (b c : Nat) (ms : List Tab.Mq) (n₁ : Nat) (W : World) (h : W.ownsRow n₁ 170 3 (.slice (some ⟨b, 0, none⟩) ms.length c) ms.length (ms.flatMap cCells)) (hs : ms.length ≤ 10000000) :
    Calls Tryz.prog 161 #[.slice (some ⟨b, 0, none⟩) ms.length c, .int .i64 0, .int .i64 ms.length, .int .i64 (Lib.bitLen ms.length : Nat), .func (.func 120) #[] #[]] W fun e w' => e = .returned (.tuple #[]) ∧ SoE b ms W w' := by
  have eg : ∀ args w, (callFunc 120 args).run Tryz.prog w = .ok (.enter 120 args) w := enters_of Tryz.func120 (by kernel_rfl) rfl
  obtain ⟨hH, hb⟩ := holds_row h
  have hlim : Lib.bitLen ms.toArray.size < 4611686018427387904 := Nat.lt_of_le_of_lt (Lib.bitLen_le _ 62 (by omega) (by simp; omega)) (by omega)
  have hp := AnyQ.pdqsortCmpFunc_all Tryz.pdqM 3 Tryz.isAgg170 Tryz.sizeOf170 cCells cfM 120 #[] swoM b 0 c ms.toArray W eg (clo_lays b _ W)
    ⟨cCells_len, fun x v hv => by simp [cCells] at hv; rcases hv with rfl | rfl | rfl <;> rfl, hH, hb⟩ (ms.toArray.size + 1) 0 ms.toArray.size (Lib.bitLen ms.toArray.size) ms.toArray W (by omega) rfl (SWK.start hH) (Nat.zero_le _) (Nat.le_refl _) (by simp; omega) hlim (Or.inl rfl)
  change Calls Tryz.prog 161 _ _ _ at hp
  have hz : ms.toArray.size = ms.length := by simp
  rw [hz] at hp
  refine hp.mono ?_
  rintro e w' ⟨he, n, os, rfl⟩
  refine ⟨he, ?_⟩
  have hsrt := pdq_sorts (ltOf cfM) swoM ms.toArray 0 ms.toArray.size (Lib.bitLen ms.toArray.size) true true (Nat.zero_le _) (Nat.le_refl _) (Or.inl rfl)
  rw [hz] at hsrt
  generalize pdq (ltOf cfM) ms.toArray 0 ms.length (Lib.bitLen ms.length) true true = d at hsrt
  obtain ⟨⟨p1, _, p3⟩, p4⟩ := hsrt
  rw [hz] at p1
  refine ⟨d.toList, ?_, ?_, only_sort hb, ?_⟩
  · have e1 : (d.extract 0 ms.length).toList = d.toList := by rw [← p1]; simp
    have e2 : (ms.toArray.extract 0 ms.length).toList = ms := by simp
    rw [e1, e2] at p3
    exact p3
  · rw [List.pairwise_iff_getElem]
    intro i k hi hk hik
    have hk' : k < d.size := by simpa using hk
    have hi' : i < d.size := by simpa using hi
    have := p4 i k (Nat.zero_le _) hik (by omega)
    rw [ltM, getElem!_pos d k hk', getElem!_pos d i hi'] at this
    simpa using this
  · have hh : HoldsK cCells 3 (sortWorldK cCells 3 W b 0 n d os) b 0 d := holdsK_sortWorldK_c cCells 3 W b 0 ms.toArray d n os hH hb (by rw [p1]; simp)
    refine at_of_holds (ms := d.toList) ?_
    simpa using hh
theorem sort_c (b c : Nat) (ms : List Tab.Mq) (n₁ : Nat) (W : World) (h : W.ownsRow n₁ 170 3 (.slice (some ⟨b, 0, none⟩) ms.length c) ms.length (ms.flatMap cCells)) (hs : ms.length ≤ 10000000) :
    Calls Tryz.prog 119 #[.slice (some ⟨b, 0, none⟩) ms.length c, .func (.func 120) #[] #[]] W fun e w' => e = .returned (.tuple #[]) ∧ SoE b ms W w' := by
  have HP := Lib.hid (pdq_c b c ms n₁ W h hs)
  have HB := Lib.hid (show ∀ w, Calls Tryz.prog 141 #[.int .u64 (ms.length : Int)] w fun e w' => e = .returned (.int .i64 (Lib.bitLen ms.length : Nat)) ∧ w' = w from fun w => by
    have := Any.bits_Len Tryz.lays125 (ms.length : Int) w (by omega) (by omega)
    change Calls Tryz.prog 141 _ _ _ at this
    simpa using this)
  have wr : IntKind.u64.wrap (ms.length : Int) = ms.length := by simp [IntKind.wrap, IntKind.bits, IntKind.signed]; omega
  generalize Lib.bitLen ms.length = bl at HP HB
  have HW := Lib.hid h
  clear h
  go_enter Tryz.func119, Tryz.ntmps119
  go_wp2_with fail
  refine (HB.out _).mono ?_
  rintro e w1 ⟨rfl, rfl⟩
  go_wp2_with fail
  refine HP.out.mono ?_
  rintro e w1 ⟨rfl, hE⟩
  have HE := Lib.hid hE
  clear hE
  go_wp2_with fail
  refine bodyPost_end (results_none rfl _ _ _) rfl ?_
  exact ⟨rfl, HE.out⟩
theorem sort_nil (W : World) :
    Calls Tryz.prog 119 #[.slice none 0 0, .func (.func 120) #[] #[]] W fun e w' => e = .returned (.tuple #[]) ∧ w' = W := by
  have HP := Lib.hid (show ∀ lim, Calls Tryz.prog 161 #[.slice none 0 0, .int .i64 0, .int .i64 0, .int .i64 lim, .func (.func 120) #[] #[]] W fun e w' => e = .returned (.tuple #[]) ∧ w' = W from fun lim =>
    AnyF.pdqsortCmpFunc_none Tryz.pdqM none 0 lim _ W)
  have HB := Lib.hid (show ∀ w, Calls Tryz.prog 141 #[.int .u64 0] w fun e w' => e = .returned (.int .i64 (Lib.bitLen 0 : Nat)) ∧ w' = w from fun w => by
    have := Any.bits_Len Tryz.lays125 0 w (by omega) (by omega)
    change Calls Tryz.prog 141 _ _ _ at this
    simpa using this)
  generalize Lib.bitLen 0 = bl at HB
  go_enter Tryz.func119, Tryz.ntmps119
  go_wp2_with fail
  refine (HB.out _).mono ?_
  rintro e w1 ⟨rfl, rfl⟩
  go_wp2_with fail
  refine (HP.out _).mono ?_
  rintro e w1 ⟨rfl, rfl⟩
  go_wp2_with fail
  refine bodyPost_end (results_none rfl _ _ _) rfl ?_
  exact ⟨rfl, rfl⟩
end Go.Proofs.YtjdkegfckkbpeaaGreatDoor
namespace Go.Proofs.YtjdkegfckkbpeaaGreatDoor.Tab
def flM (t : List C) (l : List V) : List (Mb Int) := l.map fun f => ⟨f.name, -1, [numOf t f.typ]⟩
def mtM (t : List C) (l : List M) : List (Mb Int) := l.map fun m => ⟨m.name, m.params.length, m.params.map (fun p => numOf t p.typ) ++ [numOf t m.res]⟩
theorem shp_eq (t : List C) (c : ByteArray) : shp t c = flM t (fields t c) ++ mtM t (methods t c) := by
  unfold shp mbs flM mtM
  rw [List.map_append, List.map_map, List.map_map]
  congr 1
  refine List.map_congr_left fun m _ => ?_
  simp [Mb.map, mbM, Function.comp_def]
theorem flM_snoc (t : List C) {l : List V} {j : Nat} {f : V} (h : l[j]? = some f) : flM t (l.take (j + 1)) = flM t (l.take j) ++ [⟨f.name, -1, [numOf t f.typ]⟩] := by
  unfold flM; rw [List.take_add_one, h]; simp
theorem mtM_snoc (t : List C) {l : List M} {j : Nat} {m : M} (h : l[j]? = some m) : mtM t (l.take (j + 1)) = mtM t (l.take j) ++ [⟨m.name, m.params.length, m.params.map (fun p => numOf t p.typ) ++ [numOf t m.res]⟩] := by
  unfold mtM; rw [List.take_add_one, h]; simp
theorem addM_memb {l : List M} {m x : M} (h : x ∈ addM l m) : x = m ∨ x ∈ l := by
  unfold addM at h
  cases hi : ix M.name l m.name with
  | none =>
    rw [hi] at h
    rcases List.mem_append.1 h with h | h
    · exact .inr h
    · simp at h; exact .inl h
  | some k =>
    rw [hi] at h
    rcases List.mem_or_eq_of_mem_set h with h | h
    · exact .inr h
    · exact .inl h
theorem foldM_memb {x : M} : ∀ (ms l : List M), x ∈ ms.foldl addM l → x ∈ ms ∨ x ∈ l
  | [], l, h => .inr h
  | m :: r, l, h => by
    rcases foldM_memb r _ h with h | h
    · exact .inl (List.mem_cons_of_mem _ h)
    · rcases addM_memb h with rfl | h
      · exact .inl (List.mem_cons_self ..)
      · exact .inr h
theorem methods_memb {t : List C} {s : ByteArray} {m : M} (h : m ∈ methods t s) : ∃ i, i < t.length ∧ m ∈ (nth t i).methods := by
  unfold methods at h
  rcases foldM_memb _ _ h with h | h
  · obtain ⟨i, hi, hm⟩ := List.mem_flatMap.1 h
    exact ⟨i, line_lt (List.mem_reverse.1 hi), hm⟩
  · cases h
theorem fields_memb {t : List C} {s : ByteArray} {f : V} (h : f ∈ fields t s) : ∃ i, i < t.length ∧ f ∈ (nth t i).fields := by
  unfold fields at h
  obtain ⟨i, hi, hf⟩ := List.mem_flatMap.1 h
  exact ⟨i, line_lt (List.mem_reverse.1 hi), hf⟩
end Go.Proofs.YtjdkegfckkbpeaaGreatDoor.Tab
namespace Go.Proofs.YtjdkegfckkbpeaaGreatDoor
open Go.ChangeShapes Go.WideShapes Go.ChangeAt Go.RowKit Go.Shelf
/-- No text of a table is too long for a string. -/
theorem vars_sized {w : World} {v : Value} {l : List Tab.V} (h : Row 2 VarAt w v l) {x : Tab.V} (hx : x ∈ l) : x.name.size ≤ maxLen ∧ x.typ.size ≤ maxLen := by
  obtain ⟨a, c, _, _, _, q⟩ := h
  obtain ⟨i, hi, rfl⟩ := List.getElem_of_mem hx
  obtain ⟨b, o, _, r⟩ := q i _ (List.getElem?_eq_getElem hi)
  exact r.2.2
theorem fields_sized {w : World} {a : Option Addr} {c : Nat} {t : List Tab.C} (h : TabAt w (.slice a t.length c) t) {s : ByteArray} {f : Tab.V} (hf : f ∈ Tab.fields t s) : f.name.size ≤ maxLen ∧ f.typ.size ≤ maxLen := by
  obtain ⟨i, hi, hf⟩ := Tab.fields_memb hf
  obtain ⟨b, o, _, hc⟩ := Row.cellsC h hi
  obtain ⟨_, _, ⟨v, _, hv⟩, _⟩ := hc
  exact vars_sized hv hf
theorem methods_sized {w : World} {a : Option Addr} {c : Nat} {t : List Tab.C} (h : TabAt w (.slice a t.length c) t) (hS : Small t) {s : ByteArray} {m : Tab.M} (hm : m ∈ Tab.methods t s) : m.name.size ≤ maxLen ∧ m.res.size ≤ maxLen ∧ (∀ p ∈ m.params, p.name.size ≤ maxLen ∧ p.typ.size ≤ maxLen) ∧ m.params.length ≤ 1000 := by
  obtain ⟨i, hi, hm⟩ := Tab.methods_memb hm
  obtain ⟨b, o, _, hc⟩ := Row.cellsC h hi
  obtain ⟨_, _, _, ⟨v, _, hv⟩, _⟩ := hc
  obtain ⟨a', c', _, _, _, q⟩ := hv
  obtain ⟨k, hk, rfl⟩ := List.getElem_of_mem hm
  obtain ⟨b', o', _, r⟩ := q k _ (List.getElem?_eq_getElem hk)
  obtain ⟨_, ⟨v', _, hp⟩, _, h1, h2⟩ := r
  exact ⟨h1, h2, fun p hp' => vars_sized hp hp', hS.params _ (nth_mem hi) _ (List.getElem_mem hk)⟩
theorem any_states {P : Program} {md : Region.Mode} {ops : Array Oper} {Q : Exit → Act → World → Prop} {n : Nat} {mask : Array Bool} {a : Act} {w : World} (k : ∀ G : Nat → Array Bool → Act → World → Prop, G = wpAny P md ops Q → wpAny P md ops Q n mask a w) : wpAny P md ops Q n mask a w := k _ rfl
theorem any_eq {P : Program} {md : Region.Mode} {ops : Array Oper} {Q : Exit → Act → World → Prop} {G : Nat → Array Bool → Act → World → Prop} (hG : G = wpAny P md ops Q) {n n' : Nat} {m m' : Array Bool} {a a' : Act} {w : World} (h1 : n = n') (h2 : m = m') (h3 : a = a') (h : G n' m' a' w) : wpAny P md ops Q n m a w := by
  rw [← hG, h1, h2, h3]; exact h
theorem RR.of {α : Type} {e : TypeId} {k : Nat} {f : α → List Value} {n₁ : Nat} {X : World} {l : List α} {v : Value} (h : X.ownsRow n₁ e k v l.length (l.flatMap f)) : RR e k f n₁ X l v X := by
  refine ⟨h, Only.refl _ _, fun g e => .inl ?_⟩
  rcases h.2 with ⟨rfl, _⟩ | ⟨g', cap, cur, rfl, hb, hh, _⟩
  · simp [Value.ownBlock] at e
  · obtain rfl : g' = g := by simpa [Value.ownBlock] using e
    exact ⟨hb, _, _, hh⟩
/-- The numbers of some types. -/
def tyM (t : List Tab.C) (l : List Tab.V) : List Int := l.map fun p => Tab.numOf t p.typ
theorem tyM_snoc (t : List Tab.C) {l : List Tab.V} {j : Nat} {f : Tab.V} (h : l[j]? = some f) : tyM t (l.take (j + 1)) = tyM t (l.take j) ++ [Tab.numOf t f.typ] := by
  unfold tyM; rw [List.take_add_one, h]; simp
/-- What shapeOf answers: the members by ascending names, all in blocks of its own. -/
def ShOut (t : List Tab.C) (s : ByteArray) (w : World) (e : Ending) (w' : World) : Prop :=
  ∃ (L : List (Tab.Mb Int)) (a : Option Addr) (c : Nat), e = .returned (.slice a L.length c) ∧ L.Perm (Tab.shp t s) ∧ (L.Pairwise fun x y => Tab.lt y.name x.name = false) ∧
    ∀ w'', Only (fun k => k < w.heap.size) w' w'' → ShpAt w'' (.slice a L.length c) L
theorem int_row {W : World} {n₁ : Nat} {x : Tab.Mq} (h : TyAt n₁ W x) : Row 1 IntAt W (.slice x.a x.n x.c) x.m.types := by
  unfold TyAt at h
  rcases h.2 with ⟨h0, h1⟩ | ⟨g, cap, cur, hv, h1, h2, h3, h4, h5, h6⟩
  · rw [h0]
    have : x.m.types = [] := List.eq_nil_of_length_eq_zero h1
    rw [this]
    exact Row.nil
  · have hv' := hv
    injection hv' with e1 e2 e3
    refine ⟨_, cap, by rw [e1, e2, e3], h3, h4, fun i n hn => ⟨g, 0, rfl, ?_⟩⟩
    have hf := flat_at iCells iCells_len x.m.types i 0 n hn (by omega)
    rw [hv] at h
    have hc := World.ownsRow.cells h (g := g) rfl _ _ hf
    rw [addr_plain] at hc
    show W.cell? ⟨g, 0 + i * 1, none⟩ = _
    simpa using hc
theorem sh_out {t : List Tab.C} {s : ByteArray} {w W W' : World} {mq : List Tab.Mq} {b c n₁ : Nat} (hn : w.heap.size ≤ n₁) (hrow : W.ownsRow n₁ 170 3 (.slice (some ⟨b, 0, none⟩) mq.length c) mq.length (mq.flatMap cCells)) (hty : ∀ x ∈ mq, TyAt n₁ W x)
    (hm : mq.map Tab.Mq.m = Tab.shp t s) (hsz : ∀ x ∈ Tab.shp t s, x.name.size ≤ maxLen) (h : SoE b mq W W') : ShOut t s w (.returned (.slice (some ⟨b, 0, none⟩) mq.length c)) W' := by
  obtain ⟨ms', hp, hs, ho, hat⟩ := h
  have hbb : n₁ ≤ b ∧ mq.length ≤ c ∧ c ≤ maxLen ∧ ∃ cur, W.heap[b]? = some (.cells cur 170 (0, 0)) := by
    rcases hrow.2 with ⟨h0, _⟩ | ⟨g, cap, cur, hv, h1, h2, h3, h4, _⟩
    · cases h0
    · cases hv
      exact ⟨h1, h3, h4, cur, h2⟩
  obtain ⟨hb1, hb2, hb3, cur, hb4⟩ := hbb
  have hbl : b < W.heap.size := (Array.getElem?_eq_some_iff.1 hb4).1
  refine ⟨ms'.map Tab.Mq.m, some ⟨b, 0, none⟩, c, by rw [List.length_map, hp.length_eq], by rw [← hm]; exact hp.map _, ?_, ?_⟩
  · rw [List.pairwise_map]; exact hs
  · intro w'' hw
    refine ⟨_, c, rfl, by rw [List.length_map, hp.length_eq]; exact hb2, hb3, fun i x hx => ⟨b, 0, rfl, ?_⟩⟩
    rw [List.getElem?_map] at hx
    obtain ⟨q, hq, rfl⟩ := Option.map_eq_some_iff.1 hx
    obtain ⟨c0, c1, c2⟩ := hat i q hq
    have hqm : q ∈ mq := hp.subset (List.mem_of_getElem? hq)
    have hblk : w''.heap[b]? = W'.heap[b]? := hw.block b (Nat.lt_of_lt_of_le hbl ho.size) (by omega)
    have cc : ∀ o, w''.cell? ⟨b, o, none⟩ = W'.cell? ⟨b, o, none⟩ := fun o => World.cell?_of_block hblk
    have ht1 : TyAt n₁ W' q := owns_typed (hty q hqm) ho fun g cs fr hs hc => by
      subst hs
      rw [hb4] at hc
      injection hc with hc
      injection hc with _ h2
      exact absurd h2 (by decide)
    have ht2 : TyAt n₁ w'' q := owns_only ht1 hw (fun g hg h => by omega)
    rw [Nat.zero_add]
    exact ⟨by rw [cc]; exact c0, by rw [cc]; exact c1, ⟨_, by rw [cc]; exact c2, int_row ht2⟩, hsz _ (by rw [← hm]; exact List.mem_map_of_mem hqm)⟩
theorem sh_none {t : List Tab.C} {s : ByteArray} {w W : World} (h : Tab.shp t s = []) : ShOut t s w (.returned (.slice none 0 0)) W :=
  ⟨[], none, 0, rfl, by rw [h], List.Pairwise.nil, fun w'' _ => Row.nil⟩
set_option maxHeartbeats 8000000 in
theorem shape_c (a : Option Addr) (c nb : Nat) (t : List Tab.C) (s : ByteArray) (w : World) (hT : TabAt w (.slice a t.length c) t) (hS : Small t) (hN : NumAt t nb w) :
    Calls Tryz.prog 84 #[.slice a t.length c, .map (some nb), .string s] w fun e w' => ShOut t s w e w' ∧ Kept w w' := by
  obtain ⟨i0, hi, hz0, hzz1, hzz2⟩ := info_parts info_mbr
  obtain ⟨j0, hj', hy0, hyy1, hyy2⟩ := info_parts info_int
  have HT := Lib.hid hT
  have HNM := Lib.hid hN
  have HFL := Lib.hid (fldsOf_le hS (s := s) (List.prefix_refl (bk (Tab.line t s) 0)))
  rw [fldsOf_all] at HFL
  have hfl := HFL.out
  have HFS := Lib.hid (fun f (hf : f ∈ Tab.fields t s) => fields_sized hT hf)
  have HMS := Lib.hid (fun m (hm : m ∈ Tab.methods t s) => methods_sized hT hS hm)
  clear hT hN
  go_enter Tryz.func84, Tryz.ntmps84
  go_wp2_with fail
  refine (fields_c a c t s w HT.out hS).mono ?_
  rintro e w1 ⟨v, rfl, hrow, hk⟩
  obtain ⟨fa, fc, rfl⟩ := owns_slice_n hrow
  have HR := Lib.hid hrow
  have HK := Lib.hid hk
  clear hrow hk
  go_wp2_with fail
  go_loopw [7, 19] (fun l q wr => ∃ (j : Nat) (ms : List Tab.Mq), q = .int .i64 j ∧ j ≤ (Tab.fields t s).length ∧ ShR w1.heap.size w1 ms l wr ∧ Hid (ms.map Tab.Mq.m = Tab.flM t ((Tab.fields t s).take j))) (fun l q wr => (Tab.fields t s).length - (intOf q).toNat)
  case atStart => exact ⟨0, [], rfl, Nat.zero_le _, ShR.start _ _, Lib.hid rfl⟩
  case round =>
    obtain ⟨j, ms, rfl, hj, hR, HM⟩ := hrel
    by_cases hlt : j < (Tab.fields t s).length
    · have hltI : (j : Int) < ((Tab.fields t s).length : Int) := by omega
      have hx : (Tab.fields t s)[j]? = some (Tab.fields t s)[j] := List.getElem?_eq_getElem hlt
      have hxm : (Tab.fields t s)[j] ∈ Tab.fields t s := List.getElem_mem hlt
      generalize (Tab.fields t s)[j] = x at hx hxm
      have hsz := (HFS.out x hxm).2
      obtain ⟨g, rfl, _⟩ := row_cells HR.out (by omega)
      obtain ⟨c0, c1⟩ := var_cells (hR.1.other (by decide) HR.out) hx
      have hkw := hR.1.kept HK.out HK.out.size
      have hlk := (HNM.out.kept (hkw.alloc (.cells #[.string x.name, .string x.typ] 72))).look x.typ hsz
      have HX := Lib.hid (show (ms ++ [(⟨⟨x.name, -1, [Tab.numOf t x.typ]⟩, some ⟨wr.heap.size + 1, 0, none⟩, 1, 1⟩ : Tab.Mq)]).map Tab.Mq.m = Tab.flM t ((Tab.fields t s).take (j + 1)) by
        rw [Tab.flM_snoc t hx, List.map_append, HM.out]; rfl)
      have HL := Lib.hid (show ms.length = j by
        have := congrArg List.length HM.out
        unfold Tab.flM at this
        simp at this
        omega)
      obtain ⟨la, ln, lc, rfl⟩ := owns_slice hR.1.1
      have HB := Lib.hid (show w1.heap.size ≤ wr.heap.size from hR.1.2.1.size)
      have HRX := Lib.hid (hR.keep ((((Kept.refl wr).alloc (.cells #[.string x.name, .string x.typ] 72)).alloc (.cells #[.int .i64 (Tab.numOf t x.typ)] 3)).alloc (.cells #[.string x.name, .int .i64 (-1), .slice (some ⟨wr.heap.size + 1, 0, none⟩) 1 1] 170)))
      have hsx := src_mbr ((wr.alloc (.cells #[.string x.name, .string x.typ] 72)).alloc (.cells #[.int .i64 (Tab.numOf t x.typ)] 3)) ⟨⟨x.name, -1, [Tab.numOf t x.typ]⟩, some ⟨wr.heap.size + 1, 0, none⟩, 1, 1⟩
      have hty := ty_one (wr.alloc (.cells #[.string x.name, .string x.typ] 72)) w1.heap.size (by have := HB.out; simp; omega) x.name (-1) (Tab.numOf t x.typ)
      rw [World.size_alloc, World.size_alloc] at hsx
      rw [World.size_alloc] at hty
      have HSX := Lib.hid hsx
      have HTY := Lib.hid (owns_only (S := fun _ => False) hty (Only.of_kept ((Kept.refl _).alloc (.cells #[.string x.name, .int .i64 (-1), .slice (some ⟨wr.heap.size + 1, 0, none⟩) 1 1] 170))) (fun _ _ h => h))
      clear hsx hty hx hR hkw hsz hxm
      go_wp2_with (at_builtin; refine wpList_apk rfl (.tmp 23) (.tmp 32) 120 120 rfl w1.heap.size 3 170 i0 _ 48 Tryz.underlying120 hi hz0 hzz1 hzz2 rfl rfl HRX.out.1.1 rfl HSX.out (by rw [HL.out]; have := HFL.out; unfold maxLen; omega) (by rw [HL.out]; have := HFL.out; omega) (by have := HB.out; simp; omega) ?_; intro v' w2 hown' hgrow hlies; have HNX := Lib.hid (HRX.out.next HTY.out hown' hgrow hlies); obtain ⟨va', vn', vc', rfl⟩ := owns_slice hown'; clear hown' hgrow hlies)
      go_roundw
      case rel => exact ⟨j + 1, _, by go_num, by omega, HNX.out, HX⟩
      case measure => simp [intOf]; omega
    · have hltI : ¬ (j : Int) < ((Tab.fields t s).length : Int) := by omega
      obtain rfl : j = (Tab.fields t s).length := by omega
      have hM1 := HM.out
      rw [List.take_length] at hM1
      have HM1 := Lib.hid hM1
      have hK1 := hR.1.kept HK.out HK.out.size
      have HR1 := Lib.hid hR
      have HK1 := Lib.hid hK1
      have HL1 := Lib.hid (show ms.length = (Tab.fields t s).length by
        have := congrArg List.length hM1
        unfold Tab.flM at this
        simpa using this)
      obtain ⟨la, ln, lc, rfl⟩ := owns_slice hR.1.1
      clear hR hlt hM1 hK1 HM
      go_wp2_with fail
      refine (methods_c a c t s wr (tab_kept HT.out HK1.out) hS).mono ?_
      rintro e w2 ⟨m2, v2, rfl, hf, hrow2, hrows, hlen2, hk2⟩
      obtain ⟨ma, mc, rfl⟩ := owns_slice_n hrow2
      have HR2 := Lib.hid hrow2
      have HRS := Lib.hid hrows
      have HF := Lib.hid hf
      have HK2 := Lib.hid (HK1.out.trans hk2)
      have HM2 := Lib.hid (HR1.out.keep hk2).from
      have HS2 := Lib.hid (show w1.heap.size ≤ w2.heap.size from Nat.le_trans HR1.out.1.2.1.size hk2.size)
      clear hrow2 hrows hf hk2
      go_wp2_with fail
      go_loopw [7, 39] (fun l q wr => ∃ (j : Nat) (mq : List Tab.Mq), q = .int .i64 j ∧ j ≤ m2.length ∧ ShR w1.heap.size w2 mq l wr ∧ Hid (mq.map Tab.Mq.m = Tab.flM t (Tab.fields t s) ++ Tab.mtM t ((m2.map Prod.fst).take j))) (fun l q wr => m2.length - (intOf q).toNat)
      case atStart => exact ⟨0, ms, rfl, Nat.zero_le _, HM2.out, Lib.hid (by rw [HM1.out]; simp [Tab.mtM])⟩
      case round =>
        obtain ⟨j, mq, rfl, hj, hR, HM⟩ := hrel
        have HRQ := Lib.hid hR
        have hkw := hR.1.kept HK2.out (Nat.le_trans HK.out.size (Nat.le_refl _))
        have HKW := Lib.hid hkw
        obtain ⟨ga, gn, gc, rfl⟩ := owns_slice hR.1.1
        obtain ⟨wo, rfl⟩ : ∃ wo, wo = wr := ⟨_, rfl⟩
        by_cases hlt : j < m2.length
        · have hltI : (j : Int) < (m2.length : Int) := by omega
          have hx : m2[j]? = some m2[j] := List.getElem?_eq_getElem hlt
          have hxm : m2[j] ∈ m2 := List.getElem_mem hlt
          generalize m2[j] = x at hx hxm
          have hmz := HMS.out x.1 (by rw [← HF.out]; exact List.mem_map_of_mem hxm)
          have HMZ := Lib.hid hmz
          have hpl := hmz.2.2.2
          obtain ⟨g, rfl, _⟩ := row_cells HR2.out (by omega)
          obtain ⟨c0, c1, c2⟩ := sig_cells (hR.1.other (by decide) HR2.out) hx
          have HPR := Lib.hid (hR.1.other (by decide) (HRS.out x hxm))
          obtain ⟨pa, pc, hp⟩ := owns_slice_n (HRS.out x hxm)
          rw [hp] at c1 HPR
          have HX := Lib.hid (show (m2.map Prod.fst)[j]? = some x.1 by rw [List.getElem?_map, hx]; rfl)
          obtain ⟨X1, hmk, hr1, hg1⟩ := run_makeSlice_owned (P := Tryz.prog) (w := wo.alloc (.cells #[.string x.1.name, .slice pa x.1.params.length pc, .string x.1.res] 47)) (wo.heap.size + 1) 168 3 j0 _ 1 Tryz.underlying168 hj' hy0 hyy1 .i64 .i64 (x.1.params.length + 1) (by omega) (by rw [hyy2]; omega) (by unfold maxLen; omega) (by simp)
          have e1 : ((x.1.params.length + 1 : Nat) : Int) = (x.1.params.length : Int) + 1 := by omega
          rw [e1] at hmk
          rw [World.size_alloc] at hmk hr1
          have HKX := Lib.hid (((Kept.refl wo).alloc (.cells #[.string x.1.name, .slice pa x.1.params.length pc, .string x.1.res] 47)).grown hg1 (fun k e => by cases e))
          have HR1' := Lib.hid (RR.of (f := iCells) (l := []) hr1)
          have HB1 := Lib.hid ((Blk.new wo 47 #[.string x.1.name, .slice pa x.1.params.length pc, .string x.1.res]).grownBy hg1 (by simp))
          clear hx hxm hmz hp hr1 hg1 hkw hR e1
          have z1 := HB1.out.cell 1
          simp only [List.getElem?_toArray, List.getElem?_cons_zero, List.getElem?_cons_succ] at z1
          go_wp2_with fail
          go_loopw [12, 51] (fun l q wr => ∃ i : Nat, q = .int .i64 i ∧ i ≤ x.1.params.length ∧ RR 3 1 iCells (wo.heap.size + 1) X1 (tyM t (x.1.params.take i)) l wr) (fun l q wr => x.1.params.length - (intOf q).toNat)
          case atStart => exact ⟨0, rfl, Nat.zero_le _, HR1'.out⟩
          case round =>
            obtain ⟨i, rfl, hi', hI⟩ := hrel
            have HI := Lib.hid hI
            have hko := hI.kept HKX.out (by omega)
            have HKO := Lib.hid hko
            have hzz := hI.2.1.size
            have hXX := HKX.out.size
            obtain ⟨ta, tn, tc, rfl⟩ := owns_slice hI.1
            by_cases hil : i < x.1.params.length
            · have hilI : (i : Int) < (x.1.params.length : Int) := by omega
              have hy : x.1.params[i]? = some x.1.params[i] := List.getElem?_eq_getElem hil
              have hym : x.1.params[i] ∈ x.1.params := List.getElem_mem hil
              generalize x.1.params[i] = y at hy hym
              have hysz := (HMZ.out.2.2.1 y hym).2
              obtain ⟨pg, rfl, _⟩ := row_cells HPR.out (by omega)
              obtain ⟨p0, p1⟩ := var_cells (owns_only (S := fun _ => False) HPR.out (Only.of_kept hko) (fun _ _ h => h)) hy
              have hlk := (HNM.out.kept ((HKW.out.trans hko).alloc (.cells #[.string y.name, .string y.typ] 72))).look y.typ hysz
              have HTX := Lib.hid (tyM_snoc t hy)
              have HTL := Lib.hid (show (tyM t (x.1.params.take i)).length = i by unfold tyM; simp; omega)
              have HIX := Lib.hid (hI.keep (((Kept.refl wr).alloc (.cells #[.string y.name, .string y.typ] 72)).alloc (.cells #[.int .i64 (Tab.numOf t y.typ)] 3)))
              have hsi := src_int (wr.alloc (.cells #[.string y.name, .string y.typ] 72)) (Tab.numOf t y.typ)
              rw [World.size_alloc] at hsi
              have HSI := Lib.hid hsi
              clear hsi hI hko hy hym hysz z1 c0 c1 c2 hmk
              go_wp2_with (at_builtin; refine wpList_apk rfl (.tmp 55) (.tmp 60) 168 168 rfl (wo.heap.size + 1) 1 3 j0 _ 8 Tryz.underlying168 hj' hy0 hyy1 hyy2 rfl rfl HIX.out.1 rfl HSI.out (by rw [HTL.out]; unfold maxLen; omega) (by rw [HTL.out]; omega) (by simp; omega) ?_; intro v' w3 hown' hgrow hlies; have HNX := Lib.hid (HIX.out.next (Kept.refl _) hown' hgrow hlies); obtain ⟨va', vn', vc', rfl⟩ := owns_slice hown'; clear hown' hgrow hlies)
              go_roundw
              case rel => exact ⟨i + 1, by go_num, by omega, by rw [HTX.out]; exact HNX.out⟩
              case measure => simp [intOf]; omega
            · have hilI : ¬ (i : Int) < (x.1.params.length : Int) := by omega
              obtain rfl : i = x.1.params.length := by omega
              rw [List.take_length] at hI
              have hbx : Blk wr wo.heap.size 47 #[.string x.1.name, .slice pa x.1.params.length pc, .string x.1.res] := HB1.out.only hI.2.1 (by have := HB1.out.lt; rintro (⟨h, _⟩ | h) <;> omega)
              have y0 := hbx.cell 0
              have y1 := hbx.cell 1
              have y2 := hbx.cell 2
              simp only [List.getElem?_toArray, List.getElem?_cons_zero, List.getElem?_cons_succ] at y0 y1 y2
              have hlk := (HNM.out.kept ((HKW.out.trans hko).drew)).look x.1.res HMZ.out.2.1
              have HI2 := Lib.hid (hI.keep (((Kept.refl wr).drew).alloc (.cells #[.int .i64 (Tab.numOf t x.1.res)] 3)))
              have hsi := src_int wr.drew (Tab.numOf t x.1.res)
              have HSI := Lib.hid hsi
              have HTL := Lib.hid (show (tyM t x.1.params).length = x.1.params.length by unfold tyM; simp)
              have HKO2 := Lib.hid hko
              clear hmk hI z1 hko hsi HI c0 c1 c2
              go_wp2_with fail
              have ya0 := (hbx.alloc (.cells #[.int .i64 (Tab.numOf t x.1.res)] 3)).cell 0
              have ya1 := (hbx.alloc (.cells #[.int .i64 (Tab.numOf t x.1.res)] 3)).cell 1
              have ya2 := (hbx.alloc (.cells #[.int .i64 (Tab.numOf t x.1.res)] 3)).cell 2
              simp only [List.getElem?_toArray, List.getElem?_cons_zero, List.getElem?_cons_succ] at ya0 ya1 ya2
              have hla : True := trivial
              have HKQ := Lib.hid (show w1.heap.size ≤ wo.heap.size + 1 by have := HS2.out; have := HRQ.out.1.2.1.size; omega)
              have HBQ := Lib.hid (show w1.heap.size ≤ wo.heap.size by have := HS2.out; have := HRQ.out.1.2.1.size; omega)
              have HLQ := Lib.hid (show mq.length = (Tab.fields t s).length + j by
                have := congrArg List.length HM.out
                unfold Tab.flM Tab.mtM at this
                simp at this
                omega)
              clear hbx
              refine wp_region_any (by kernel_rfl) ?_
              change wpAny _ _ _ _ _ _ _ (World.drew _)
              refine any_states (fun G hG => ?_)
              have hs0' : ∀ (va7 : Option Addr) (vn7 vc7 : Nat) (w7 : World), RR 3 1 iCells (wo.heap.size + 1) X1 (tyM t x.1.params ++ [Tab.numOf t x.1.res]) (.slice va7 vn7 vc7) w7 → Kept wo w7 → G 4 #[true, true, true, true, true, true, true, true, true, true, true, true, true, false, false, false, false] { tmps := #[.slice a t.length c, .map (some nb), .string s, undef, undef, undef, .slice none 0 0, .slice ga gn gc, undef, u9, undef, .pointer (some ⟨wo.heap.size, 0, none⟩), .slice ta tn tc, undef, u14, .slice a t.length c, .string s, .slice fa (Tab.fields t s).length fc, .int .i64 ((Tab.fields t s).length : Nat), .int .i64 ((Tab.fields t s).length : Nat), .bool false, u21, u22, u23, u24, u25, u26, u27, u28, u29, u30, u31, u32, u33, u34, .slice a t.length c, .string s, .slice (some ⟨g, 0, none⟩) m2.length mc, .int .i64 (m2.length : Nat), .int .i64 (j : Nat), .bool true, .pointer (some ⟨g, j * 3, none⟩), .agg #[.string x.1.name, .slice pa x.1.params.length pc, .string x.1.res], .pointer (some ⟨wo.heap.size, 1, none⟩), .slice pa x.1.params.length pc, .int .i64 (x.1.params.length : Nat), .int .i64 ((x.1.params.length : Int) + 1), .slice (some ⟨wo.heap.size + 1, 0, none⟩) 0 (x.1.params.length + 1), .pointer (some ⟨wo.heap.size, 1, none⟩), .slice pa x.1.params.length pc, .int .i64 (x.1.params.length : Nat), .int .i64 (x.1.params.length : Nat), .bool false, u53, u54, u55, u56, u57, u58, u59, u60, u61, u62, .slice ga gn gc, .pointer (some ⟨wo.heap.size, 0, none⟩), .string x.1.name, .pointer (some ⟨wo.heap.size, 1, none⟩), .slice pa x.1.params.length pc, .int .i64 (x.1.params.length : Nat), .slice ta tn tc, .map (some nb), .pointer (some ⟨wo.heap.size, 2, none⟩), .string x.1.res, .int .i64 (Tab.numOf t x.1.res), .slice (some ⟨wr.heap.size, 0, none⟩) 1 1, .slice va7 vn7 vc7, u76, u77, u78, u79, undef, undef, undef], defers := [] } w7 := by
                intro va7 vn7 vc7 w7 h7 k7
                clear y0 y1 y2 hlk ya0 ya1 ya2 hla
                have hb7 : Blk w7 wo.heap.size 47 #[.string x.1.name, .slice pa x.1.params.length pc, .string x.1.res] := HB1.out.only h7.2.1 (by have := HB1.out.lt; rintro (⟨h, _⟩ | h) <;> omega)
                have y0 := hb7.cell 0
                have y1 := hb7.cell 1
                have y2 := hb7.cell 2
                simp only [List.getElem?_toArray, List.getElem?_cons_zero, List.getElem?_cons_succ] at y0 y1 y2
                have H7 := Lib.hid h7
                have K7 := Lib.hid k7
                clear h7 k7 hb7
                rw [hG]
                have hbk := HKQ.out
                have HRY := Lib.hid ((HRQ.out.keep K7.out).keep ((Kept.refl w7).alloc (.cells #[.string x.1.name, .int .i64 (x.1.params.length : Nat), .slice va7 vn7 vc7] 170)))
                have hsy := src_mbr w7 ⟨⟨x.1.name, (x.1.params.length : Nat), tyM t x.1.params ++ [Tab.numOf t x.1.res]⟩, va7, vn7, vc7⟩
                have HSY := Lib.hid hsy
                have HTY := Lib.hid (show TyAt w1.heap.size (w7.alloc (.cells #[.string x.1.name, .int .i64 (x.1.params.length : Nat), .slice va7 vn7 vc7] 170)) ⟨⟨x.1.name, (x.1.params.length : Nat), tyM t x.1.params ++ [Tab.numOf t x.1.res]⟩, va7, vn7, vc7⟩ from
                  owns_base (owns_only (S := fun _ => False) H7.out.1 (Only.of_kept ((Kept.refl w7).alloc _)) (fun _ _ h => h)) (by have := hbk; omega))
                have HXX := Lib.hid (show (mq ++ [(⟨⟨x.1.name, (x.1.params.length : Nat), tyM t x.1.params ++ [Tab.numOf t x.1.res]⟩, va7, vn7, vc7⟩ : Tab.Mq)]).map Tab.Mq.m = Tab.flM t (Tab.fields t s) ++ Tab.mtM t ((m2.map Prod.fst).take (j + 1)) by
                  rw [Tab.mtM_snoc t HX.out, List.map_append, HM.out, ← List.append_assoc]; rfl)
                have hsz7 := K7.out.size
                clear hsy hbk
                refine tkV 13 (.agg #[.string x.1.name, .int .i64 (x.1.params.length : Nat), .slice va7 vn7 vc7]) ?_
                refine rdA [14] ?_
                refine aR (fun K hK => ?_) ?_
                · go_simp
                  refine hK _ _ ?_; clear hK K
                  refine rdA [15] ?_
                  refine aR (fun K hK => ?_) ?_
                  · refine step_apk rfl (.tmp 63) (.tmp 77) 120 120 rfl w1.heap.size 3 170 i0 _ 48 Tryz.underlying120 hi hz0 hzz1 hzz2 rfl rfl HRY.out.1.1 rfl HSY.out (by rw [HLQ.out]; unfold maxLen; omega) (by rw [HLQ.out]; omega) (by simp; have := HBQ.out; omega) ?_
                    intro v' w8 hown' hgrow _ hlies
                    have HNX := Lib.hid (HRY.out.next HTY.out hown' hgrow hlies)
                    obtain ⟨va8, vn8, vc8, rfl⟩ := owns_slice hown'
                    clear hown' hgrow hlies
                    refine hK _ _ ?_; clear hK K
                    refine tkV 16 (.slice va8 vn8 vc8) ?_
                    refine wpAny_done (by kernel_rfl) ?_ _
                    go_simp
                    go_wp2_with fail
                    go_roundw
                    case rel => exact ⟨j + 1, _, by go_num, by omega, HNX.out, HXX⟩
                    case measure => simp [intOf]; omega
                  · exact AllReady.nil
                · exact AllReady.nil
              have hs0 := Lib.hid hs0'
              clear hs0'
              have hs1' : G 5 #[true, true, true, true, true, true, true, true, true, true, true, true, false, false, false, false, false] { tmps := #[.slice a t.length c, .map (some nb), .string s, undef, undef, undef, .slice none 0 0, .slice ga gn gc, undef, u9, undef, .pointer (some ⟨wo.heap.size, 0, none⟩), .slice ta tn tc, undef, u14, .slice a t.length c, .string s, .slice fa (Tab.fields t s).length fc, .int .i64 ((Tab.fields t s).length : Nat), .int .i64 ((Tab.fields t s).length : Nat), .bool false, u21, u22, u23, u24, u25, u26, u27, u28, u29, u30, u31, u32, u33, u34, .slice a t.length c, .string s, .slice (some ⟨g, 0, none⟩) m2.length mc, .int .i64 (m2.length : Nat), .int .i64 (j : Nat), .bool true, .pointer (some ⟨g, j * 3, none⟩), .agg #[.string x.1.name, .slice pa x.1.params.length pc, .string x.1.res], .pointer (some ⟨wo.heap.size, 1, none⟩), .slice pa x.1.params.length pc, .int .i64 (x.1.params.length : Nat), .int .i64 ((x.1.params.length : Int) + 1), .slice (some ⟨wo.heap.size + 1, 0, none⟩) 0 (x.1.params.length + 1), .pointer (some ⟨wo.heap.size, 1, none⟩), .slice pa x.1.params.length pc, .int .i64 (x.1.params.length : Nat), .int .i64 (x.1.params.length : Nat), .bool false, u53, u54, u55, u56, u57, u58, u59, u60, u61, u62, .slice ga gn gc, .pointer (some ⟨wo.heap.size, 0, none⟩), .string x.1.name, .pointer (some ⟨wo.heap.size, 1, none⟩), .slice pa x.1.params.length pc, .int .i64 (x.1.params.length : Nat), .slice ta tn tc, .map (some nb), .pointer (some ⟨wo.heap.size, 2, none⟩), .string x.1.res, .int .i64 (Tab.numOf t x.1.res), .slice (some ⟨wr.heap.size, 0, none⟩) 1 1, u75, u76, u77, u78, u79, undef, undef, undef], defers := [] } (wr.drew.alloc (.cells #[.int .i64 (Tab.numOf t x.1.res)] 3)) := by
                clear y0 y1 y2 hlk
                rw [hG]
                refine rdA [12] ?_
                refine aR (fun K hK => ?_) ?_
                · refine step_apk rfl (.tmp 69) (.tmp 74) 168 168 rfl (wo.heap.size + 1) 1 3 j0 _ 8 Tryz.underlying168 hj' hy0 hyy1 hyy2 rfl rfl HI2.out.1 rfl HSI.out (by rw [HTL.out]; unfold maxLen; omega) (by rw [HTL.out]; omega) (by simp [World.size_alloc]; omega) ?_
                  intro v' w7 hown' hgrow _ hlies
                  have h7 := HI2.out.next (Kept.refl _) hown' hgrow hlies
                  have k7 := h7.kept HKX.out (by omega)
                  obtain ⟨va7, vn7, vc7, rfl⟩ := owns_slice hown'
                  clear hown' hgrow hlies
                  refine hK _ _ ?_; clear hK K
                  exact aE hG (hs0.out _ _ _ _ h7 k7)
                exact AllReady.nil
              have hs1 := Lib.hid hs1'
              clear hs1'
              have hs2' : G 6 #[true, true, true, true, true, true, true, true, true, true, true, false, false, false, false, false, false] { tmps := #[.slice a t.length c, .map (some nb), .string s, undef, undef, undef, .slice none 0 0, .slice ga gn gc, undef, u9, undef, .pointer (some ⟨wo.heap.size, 0, none⟩), .slice ta tn tc, undef, u14, .slice a t.length c, .string s, .slice fa (Tab.fields t s).length fc, .int .i64 ((Tab.fields t s).length : Nat), .int .i64 ((Tab.fields t s).length : Nat), .bool false, u21, u22, u23, u24, u25, u26, u27, u28, u29, u30, u31, u32, u33, u34, .slice a t.length c, .string s, .slice (some ⟨g, 0, none⟩) m2.length mc, .int .i64 (m2.length : Nat), .int .i64 (j : Nat), .bool true, .pointer (some ⟨g, j * 3, none⟩), .agg #[.string x.1.name, .slice pa x.1.params.length pc, .string x.1.res], .pointer (some ⟨wo.heap.size, 1, none⟩), .slice pa x.1.params.length pc, .int .i64 (x.1.params.length : Nat), .int .i64 ((x.1.params.length : Int) + 1), .slice (some ⟨wo.heap.size + 1, 0, none⟩) 0 (x.1.params.length + 1), .pointer (some ⟨wo.heap.size, 1, none⟩), .slice pa x.1.params.length pc, .int .i64 (x.1.params.length : Nat), .int .i64 (x.1.params.length : Nat), .bool false, u53, u54, u55, u56, u57, u58, u59, u60, u61, u62, .slice ga gn gc, .pointer (some ⟨wo.heap.size, 0, none⟩), .string x.1.name, .pointer (some ⟨wo.heap.size, 1, none⟩), .slice pa x.1.params.length pc, .int .i64 (x.1.params.length : Nat), .slice ta tn tc, .map (some nb), .pointer (some ⟨wo.heap.size, 2, none⟩), .string x.1.res, .int .i64 (Tab.numOf t x.1.res), u74, u75, u76, u77, u78, u79, undef, undef, undef], defers := [] } wr.drew := by
                clear ya0 ya1 ya2 hla
                rw [hG]
                refine rdA [11] ?_
                refine aR (fun K hK => ?_) ?_
                · go_simp
                  refine hK _ _ ?_; clear hK K
                  exact aE hG hs1.out
                exact AllReady.nil
              have hs2 := Lib.hid hs2'
              clear hs2'
              have hs3' : G 7 #[true, true, true, true, true, true, true, true, true, true, false, false, false, false, false, false, false] { tmps := #[.slice a t.length c, .map (some nb), .string s, undef, undef, undef, .slice none 0 0, .slice ga gn gc, undef, u9, undef, .pointer (some ⟨wo.heap.size, 0, none⟩), .slice ta tn tc, undef, u14, .slice a t.length c, .string s, .slice fa (Tab.fields t s).length fc, .int .i64 ((Tab.fields t s).length : Nat), .int .i64 ((Tab.fields t s).length : Nat), .bool false, u21, u22, u23, u24, u25, u26, u27, u28, u29, u30, u31, u32, u33, u34, .slice a t.length c, .string s, .slice (some ⟨g, 0, none⟩) m2.length mc, .int .i64 (m2.length : Nat), .int .i64 (j : Nat), .bool true, .pointer (some ⟨g, j * 3, none⟩), .agg #[.string x.1.name, .slice pa x.1.params.length pc, .string x.1.res], .pointer (some ⟨wo.heap.size, 1, none⟩), .slice pa x.1.params.length pc, .int .i64 (x.1.params.length : Nat), .int .i64 ((x.1.params.length : Int) + 1), .slice (some ⟨wo.heap.size + 1, 0, none⟩) 0 (x.1.params.length + 1), .pointer (some ⟨wo.heap.size, 1, none⟩), .slice pa x.1.params.length pc, .int .i64 (x.1.params.length : Nat), .int .i64 (x.1.params.length : Nat), .bool false, u53, u54, u55, u56, u57, u58, u59, u60, u61, u62, .slice ga gn gc, .pointer (some ⟨wo.heap.size, 0, none⟩), .string x.1.name, .pointer (some ⟨wo.heap.size, 1, none⟩), .slice pa x.1.params.length pc, .int .i64 (x.1.params.length : Nat), .slice ta tn tc, .map (some nb), .pointer (some ⟨wo.heap.size, 2, none⟩), .string x.1.res, u73, u74, u75, u76, u77, u78, u79, undef, undef, undef], defers := [] } wr.drew := by
                clear ya0 ya1 ya2 hla
                rw [hG]
                refine rdA [10] ?_
                refine aR (fun K hK => ?_) ?_
                · go_simp
                  refine hK _ _ ?_; clear hK K
                  exact aE hG hs2.out
                exact AllReady.nil
              have hs3 := Lib.hid hs3'
              clear hs3'
              have hs4' : G 8 #[true, true, true, true, true, true, true, true, true, false, false, false, false, false, false, false, false] { tmps := #[.slice a t.length c, .map (some nb), .string s, undef, undef, undef, .slice none 0 0, .slice ga gn gc, undef, u9, undef, .pointer (some ⟨wo.heap.size, 0, none⟩), .slice ta tn tc, undef, u14, .slice a t.length c, .string s, .slice fa (Tab.fields t s).length fc, .int .i64 ((Tab.fields t s).length : Nat), .int .i64 ((Tab.fields t s).length : Nat), .bool false, u21, u22, u23, u24, u25, u26, u27, u28, u29, u30, u31, u32, u33, u34, .slice a t.length c, .string s, .slice (some ⟨g, 0, none⟩) m2.length mc, .int .i64 (m2.length : Nat), .int .i64 (j : Nat), .bool true, .pointer (some ⟨g, j * 3, none⟩), .agg #[.string x.1.name, .slice pa x.1.params.length pc, .string x.1.res], .pointer (some ⟨wo.heap.size, 1, none⟩), .slice pa x.1.params.length pc, .int .i64 (x.1.params.length : Nat), .int .i64 ((x.1.params.length : Int) + 1), .slice (some ⟨wo.heap.size + 1, 0, none⟩) 0 (x.1.params.length + 1), .pointer (some ⟨wo.heap.size, 1, none⟩), .slice pa x.1.params.length pc, .int .i64 (x.1.params.length : Nat), .int .i64 (x.1.params.length : Nat), .bool false, u53, u54, u55, u56, u57, u58, u59, u60, u61, u62, .slice ga gn gc, .pointer (some ⟨wo.heap.size, 0, none⟩), .string x.1.name, .pointer (some ⟨wo.heap.size, 1, none⟩), .slice pa x.1.params.length pc, .int .i64 (x.1.params.length : Nat), .slice ta tn tc, .map (some nb), .pointer (some ⟨wo.heap.size, 2, none⟩), u72, u73, u74, u75, u76, u77, u78, u79, undef, undef, undef], defers := [] } wr.drew := by
                clear ya0 ya1 ya2 hla
                rw [hG]
                refine rdA [9] ?_
                refine aR (fun K hK => ?_) ?_
                · go_simp
                  refine hK _ _ ?_; clear hK K
                  exact aE hG hs3.out
                exact AllReady.nil
              have hs4 := Lib.hid hs4'
              clear hs4'
              have hs5' : ∀ (va7 : Option Addr) (vn7 vc7 : Nat) (w7 : World), RR 3 1 iCells (wo.heap.size + 1) X1 (tyM t x.1.params ++ [Tab.numOf t x.1.res]) (.slice va7 vn7 vc7) w7 → Kept wo w7 → G 6 #[true, true, true, true, false, false, true, true, true, true, true, true, true, false, false, false, false] { tmps := #[.slice a t.length c, .map (some nb), .string s, undef, undef, undef, .slice none 0 0, .slice ga gn gc, undef, u9, undef, .pointer (some ⟨wo.heap.size, 0, none⟩), .slice ta tn tc, undef, u14, .slice a t.length c, .string s, .slice fa (Tab.fields t s).length fc, .int .i64 ((Tab.fields t s).length : Nat), .int .i64 ((Tab.fields t s).length : Nat), .bool false, u21, u22, u23, u24, u25, u26, u27, u28, u29, u30, u31, u32, u33, u34, .slice a t.length c, .string s, .slice (some ⟨g, 0, none⟩) m2.length mc, .int .i64 (m2.length : Nat), .int .i64 (j : Nat), .bool true, .pointer (some ⟨g, j * 3, none⟩), .agg #[.string x.1.name, .slice pa x.1.params.length pc, .string x.1.res], .pointer (some ⟨wo.heap.size, 1, none⟩), .slice pa x.1.params.length pc, .int .i64 (x.1.params.length : Nat), .int .i64 ((x.1.params.length : Int) + 1), .slice (some ⟨wo.heap.size + 1, 0, none⟩) 0 (x.1.params.length + 1), .pointer (some ⟨wo.heap.size, 1, none⟩), .slice pa x.1.params.length pc, .int .i64 (x.1.params.length : Nat), .int .i64 (x.1.params.length : Nat), .bool false, u53, u54, u55, u56, u57, u58, u59, u60, u61, u62, .slice ga gn gc, .pointer (some ⟨wo.heap.size, 0, none⟩), .string x.1.name, .pointer (some ⟨wo.heap.size, 1, none⟩), u67, u68, .slice ta tn tc, .map (some nb), .pointer (some ⟨wo.heap.size, 2, none⟩), .string x.1.res, .int .i64 (Tab.numOf t x.1.res), .slice (some ⟨wr.heap.size, 0, none⟩) 1 1, .slice va7 vn7 vc7, u76, u77, u78, u79, undef, undef, undef], defers := [] } w7 := by
                intro va7 vn7 vc7 w7 h7 k7
                clear y0 y1 y2 hlk ya0 ya1 ya2 hla
                have hb7 : Blk w7 wo.heap.size 47 #[.string x.1.name, .slice pa x.1.params.length pc, .string x.1.res] := HB1.out.only h7.2.1 (by have := HB1.out.lt; rintro (⟨h, _⟩ | h) <;> omega)
                have y0 := hb7.cell 0
                have y1 := hb7.cell 1
                have y2 := hb7.cell 2
                simp only [List.getElem?_toArray, List.getElem?_cons_zero, List.getElem?_cons_succ] at y0 y1 y2
                have H7 := Lib.hid h7
                have K7 := Lib.hid k7
                clear h7 k7 hb7
                rw [hG]
                refine rdA [4] ?_
                refine aR (fun K hK => ?_) ?_
                · go_simp
                  refine hK _ _ ?_; clear hK K
                  refine tkW 5 (.int .i64 (x.1.params.length : Nat)) ?_
                  exact aE hG (hs0.out _ _ _ _ H7.out K7.out)
                exact AllReady.nil
              have hs5 := Lib.hid hs5'
              clear hs5'
              have hs6' : G 7 #[true, true, true, true, false, false, true, true, true, true, true, true, false, false, false, false, false] { tmps := #[.slice a t.length c, .map (some nb), .string s, undef, undef, undef, .slice none 0 0, .slice ga gn gc, undef, u9, undef, .pointer (some ⟨wo.heap.size, 0, none⟩), .slice ta tn tc, undef, u14, .slice a t.length c, .string s, .slice fa (Tab.fields t s).length fc, .int .i64 ((Tab.fields t s).length : Nat), .int .i64 ((Tab.fields t s).length : Nat), .bool false, u21, u22, u23, u24, u25, u26, u27, u28, u29, u30, u31, u32, u33, u34, .slice a t.length c, .string s, .slice (some ⟨g, 0, none⟩) m2.length mc, .int .i64 (m2.length : Nat), .int .i64 (j : Nat), .bool true, .pointer (some ⟨g, j * 3, none⟩), .agg #[.string x.1.name, .slice pa x.1.params.length pc, .string x.1.res], .pointer (some ⟨wo.heap.size, 1, none⟩), .slice pa x.1.params.length pc, .int .i64 (x.1.params.length : Nat), .int .i64 ((x.1.params.length : Int) + 1), .slice (some ⟨wo.heap.size + 1, 0, none⟩) 0 (x.1.params.length + 1), .pointer (some ⟨wo.heap.size, 1, none⟩), .slice pa x.1.params.length pc, .int .i64 (x.1.params.length : Nat), .int .i64 (x.1.params.length : Nat), .bool false, u53, u54, u55, u56, u57, u58, u59, u60, u61, u62, .slice ga gn gc, .pointer (some ⟨wo.heap.size, 0, none⟩), .string x.1.name, .pointer (some ⟨wo.heap.size, 1, none⟩), u67, u68, .slice ta tn tc, .map (some nb), .pointer (some ⟨wo.heap.size, 2, none⟩), .string x.1.res, .int .i64 (Tab.numOf t x.1.res), .slice (some ⟨wr.heap.size, 0, none⟩) 1 1, u75, u76, u77, u78, u79, undef, undef, undef], defers := [] } (wr.drew.alloc (.cells #[.int .i64 (Tab.numOf t x.1.res)] 3)) := by
                clear y0 y1 y2 hlk
                rw [hG]
                refine rdA [4, 12] ?_
                refine aR (fun K hK => ?_) ?_
                · go_simp
                  refine hK _ _ ?_; clear hK K
                  refine tkW 5 (.int .i64 (x.1.params.length : Nat)) ?_
                  exact aE hG hs1.out
                refine aR (fun K hK => ?_) ?_
                · refine step_apk rfl (.tmp 69) (.tmp 74) 168 168 rfl (wo.heap.size + 1) 1 3 j0 _ 8 Tryz.underlying168 hj' hy0 hyy1 hyy2 rfl rfl HI2.out.1 rfl HSI.out (by rw [HTL.out]; unfold maxLen; omega) (by rw [HTL.out]; omega) (by simp [World.size_alloc]; omega) ?_
                  intro v' w7 hown' hgrow _ hlies
                  have h7 := HI2.out.next (Kept.refl _) hown' hgrow hlies
                  have k7 := h7.kept HKX.out (by omega)
                  obtain ⟨va7, vn7, vc7, rfl⟩ := owns_slice hown'
                  clear hown' hgrow hlies
                  refine hK _ _ ?_; clear hK K
                  exact aE hG (hs5.out _ _ _ _ h7 k7)
                exact AllReady.nil
              have hs6 := Lib.hid hs6'
              clear hs6'
              have hs7' : G 8 #[true, true, true, true, false, false, true, true, true, true, true, false, false, false, false, false, false] { tmps := #[.slice a t.length c, .map (some nb), .string s, undef, undef, undef, .slice none 0 0, .slice ga gn gc, undef, u9, undef, .pointer (some ⟨wo.heap.size, 0, none⟩), .slice ta tn tc, undef, u14, .slice a t.length c, .string s, .slice fa (Tab.fields t s).length fc, .int .i64 ((Tab.fields t s).length : Nat), .int .i64 ((Tab.fields t s).length : Nat), .bool false, u21, u22, u23, u24, u25, u26, u27, u28, u29, u30, u31, u32, u33, u34, .slice a t.length c, .string s, .slice (some ⟨g, 0, none⟩) m2.length mc, .int .i64 (m2.length : Nat), .int .i64 (j : Nat), .bool true, .pointer (some ⟨g, j * 3, none⟩), .agg #[.string x.1.name, .slice pa x.1.params.length pc, .string x.1.res], .pointer (some ⟨wo.heap.size, 1, none⟩), .slice pa x.1.params.length pc, .int .i64 (x.1.params.length : Nat), .int .i64 ((x.1.params.length : Int) + 1), .slice (some ⟨wo.heap.size + 1, 0, none⟩) 0 (x.1.params.length + 1), .pointer (some ⟨wo.heap.size, 1, none⟩), .slice pa x.1.params.length pc, .int .i64 (x.1.params.length : Nat), .int .i64 (x.1.params.length : Nat), .bool false, u53, u54, u55, u56, u57, u58, u59, u60, u61, u62, .slice ga gn gc, .pointer (some ⟨wo.heap.size, 0, none⟩), .string x.1.name, .pointer (some ⟨wo.heap.size, 1, none⟩), u67, u68, .slice ta tn tc, .map (some nb), .pointer (some ⟨wo.heap.size, 2, none⟩), .string x.1.res, .int .i64 (Tab.numOf t x.1.res), u74, u75, u76, u77, u78, u79, undef, undef, undef], defers := [] } wr.drew := by
                clear ya0 ya1 ya2 hla
                rw [hG]
                refine rdA [4, 11] ?_
                refine aR (fun K hK => ?_) ?_
                · go_simp
                  refine hK _ _ ?_; clear hK K
                  refine tkW 5 (.int .i64 (x.1.params.length : Nat)) ?_
                  exact aE hG hs2.out
                refine aR (fun K hK => ?_) ?_
                · go_simp
                  refine hK _ _ ?_; clear hK K
                  exact aE hG hs6.out
                exact AllReady.nil
              have hs7 := Lib.hid hs7'
              clear hs7'
              have hs8' : G 9 #[true, true, true, true, false, false, true, true, true, true, false, false, false, false, false, false, false] { tmps := #[.slice a t.length c, .map (some nb), .string s, undef, undef, undef, .slice none 0 0, .slice ga gn gc, undef, u9, undef, .pointer (some ⟨wo.heap.size, 0, none⟩), .slice ta tn tc, undef, u14, .slice a t.length c, .string s, .slice fa (Tab.fields t s).length fc, .int .i64 ((Tab.fields t s).length : Nat), .int .i64 ((Tab.fields t s).length : Nat), .bool false, u21, u22, u23, u24, u25, u26, u27, u28, u29, u30, u31, u32, u33, u34, .slice a t.length c, .string s, .slice (some ⟨g, 0, none⟩) m2.length mc, .int .i64 (m2.length : Nat), .int .i64 (j : Nat), .bool true, .pointer (some ⟨g, j * 3, none⟩), .agg #[.string x.1.name, .slice pa x.1.params.length pc, .string x.1.res], .pointer (some ⟨wo.heap.size, 1, none⟩), .slice pa x.1.params.length pc, .int .i64 (x.1.params.length : Nat), .int .i64 ((x.1.params.length : Int) + 1), .slice (some ⟨wo.heap.size + 1, 0, none⟩) 0 (x.1.params.length + 1), .pointer (some ⟨wo.heap.size, 1, none⟩), .slice pa x.1.params.length pc, .int .i64 (x.1.params.length : Nat), .int .i64 (x.1.params.length : Nat), .bool false, u53, u54, u55, u56, u57, u58, u59, u60, u61, u62, .slice ga gn gc, .pointer (some ⟨wo.heap.size, 0, none⟩), .string x.1.name, .pointer (some ⟨wo.heap.size, 1, none⟩), u67, u68, .slice ta tn tc, .map (some nb), .pointer (some ⟨wo.heap.size, 2, none⟩), .string x.1.res, u73, u74, u75, u76, u77, u78, u79, undef, undef, undef], defers := [] } wr.drew := by
                clear ya0 ya1 ya2 hla
                rw [hG]
                refine rdA [4, 10] ?_
                refine aR (fun K hK => ?_) ?_
                · go_simp
                  refine hK _ _ ?_; clear hK K
                  refine tkW 5 (.int .i64 (x.1.params.length : Nat)) ?_
                  exact aE hG hs3.out
                refine aR (fun K hK => ?_) ?_
                · go_simp
                  refine hK _ _ ?_; clear hK K
                  exact aE hG hs7.out
                exact AllReady.nil
              have hs8 := Lib.hid hs8'
              clear hs8'
              have hs9' : G 10 #[true, true, true, true, false, false, true, true, true, false, false, false, false, false, false, false, false] { tmps := #[.slice a t.length c, .map (some nb), .string s, undef, undef, undef, .slice none 0 0, .slice ga gn gc, undef, u9, undef, .pointer (some ⟨wo.heap.size, 0, none⟩), .slice ta tn tc, undef, u14, .slice a t.length c, .string s, .slice fa (Tab.fields t s).length fc, .int .i64 ((Tab.fields t s).length : Nat), .int .i64 ((Tab.fields t s).length : Nat), .bool false, u21, u22, u23, u24, u25, u26, u27, u28, u29, u30, u31, u32, u33, u34, .slice a t.length c, .string s, .slice (some ⟨g, 0, none⟩) m2.length mc, .int .i64 (m2.length : Nat), .int .i64 (j : Nat), .bool true, .pointer (some ⟨g, j * 3, none⟩), .agg #[.string x.1.name, .slice pa x.1.params.length pc, .string x.1.res], .pointer (some ⟨wo.heap.size, 1, none⟩), .slice pa x.1.params.length pc, .int .i64 (x.1.params.length : Nat), .int .i64 ((x.1.params.length : Int) + 1), .slice (some ⟨wo.heap.size + 1, 0, none⟩) 0 (x.1.params.length + 1), .pointer (some ⟨wo.heap.size, 1, none⟩), .slice pa x.1.params.length pc, .int .i64 (x.1.params.length : Nat), .int .i64 (x.1.params.length : Nat), .bool false, u53, u54, u55, u56, u57, u58, u59, u60, u61, u62, .slice ga gn gc, .pointer (some ⟨wo.heap.size, 0, none⟩), .string x.1.name, .pointer (some ⟨wo.heap.size, 1, none⟩), u67, u68, .slice ta tn tc, .map (some nb), .pointer (some ⟨wo.heap.size, 2, none⟩), u72, u73, u74, u75, u76, u77, u78, u79, undef, undef, undef], defers := [] } wr.drew := by
                clear ya0 ya1 ya2 hla
                rw [hG]
                refine rdA [4, 9] ?_
                refine aR (fun K hK => ?_) ?_
                · go_simp
                  refine hK _ _ ?_; clear hK K
                  refine tkW 5 (.int .i64 (x.1.params.length : Nat)) ?_
                  exact aE hG hs4.out
                refine aR (fun K hK => ?_) ?_
                · go_simp
                  refine hK _ _ ?_; clear hK K
                  exact aE hG hs8.out
                exact AllReady.nil
              have hs9 := Lib.hid hs9'
              clear hs9'
              have hs10' : ∀ (va7 : Option Addr) (vn7 vc7 : Nat) (w7 : World), RR 3 1 iCells (wo.heap.size + 1) X1 (tyM t x.1.params ++ [Tab.numOf t x.1.res]) (.slice va7 vn7 vc7) w7 → Kept wo w7 → G 5 #[true, true, false, true, true, true, true, true, true, true, true, true, true, false, false, false, false] { tmps := #[.slice a t.length c, .map (some nb), .string s, undef, undef, undef, .slice none 0 0, .slice ga gn gc, undef, u9, undef, .pointer (some ⟨wo.heap.size, 0, none⟩), .slice ta tn tc, undef, u14, .slice a t.length c, .string s, .slice fa (Tab.fields t s).length fc, .int .i64 ((Tab.fields t s).length : Nat), .int .i64 ((Tab.fields t s).length : Nat), .bool false, u21, u22, u23, u24, u25, u26, u27, u28, u29, u30, u31, u32, u33, u34, .slice a t.length c, .string s, .slice (some ⟨g, 0, none⟩) m2.length mc, .int .i64 (m2.length : Nat), .int .i64 (j : Nat), .bool true, .pointer (some ⟨g, j * 3, none⟩), .agg #[.string x.1.name, .slice pa x.1.params.length pc, .string x.1.res], .pointer (some ⟨wo.heap.size, 1, none⟩), .slice pa x.1.params.length pc, .int .i64 (x.1.params.length : Nat), .int .i64 ((x.1.params.length : Int) + 1), .slice (some ⟨wo.heap.size + 1, 0, none⟩) 0 (x.1.params.length + 1), .pointer (some ⟨wo.heap.size, 1, none⟩), .slice pa x.1.params.length pc, .int .i64 (x.1.params.length : Nat), .int .i64 (x.1.params.length : Nat), .bool false, u53, u54, u55, u56, u57, u58, u59, u60, u61, u62, .slice ga gn gc, .pointer (some ⟨wo.heap.size, 0, none⟩), u65, .pointer (some ⟨wo.heap.size, 1, none⟩), .slice pa x.1.params.length pc, .int .i64 (x.1.params.length : Nat), .slice ta tn tc, .map (some nb), .pointer (some ⟨wo.heap.size, 2, none⟩), .string x.1.res, .int .i64 (Tab.numOf t x.1.res), .slice (some ⟨wr.heap.size, 0, none⟩) 1 1, .slice va7 vn7 vc7, u76, u77, u78, u79, undef, undef, undef], defers := [] } w7 := by
                intro va7 vn7 vc7 w7 h7 k7
                clear y0 y1 y2 hlk ya0 ya1 ya2 hla
                have hb7 : Blk w7 wo.heap.size 47 #[.string x.1.name, .slice pa x.1.params.length pc, .string x.1.res] := HB1.out.only h7.2.1 (by have := HB1.out.lt; rintro (⟨h, _⟩ | h) <;> omega)
                have y0 := hb7.cell 0
                have y1 := hb7.cell 1
                have y2 := hb7.cell 2
                simp only [List.getElem?_toArray, List.getElem?_cons_zero, List.getElem?_cons_succ] at y0 y1 y2
                have H7 := Lib.hid h7
                have K7 := Lib.hid k7
                clear h7 k7 hb7
                rw [hG]
                refine rdA [2] ?_
                refine aR (fun K hK => ?_) ?_
                · go_simp
                  refine hK _ _ ?_; clear hK K
                  exact aE hG (hs0.out _ _ _ _ H7.out K7.out)
                exact AllReady.nil
              have hs10 := Lib.hid hs10'
              clear hs10'
              have hs11' : G 6 #[true, true, false, true, true, true, true, true, true, true, true, true, false, false, false, false, false] { tmps := #[.slice a t.length c, .map (some nb), .string s, undef, undef, undef, .slice none 0 0, .slice ga gn gc, undef, u9, undef, .pointer (some ⟨wo.heap.size, 0, none⟩), .slice ta tn tc, undef, u14, .slice a t.length c, .string s, .slice fa (Tab.fields t s).length fc, .int .i64 ((Tab.fields t s).length : Nat), .int .i64 ((Tab.fields t s).length : Nat), .bool false, u21, u22, u23, u24, u25, u26, u27, u28, u29, u30, u31, u32, u33, u34, .slice a t.length c, .string s, .slice (some ⟨g, 0, none⟩) m2.length mc, .int .i64 (m2.length : Nat), .int .i64 (j : Nat), .bool true, .pointer (some ⟨g, j * 3, none⟩), .agg #[.string x.1.name, .slice pa x.1.params.length pc, .string x.1.res], .pointer (some ⟨wo.heap.size, 1, none⟩), .slice pa x.1.params.length pc, .int .i64 (x.1.params.length : Nat), .int .i64 ((x.1.params.length : Int) + 1), .slice (some ⟨wo.heap.size + 1, 0, none⟩) 0 (x.1.params.length + 1), .pointer (some ⟨wo.heap.size, 1, none⟩), .slice pa x.1.params.length pc, .int .i64 (x.1.params.length : Nat), .int .i64 (x.1.params.length : Nat), .bool false, u53, u54, u55, u56, u57, u58, u59, u60, u61, u62, .slice ga gn gc, .pointer (some ⟨wo.heap.size, 0, none⟩), u65, .pointer (some ⟨wo.heap.size, 1, none⟩), .slice pa x.1.params.length pc, .int .i64 (x.1.params.length : Nat), .slice ta tn tc, .map (some nb), .pointer (some ⟨wo.heap.size, 2, none⟩), .string x.1.res, .int .i64 (Tab.numOf t x.1.res), .slice (some ⟨wr.heap.size, 0, none⟩) 1 1, u75, u76, u77, u78, u79, undef, undef, undef], defers := [] } (wr.drew.alloc (.cells #[.int .i64 (Tab.numOf t x.1.res)] 3)) := by
                clear y0 y1 y2 hlk
                rw [hG]
                refine rdA [2, 12] ?_
                refine aR (fun K hK => ?_) ?_
                · go_simp
                  refine hK _ _ ?_; clear hK K
                  exact aE hG hs1.out
                refine aR (fun K hK => ?_) ?_
                · refine step_apk rfl (.tmp 69) (.tmp 74) 168 168 rfl (wo.heap.size + 1) 1 3 j0 _ 8 Tryz.underlying168 hj' hy0 hyy1 hyy2 rfl rfl HI2.out.1 rfl HSI.out (by rw [HTL.out]; unfold maxLen; omega) (by rw [HTL.out]; omega) (by simp [World.size_alloc]; omega) ?_
                  intro v' w7 hown' hgrow _ hlies
                  have h7 := HI2.out.next (Kept.refl _) hown' hgrow hlies
                  have k7 := h7.kept HKX.out (by omega)
                  obtain ⟨va7, vn7, vc7, rfl⟩ := owns_slice hown'
                  clear hown' hgrow hlies
                  refine hK _ _ ?_; clear hK K
                  exact aE hG (hs10.out _ _ _ _ h7 k7)
                exact AllReady.nil
              have hs11 := Lib.hid hs11'
              clear hs11'
              have hs12' : G 7 #[true, true, false, true, true, true, true, true, true, true, true, false, false, false, false, false, false] { tmps := #[.slice a t.length c, .map (some nb), .string s, undef, undef, undef, .slice none 0 0, .slice ga gn gc, undef, u9, undef, .pointer (some ⟨wo.heap.size, 0, none⟩), .slice ta tn tc, undef, u14, .slice a t.length c, .string s, .slice fa (Tab.fields t s).length fc, .int .i64 ((Tab.fields t s).length : Nat), .int .i64 ((Tab.fields t s).length : Nat), .bool false, u21, u22, u23, u24, u25, u26, u27, u28, u29, u30, u31, u32, u33, u34, .slice a t.length c, .string s, .slice (some ⟨g, 0, none⟩) m2.length mc, .int .i64 (m2.length : Nat), .int .i64 (j : Nat), .bool true, .pointer (some ⟨g, j * 3, none⟩), .agg #[.string x.1.name, .slice pa x.1.params.length pc, .string x.1.res], .pointer (some ⟨wo.heap.size, 1, none⟩), .slice pa x.1.params.length pc, .int .i64 (x.1.params.length : Nat), .int .i64 ((x.1.params.length : Int) + 1), .slice (some ⟨wo.heap.size + 1, 0, none⟩) 0 (x.1.params.length + 1), .pointer (some ⟨wo.heap.size, 1, none⟩), .slice pa x.1.params.length pc, .int .i64 (x.1.params.length : Nat), .int .i64 (x.1.params.length : Nat), .bool false, u53, u54, u55, u56, u57, u58, u59, u60, u61, u62, .slice ga gn gc, .pointer (some ⟨wo.heap.size, 0, none⟩), u65, .pointer (some ⟨wo.heap.size, 1, none⟩), .slice pa x.1.params.length pc, .int .i64 (x.1.params.length : Nat), .slice ta tn tc, .map (some nb), .pointer (some ⟨wo.heap.size, 2, none⟩), .string x.1.res, .int .i64 (Tab.numOf t x.1.res), u74, u75, u76, u77, u78, u79, undef, undef, undef], defers := [] } wr.drew := by
                clear ya0 ya1 ya2 hla
                rw [hG]
                refine rdA [2, 11] ?_
                refine aR (fun K hK => ?_) ?_
                · go_simp
                  refine hK _ _ ?_; clear hK K
                  exact aE hG hs2.out
                refine aR (fun K hK => ?_) ?_
                · go_simp
                  refine hK _ _ ?_; clear hK K
                  exact aE hG hs11.out
                exact AllReady.nil
              have hs12 := Lib.hid hs12'
              clear hs12'
              have hs13' : G 8 #[true, true, false, true, true, true, true, true, true, true, false, false, false, false, false, false, false] { tmps := #[.slice a t.length c, .map (some nb), .string s, undef, undef, undef, .slice none 0 0, .slice ga gn gc, undef, u9, undef, .pointer (some ⟨wo.heap.size, 0, none⟩), .slice ta tn tc, undef, u14, .slice a t.length c, .string s, .slice fa (Tab.fields t s).length fc, .int .i64 ((Tab.fields t s).length : Nat), .int .i64 ((Tab.fields t s).length : Nat), .bool false, u21, u22, u23, u24, u25, u26, u27, u28, u29, u30, u31, u32, u33, u34, .slice a t.length c, .string s, .slice (some ⟨g, 0, none⟩) m2.length mc, .int .i64 (m2.length : Nat), .int .i64 (j : Nat), .bool true, .pointer (some ⟨g, j * 3, none⟩), .agg #[.string x.1.name, .slice pa x.1.params.length pc, .string x.1.res], .pointer (some ⟨wo.heap.size, 1, none⟩), .slice pa x.1.params.length pc, .int .i64 (x.1.params.length : Nat), .int .i64 ((x.1.params.length : Int) + 1), .slice (some ⟨wo.heap.size + 1, 0, none⟩) 0 (x.1.params.length + 1), .pointer (some ⟨wo.heap.size, 1, none⟩), .slice pa x.1.params.length pc, .int .i64 (x.1.params.length : Nat), .int .i64 (x.1.params.length : Nat), .bool false, u53, u54, u55, u56, u57, u58, u59, u60, u61, u62, .slice ga gn gc, .pointer (some ⟨wo.heap.size, 0, none⟩), u65, .pointer (some ⟨wo.heap.size, 1, none⟩), .slice pa x.1.params.length pc, .int .i64 (x.1.params.length : Nat), .slice ta tn tc, .map (some nb), .pointer (some ⟨wo.heap.size, 2, none⟩), .string x.1.res, u73, u74, u75, u76, u77, u78, u79, undef, undef, undef], defers := [] } wr.drew := by
                clear ya0 ya1 ya2 hla
                rw [hG]
                refine rdA [2, 10] ?_
                refine aR (fun K hK => ?_) ?_
                · go_simp
                  refine hK _ _ ?_; clear hK K
                  exact aE hG hs3.out
                refine aR (fun K hK => ?_) ?_
                · go_simp
                  refine hK _ _ ?_; clear hK K
                  exact aE hG hs12.out
                exact AllReady.nil
              have hs13 := Lib.hid hs13'
              clear hs13'
              have hs14' : G 9 #[true, true, false, true, true, true, true, true, true, false, false, false, false, false, false, false, false] { tmps := #[.slice a t.length c, .map (some nb), .string s, undef, undef, undef, .slice none 0 0, .slice ga gn gc, undef, u9, undef, .pointer (some ⟨wo.heap.size, 0, none⟩), .slice ta tn tc, undef, u14, .slice a t.length c, .string s, .slice fa (Tab.fields t s).length fc, .int .i64 ((Tab.fields t s).length : Nat), .int .i64 ((Tab.fields t s).length : Nat), .bool false, u21, u22, u23, u24, u25, u26, u27, u28, u29, u30, u31, u32, u33, u34, .slice a t.length c, .string s, .slice (some ⟨g, 0, none⟩) m2.length mc, .int .i64 (m2.length : Nat), .int .i64 (j : Nat), .bool true, .pointer (some ⟨g, j * 3, none⟩), .agg #[.string x.1.name, .slice pa x.1.params.length pc, .string x.1.res], .pointer (some ⟨wo.heap.size, 1, none⟩), .slice pa x.1.params.length pc, .int .i64 (x.1.params.length : Nat), .int .i64 ((x.1.params.length : Int) + 1), .slice (some ⟨wo.heap.size + 1, 0, none⟩) 0 (x.1.params.length + 1), .pointer (some ⟨wo.heap.size, 1, none⟩), .slice pa x.1.params.length pc, .int .i64 (x.1.params.length : Nat), .int .i64 (x.1.params.length : Nat), .bool false, u53, u54, u55, u56, u57, u58, u59, u60, u61, u62, .slice ga gn gc, .pointer (some ⟨wo.heap.size, 0, none⟩), u65, .pointer (some ⟨wo.heap.size, 1, none⟩), .slice pa x.1.params.length pc, .int .i64 (x.1.params.length : Nat), .slice ta tn tc, .map (some nb), .pointer (some ⟨wo.heap.size, 2, none⟩), u72, u73, u74, u75, u76, u77, u78, u79, undef, undef, undef], defers := [] } wr.drew := by
                clear ya0 ya1 ya2 hla
                rw [hG]
                refine rdA [2, 9] ?_
                refine aR (fun K hK => ?_) ?_
                · go_simp
                  refine hK _ _ ?_; clear hK K
                  exact aE hG hs4.out
                refine aR (fun K hK => ?_) ?_
                · go_simp
                  refine hK _ _ ?_; clear hK K
                  exact aE hG hs13.out
                exact AllReady.nil
              have hs14 := Lib.hid hs14'
              clear hs14'
              have hs15' : ∀ (va7 : Option Addr) (vn7 vc7 : Nat) (w7 : World), RR 3 1 iCells (wo.heap.size + 1) X1 (tyM t x.1.params ++ [Tab.numOf t x.1.res]) (.slice va7 vn7 vc7) w7 → Kept wo w7 → G 7 #[true, true, false, true, false, false, true, true, true, true, true, true, true, false, false, false, false] { tmps := #[.slice a t.length c, .map (some nb), .string s, undef, undef, undef, .slice none 0 0, .slice ga gn gc, undef, u9, undef, .pointer (some ⟨wo.heap.size, 0, none⟩), .slice ta tn tc, undef, u14, .slice a t.length c, .string s, .slice fa (Tab.fields t s).length fc, .int .i64 ((Tab.fields t s).length : Nat), .int .i64 ((Tab.fields t s).length : Nat), .bool false, u21, u22, u23, u24, u25, u26, u27, u28, u29, u30, u31, u32, u33, u34, .slice a t.length c, .string s, .slice (some ⟨g, 0, none⟩) m2.length mc, .int .i64 (m2.length : Nat), .int .i64 (j : Nat), .bool true, .pointer (some ⟨g, j * 3, none⟩), .agg #[.string x.1.name, .slice pa x.1.params.length pc, .string x.1.res], .pointer (some ⟨wo.heap.size, 1, none⟩), .slice pa x.1.params.length pc, .int .i64 (x.1.params.length : Nat), .int .i64 ((x.1.params.length : Int) + 1), .slice (some ⟨wo.heap.size + 1, 0, none⟩) 0 (x.1.params.length + 1), .pointer (some ⟨wo.heap.size, 1, none⟩), .slice pa x.1.params.length pc, .int .i64 (x.1.params.length : Nat), .int .i64 (x.1.params.length : Nat), .bool false, u53, u54, u55, u56, u57, u58, u59, u60, u61, u62, .slice ga gn gc, .pointer (some ⟨wo.heap.size, 0, none⟩), u65, .pointer (some ⟨wo.heap.size, 1, none⟩), u67, u68, .slice ta tn tc, .map (some nb), .pointer (some ⟨wo.heap.size, 2, none⟩), .string x.1.res, .int .i64 (Tab.numOf t x.1.res), .slice (some ⟨wr.heap.size, 0, none⟩) 1 1, .slice va7 vn7 vc7, u76, u77, u78, u79, undef, undef, undef], defers := [] } w7 := by
                intro va7 vn7 vc7 w7 h7 k7
                clear y0 y1 y2 hlk ya0 ya1 ya2 hla
                have hb7 : Blk w7 wo.heap.size 47 #[.string x.1.name, .slice pa x.1.params.length pc, .string x.1.res] := HB1.out.only h7.2.1 (by have := HB1.out.lt; rintro (⟨h, _⟩ | h) <;> omega)
                have y0 := hb7.cell 0
                have y1 := hb7.cell 1
                have y2 := hb7.cell 2
                simp only [List.getElem?_toArray, List.getElem?_cons_zero, List.getElem?_cons_succ] at y0 y1 y2
                have H7 := Lib.hid h7
                have K7 := Lib.hid k7
                clear h7 k7 hb7
                rw [hG]
                refine rdA [2, 4] ?_
                refine aR (fun K hK => ?_) ?_
                · go_simp
                  refine hK _ _ ?_; clear hK K
                  exact aE hG (hs5.out _ _ _ _ H7.out K7.out)
                refine aR (fun K hK => ?_) ?_
                · go_simp
                  refine hK _ _ ?_; clear hK K
                  refine tkW 5 (.int .i64 (x.1.params.length : Nat)) ?_
                  exact aE hG (hs10.out _ _ _ _ H7.out K7.out)
                exact AllReady.nil
              have hs15 := Lib.hid hs15'
              clear hs15'
              have hs16' : G 8 #[true, true, false, true, false, false, true, true, true, true, true, true, false, false, false, false, false] { tmps := #[.slice a t.length c, .map (some nb), .string s, undef, undef, undef, .slice none 0 0, .slice ga gn gc, undef, u9, undef, .pointer (some ⟨wo.heap.size, 0, none⟩), .slice ta tn tc, undef, u14, .slice a t.length c, .string s, .slice fa (Tab.fields t s).length fc, .int .i64 ((Tab.fields t s).length : Nat), .int .i64 ((Tab.fields t s).length : Nat), .bool false, u21, u22, u23, u24, u25, u26, u27, u28, u29, u30, u31, u32, u33, u34, .slice a t.length c, .string s, .slice (some ⟨g, 0, none⟩) m2.length mc, .int .i64 (m2.length : Nat), .int .i64 (j : Nat), .bool true, .pointer (some ⟨g, j * 3, none⟩), .agg #[.string x.1.name, .slice pa x.1.params.length pc, .string x.1.res], .pointer (some ⟨wo.heap.size, 1, none⟩), .slice pa x.1.params.length pc, .int .i64 (x.1.params.length : Nat), .int .i64 ((x.1.params.length : Int) + 1), .slice (some ⟨wo.heap.size + 1, 0, none⟩) 0 (x.1.params.length + 1), .pointer (some ⟨wo.heap.size, 1, none⟩), .slice pa x.1.params.length pc, .int .i64 (x.1.params.length : Nat), .int .i64 (x.1.params.length : Nat), .bool false, u53, u54, u55, u56, u57, u58, u59, u60, u61, u62, .slice ga gn gc, .pointer (some ⟨wo.heap.size, 0, none⟩), u65, .pointer (some ⟨wo.heap.size, 1, none⟩), u67, u68, .slice ta tn tc, .map (some nb), .pointer (some ⟨wo.heap.size, 2, none⟩), .string x.1.res, .int .i64 (Tab.numOf t x.1.res), .slice (some ⟨wr.heap.size, 0, none⟩) 1 1, u75, u76, u77, u78, u79, undef, undef, undef], defers := [] } (wr.drew.alloc (.cells #[.int .i64 (Tab.numOf t x.1.res)] 3)) := by
                clear y0 y1 y2 hlk
                rw [hG]
                refine rdA [2, 4, 12] ?_
                refine aR (fun K hK => ?_) ?_
                · go_simp
                  refine hK _ _ ?_; clear hK K
                  exact aE hG hs6.out
                refine aR (fun K hK => ?_) ?_
                · go_simp
                  refine hK _ _ ?_; clear hK K
                  refine tkW 5 (.int .i64 (x.1.params.length : Nat)) ?_
                  exact aE hG hs11.out
                refine aR (fun K hK => ?_) ?_
                · refine step_apk rfl (.tmp 69) (.tmp 74) 168 168 rfl (wo.heap.size + 1) 1 3 j0 _ 8 Tryz.underlying168 hj' hy0 hyy1 hyy2 rfl rfl HI2.out.1 rfl HSI.out (by rw [HTL.out]; unfold maxLen; omega) (by rw [HTL.out]; omega) (by simp [World.size_alloc]; omega) ?_
                  intro v' w7 hown' hgrow _ hlies
                  have h7 := HI2.out.next (Kept.refl _) hown' hgrow hlies
                  have k7 := h7.kept HKX.out (by omega)
                  obtain ⟨va7, vn7, vc7, rfl⟩ := owns_slice hown'
                  clear hown' hgrow hlies
                  refine hK _ _ ?_; clear hK K
                  exact aE hG (hs15.out _ _ _ _ h7 k7)
                exact AllReady.nil
              have hs16 := Lib.hid hs16'
              clear hs16'
              have hs17' : G 9 #[true, true, false, true, false, false, true, true, true, true, true, false, false, false, false, false, false] { tmps := #[.slice a t.length c, .map (some nb), .string s, undef, undef, undef, .slice none 0 0, .slice ga gn gc, undef, u9, undef, .pointer (some ⟨wo.heap.size, 0, none⟩), .slice ta tn tc, undef, u14, .slice a t.length c, .string s, .slice fa (Tab.fields t s).length fc, .int .i64 ((Tab.fields t s).length : Nat), .int .i64 ((Tab.fields t s).length : Nat), .bool false, u21, u22, u23, u24, u25, u26, u27, u28, u29, u30, u31, u32, u33, u34, .slice a t.length c, .string s, .slice (some ⟨g, 0, none⟩) m2.length mc, .int .i64 (m2.length : Nat), .int .i64 (j : Nat), .bool true, .pointer (some ⟨g, j * 3, none⟩), .agg #[.string x.1.name, .slice pa x.1.params.length pc, .string x.1.res], .pointer (some ⟨wo.heap.size, 1, none⟩), .slice pa x.1.params.length pc, .int .i64 (x.1.params.length : Nat), .int .i64 ((x.1.params.length : Int) + 1), .slice (some ⟨wo.heap.size + 1, 0, none⟩) 0 (x.1.params.length + 1), .pointer (some ⟨wo.heap.size, 1, none⟩), .slice pa x.1.params.length pc, .int .i64 (x.1.params.length : Nat), .int .i64 (x.1.params.length : Nat), .bool false, u53, u54, u55, u56, u57, u58, u59, u60, u61, u62, .slice ga gn gc, .pointer (some ⟨wo.heap.size, 0, none⟩), u65, .pointer (some ⟨wo.heap.size, 1, none⟩), u67, u68, .slice ta tn tc, .map (some nb), .pointer (some ⟨wo.heap.size, 2, none⟩), .string x.1.res, .int .i64 (Tab.numOf t x.1.res), u74, u75, u76, u77, u78, u79, undef, undef, undef], defers := [] } wr.drew := by
                clear ya0 ya1 ya2 hla
                rw [hG]
                refine rdA [2, 4, 11] ?_
                refine aR (fun K hK => ?_) ?_
                · go_simp
                  refine hK _ _ ?_; clear hK K
                  exact aE hG hs7.out
                refine aR (fun K hK => ?_) ?_
                · go_simp
                  refine hK _ _ ?_; clear hK K
                  refine tkW 5 (.int .i64 (x.1.params.length : Nat)) ?_
                  exact aE hG hs12.out
                refine aR (fun K hK => ?_) ?_
                · go_simp
                  refine hK _ _ ?_; clear hK K
                  exact aE hG hs16.out
                exact AllReady.nil
              have hs17 := Lib.hid hs17'
              clear hs17'
              have hs18' : G 10 #[true, true, false, true, false, false, true, true, true, true, false, false, false, false, false, false, false] { tmps := #[.slice a t.length c, .map (some nb), .string s, undef, undef, undef, .slice none 0 0, .slice ga gn gc, undef, u9, undef, .pointer (some ⟨wo.heap.size, 0, none⟩), .slice ta tn tc, undef, u14, .slice a t.length c, .string s, .slice fa (Tab.fields t s).length fc, .int .i64 ((Tab.fields t s).length : Nat), .int .i64 ((Tab.fields t s).length : Nat), .bool false, u21, u22, u23, u24, u25, u26, u27, u28, u29, u30, u31, u32, u33, u34, .slice a t.length c, .string s, .slice (some ⟨g, 0, none⟩) m2.length mc, .int .i64 (m2.length : Nat), .int .i64 (j : Nat), .bool true, .pointer (some ⟨g, j * 3, none⟩), .agg #[.string x.1.name, .slice pa x.1.params.length pc, .string x.1.res], .pointer (some ⟨wo.heap.size, 1, none⟩), .slice pa x.1.params.length pc, .int .i64 (x.1.params.length : Nat), .int .i64 ((x.1.params.length : Int) + 1), .slice (some ⟨wo.heap.size + 1, 0, none⟩) 0 (x.1.params.length + 1), .pointer (some ⟨wo.heap.size, 1, none⟩), .slice pa x.1.params.length pc, .int .i64 (x.1.params.length : Nat), .int .i64 (x.1.params.length : Nat), .bool false, u53, u54, u55, u56, u57, u58, u59, u60, u61, u62, .slice ga gn gc, .pointer (some ⟨wo.heap.size, 0, none⟩), u65, .pointer (some ⟨wo.heap.size, 1, none⟩), u67, u68, .slice ta tn tc, .map (some nb), .pointer (some ⟨wo.heap.size, 2, none⟩), .string x.1.res, u73, u74, u75, u76, u77, u78, u79, undef, undef, undef], defers := [] } wr.drew := by
                clear ya0 ya1 ya2 hla
                rw [hG]
                refine rdA [2, 4, 10] ?_
                refine aR (fun K hK => ?_) ?_
                · go_simp
                  refine hK _ _ ?_; clear hK K
                  exact aE hG hs8.out
                refine aR (fun K hK => ?_) ?_
                · go_simp
                  refine hK _ _ ?_; clear hK K
                  refine tkW 5 (.int .i64 (x.1.params.length : Nat)) ?_
                  exact aE hG hs13.out
                refine aR (fun K hK => ?_) ?_
                · go_simp
                  refine hK _ _ ?_; clear hK K
                  exact aE hG hs17.out
                exact AllReady.nil
              have hs18 := Lib.hid hs18'
              clear hs18'
              have hs19' : G 11 #[true, true, false, true, false, false, true, true, true, false, false, false, false, false, false, false, false] { tmps := #[.slice a t.length c, .map (some nb), .string s, undef, undef, undef, .slice none 0 0, .slice ga gn gc, undef, u9, undef, .pointer (some ⟨wo.heap.size, 0, none⟩), .slice ta tn tc, undef, u14, .slice a t.length c, .string s, .slice fa (Tab.fields t s).length fc, .int .i64 ((Tab.fields t s).length : Nat), .int .i64 ((Tab.fields t s).length : Nat), .bool false, u21, u22, u23, u24, u25, u26, u27, u28, u29, u30, u31, u32, u33, u34, .slice a t.length c, .string s, .slice (some ⟨g, 0, none⟩) m2.length mc, .int .i64 (m2.length : Nat), .int .i64 (j : Nat), .bool true, .pointer (some ⟨g, j * 3, none⟩), .agg #[.string x.1.name, .slice pa x.1.params.length pc, .string x.1.res], .pointer (some ⟨wo.heap.size, 1, none⟩), .slice pa x.1.params.length pc, .int .i64 (x.1.params.length : Nat), .int .i64 ((x.1.params.length : Int) + 1), .slice (some ⟨wo.heap.size + 1, 0, none⟩) 0 (x.1.params.length + 1), .pointer (some ⟨wo.heap.size, 1, none⟩), .slice pa x.1.params.length pc, .int .i64 (x.1.params.length : Nat), .int .i64 (x.1.params.length : Nat), .bool false, u53, u54, u55, u56, u57, u58, u59, u60, u61, u62, .slice ga gn gc, .pointer (some ⟨wo.heap.size, 0, none⟩), u65, .pointer (some ⟨wo.heap.size, 1, none⟩), u67, u68, .slice ta tn tc, .map (some nb), .pointer (some ⟨wo.heap.size, 2, none⟩), u72, u73, u74, u75, u76, u77, u78, u79, undef, undef, undef], defers := [] } wr.drew := by
                clear ya0 ya1 ya2 hla
                rw [hG]
                refine rdA [2, 4, 9] ?_
                refine aR (fun K hK => ?_) ?_
                · go_simp
                  refine hK _ _ ?_; clear hK K
                  exact aE hG hs9.out
                refine aR (fun K hK => ?_) ?_
                · go_simp
                  refine hK _ _ ?_; clear hK K
                  refine tkW 5 (.int .i64 (x.1.params.length : Nat)) ?_
                  exact aE hG hs14.out
                refine aR (fun K hK => ?_) ?_
                · go_simp
                  refine hK _ _ ?_; clear hK K
                  exact aE hG hs18.out
                exact AllReady.nil
              have hs19 := Lib.hid hs19'
              clear hs19'
              refine tkV 0 (.slice ga gn gc) ?_
              refine tkV 1 (.pointer (some ⟨wo.heap.size, 0, none⟩)) ?_
              refine tkV 3 (.pointer (some ⟨wo.heap.size, 1, none⟩)) ?_
              refine tkV 6 (.slice ta tn tc) ?_
              refine tkV 7 (.map (some nb)) ?_
              refine tkV 8 (.pointer (some ⟨wo.heap.size, 2, none⟩)) ?_
              exact aE hG hs19.out
        · have hltI : ¬ (j : Int) < (m2.length : Int) := by omega
          obtain rfl : j = m2.length := by omega
          have hM := HM.out
          rw [List.take_of_length_le (by simp), HF.out, ← Tab.shp_eq] at hM
          have HME := Lib.hid hM
          have hlen := congrArg List.length hM
          rw [List.length_map] at hlen
          have hsl : mq.length ≤ 10000000 := by
            rw [hlen, Tab.shp_eq]
            unfold Tab.flM Tab.mtM
            have := HFL.out
            rw [← HF.out]
            simp
            omega
          have hszs : ∀ x ∈ Tab.shp t s, x.name.size ≤ maxLen := by
            intro x hx
            rw [Tab.shp_eq] at hx
            rcases List.mem_append.1 hx with hx | hx
            · unfold Tab.flM at hx
              obtain ⟨f, hf, rfl⟩ := List.mem_map.1 hx
              exact (HFS.out f hf).1
            · unfold Tab.mtM at hx
              obtain ⟨f, hf, rfl⟩ := List.mem_map.1 hx
              exact (HMS.out f hf).1
          have HSZ := Lib.hid hszs
          have hown := hR.1.1
          clear hM hlen hszs hR hkw
          rcases hown.2 with ⟨h0, h1⟩ | ⟨b, cap, cur, hv, h1, h2, h3, h4, h5, h6⟩
          · injection h0 with e1 e2 e3
            subst e1 e2 e3
            have HSN := Lib.hid (fun W => sort_nil W)
            have HNE := Lib.hid (show Tab.shp t s = [] by
              rw [← HME.out, List.eq_nil_of_length_eq_zero h1]; rfl)
            clear hown h1 hsl
            go_wp2_with fail
            refine (HSN.out _).mono ?_
            rintro e w9 ⟨rfl, rfl⟩
            go_wp2_with fail
            go_ret
            exact ⟨sh_none HNE.out, HKW.out⟩
          · injection hv with e1 e2 e3
            subst e1 e2 e3
            have HSO := Lib.hid (sort_c b gc mq w1.heap.size wo hown hsl)
            have HOW := Lib.hid hown
            have HBW := Lib.hid (show w.heap.size ≤ b from Nat.le_trans HK.out.size h1)
            clear hown h1 h2 h3 h4 h5 h6 hsl
            go_wp2_with fail
            refine HSO.out.mono ?_
            rintro e w9 ⟨rfl, hE⟩
            have HKE := Lib.hid (show Kept w w9 by
              obtain ⟨_, _, _, ho, _⟩ := hE
              exact HKW.out.onlyS ho (fun k e => by rw [e]; exact HBW.out))
            have HE := Lib.hid (sh_out (w := w) HK.out.size HOW.out HRQ.out.2 HME.out HSZ.out hE)
            clear hE
            go_wp2_with fail
            go_ret
            exact ⟨HE.out, HKE.out⟩
end Go.Proofs.YtjdkegfckkbpeaaGreatDoor
namespace Go.Proofs.YtjdkegfckkbpeaaGreatDoor.Tab
theorem hasB_perm {α : Type} {L L' U U' : List (Mb α)} (h : L.Perm L') (k : U.Perm U') : hasB L U = hasB L' U' := by
  unfold hasB
  rw [Bool.eq_iff_iff, List.all_eq_true, List.all_eq_true]
  constructor
  · intro q m hm
    obtain ⟨x, hx, e⟩ := List.any_eq_true.1 (q m (k.mem_iff.2 hm))
    exact List.any_eq_true.2 ⟨x, h.mem_iff.1 hx, e⟩
  · intro q m hm
    obtain ⟨x, hx, e⟩ := List.any_eq_true.1 (q m (k.mem_iff.1 hm))
    exact List.any_eq_true.2 ⟨x, h.mem_iff.2 hx, e⟩
theorem holds_perm {α : Type} {R : α → α → Bool} {L L' U U' : List (Mb α)} (h : L.Perm L') (k : U.Perm U') : holds R L U = holds R L' U' := by
  unfold holds
  rw [Bool.eq_iff_iff, List.all_eq_true, List.all_eq_true]
  constructor
  · intro q m hm
    obtain ⟨x, hx, e⟩ := List.any_eq_true.1 (q m (k.mem_iff.2 hm))
    exact List.any_eq_true.2 ⟨x, h.mem_iff.1 hx, e⟩
  · intro q m hm
    obtain ⟨x, hx, e⟩ := List.any_eq_true.1 (q m (k.mem_iff.1 hm))
    exact List.any_eq_true.2 ⟨x, h.mem_iff.2 hx, e⟩
theorem strikes_perm {S S' : List (List (Mb Int))} (h : ∀ i, (shN S i).Perm (shN S' i)) : ∀ (n : Nat) (L : List (Nat × Nat)), strikes S n L = strikes S' n L
  | 0, _ => rfl
  | n + 1, L => by
    show strikes S n (strikeL S L) = strikes S' n (strikeL S' L)
    have e : strikeL S L = strikeL S' L := by
      unfold strikeL
      refine List.filter_congr fun p _ => ?_
      exact holds_perm (h _) (h _)
    rw [e, strikes_perm h n]
theorem gfp_perm {S S' : List (List (Mb Int))} (hl : S.length = S'.length) (h : ∀ i, (shN S i).Perm (shN S' i)) : gfp S = gfp S' := by
  unfold gfp
  rw [strikes_perm h, hl]
  congr 1
  unfold start
  rw [hl]
  refine List.filter_congr fun p _ => ?_
  exact hasB_perm (h _) (h _)
theorem asc_of {L : List (Mb Int)} (hs : L.Pairwise fun x y => lt y.name x.name = false) (hn : (L.map Mb.name).Nodup) : Asc L := by
  unfold Asc
  rw [List.pairwise_iff_getElem] at hs ⊢
  intro i j hi hj hij
  have h1 := hs i j hi hj hij
  cases h : lt L[i].name L[j].name with
  | true => rfl
  | false =>
    have e := lt_total h h1
    rw [List.Nodup, List.pairwise_iff_getElem] at hn
    have := hn i j (by simpa using hi) (by simpa using hj) hij
    simp at this
    exact absurd e this
theorem numOf_lt {t : List C} (ht : t.length ≤ 40) (s : ByteArray) : numOf t s < 40 := by
  unfold numOf
  cases h : at' t s with
  | some k =>
    have := (ix_lt (show ix C.name t s = some k from h)).1
    simp only
    omega
  | none =>
    simp only
    repeat' split
    all_goals omega
theorem shp_names (t : List C) (c : ByteArray) : (shp t c).map Mb.name = (members t c).map (·.1) := by
  rw [shp_eq]
  unfold members flM mtM
  simp [List.map_append, List.map_map, Function.comp_def]
theorem shp_tl (t : List C) (c : ByteArray) : ∀ x ∈ shp t c, TL x := by
  intro x hx
  rw [shp_eq] at hx
  rcases List.mem_append.1 hx with hx | hx
  · unfold flM at hx
    obtain ⟨f, _, rfl⟩ := List.mem_map.1 hx
    rfl
  · unfold mtM at hx
    obtain ⟨m, _, rfl⟩ := List.mem_map.1 hx
    unfold TL
    simp
    omega
theorem shp_bd {t : List C} (ht : t.length ≤ 40) (c : ByteArray) : ∀ x ∈ shp t c, ∀ a ∈ x.types, a < 40 := by
  intro x hx a ha
  unfold shp at hx
  obtain ⟨m, _, rfl⟩ := List.mem_map.1 hx
  unfold Mb.map at ha
  obtain ⟨s, _, rfl⟩ := List.mem_map.1 ha
  exact numOf_lt ht s
theorem shN_of {S : List (List (Mb Int))} {i : Nat} {L : List (Mb Int)} (h : S[i]? = some L) : shN S i = L := by
  unfold shN
  rw [List.getD_eq_getElem?_getD, h]; rfl
theorem shN_out {S : List (List (Mb Int))} {i : Nat} (h : S.length ≤ i) : shN S i = [] := by
  unfold shN
  rw [List.getD_eq_getElem?_getD, List.getElem?_eq_none h]; rfl
theorem shps_at (t : List C) {i : Nat} (h : i < t.length) : shN (shps t) i = shp t (nth t i).name := by
  refine shN_of ?_
  unfold shps
  rw [List.getElem?_map, of_nth h]; rfl
theorem shps_len (t : List C) : (shps t).length = t.length := by unfold shps; simp
end Go.Proofs.YtjdkegfckkbpeaaGreatDoor.Tab
namespace Go.Proofs.YtjdkegfckkbpeaaGreatDoor
theorem shape_of {t : List Tab.C} (hv : Tab.Valid t) (ht : t.length ≤ 40) {i : Nat} (hi : i < t.length) {L : List (Tab.Mb Int)} (hp : L.Perm (Tab.shp t (Tab.nth t i).name)) (hs : L.Pairwise fun x y => Tab.lt y.name x.name = false) : Shape L := by
  refine ⟨Tab.asc_of hs ?_, fun x hx => Tab.shp_tl t _ x (hp.mem_iff.1 hx), fun x hx => Tab.shp_bd ht _ x (hp.mem_iff.1 hx)⟩
  have h1 : (L.map Tab.Mb.name).Perm ((Tab.members t (Tab.nth t i).name).map (·.1)) := by
    rw [← Tab.shp_names]; exact hp.map _
  exact h1.nodup_iff.2 (hv.good hi).names
end Go.Proofs.YtjdkegfckkbpeaaGreatDoor
namespace Go.Proofs.YtjdkegfckkbpeaaGreatDoor
open Go.ChangeShapes Go.WideShapes Go.ChangeAt Go.RowKit Go.Shelf
/-- A relation's zero value. -/
def zrC : Array Value := ⟨.slice none 0 0 :: List.replicate 1600 (.bool false)⟩
theorem zero_rel (W : World) : (zeroValue 127).run Tryz.prog W = .ok (.agg zrC) W := by kernel_rfl
theorem zrC_size : zrC.size = 1601 := by unfold zrC; simp
theorem zrC_zero : zrC[0]? = some (.slice none 0 0) := by unfold zrC; simp
theorem zrC_at {i k : Nat} (hi : i < 40) (hk : k < 40) : zrC[1 + i * 40 + k]? = some (.bool false) := by
  unfold zrC
  have e : 1 + i * 40 + k = (i * 40 + k) + 1 := by omega
  rw [e, List.getElem?_toArray, List.getElem?_cons_succ, List.getElem?_replicate, if_pos (by omega)]
theorem rel_new (w : World) : RelAt (w.alloc (.cells zrC 127)) w.heap.size (.slice none 0 0) (fun _ _ => false) :=
  ⟨zrC, Blk.new w _ _, zrC_size, zrC_zero, fun i k hi hk => zrC_at hi hk⟩
theorem RelAt.setShapes {w : World} {g : Nat} {sv : Value} {F : Nat → Nat → Bool} (h : RelAt w g sv F) (v : Value) : RelAt (w.setCell ⟨g, 0, none⟩ v) g v F := by
  obtain ⟨cs, h1, h2, h3, h4⟩ := h
  refine ⟨_, h1.put 0 v, by simpa using h2, ?_, fun i k hi hk => ?_⟩
  · rw [Array.getElem?_setIfInBounds, if_pos rfl, if_pos (by omega)]
  · rw [Array.getElem?_setIfInBounds, if_neg (by omega)]; exact h4 i k hi hk
theorem info_shp : (Tryz.prog.info? 120).map (fun i => (i.zero, i.size, i.bytes)) = some (some (.slice none 0 0), 1, 24) := by kernel_rfl
theorem src_shp (w : World) (a : Option Addr) (n c : Nat) : Src Tryz.prog 1 123 (.slice (some ⟨w.heap.size, 0, none⟩) 1 1) 1 [.slice a n c] (w.alloc (.cells #[.slice a n c] 120)) := by
  refine Src.ofSlice _ Tryz.underlying123 ⟨w.heap.size, 0, none⟩ 1 1 [.slice a n c] rfl ?_ ?_
  · intro j u hu
    rw [addr_plain, (Blk.new w _ _).cell, Nat.zero_add]
    simpa using hu
  · intro u hu
    simp at hu
    subst hu; rfl
/-- A shape that came of shapeOf, and what it must survive. -/
def ShIs (t : List Tab.C) (i g : Nat) (v : Value) (wr : World) (x : Value × List (Tab.Mb Int)) : Prop :=
  x.2.Perm (Tab.shp t (Tab.nth t i).name) ∧ (x.2.Pairwise fun x y => Tab.lt y.name x.name = false) ∧ (∃ a c, x.1 = .slice a x.2.length c) ∧ ∀ w'', Only (fun k => k ≤ g ∨ v.ownBlock = some k) wr w'' → ShpAt w'' x.1 x.2
/-- Within related's first loop. -/
structure ReL (t : List Tab.C) (w : World) (j : Nat) (qs : List (Value × List (Tab.Mb Int))) (v : Value) (wr : World) : Prop where
  row : wr.ownsRow (w.heap.size + 1) 120 1 v qs.length (qs.map Prod.fst)
  rel : RelAt wr w.heap.size v (fun _ _ => false)
  kept : Kept w wr
  len : qs.length = j
  shp : ∀ i x, qs[i]? = some x → ShIs t i w.heap.size v wr x
theorem own_ge {w : World} {base k n : Nat} {e : TypeId} {v : Value} {xs : List Value} (h : w.ownsRow base e k v n xs) {g : Nat} (hg : v.ownBlock = some g) : base ≤ g ∧ g < w.heap.size := by
  rcases h.2 with ⟨rfl, _⟩ | ⟨g', cap, cur, rfl, hb, hh, _⟩
  · simp [Value.ownBlock] at hg
  · obtain rfl : g' = g := by simpa [Value.ownBlock] using hg
    exact ⟨hb, (Array.getElem?_eq_some_iff.1 hh).1⟩
theorem ReL.next {t : List Tab.C} {w wr w7 w8 : World} {j : Nat} {qs : List (Value × List (Tab.Mb Int))} {v v' : Value} {L : List (Tab.Mb Int)} {a : Option Addr} {c : Nat} (h : ReL t w j qs v wr) (k7 : Kept wr w7)
    (hp : L.Perm (Tab.shp t (Tab.nth t j).name)) (hs : L.Pairwise fun x y => Tab.lt y.name x.name = false) (hst : ∀ w'', Only (fun k => k < wr.heap.size) w7 w'' → ShpAt w'' (.slice a L.length c) L)
    (hr : w8.ownsRow (w.heap.size + 1) 120 1 v' (qs.length + 1) (qs.map Prod.fst ++ [.slice a L.length c])) (hg : (w7.alloc (.cells #[.slice a L.length c] 120)).grownBy w8 v.ownBlock)
    (hl : v'.ownBlock = v.ownBlock ∨ v'.ownBlock = some (w7.alloc (.cells #[.slice a L.length c] 120)).heap.size) :
    ReL t w (j + 1) (qs ++ [(.slice a L.length c, L)]) v' (w8.setCell ⟨w.heap.size, 0, none⟩ v') := by
  have hlt := h.rel.lt
  have o1 : Only (fun k => v.ownBlock = some k) wr w8 := ((Only.of_kept k7).alloc _).grown hg fun k e => .inl e
  have o2 : Only (fun k => k = w.heap.size ∨ v.ownBlock = some k) wr (w8.setCell ⟨w.heap.size, 0, none⟩ v') := (o1.mono fun k _ e => .inr e).setCell (.inl (.inl rfl)) v'
  have o7 : Only (fun k => k = w.heap.size ∨ v.ownBlock = some k) w7 (w8.setCell ⟨w.heap.size, 0, none⟩ v') := ((((Only.refl (fun k => k = w.heap.size ∨ v.ownBlock = some k) w7).alloc _).grown hg fun k e => .inl (.inr e))).setCell (.inl (.inl rfl)) v'
  have hz7 := k7.size
  have hz8 := o1.size
  have hown : ∀ k, v.ownBlock = some k → w.heap.size + 1 ≤ k ∧ k < wr.heap.size := fun k e => own_ge h.row e
  have hnew : ∀ k, k < w7.heap.size → v'.ownBlock = some k → v.ownBlock = some k := fun k hk e => by
    rcases hl with hl | hl
    · rw [← hl]; exact e
    · rw [hl] at e
      injection e with e
      rw [World.size_alloc] at e
      omega
  have hr8 : (w8.setCell ⟨w.heap.size, 0, none⟩ v').ownsRow (w.heap.size + 1) 120 1 v' (qs.length + 1) (qs.map Prod.fst ++ [.slice a L.length c]) := owns_only hr ((Only.refl (· = w.heap.size) w8).put 0 v') (fun g hg => by omega)
  refine ⟨by rw [List.length_append, List.map_append]; exact hr8, ?_, ?_, by rw [List.length_append, h.len]; rfl, fun i x hx => ?_⟩
  · have h1 : RelAt w8 w.heap.size v (fun _ _ => false) := h.rel.only o1 (fun e => by have := hown _ e; omega)
    exact h1.setShapes v'
  · exact h.kept.onlyS o2 fun k e => by rcases e with e | e; · omega
                                        · have := hown _ e; omega
  · rw [List.getElem?_append] at hx
    split at hx
    · obtain ⟨q1, q2, q3, q4⟩ := h.shp i x hx
      refine ⟨q1, q2, q3, fun w'' ho => q4 w'' ?_⟩
      refine ⟨ho.os.trans o2.os, ho.output.trans o2.output, Nat.le_trans o2.size ho.size, fun k hk hn => ?_⟩
      rw [ho.block k (Nat.lt_of_lt_of_le hk o2.size) (fun e => hn (by
        rcases e with e | e
        · exact .inl e
        · exact .inr (hnew k (by omega) e))), o2.block k hk (fun e => hn (by
        rcases e with e | e
        · exact .inl (by omega)
        · exact .inr e))]
    · rename_i hi
      have hi' : i = j := by
        have := (List.getElem?_eq_some_iff.1 hx).1
        have := h.len
        simp at *
        omega
      subst hi'
      have : x = (.slice a L.length c, L) := by
        rw [h.len] at hx
        simpa using hx.symm
      subst this
      exact ⟨hp, hs, ⟨a, c, rfl⟩, fun w'' ho => hst w'' (by
        refine ⟨ho.os.trans o7.os, ho.output.trans o7.output, Nat.le_trans o7.size ho.size, fun k hk hn => ?_⟩
        have hkw : wr.heap.size ≤ k := Nat.le_of_not_lt hn
        rw [ho.block k (Nat.lt_of_lt_of_le hk o7.size) (fun e => by
          rcases e with e | e
          · omega
          · have := hown k (hnew k hk e); omega), o7.block k hk (fun e => by
          rcases e with e | e
          · omega
          · have := hown k e; omega)])⟩
/-- The pairs that have been asked for. -/
def tF (S : List (List (Tab.Mb Int))) (s u : Nat) : Nat → Nat → Bool := fun i k => (decide (i < S.length) && decide (k < S.length)) && ((decide (i < s) || (decide (i = s) && decide (k < u))) && Tab.hasB (Tab.shN S i) (Tab.shN S k))
theorem tF_zero (S : List (List (Tab.Mb Int))) : tF S 0 0 = fun _ _ => false := by
  funext i k
  unfold tF
  simp
theorem tF_turn (S : List (List (Tab.Mb Int))) (s : Nat) : tF S s S.length = tF S (s + 1) 0 := by
  funext i k
  unfold tF
  by_cases hk : k < S.length
  · by_cases h1 : i < s
    · have : i < s + 1 := by omega
      simp [h1, hk, this]
    · by_cases h2 : i = s
      · subst h2; simp [hk]
      · have : ¬ i < s + 1 := by omega
        simp [h1, h2, hk, this]
  · simp [hk]
theorem tF_next {S : List (List (Tab.Mb Int))} {s u : Nat} (hs : s < S.length) (hu : u < S.length) : (fun i' k' => if i' = s ∧ k' = u then Tab.hasB (Tab.shN S s) (Tab.shN S u) else tF S s u i' k') = tF S s (u + 1) := by
  funext i k
  unfold tF
  by_cases e : i = s ∧ k = u
  · obtain ⟨rfl, rfl⟩ := e
    simp [hs, hu]
  · rw [if_neg e]
    by_cases h1 : i = s
    · subst h1
      have hk : ¬ k = u := fun h => e ⟨rfl, h⟩
      have : (k < u + 1) ↔ (k < u) := by omega
      simp [this]
    · simp [h1]
theorem RelAt.eqF {w : World} {g : Nat} {sv : Value} {F G : Nat → Nat → Bool} (h : RelAt w g sv F) (e : F = G) : RelAt w g sv G := e ▸ h
/-- The first loop's end. -/
theorem ReL.shapes {t : List Tab.C} {w wr : World} {j : Nat} {qs : List (Value × List (Tab.Mb Int))} {v : Value} (h : ReL t w j qs v wr) : ∃ a c, v = .slice a (qs.map Prod.snd).length c ∧ ∀ w', Only (· = w.heap.size) wr w' → Row 1 SlAt w' (.slice a (qs.map Prod.snd).length c) (qs.map Prod.snd) := by
  have hrow := h.row
  rcases hrow.2 with ⟨h0, h1⟩ | ⟨g, cap, cur, hv, h1, h2, h3, h4, h5, h6⟩
  · have hq : qs = [] := List.eq_nil_of_length_eq_zero h1
    subst hq
    exact ⟨none, 0, h0, fun w' _ => Row.nil⟩
  · refine ⟨some ⟨g, 0, none⟩, cap, by rw [hv, List.length_map], fun w' ho => ⟨_, cap, rfl, by rw [List.length_map]; exact h3, h4, fun i L hL => ⟨g, 0, rfl, ?_⟩⟩⟩
    rw [List.getElem?_map] at hL
    obtain ⟨x, hx, rfl⟩ := Option.map_eq_some_iff.1 hL
    obtain ⟨_, _, _, q4⟩ := h.shp i x hx
    subst hv
    have hc := hrow.cells (g := g) rfl i x.1 (by rw [List.getElem?_map, hx]; rfl)
    rw [addr_plain] at hc
    have hb : w'.heap[g]? = wr.heap[g]? := ho.block g (Array.getElem?_eq_some_iff.1 h2).1 (by omega)
    refine ⟨x.1, ?_, q4 w' (ho.mono fun k _ e => .inl (by omega))⟩
    rw [World.cell?_of_block hb]
    simpa using hc
theorem ReL.shape {t : List Tab.C} {w wr : World} {j : Nat} {qs : List (Value × List (Tab.Mb Int))} {v : Value} (h : ReL t w j qs v wr) (hv : Tab.Valid t) (ht : t.length ≤ 40) (hj : j ≤ t.length) : ∀ L ∈ qs.map Prod.snd, Shape L := by
  intro L hL
  obtain ⟨x, hx, rfl⟩ := List.mem_map.1 hL
  obtain ⟨i, hi, rfl⟩ := List.getElem_of_mem hx
  obtain ⟨q1, q2, _⟩ := h.shp i _ (List.getElem?_eq_getElem hi)
  exact shape_of hv ht (by have := h.len; omega) q1 q2
theorem ReL.gfp {t : List Tab.C} {w wr : World} {qs : List (Value × List (Tab.Mb Int))} {v : Value} (h : ReL t w t.length qs v wr) : Tab.gfp (qs.map Prod.snd) = Tab.gfp (Tab.shps t) := by
  refine Tab.gfp_perm (by rw [List.length_map, h.len, Tab.shps_len]) fun i => ?_
  by_cases hi : i < t.length
  · have hiq : i < qs.length := by rw [h.len]; exact hi
    rw [Tab.shps_at t hi, Tab.shN_of (show (qs.map Prod.snd)[i]? = some qs[i].2 by rw [List.getElem?_map, List.getElem?_eq_getElem hiq]; rfl)]
    exact (h.shp i _ (List.getElem?_eq_getElem hiq)).1
  · rw [Tab.shN_out (by rw [List.length_map, h.len]; omega), Tab.shN_out (by rw [Tab.shps_len]; omega)]
/-- What shapeOf has left in related's round. -/
def RePost (t : List Tab.C) (wr : World) (j : Nat) (L : List (Tab.Mb Int)) (a : Option Addr) (c : Nat) (w7 : World) : Prop :=
  L.Perm (Tab.shp t (Tab.nth t j).name) ∧ (L.Pairwise fun x y => Tab.lt y.name x.name = false) ∧ (∀ w'', Only (fun k => k < wr.heap.size) w7 w'' → ShpAt w'' (.slice a L.length c) L) ∧ Kept wr w7
/-- What related answers. -/
def RelOut (t : List Tab.C) (w : World) (e : Ending) (w' : World) : Prop := ∃ sv, e = .returned (.pointer (some ⟨w.heap.size, 0, none⟩)) ∧ RelAt w' w.heap.size sv (Tab.inL (Tab.gfp (Tab.shps t))) ∧ Kept w w'
set_option maxHeartbeats 8000000 in
theorem related_c (a : Option Addr) (c nb : Nat) (t : List Tab.C) (w : World) (hT : TabAt w (.slice a t.length c) t) (hS : Small t) (hN : NumAt t nb w) (hv : Tab.Valid t) (ht : t.length ≤ 40) :
    Calls Tryz.prog 54 #[.slice a t.length c, .map (some nb)] w (RelOut t w) := by
  obtain ⟨i0, hi, hz0, hzz1, hzz2⟩ := info_parts info_shp
  have hz := zero_rel
  have HT := Lib.hid hT
  have HNM := Lib.hid hN
  have HI0 : Hid (ReL t w 0 [] (.slice none 0 0) (w.alloc (.cells zrC 127))) := Lib.hid
    ⟨World.ownsRow_nil _ _ _ _, rel_new w, (Kept.refl w).alloc _, rfl, fun i x h => by simp at h⟩
  have hcm : c ≤ 9223372036854775807 := by
    obtain ⟨_, _, e, _, q, _⟩ := hT
    injection e with _ _ e
    subst e
    unfold maxLen at q; omega
  clear hT hN
  go_enter Tryz.func54, Tryz.ntmps54
  go_wp2_with fail
  go_loopw [13] (fun q wr => ∃ (j : Nat) (qs : List (Value × List (Tab.Mb Int))) (v : Value), q = .int .i64 j ∧ j ≤ t.length ∧ Hid (ReL t w j qs v wr)) (fun q wr => t.length - (intOf q).toNat)
  case atStart => exact ⟨0, [], _, rfl, Nat.zero_le _, HI0⟩
  case round =>
    clear HI0 hz
    obtain ⟨j, qs, v, rfl, hj, HR⟩ := hrel
    by_cases hlt : j < t.length
    · have hltI : (j : Int) < (t.length : Int) := by omega
      obtain ⟨b, o, rfl, hcl⟩ := Row.cellsC (tab_kept HT.out HR.out.kept) hlt
      obtain ⟨q0, _⟩ := hcl
      obtain ⟨ra, rn, rc, rfl⟩ := owns_slice HR.out.row
      have y0 := HR.out.rel.shapes
      obtain ⟨rcs, hrcs, _, hrc0, _⟩ := HR.out.rel
      have HRZ := Lib.hid hrc0
      clear hrc0
      have HC := Lib.hid (shape_c (some ⟨b, o, none⟩) c nb t (Tab.nth t j).name wr.drew (tab_kept HT.out HR.out.kept.drew) hS (HNM.out.kept HR.out.kept.drew))
      have HLN := Lib.hid HR.out.len
      have HBK := Lib.hid hrcs
      clear hrcs
      go_wp2_with fail
      refine wp_region_any (by kernel_rfl) ?_
      change wpAny _ _ _ _ _ _ _ (World.drew _)
      refine any_states (fun G hG => ?_)
      have hs0' : ∀ (L : List (Tab.Mb Int)) (a7 : Option Addr) (c7 : Nat) (w7 : World), RePost t wr j L a7 c7 w7 → G 4 #[true, true, true, true, true, true, true, true, true, true, true, true, true, true, false, false, false, false] { tmps := #[.slice (some ⟨b, o, none⟩) t.length c, .map (some nb), undef, undef, .pointer none, .pointer (some ⟨w.heap.size, 0, none⟩), .int .i64 (j : Nat), undef, undef, .agg zrC, .pointer (some ⟨w.heap.size, 0, none⟩), .slice (some ⟨b, o, none⟩) t.length c, .int .i64 (t.length : Nat), .int .i64 (j : Nat), .bool true, .int .i64 (j : Nat), .pointer (some ⟨w.heap.size, 0, none⟩), .pointer (some ⟨w.heap.size, 0, none⟩), .pointer (some ⟨w.heap.size, 0, none⟩), .pointer (some ⟨w.heap.size, 0, none⟩), .slice ra rn rc, .slice (some ⟨b, o, none⟩) t.length c, .map (some nb), .slice (some ⟨b, o, none⟩) t.length c, .int .i64 (j : Nat), .pointer (some ⟨b, o + j * 4, none⟩), .pointer (some ⟨b, o + j * 4, none⟩), .string (Tab.nth t j).name, .slice a7 L.length c7, .slice (some ⟨w7.heap.size, 0, none⟩) 1 1, u30, u31, u32, u33, undef, undef, undef, undef, undef, undef, undef, undef, undef, undef, undef, undef, undef, undef, undef, undef, undef, undef, undef, undef, undef, undef, undef, undef, undef, undef, undef, undef, undef, undef, undef, undef, undef, undef, undef, undef, undef, undef, undef, undef, undef, undef, undef], defers := [] } (w7.alloc (.cells #[.slice a7 L.length c7] 120)) := by
        intro L a7 c7 w7 h7
        have y7 := (h7.2.2.2.alloc (.cells #[.slice a7 L.length c7] 120)).cell y0
        have z7 := (h7.2.2.2.alloc (.cells #[.slice a7 L.length c7] 120)).cell q0
        have H7 := Lib.hid h7
        clear h7
        rw [hG]
        have HRW := Lib.hid (owns_only (S := fun _ => False) HR.out.row (Only.of_kept (H7.out.2.2.2.alloc (.cells #[.slice a7 L.length c7] 120))) (fun _ _ h => h))
        have hsrc := src_shp w7 a7 L.length c7
        have HSRC := Lib.hid hsrc
        have hsz7 := H7.out.2.2.2.size
        have hwz := HR.out.kept.size
        clear hsrc y7 z7
        refine rdA [14] ?_
        refine aR (fun K hK => ?_) ?_
        · refine step_apk rfl (.tmp 20) (.tmp 29) 123 123 rfl (w.heap.size + 1) 1 120 i0 _ 24 Tryz.underlying123 hi hz0 hzz1 hzz2 rfl rfl HRW.out rfl HSRC.out (by rw [HLN.out]; unfold maxLen; omega) (by rw [HLN.out]; omega) (by have := HR.out.rel.lt; simp; omega) ?_
          intro v' w8 hown' hgrow _ hlies
          have HNX := Lib.hid (HR.out.next H7.out.2.2.2 H7.out.1 H7.out.2.1 H7.out.2.2.1 hown' hgrow hlies)
          have hb8 : Blk w8 w.heap.size 127 rcs := ((HBK.out.kept H7.out.2.2.2).alloc _).grownBy hgrow (fun e => by have := (own_ge HR.out.row e).1; omega)
          have y8 := hb8.cell 0
          have f8 := hb8.frozen 0
          have HZ := HRZ.out
          rw [HZ] at y8
          obtain ⟨va8, vn8, vc8, rfl⟩ := owns_slice hown'
          clear hown' hgrow hlies hb8 HZ
          refine hK _ _ ?_; clear hK K
          refine tkV 15 (.pointer (some ⟨w.heap.size, 0, none⟩)) ?_
          refine tkV 16 (.pointer (some ⟨w.heap.size, 0, none⟩)) ?_
          refine rdA [17] ?_
          refine aR (fun K hK => ?_) ?_
          · go_simp
            refine hK _ _ ?_; clear hK K
            refine wpAny_done (by kernel_rfl) ?_ _
            go_simp
            go_wp2_with fail
            go_roundw
            case rel => exact ⟨j + 1, _, _, by go_num, by omega, HNX⟩
            case measure => simp [intOf]; omega
          · exact AllReady.nil
        · exact AllReady.nil
      have hs0 := Lib.hid hs0'
      clear hs0'
      have hs1' : ∀ (L : List (Tab.Mb Int)) (a7 : Option Addr) (c7 : Nat) (w7 : World), RePost t wr j L a7 c7 w7 → G 5 #[true, true, true, true, true, true, true, true, true, true, true, true, true, false, false, false, false, false] { tmps := #[.slice (some ⟨b, o, none⟩) t.length c, .map (some nb), undef, undef, .pointer none, .pointer (some ⟨w.heap.size, 0, none⟩), .int .i64 (j : Nat), undef, undef, .agg zrC, .pointer (some ⟨w.heap.size, 0, none⟩), .slice (some ⟨b, o, none⟩) t.length c, .int .i64 (t.length : Nat), .int .i64 (j : Nat), .bool true, .int .i64 (j : Nat), .pointer (some ⟨w.heap.size, 0, none⟩), .pointer (some ⟨w.heap.size, 0, none⟩), .pointer (some ⟨w.heap.size, 0, none⟩), .pointer (some ⟨w.heap.size, 0, none⟩), .slice ra rn rc, .slice (some ⟨b, o, none⟩) t.length c, .map (some nb), .slice (some ⟨b, o, none⟩) t.length c, .int .i64 (j : Nat), .pointer (some ⟨b, o + j * 4, none⟩), .pointer (some ⟨b, o + j * 4, none⟩), .string (Tab.nth t j).name, .slice a7 L.length c7, u29, u30, u31, u32, u33, undef, undef, undef, undef, undef, undef, undef, undef, undef, undef, undef, undef, undef, undef, undef, undef, undef, undef, undef, undef, undef, undef, undef, undef, undef, undef, undef, undef, undef, undef, undef, undef, undef, undef, undef, undef, undef, undef, undef, undef, undef, undef, undef], defers := [] } w7 := by
        intro L a7 c7 w7 h7
        have y7 := h7.2.2.2.cell y0
        have z7 := h7.2.2.2.cell q0
        have H7 := Lib.hid h7
        clear h7
        rw [hG]
        refine rdA [13] ?_
        refine aR (fun K hK => ?_) ?_
        · go_simp
          refine hK _ _ ?_; clear hK K
          exact aE hG (hs0.out _ _ _ _ H7.out)
        exact AllReady.nil
      have hs1 := Lib.hid hs1'
      clear hs1'
      have hs2' : G 6 #[true, true, true, true, true, true, true, true, true, true, true, true, false, false, false, false, false, false] { tmps := #[.slice (some ⟨b, o, none⟩) t.length c, .map (some nb), undef, undef, .pointer none, .pointer (some ⟨w.heap.size, 0, none⟩), .int .i64 (j : Nat), undef, undef, .agg zrC, .pointer (some ⟨w.heap.size, 0, none⟩), .slice (some ⟨b, o, none⟩) t.length c, .int .i64 (t.length : Nat), .int .i64 (j : Nat), .bool true, .int .i64 (j : Nat), .pointer (some ⟨w.heap.size, 0, none⟩), .pointer (some ⟨w.heap.size, 0, none⟩), .pointer (some ⟨w.heap.size, 0, none⟩), .pointer (some ⟨w.heap.size, 0, none⟩), .slice ra rn rc, .slice (some ⟨b, o, none⟩) t.length c, .map (some nb), .slice (some ⟨b, o, none⟩) t.length c, .int .i64 (j : Nat), .pointer (some ⟨b, o + j * 4, none⟩), .pointer (some ⟨b, o + j * 4, none⟩), .string (Tab.nth t j).name, u28, u29, u30, u31, u32, u33, undef, undef, undef, undef, undef, undef, undef, undef, undef, undef, undef, undef, undef, undef, undef, undef, undef, undef, undef, undef, undef, undef, undef, undef, undef, undef, undef, undef, undef, undef, undef, undef, undef, undef, undef, undef, undef, undef, undef, undef, undef, undef, undef], defers := [] } wr.drew := by
        rw [hG]
        refine rdA [12] ?_
        refine aR (fun K hK => ?_) ?_
        · go_simp
          go_wp2_with fail
          refine HC.out.mono ?_
          rintro e w7 ⟨⟨L, a7, c7, rfl, hp, hs, hst⟩, k7⟩
          have h7 : RePost t wr j L a7 c7 w7 := ⟨hp, hs, hst, ((Kept.refl wr).drew).trans k7⟩
          clear hp hs hst k7
          dsimp only
          refine hK _ _ ?_; clear hK K
          exact aE hG (hs1.out _ _ _ _ h7)
        exact AllReady.nil
      have hs2 := Lib.hid hs2'
      clear hs2'
      have hs3' : G 7 #[true, true, true, true, true, true, true, true, true, true, true, false, false, false, false, false, false, false] { tmps := #[.slice (some ⟨b, o, none⟩) t.length c, .map (some nb), undef, undef, .pointer none, .pointer (some ⟨w.heap.size, 0, none⟩), .int .i64 (j : Nat), undef, undef, .agg zrC, .pointer (some ⟨w.heap.size, 0, none⟩), .slice (some ⟨b, o, none⟩) t.length c, .int .i64 (t.length : Nat), .int .i64 (j : Nat), .bool true, .int .i64 (j : Nat), .pointer (some ⟨w.heap.size, 0, none⟩), .pointer (some ⟨w.heap.size, 0, none⟩), .pointer (some ⟨w.heap.size, 0, none⟩), .pointer (some ⟨w.heap.size, 0, none⟩), .slice ra rn rc, .slice (some ⟨b, o, none⟩) t.length c, .map (some nb), .slice (some ⟨b, o, none⟩) t.length c, .int .i64 (j : Nat), .pointer (some ⟨b, o + j * 4, none⟩), .pointer (some ⟨b, o + j * 4, none⟩), u27, u28, u29, u30, u31, u32, u33, undef, undef, undef, undef, undef, undef, undef, undef, undef, undef, undef, undef, undef, undef, undef, undef, undef, undef, undef, undef, undef, undef, undef, undef, undef, undef, undef, undef, undef, undef, undef, undef, undef, undef, undef, undef, undef, undef, undef, undef, undef, undef, undef], defers := [] } wr.drew := by
        rw [hG]
        refine rdA [11] ?_
        refine aR (fun K hK => ?_) ?_
        · go_simp
          refine hK _ _ ?_; clear hK K
          exact aE hG hs2.out
        exact AllReady.nil
      have hs3 := Lib.hid hs3'
      clear hs3'
      have hs4' : ∀ (L : List (Tab.Mb Int)) (a7 : Option Addr) (c7 : Nat) (w7 : World), RePost t wr j L a7 c7 w7 → G 5 #[true, true, true, true, false, true, true, true, true, true, true, true, true, true, false, false, false, false] { tmps := #[.slice (some ⟨b, o, none⟩) t.length c, .map (some nb), undef, undef, .pointer none, .pointer (some ⟨w.heap.size, 0, none⟩), .int .i64 (j : Nat), undef, undef, .agg zrC, .pointer (some ⟨w.heap.size, 0, none⟩), .slice (some ⟨b, o, none⟩) t.length c, .int .i64 (t.length : Nat), .int .i64 (j : Nat), .bool true, .int .i64 (j : Nat), .pointer (some ⟨w.heap.size, 0, none⟩), .pointer (some ⟨w.heap.size, 0, none⟩), .pointer (some ⟨w.heap.size, 0, none⟩), .pointer (some ⟨w.heap.size, 0, none⟩), u20, .slice (some ⟨b, o, none⟩) t.length c, .map (some nb), .slice (some ⟨b, o, none⟩) t.length c, .int .i64 (j : Nat), .pointer (some ⟨b, o + j * 4, none⟩), .pointer (some ⟨b, o + j * 4, none⟩), .string (Tab.nth t j).name, .slice a7 L.length c7, .slice (some ⟨w7.heap.size, 0, none⟩) 1 1, u30, u31, u32, u33, undef, undef, undef, undef, undef, undef, undef, undef, undef, undef, undef, undef, undef, undef, undef, undef, undef, undef, undef, undef, undef, undef, undef, undef, undef, undef, undef, undef, undef, undef, undef, undef, undef, undef, undef, undef, undef, undef, undef, undef, undef, undef, undef], defers := [] } (w7.alloc (.cells #[.slice a7 L.length c7] 120)) := by
        intro L a7 c7 w7 h7
        have y7 := (h7.2.2.2.alloc (.cells #[.slice a7 L.length c7] 120)).cell y0
        have z7 := (h7.2.2.2.alloc (.cells #[.slice a7 L.length c7] 120)).cell q0
        have H7 := Lib.hid h7
        clear h7
        rw [hG]
        refine rdA [4] ?_
        refine aR (fun K hK => ?_) ?_
        · go_simp
          refine hK _ _ ?_; clear hK K
          exact aE hG (hs0.out _ _ _ _ H7.out)
        exact AllReady.nil
      have hs4 := Lib.hid hs4'
      clear hs4'
      have hs5' : ∀ (L : List (Tab.Mb Int)) (a7 : Option Addr) (c7 : Nat) (w7 : World), RePost t wr j L a7 c7 w7 → G 6 #[true, true, true, true, false, true, true, true, true, true, true, true, true, false, false, false, false, false] { tmps := #[.slice (some ⟨b, o, none⟩) t.length c, .map (some nb), undef, undef, .pointer none, .pointer (some ⟨w.heap.size, 0, none⟩), .int .i64 (j : Nat), undef, undef, .agg zrC, .pointer (some ⟨w.heap.size, 0, none⟩), .slice (some ⟨b, o, none⟩) t.length c, .int .i64 (t.length : Nat), .int .i64 (j : Nat), .bool true, .int .i64 (j : Nat), .pointer (some ⟨w.heap.size, 0, none⟩), .pointer (some ⟨w.heap.size, 0, none⟩), .pointer (some ⟨w.heap.size, 0, none⟩), .pointer (some ⟨w.heap.size, 0, none⟩), u20, .slice (some ⟨b, o, none⟩) t.length c, .map (some nb), .slice (some ⟨b, o, none⟩) t.length c, .int .i64 (j : Nat), .pointer (some ⟨b, o + j * 4, none⟩), .pointer (some ⟨b, o + j * 4, none⟩), .string (Tab.nth t j).name, .slice a7 L.length c7, u29, u30, u31, u32, u33, undef, undef, undef, undef, undef, undef, undef, undef, undef, undef, undef, undef, undef, undef, undef, undef, undef, undef, undef, undef, undef, undef, undef, undef, undef, undef, undef, undef, undef, undef, undef, undef, undef, undef, undef, undef, undef, undef, undef, undef, undef, undef, undef], defers := [] } w7 := by
        intro L a7 c7 w7 h7
        have y7 := h7.2.2.2.cell y0
        have z7 := h7.2.2.2.cell q0
        have H7 := Lib.hid h7
        clear h7
        rw [hG]
        refine rdA [4, 13] ?_
        refine aR (fun K hK => ?_) ?_
        · go_simp
          refine hK _ _ ?_; clear hK K
          exact aE hG (hs1.out _ _ _ _ H7.out)
        refine aR (fun K hK => ?_) ?_
        · go_simp
          refine hK _ _ ?_; clear hK K
          exact aE hG (hs4.out _ _ _ _ H7.out)
        exact AllReady.nil
      have hs5 := Lib.hid hs5'
      clear hs5'
      have hs6' : G 7 #[true, true, true, true, false, true, true, true, true, true, true, true, false, false, false, false, false, false] { tmps := #[.slice (some ⟨b, o, none⟩) t.length c, .map (some nb), undef, undef, .pointer none, .pointer (some ⟨w.heap.size, 0, none⟩), .int .i64 (j : Nat), undef, undef, .agg zrC, .pointer (some ⟨w.heap.size, 0, none⟩), .slice (some ⟨b, o, none⟩) t.length c, .int .i64 (t.length : Nat), .int .i64 (j : Nat), .bool true, .int .i64 (j : Nat), .pointer (some ⟨w.heap.size, 0, none⟩), .pointer (some ⟨w.heap.size, 0, none⟩), .pointer (some ⟨w.heap.size, 0, none⟩), .pointer (some ⟨w.heap.size, 0, none⟩), u20, .slice (some ⟨b, o, none⟩) t.length c, .map (some nb), .slice (some ⟨b, o, none⟩) t.length c, .int .i64 (j : Nat), .pointer (some ⟨b, o + j * 4, none⟩), .pointer (some ⟨b, o + j * 4, none⟩), .string (Tab.nth t j).name, u28, u29, u30, u31, u32, u33, undef, undef, undef, undef, undef, undef, undef, undef, undef, undef, undef, undef, undef, undef, undef, undef, undef, undef, undef, undef, undef, undef, undef, undef, undef, undef, undef, undef, undef, undef, undef, undef, undef, undef, undef, undef, undef, undef, undef, undef, undef, undef, undef], defers := [] } wr.drew := by
        rw [hG]
        refine rdA [4, 12] ?_
        refine aR (fun K hK => ?_) ?_
        · go_simp
          refine hK _ _ ?_; clear hK K
          exact aE hG hs2.out
        refine aR (fun K hK => ?_) ?_
        · go_simp
          go_wp2_with fail
          refine HC.out.mono ?_
          rintro e w7 ⟨⟨L, a7, c7, rfl, hp, hs, hst⟩, k7⟩
          have h7 : RePost t wr j L a7 c7 w7 := ⟨hp, hs, hst, ((Kept.refl wr).drew).trans k7⟩
          clear hp hs hst k7
          dsimp only
          refine hK _ _ ?_; clear hK K
          exact aE hG (hs5.out _ _ _ _ h7)
        exact AllReady.nil
      have hs6 := Lib.hid hs6'
      clear hs6'
      have hs7' : G 8 #[true, true, true, true, false, true, true, true, true, true, true, false, false, false, false, false, false, false] { tmps := #[.slice (some ⟨b, o, none⟩) t.length c, .map (some nb), undef, undef, .pointer none, .pointer (some ⟨w.heap.size, 0, none⟩), .int .i64 (j : Nat), undef, undef, .agg zrC, .pointer (some ⟨w.heap.size, 0, none⟩), .slice (some ⟨b, o, none⟩) t.length c, .int .i64 (t.length : Nat), .int .i64 (j : Nat), .bool true, .int .i64 (j : Nat), .pointer (some ⟨w.heap.size, 0, none⟩), .pointer (some ⟨w.heap.size, 0, none⟩), .pointer (some ⟨w.heap.size, 0, none⟩), .pointer (some ⟨w.heap.size, 0, none⟩), u20, .slice (some ⟨b, o, none⟩) t.length c, .map (some nb), .slice (some ⟨b, o, none⟩) t.length c, .int .i64 (j : Nat), .pointer (some ⟨b, o + j * 4, none⟩), .pointer (some ⟨b, o + j * 4, none⟩), u27, u28, u29, u30, u31, u32, u33, undef, undef, undef, undef, undef, undef, undef, undef, undef, undef, undef, undef, undef, undef, undef, undef, undef, undef, undef, undef, undef, undef, undef, undef, undef, undef, undef, undef, undef, undef, undef, undef, undef, undef, undef, undef, undef, undef, undef, undef, undef, undef, undef], defers := [] } wr.drew := by
        rw [hG]
        refine rdA [4, 11] ?_
        refine aR (fun K hK => ?_) ?_
        · go_simp
          refine hK _ _ ?_; clear hK K
          exact aE hG hs3.out
        refine aR (fun K hK => ?_) ?_
        · go_simp
          refine hK _ _ ?_; clear hK K
          exact aE hG hs6.out
        exact AllReady.nil
      have hs7 := Lib.hid hs7'
      clear hs7'
      refine tkV 0 (.pointer (some ⟨w.heap.size, 0, none⟩)) ?_
      refine tkV 1 (.pointer (some ⟨w.heap.size, 0, none⟩)) ?_
      refine tkV 2 (.pointer (some ⟨w.heap.size, 0, none⟩)) ?_
      refine tkV 3 (.pointer (some ⟨w.heap.size, 0, none⟩)) ?_
      refine tkV 5 (.slice (some ⟨b, o, none⟩) t.length c) ?_
      refine tkV 6 (.map (some nb)) ?_
      refine tkV 7 (.slice (some ⟨b, o, none⟩) t.length c) ?_
      refine tkV 8 (.int .i64 (j : Nat)) ?_
      refine tkW 9 (.pointer (some ⟨b, o + j * 4, none⟩)) ?_
      refine tkV 10 (.pointer (some ⟨b, o + j * 4, none⟩)) ?_
      exact aE hG hs7.out
    · have hltI : ¬ (j : Int) < (t.length : Int) := by omega
      obtain rfl : j = t.length := by omega
      obtain ⟨va, vc, rfl, hSt⟩ := HR.out.shapes
      obtain ⟨S, hS0⟩ : ∃ S, S = qs.map Prod.snd := ⟨_, rfl⟩
      have hsl : S.length = t.length := by rw [hS0, List.length_map, HR.out.len]
      have hr0 := HR.out.rel
      have HSH := Lib.hid (HR.out.shape hv ht (Nat.le_refl _))
      have HGF := Lib.hid HR.out.gfp
      have HKW := Lib.hid HR.out.kept
      rw [← hS0] at hSt hr0 HSH HGF
      rw [hsl] at hSt hr0
      rw [← tF_zero S] at hr0
      obtain ⟨n, hn⟩ : ∃ n, n = t.length := ⟨_, rfl⟩
      have HSL := Lib.hid (show S.length = n by rw [hsl, hn])
      have hn40 : n ≤ 40 := by omega
      have HST : Hid (∀ w', Only (· = w.heap.size) wr w' → Row 1 SlAt w' (.slice va n vc) S) := Lib.hid (by rw [hn]; exact hSt)
      have HR0 : Hid (RelAt wr w.heap.size (.slice va n vc) (tF S 0 0)) := Lib.hid (by rw [hn]; exact hr0)
      have y00 := HR0.out.shapes
      clear hSt hr0 hsl hS0 hn HR hlt
      obtain ⟨w2, rfl⟩ : ∃ w2, w2 = wr := ⟨_, rfl⟩
      go_wp2_with fail
      go_loopw [39] (fun q wr => ∃ s : Nat, q = .int .i64 s ∧ s ≤ n ∧ Only (· = w.heap.size) w2 wr ∧ RelAt wr w.heap.size (.slice va n vc) (tF S s 0)) (fun q wr => n - (intOf q).toNat)
      case atStart => exact ⟨0, rfl, Nat.zero_le _, Only.refl _ _, HR0.out⟩
      case round =>
        obtain ⟨s, rfl, hs, hO, hRm⟩ := hrel
        have HOO := Lib.hid hO
        have HRR := Lib.hid hRm
        clear y00 hO
        obtain ⟨wm, rfl⟩ : ∃ wm, wm = wr := ⟨_, rfl⟩
        by_cases hsn : s < n
        · have hsnI : (s : Int) < (n : Int) := by omega
          have y0 := hRm.shapes
          clear hRm
          go_wp2_with fail
          go_loopw [47] (fun q wr => ∃ u : Nat, q = .int .i64 u ∧ u ≤ n ∧ Only (· = w.heap.size) w2 wr ∧ RelAt wr w.heap.size (.slice va n vc) (tF S s u)) (fun q wr => n - (intOf q).toNat)
          case atStart => exact ⟨0, rfl, Nat.zero_le _, HOO.out, HRR.out⟩
          case round =>
            clear HOO HRR y0
            obtain ⟨u, rfl, hu, hO, hRm⟩ := hrel
            have HOO := Lib.hid hO
            have HRR := Lib.hid hRm
            by_cases hun : u < n
            · have hunI : (u : Int) < (n : Int) := by omega
              have eS := shN_at (S := S) (i := s) (by rw [HSL.out]; exact hsn)
              have eU := shN_at (S := S) (i := u) (by rw [HSL.out]; exact hun)
              have y0 := hRm.shapes
              obtain ⟨za, zc, ez, _, zcm, hrow⟩ := HST.out wr hO
              have ez2 : va = za ∧ n = S.length ∧ vc = zc := by injection ez with e1 e2 e3; exact ⟨e1, e2, e3⟩
              obtain ⟨rfl, hxx, rfl⟩ := ez2
              clear hxx
              have hu40 : (u : Int) < 40 := by omega
              have hs40 : (s : Int) < 40 := by omega
              unfold maxLen at zcm
              obtain ⟨vb, vo, rfl, v1, x1, hx1⟩ := hrow s _ eS
              obtain ⟨vb', vo', e, v2, x2, hx2⟩ := hrow u _ eU
              injection e with e
              injection e with e1 e2
              subst e1 e2
              have es : vo + s * 1 = vo + s := by omega
              have eu : vo + u * 1 = vo + u := by omega
              rw [es] at x1
              rw [eu] at x2
              obtain ⟨sa, sc, rfl, _⟩ := id hx1
              obtain ⟨ua, uc, rfl, _⟩ := id hx2
              have y1 := x1
              have y2 := x2
              have HC := Lib.hid (chas_c (Tab.shN S s) (Tab.shN S u) sa ua sc uc wr.drew (shp_kept hx1 (Kept.refl wr).drew) (shp_kept hx2 (Kept.refl wr).drew) (HSH.out _ (List.mem_of_getElem? eS)).asc (HSH.out _ (List.mem_of_getElem? eU)).asc)
              clear ez x1 x2 hx1 hx2 hrow eS eU es eu hO hRm
              go_wp2_with fail
              refine wp_region_any (by kernel_rfl) ?_
              change wpAny _ _ _ _ _ _ _ (World.drew _)
              refine any_states (fun G hG => ?_)
              have hs0' : ∀ w7, Kept wr w7 → G 1 #[true, true, true, true, true, true, true, true, true, true, true, true, true, true, true, true, true, true, true, true, true, true, false] { tmps := #[.slice a t.length c, .map (some nb), undef, undef, .pointer none, .pointer (some ⟨w.heap.size, 0, none⟩), u6, .int .i64 (s : Nat), .int .i64 (u : Nat), .agg zrC, .pointer (some ⟨w.heap.size, 0, none⟩), .slice a t.length c, .int .i64 (t.length : Nat), .int .i64 (t.length : Nat), .bool false, u15, u16, u17, u18, u19, u20, u21, u22, u23, u24, u25, u26, u27, u28, u29, u30, u31, u32, u33, .pointer (some ⟨w.heap.size, 0, none⟩), .pointer (some ⟨w.heap.size, 0, none⟩), .pointer (some ⟨w.heap.size, 0, none⟩), .slice (some ⟨vb, vo, none⟩) n vc, .int .i64 (n : Nat), .int .i64 (s : Nat), .bool true, .int .i64 (s : Nat), .pointer (some ⟨w.heap.size, 0, none⟩), .pointer (some ⟨w.heap.size, 0, none⟩), .pointer (some ⟨w.heap.size, 0, none⟩), .slice (some ⟨vb, vo, none⟩) n vc, .int .i64 (n : Nat), .int .i64 (u : Nat), .bool true, .int .i64 (u : Nat), .pointer (some ⟨w.heap.size, 0, none⟩), .int .i64 (s : Nat), .int .i64 (u : Nat), .pointer (some ⟨w.heap.size, 0, none⟩), .pointer (some ⟨w.heap.size, 0, none⟩), .pointer (some ⟨w.heap.size, 0, none⟩), .slice (some ⟨vb, vo, none⟩) n vc, .int .i64 (s : Nat), .pointer (some ⟨vb, vo + s, none⟩), .slice sa (Tab.shN S s).length sc, .pointer (some ⟨w.heap.size, 0, none⟩), .pointer (some ⟨w.heap.size, 0, none⟩), .pointer (some ⟨w.heap.size, 0, none⟩), .slice (some ⟨vb, vo, none⟩) n vc, .int .i64 (u : Nat), .pointer (some ⟨vb, vo + u, none⟩), .slice ua (Tab.shN S u).length uc, .bool (Tab.hasB (Tab.shN S s) (Tab.shN S u)), .pointer (some ⟨w.heap.size, 0, none⟩), .pointer (some ⟨w.heap.size, 1, none⟩), .pointer (some ⟨w.heap.size, 1 + s * 40, none⟩), .pointer (some ⟨w.heap.size, 1 + s * 40 + u, none⟩), u72, u73, undef, undef, undef], defers := [] } w7 := by
                intro w7 h7
                have H7 := Lib.hid h7
                clear h7
                rw [hG]
                have hR7 := HRR.out.kept H7.out
                have HN := Lib.hid (show RelAt (w7.setCell ⟨w.heap.size, 1 + s * 40 + u, none⟩ (.bool (Tab.hasB (Tab.shN S s) (Tab.shN S u)))) w.heap.size (.slice (some ⟨vb, vo, none⟩) n vc) (tF S s (u + 1)) from
                  (hR7.put (by omega) (by omega) _).eqF (tF_next (by rw [HSL.out]; omega) (by rw [HSL.out]; omega)))
                have HO2 := Lib.hid ((HOO.out.trans (Only.of_kept H7.out)).trans ((Only.refl (· = w.heap.size) w7).put (1 + s * 40 + u) (.bool (Tab.hasB (Tab.shN S s) (Tab.shN S u)))))
                have d4 := hR7.at (i := s) (k := u) (by omega) (by omega)
                obtain ⟨cs, hcs, _⟩ := hR7
                have f4 := hcs.frozen (1 + s * 40 + u)
                generalize tF S s u s u = bb at d4
                clear hcs y0 y1 y2
                refine rdA [22] ?_
                refine aR (fun K hK => ?_) ?_
                · go_simp
                  refine hK _ _ ?_; clear hK K
                  refine wpAny_done (by kernel_rfl) ?_ _
                  go_simp
                  go_wp2_with fail
                  go_roundw
                  case rel => exact ⟨u + 1, by go_num, by omega, HO2.out, HN.out⟩
                  case measure => simp [intOf]; omega
                · exact AllReady.nil
              have hs0 := Lib.hid hs0'
              clear hs0'
              have hs1' : G 3 #[true, true, true, true, true, true, true, true, true, true, true, true, true, true, true, true, true, false, true, true, true, false, false] { tmps := #[.slice a t.length c, .map (some nb), undef, undef, .pointer none, .pointer (some ⟨w.heap.size, 0, none⟩), u6, .int .i64 (s : Nat), .int .i64 (u : Nat), .agg zrC, .pointer (some ⟨w.heap.size, 0, none⟩), .slice a t.length c, .int .i64 (t.length : Nat), .int .i64 (t.length : Nat), .bool false, u15, u16, u17, u18, u19, u20, u21, u22, u23, u24, u25, u26, u27, u28, u29, u30, u31, u32, u33, .pointer (some ⟨w.heap.size, 0, none⟩), .pointer (some ⟨w.heap.size, 0, none⟩), .pointer (some ⟨w.heap.size, 0, none⟩), .slice (some ⟨vb, vo, none⟩) n vc, .int .i64 (n : Nat), .int .i64 (s : Nat), .bool true, .int .i64 (s : Nat), .pointer (some ⟨w.heap.size, 0, none⟩), .pointer (some ⟨w.heap.size, 0, none⟩), .pointer (some ⟨w.heap.size, 0, none⟩), .slice (some ⟨vb, vo, none⟩) n vc, .int .i64 (n : Nat), .int .i64 (u : Nat), .bool true, .int .i64 (u : Nat), .pointer (some ⟨w.heap.size, 0, none⟩), .int .i64 (s : Nat), .int .i64 (u : Nat), .pointer (some ⟨w.heap.size, 0, none⟩), .pointer (some ⟨w.heap.size, 0, none⟩), .pointer (some ⟨w.heap.size, 0, none⟩), .slice (some ⟨vb, vo, none⟩) n vc, .int .i64 (s : Nat), .pointer (some ⟨vb, vo + s, none⟩), .slice sa (Tab.shN S s).length sc, .pointer (some ⟨w.heap.size, 0, none⟩), .pointer (some ⟨w.heap.size, 0, none⟩), .pointer (some ⟨w.heap.size, 0, none⟩), .slice (some ⟨vb, vo, none⟩) n vc, .int .i64 (u : Nat), .pointer (some ⟨vb, vo + u, none⟩), .slice ua (Tab.shN S u).length uc, u67, .pointer (some ⟨w.heap.size, 0, none⟩), .pointer (some ⟨w.heap.size, 1, none⟩), .pointer (some ⟨w.heap.size, 1 + s * 40, none⟩), u71, u72, u73, undef, undef, undef], defers := [] } wr.drew := by
                rw [hG]
                refine rdA [17] ?_
                refine aR (fun K hK => ?_) ?_
                · go_simp
                  go_wp2_with fail
                  refine HC.out.mono ?_
                  rintro e w7 ⟨rfl, k7⟩
                  have h7 : Kept wr w7 := ((Kept.refl wr).drew).trans k7
                  clear k7
                  dsimp only
                  refine hK _ _ ?_; clear hK K
                  refine tkW 21 (.pointer (some ⟨w.heap.size, 1 + s * 40 + u, none⟩)) ?_
                  exact aE hG (hs0.out _ h7)
                exact AllReady.nil
              have hs1 := Lib.hid hs1'
              clear hs1'
              have hs2' : G 4 #[true, true, true, true, true, true, true, true, true, true, true, true, true, true, true, true, false, false, true, true, true, false, false] { tmps := #[.slice a t.length c, .map (some nb), undef, undef, .pointer none, .pointer (some ⟨w.heap.size, 0, none⟩), u6, .int .i64 (s : Nat), .int .i64 (u : Nat), .agg zrC, .pointer (some ⟨w.heap.size, 0, none⟩), .slice a t.length c, .int .i64 (t.length : Nat), .int .i64 (t.length : Nat), .bool false, u15, u16, u17, u18, u19, u20, u21, u22, u23, u24, u25, u26, u27, u28, u29, u30, u31, u32, u33, .pointer (some ⟨w.heap.size, 0, none⟩), .pointer (some ⟨w.heap.size, 0, none⟩), .pointer (some ⟨w.heap.size, 0, none⟩), .slice (some ⟨vb, vo, none⟩) n vc, .int .i64 (n : Nat), .int .i64 (s : Nat), .bool true, .int .i64 (s : Nat), .pointer (some ⟨w.heap.size, 0, none⟩), .pointer (some ⟨w.heap.size, 0, none⟩), .pointer (some ⟨w.heap.size, 0, none⟩), .slice (some ⟨vb, vo, none⟩) n vc, .int .i64 (n : Nat), .int .i64 (u : Nat), .bool true, .int .i64 (u : Nat), .pointer (some ⟨w.heap.size, 0, none⟩), .int .i64 (s : Nat), .int .i64 (u : Nat), .pointer (some ⟨w.heap.size, 0, none⟩), .pointer (some ⟨w.heap.size, 0, none⟩), .pointer (some ⟨w.heap.size, 0, none⟩), .slice (some ⟨vb, vo, none⟩) n vc, .int .i64 (s : Nat), .pointer (some ⟨vb, vo + s, none⟩), .slice sa (Tab.shN S s).length sc, .pointer (some ⟨w.heap.size, 0, none⟩), .pointer (some ⟨w.heap.size, 0, none⟩), .pointer (some ⟨w.heap.size, 0, none⟩), .slice (some ⟨vb, vo, none⟩) n vc, .int .i64 (u : Nat), .pointer (some ⟨vb, vo + u, none⟩), u66, u67, .pointer (some ⟨w.heap.size, 0, none⟩), .pointer (some ⟨w.heap.size, 1, none⟩), .pointer (some ⟨w.heap.size, 1 + s * 40, none⟩), u71, u72, u73, undef, undef, undef], defers := [] } wr.drew := by
                rw [hG]
                refine rdA [16] ?_
                refine aR (fun K hK => ?_) ?_
                · go_simp
                  refine hK _ _ ?_; clear hK K
                  exact aE hG hs1.out
                exact AllReady.nil
              have hs2 := Lib.hid hs2'
              clear hs2'
              have hs3' : G 6 #[true, true, true, true, true, true, true, true, true, true, true, true, true, false, true, false, false, false, true, true, true, false, false] { tmps := #[.slice a t.length c, .map (some nb), undef, undef, .pointer none, .pointer (some ⟨w.heap.size, 0, none⟩), u6, .int .i64 (s : Nat), .int .i64 (u : Nat), .agg zrC, .pointer (some ⟨w.heap.size, 0, none⟩), .slice a t.length c, .int .i64 (t.length : Nat), .int .i64 (t.length : Nat), .bool false, u15, u16, u17, u18, u19, u20, u21, u22, u23, u24, u25, u26, u27, u28, u29, u30, u31, u32, u33, .pointer (some ⟨w.heap.size, 0, none⟩), .pointer (some ⟨w.heap.size, 0, none⟩), .pointer (some ⟨w.heap.size, 0, none⟩), .slice (some ⟨vb, vo, none⟩) n vc, .int .i64 (n : Nat), .int .i64 (s : Nat), .bool true, .int .i64 (s : Nat), .pointer (some ⟨w.heap.size, 0, none⟩), .pointer (some ⟨w.heap.size, 0, none⟩), .pointer (some ⟨w.heap.size, 0, none⟩), .slice (some ⟨vb, vo, none⟩) n vc, .int .i64 (n : Nat), .int .i64 (u : Nat), .bool true, .int .i64 (u : Nat), .pointer (some ⟨w.heap.size, 0, none⟩), .int .i64 (s : Nat), .int .i64 (u : Nat), .pointer (some ⟨w.heap.size, 0, none⟩), .pointer (some ⟨w.heap.size, 0, none⟩), .pointer (some ⟨w.heap.size, 0, none⟩), .slice (some ⟨vb, vo, none⟩) n vc, .int .i64 (s : Nat), .pointer (some ⟨vb, vo + s, none⟩), .slice sa (Tab.shN S s).length sc, .pointer (some ⟨w.heap.size, 0, none⟩), .pointer (some ⟨w.heap.size, 0, none⟩), .pointer (some ⟨w.heap.size, 0, none⟩), u63, .int .i64 (u : Nat), u65, u66, u67, .pointer (some ⟨w.heap.size, 0, none⟩), .pointer (some ⟨w.heap.size, 1, none⟩), .pointer (some ⟨w.heap.size, 1 + s * 40, none⟩), u71, u72, u73, undef, undef, undef], defers := [] } wr.drew := by
                rw [hG]
                refine rdA [13] ?_
                refine aR (fun K hK => ?_) ?_
                · go_simp
                  refine hK _ _ ?_; clear hK K
                  refine tkW 15 (.pointer (some ⟨vb, vo + u, none⟩)) ?_
                  exact aE hG hs2.out
                exact AllReady.nil
              have hs3 := Lib.hid hs3'
              clear hs3'
              have hs4' : G 4 #[true, true, true, true, true, true, true, true, true, false, true, true, true, true, true, true, true, false, true, true, true, false, false] { tmps := #[.slice a t.length c, .map (some nb), undef, undef, .pointer none, .pointer (some ⟨w.heap.size, 0, none⟩), u6, .int .i64 (s : Nat), .int .i64 (u : Nat), .agg zrC, .pointer (some ⟨w.heap.size, 0, none⟩), .slice a t.length c, .int .i64 (t.length : Nat), .int .i64 (t.length : Nat), .bool false, u15, u16, u17, u18, u19, u20, u21, u22, u23, u24, u25, u26, u27, u28, u29, u30, u31, u32, u33, .pointer (some ⟨w.heap.size, 0, none⟩), .pointer (some ⟨w.heap.size, 0, none⟩), .pointer (some ⟨w.heap.size, 0, none⟩), .slice (some ⟨vb, vo, none⟩) n vc, .int .i64 (n : Nat), .int .i64 (s : Nat), .bool true, .int .i64 (s : Nat), .pointer (some ⟨w.heap.size, 0, none⟩), .pointer (some ⟨w.heap.size, 0, none⟩), .pointer (some ⟨w.heap.size, 0, none⟩), .slice (some ⟨vb, vo, none⟩) n vc, .int .i64 (n : Nat), .int .i64 (u : Nat), .bool true, .int .i64 (u : Nat), .pointer (some ⟨w.heap.size, 0, none⟩), .int .i64 (s : Nat), .int .i64 (u : Nat), .pointer (some ⟨w.heap.size, 0, none⟩), .pointer (some ⟨w.heap.size, 0, none⟩), .pointer (some ⟨w.heap.size, 0, none⟩), .slice (some ⟨vb, vo, none⟩) n vc, .int .i64 (s : Nat), .pointer (some ⟨vb, vo + s, none⟩), u59, .pointer (some ⟨w.heap.size, 0, none⟩), .pointer (some ⟨w.heap.size, 0, none⟩), .pointer (some ⟨w.heap.size, 0, none⟩), .slice (some ⟨vb, vo, none⟩) n vc, .int .i64 (u : Nat), .pointer (some ⟨vb, vo + u, none⟩), .slice ua (Tab.shN S u).length uc, u67, .pointer (some ⟨w.heap.size, 0, none⟩), .pointer (some ⟨w.heap.size, 1, none⟩), .pointer (some ⟨w.heap.size, 1 + s * 40, none⟩), u71, u72, u73, undef, undef, undef], defers := [] } wr.drew := by
                rw [hG]
                refine rdA [9] ?_
                refine aR (fun K hK => ?_) ?_
                · go_simp
                  refine hK _ _ ?_; clear hK K
                  exact aE hG hs1.out
                exact AllReady.nil
              have hs4 := Lib.hid hs4'
              clear hs4'
              have hs5' : G 5 #[true, true, true, true, true, true, true, true, true, false, true, true, true, true, true, true, false, false, true, true, true, false, false] { tmps := #[.slice a t.length c, .map (some nb), undef, undef, .pointer none, .pointer (some ⟨w.heap.size, 0, none⟩), u6, .int .i64 (s : Nat), .int .i64 (u : Nat), .agg zrC, .pointer (some ⟨w.heap.size, 0, none⟩), .slice a t.length c, .int .i64 (t.length : Nat), .int .i64 (t.length : Nat), .bool false, u15, u16, u17, u18, u19, u20, u21, u22, u23, u24, u25, u26, u27, u28, u29, u30, u31, u32, u33, .pointer (some ⟨w.heap.size, 0, none⟩), .pointer (some ⟨w.heap.size, 0, none⟩), .pointer (some ⟨w.heap.size, 0, none⟩), .slice (some ⟨vb, vo, none⟩) n vc, .int .i64 (n : Nat), .int .i64 (s : Nat), .bool true, .int .i64 (s : Nat), .pointer (some ⟨w.heap.size, 0, none⟩), .pointer (some ⟨w.heap.size, 0, none⟩), .pointer (some ⟨w.heap.size, 0, none⟩), .slice (some ⟨vb, vo, none⟩) n vc, .int .i64 (n : Nat), .int .i64 (u : Nat), .bool true, .int .i64 (u : Nat), .pointer (some ⟨w.heap.size, 0, none⟩), .int .i64 (s : Nat), .int .i64 (u : Nat), .pointer (some ⟨w.heap.size, 0, none⟩), .pointer (some ⟨w.heap.size, 0, none⟩), .pointer (some ⟨w.heap.size, 0, none⟩), .slice (some ⟨vb, vo, none⟩) n vc, .int .i64 (s : Nat), .pointer (some ⟨vb, vo + s, none⟩), u59, .pointer (some ⟨w.heap.size, 0, none⟩), .pointer (some ⟨w.heap.size, 0, none⟩), .pointer (some ⟨w.heap.size, 0, none⟩), .slice (some ⟨vb, vo, none⟩) n vc, .int .i64 (u : Nat), .pointer (some ⟨vb, vo + u, none⟩), u66, u67, .pointer (some ⟨w.heap.size, 0, none⟩), .pointer (some ⟨w.heap.size, 1, none⟩), .pointer (some ⟨w.heap.size, 1 + s * 40, none⟩), u71, u72, u73, undef, undef, undef], defers := [] } wr.drew := by
                rw [hG]
                refine rdA [9, 16] ?_
                refine aR (fun K hK => ?_) ?_
                · go_simp
                  refine hK _ _ ?_; clear hK K
                  exact aE hG hs2.out
                refine aR (fun K hK => ?_) ?_
                · go_simp
                  refine hK _ _ ?_; clear hK K
                  exact aE hG hs4.out
                exact AllReady.nil
              have hs5 := Lib.hid hs5'
              clear hs5'
              have hs6' : G 7 #[true, true, true, true, true, true, true, true, true, false, true, true, true, false, true, false, false, false, true, true, true, false, false] { tmps := #[.slice a t.length c, .map (some nb), undef, undef, .pointer none, .pointer (some ⟨w.heap.size, 0, none⟩), u6, .int .i64 (s : Nat), .int .i64 (u : Nat), .agg zrC, .pointer (some ⟨w.heap.size, 0, none⟩), .slice a t.length c, .int .i64 (t.length : Nat), .int .i64 (t.length : Nat), .bool false, u15, u16, u17, u18, u19, u20, u21, u22, u23, u24, u25, u26, u27, u28, u29, u30, u31, u32, u33, .pointer (some ⟨w.heap.size, 0, none⟩), .pointer (some ⟨w.heap.size, 0, none⟩), .pointer (some ⟨w.heap.size, 0, none⟩), .slice (some ⟨vb, vo, none⟩) n vc, .int .i64 (n : Nat), .int .i64 (s : Nat), .bool true, .int .i64 (s : Nat), .pointer (some ⟨w.heap.size, 0, none⟩), .pointer (some ⟨w.heap.size, 0, none⟩), .pointer (some ⟨w.heap.size, 0, none⟩), .slice (some ⟨vb, vo, none⟩) n vc, .int .i64 (n : Nat), .int .i64 (u : Nat), .bool true, .int .i64 (u : Nat), .pointer (some ⟨w.heap.size, 0, none⟩), .int .i64 (s : Nat), .int .i64 (u : Nat), .pointer (some ⟨w.heap.size, 0, none⟩), .pointer (some ⟨w.heap.size, 0, none⟩), .pointer (some ⟨w.heap.size, 0, none⟩), .slice (some ⟨vb, vo, none⟩) n vc, .int .i64 (s : Nat), .pointer (some ⟨vb, vo + s, none⟩), u59, .pointer (some ⟨w.heap.size, 0, none⟩), .pointer (some ⟨w.heap.size, 0, none⟩), .pointer (some ⟨w.heap.size, 0, none⟩), u63, .int .i64 (u : Nat), u65, u66, u67, .pointer (some ⟨w.heap.size, 0, none⟩), .pointer (some ⟨w.heap.size, 1, none⟩), .pointer (some ⟨w.heap.size, 1 + s * 40, none⟩), u71, u72, u73, undef, undef, undef], defers := [] } wr.drew := by
                rw [hG]
                refine rdA [9, 13] ?_
                refine aR (fun K hK => ?_) ?_
                · go_simp
                  refine hK _ _ ?_; clear hK K
                  exact aE hG hs3.out
                refine aR (fun K hK => ?_) ?_
                · go_simp
                  refine hK _ _ ?_; clear hK K
                  refine tkW 15 (.pointer (some ⟨vb, vo + u, none⟩)) ?_
                  exact aE hG hs5.out
                exact AllReady.nil
              have hs6 := Lib.hid hs6'
              clear hs6'
              have hs7' : G 6 #[true, true, true, true, true, true, false, true, false, false, true, true, true, true, true, true, true, false, true, true, true, false, false] { tmps := #[.slice a t.length c, .map (some nb), undef, undef, .pointer none, .pointer (some ⟨w.heap.size, 0, none⟩), u6, .int .i64 (s : Nat), .int .i64 (u : Nat), .agg zrC, .pointer (some ⟨w.heap.size, 0, none⟩), .slice a t.length c, .int .i64 (t.length : Nat), .int .i64 (t.length : Nat), .bool false, u15, u16, u17, u18, u19, u20, u21, u22, u23, u24, u25, u26, u27, u28, u29, u30, u31, u32, u33, .pointer (some ⟨w.heap.size, 0, none⟩), .pointer (some ⟨w.heap.size, 0, none⟩), .pointer (some ⟨w.heap.size, 0, none⟩), .slice (some ⟨vb, vo, none⟩) n vc, .int .i64 (n : Nat), .int .i64 (s : Nat), .bool true, .int .i64 (s : Nat), .pointer (some ⟨w.heap.size, 0, none⟩), .pointer (some ⟨w.heap.size, 0, none⟩), .pointer (some ⟨w.heap.size, 0, none⟩), .slice (some ⟨vb, vo, none⟩) n vc, .int .i64 (n : Nat), .int .i64 (u : Nat), .bool true, .int .i64 (u : Nat), .pointer (some ⟨w.heap.size, 0, none⟩), .int .i64 (s : Nat), .int .i64 (u : Nat), .pointer (some ⟨w.heap.size, 0, none⟩), .pointer (some ⟨w.heap.size, 0, none⟩), .pointer (some ⟨w.heap.size, 0, none⟩), u56, .int .i64 (s : Nat), u58, u59, .pointer (some ⟨w.heap.size, 0, none⟩), .pointer (some ⟨w.heap.size, 0, none⟩), .pointer (some ⟨w.heap.size, 0, none⟩), .slice (some ⟨vb, vo, none⟩) n vc, .int .i64 (u : Nat), .pointer (some ⟨vb, vo + u, none⟩), .slice ua (Tab.shN S u).length uc, u67, .pointer (some ⟨w.heap.size, 0, none⟩), .pointer (some ⟨w.heap.size, 1, none⟩), .pointer (some ⟨w.heap.size, 1 + s * 40, none⟩), u71, u72, u73, undef, undef, undef], defers := [] } wr.drew := by
                rw [hG]
                refine rdA [6] ?_
                refine aR (fun K hK => ?_) ?_
                · go_simp
                  refine hK _ _ ?_; clear hK K
                  refine tkW 8 (.pointer (some ⟨vb, vo + s, none⟩)) ?_
                  exact aE hG hs4.out
                exact AllReady.nil
              have hs7 := Lib.hid hs7'
              clear hs7'
              have hs8' : G 7 #[true, true, true, true, true, true, false, true, false, false, true, true, true, true, true, true, false, false, true, true, true, false, false] { tmps := #[.slice a t.length c, .map (some nb), undef, undef, .pointer none, .pointer (some ⟨w.heap.size, 0, none⟩), u6, .int .i64 (s : Nat), .int .i64 (u : Nat), .agg zrC, .pointer (some ⟨w.heap.size, 0, none⟩), .slice a t.length c, .int .i64 (t.length : Nat), .int .i64 (t.length : Nat), .bool false, u15, u16, u17, u18, u19, u20, u21, u22, u23, u24, u25, u26, u27, u28, u29, u30, u31, u32, u33, .pointer (some ⟨w.heap.size, 0, none⟩), .pointer (some ⟨w.heap.size, 0, none⟩), .pointer (some ⟨w.heap.size, 0, none⟩), .slice (some ⟨vb, vo, none⟩) n vc, .int .i64 (n : Nat), .int .i64 (s : Nat), .bool true, .int .i64 (s : Nat), .pointer (some ⟨w.heap.size, 0, none⟩), .pointer (some ⟨w.heap.size, 0, none⟩), .pointer (some ⟨w.heap.size, 0, none⟩), .slice (some ⟨vb, vo, none⟩) n vc, .int .i64 (n : Nat), .int .i64 (u : Nat), .bool true, .int .i64 (u : Nat), .pointer (some ⟨w.heap.size, 0, none⟩), .int .i64 (s : Nat), .int .i64 (u : Nat), .pointer (some ⟨w.heap.size, 0, none⟩), .pointer (some ⟨w.heap.size, 0, none⟩), .pointer (some ⟨w.heap.size, 0, none⟩), u56, .int .i64 (s : Nat), u58, u59, .pointer (some ⟨w.heap.size, 0, none⟩), .pointer (some ⟨w.heap.size, 0, none⟩), .pointer (some ⟨w.heap.size, 0, none⟩), .slice (some ⟨vb, vo, none⟩) n vc, .int .i64 (u : Nat), .pointer (some ⟨vb, vo + u, none⟩), u66, u67, .pointer (some ⟨w.heap.size, 0, none⟩), .pointer (some ⟨w.heap.size, 1, none⟩), .pointer (some ⟨w.heap.size, 1 + s * 40, none⟩), u71, u72, u73, undef, undef, undef], defers := [] } wr.drew := by
                rw [hG]
                refine rdA [6, 16] ?_
                refine aR (fun K hK => ?_) ?_
                · go_simp
                  refine hK _ _ ?_; clear hK K
                  refine tkW 8 (.pointer (some ⟨vb, vo + s, none⟩)) ?_
                  exact aE hG hs5.out
                refine aR (fun K hK => ?_) ?_
                · go_simp
                  refine hK _ _ ?_; clear hK K
                  exact aE hG hs7.out
                exact AllReady.nil
              have hs8 := Lib.hid hs8'
              clear hs8'
              have hs9' : G 9 #[true, true, true, true, true, true, false, true, false, false, true, true, true, false, true, false, false, false, true, true, true, false, false] { tmps := #[.slice a t.length c, .map (some nb), undef, undef, .pointer none, .pointer (some ⟨w.heap.size, 0, none⟩), u6, .int .i64 (s : Nat), .int .i64 (u : Nat), .agg zrC, .pointer (some ⟨w.heap.size, 0, none⟩), .slice a t.length c, .int .i64 (t.length : Nat), .int .i64 (t.length : Nat), .bool false, u15, u16, u17, u18, u19, u20, u21, u22, u23, u24, u25, u26, u27, u28, u29, u30, u31, u32, u33, .pointer (some ⟨w.heap.size, 0, none⟩), .pointer (some ⟨w.heap.size, 0, none⟩), .pointer (some ⟨w.heap.size, 0, none⟩), .slice (some ⟨vb, vo, none⟩) n vc, .int .i64 (n : Nat), .int .i64 (s : Nat), .bool true, .int .i64 (s : Nat), .pointer (some ⟨w.heap.size, 0, none⟩), .pointer (some ⟨w.heap.size, 0, none⟩), .pointer (some ⟨w.heap.size, 0, none⟩), .slice (some ⟨vb, vo, none⟩) n vc, .int .i64 (n : Nat), .int .i64 (u : Nat), .bool true, .int .i64 (u : Nat), .pointer (some ⟨w.heap.size, 0, none⟩), .int .i64 (s : Nat), .int .i64 (u : Nat), .pointer (some ⟨w.heap.size, 0, none⟩), .pointer (some ⟨w.heap.size, 0, none⟩), .pointer (some ⟨w.heap.size, 0, none⟩), u56, .int .i64 (s : Nat), u58, u59, .pointer (some ⟨w.heap.size, 0, none⟩), .pointer (some ⟨w.heap.size, 0, none⟩), .pointer (some ⟨w.heap.size, 0, none⟩), u63, .int .i64 (u : Nat), u65, u66, u67, .pointer (some ⟨w.heap.size, 0, none⟩), .pointer (some ⟨w.heap.size, 1, none⟩), .pointer (some ⟨w.heap.size, 1 + s * 40, none⟩), u71, u72, u73, undef, undef, undef], defers := [] } wr.drew := by
                rw [hG]
                refine rdA [6, 13] ?_
                refine aR (fun K hK => ?_) ?_
                · go_simp
                  refine hK _ _ ?_; clear hK K
                  refine tkW 8 (.pointer (some ⟨vb, vo + s, none⟩)) ?_
                  exact aE hG hs6.out
                refine aR (fun K hK => ?_) ?_
                · go_simp
                  refine hK _ _ ?_; clear hK K
                  refine tkW 15 (.pointer (some ⟨vb, vo + u, none⟩)) ?_
                  exact aE hG hs8.out
                exact AllReady.nil
              have hs9 := Lib.hid hs9'
              clear hs9'
              refine tkV 0 (.pointer (some ⟨w.heap.size, 0, none⟩)) ?_
              refine tkV 1 (.int .i64 (s : Nat)) ?_
              refine tkV 2 (.int .i64 (u : Nat)) ?_
              refine tkV 3 (.pointer (some ⟨w.heap.size, 0, none⟩)) ?_
              refine tkV 4 (.pointer (some ⟨w.heap.size, 0, none⟩)) ?_
              refine tkV 5 (.pointer (some ⟨w.heap.size, 0, none⟩)) ?_
              refine tkV 7 (.int .i64 (s : Nat)) ?_
              refine tkV 10 (.pointer (some ⟨w.heap.size, 0, none⟩)) ?_
              refine tkV 11 (.pointer (some ⟨w.heap.size, 0, none⟩)) ?_
              refine tkV 12 (.pointer (some ⟨w.heap.size, 0, none⟩)) ?_
              refine tkV 14 (.int .i64 (u : Nat)) ?_
              refine tkV 18 (.pointer (some ⟨w.heap.size, 0, none⟩)) ?_
              refine tkV 19 (.pointer (some ⟨w.heap.size, 1, none⟩)) ?_
              refine tkW 20 (.pointer (some ⟨w.heap.size, 1 + s * 40, none⟩)) ?_
              exact aE hG hs9.out
            · have hunI : ¬ (u : Int) < (n : Int) := by omega
              obtain rfl : u = n := by omega
              have HRX := Lib.hid (HRR.out.eqF (show tF S s u = tF S (s + 1) 0 by rw [← HSL.out]; exact tF_turn S s))
              clear hO hRm
              go_wp2_with fail
              go_roundw
              case rel => exact ⟨s + 1, by go_num, by omega, HOO.out, HRX.out⟩
              case measure => simp [intOf]; omega
        · have hsnI : ¬ (s : Int) < (n : Int) := by omega
          obtain rfl : s = n := by omega
          have HSC := Lib.hid (strike_c (tF S s 0) S va vc w.heap.size wm (by rw [HSL.out]; exact HRR.out) (fun w' ho => by rw [HSL.out]; exact HST.out w' (HOO.out.trans ho)) (by rw [HSL.out]; exact hn40) HSH.out
            (fun i k h => by
              unfold tF at h
              simp only [Bool.and_eq_true, decide_eq_true_eq] at h
              exact ⟨h.1.1, h.1.2, h.2.2⟩)
            (fun i k h => by
              obtain ⟨h1, h2, h3, _⟩ := Tab.gfp_closed S i k h
              unfold tF
              have : i < s := by rw [← HSL.out]; exact h1
              simp [h1, h2, h3, this]))
          have HG := Lib.hid (show w2.heap.size ≤ wm.heap.size from HOO.out.size)
          clear hRm
          go_wp2_with fail
          refine HSC.out.mono ?_
          rintro e w9 ⟨rfl, hE⟩
          obtain ⟨ho9, hr9⟩ := hE
          have HK9 := Lib.hid (show Kept w w9 from (HKW.out.onlyS HOO.out (fun k e => by omega)).onlyS ho9 (fun k e => by omega))
          rw [HGF.out] at hr9
          have HR9 := Lib.hid hr9
          clear ho9 hr9
          go_wp2_with fail
          go_ret
          exact ⟨_, rfl, HR9.out, HK9.out⟩
end Go.Proofs.YtjdkegfckkbpeaaGreatDoor
