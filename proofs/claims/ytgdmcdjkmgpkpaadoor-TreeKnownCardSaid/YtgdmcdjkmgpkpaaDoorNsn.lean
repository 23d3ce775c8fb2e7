/- Same: whether two trees are equal. -/
import Derived.Test.YtgdmcdjkmgpkpaaDoorNsm
set_option linter.unusedSimpArgs false
set_option linter.unusedVariables false
set_option maxRecDepth 100000
namespace Go.Proofs.YtgdmcdjkmgpkpaaDoor
open Go.ChangeShapes Go.WideShapes Go.ChangeAt Go.RowKit Go.Shelf
attribute [local go_sem] Oper.semAt_some

/-- How many kids these have, together. -/
def arS (l : List (Nat × Nd)) : Nat := (l.map fun p => p.2.kids.length).sum
theorem arS_app (l m : List (Nat × Nd)) : arS (l ++ m) = arS l + arS m := by unfold arS; simp
theorem arS_cons (p : Nat × Nd) (l : List (Nat × Nd)) : arS (p :: l) = p.2.kids.length + arS l := by unfold arS; simp
mutual
theorem ar_all : ∀ (x : Nd) (a : Nat), arS (x.all a) + 1 = x.count
  | .mk k t y f n ks, a => by
    rw [Nd.all_eq, arS_cons, Nd.count_eq]
    have := ar_allL ks (a + 1)
    show ks.length + arS (Nd.allL ks (a + 1)) + 1 = 1 + Nd.countL ks
    omega
theorem ar_allL : ∀ (l : List Nd) (a : Nat), arS (Nd.allL l a) + l.length = Nd.countL l
  | [], a => by rw [Nd.allL_nil]; rfl
  | x :: r, a => by
    rw [Nd.allL_cons, arS_app, Nd.countL_cons, List.length_cons]
    have h1 := ar_all x a
    have h2 := ar_allL r a
    omega
end
mutual
theorem ar_pre : ∀ (x : Nd) (a i : Nat), i < x.count → i < arS ((x.all a).take i) + 1
  | .mk k t y f n ks, a, 0, _ => by omega
  | .mk k t y f n ks, a, i + 1, h => by
    rw [Nd.all_eq, List.take_succ_cons, arS_cons]
    rw [Nd.count_eq] at h
    have := ar_preL ks (a + 1) i (by show i < Nd.countL ks; have : (Nd.mk k t y f n ks).kids = ks := rfl; rw [this] at h; omega)
    show i + 1 < ks.length + arS ((Nd.allL ks (a + 1)).take i) + 1
    omega
theorem ar_preL : ∀ (l : List Nd) (a i : Nat), i < Nd.countL l → i < arS ((Nd.allL l a).take i) + l.length
  | [], a, i, h => by rw [Nd.countL_nil] at h; omega
  | x :: r, a, i, h => by
    rw [Nd.countL_cons] at h
    rw [Nd.allL_cons, List.take_append, arS_app, List.length_cons, Nd.count_all]
    by_cases hi : i < x.count
    · have := ar_pre x a i hi; omega
    · have h1 := ar_preL r a (i - x.count) (by omega)
      rw [List.take_of_length_le (by rw [Nd.count_all]; omega)]
      have h2 := ar_all x a
      omega
end
def ownQ (p : Nat × Nd) : Ow := ownP p.2
theorem arS_own {l m : List (Nat × Nd)} (h : l.map ownQ = m.map ownQ) : arS l = arS m := by
  have : ∀ l : List (Nat × Nd), arS l = ((l.map ownQ).map fun o => o.2.2.2.2.2).sum := fun l => by
    unfold arS
    rw [List.map_map]
    rfl
  rw [this, this, h]
/-- Whether two trees are equal, as their nodes are, in the order of their places. -/
def sameP (a b : Nd) : Bool := decide ((a.all 0).map ownQ = ((b.all 0).take a.count).map ownQ)
/-- Where all so far were alike, there is one more. -/
theorem same_goes {a b : Nd} {i : Nat} (hi : i < a.count) (h : ((a.all 0).take i).map ownQ = ((b.all 0).take i).map ownQ) : i < b.count := by
  rcases Nat.lt_or_ge i b.count with h' | h'
  · exact h'
  · exfalso
    have hl := congrArg List.length h
    simp only [List.length_map, List.length_take, Nd.count_all] at hl
    have hib : i = b.count := by omega
    have h1 := ar_pre a 0 i hi
    have h2 := arS_own h
    rw [List.take_of_length_le (by rw [Nd.count_all]; omega : (b.all 0).length ≤ i)] at h2
    have h3 := ar_all b 0
    omega

structure SmF (a b : Nd) (w W : World) (R g Bb rb pb : Nat) (pre : List ItN) (rs : List Rw) (v : Value) : Prop where
  walk : WalkAt W R g v rs
  rows : RowsOk (fun k => k < w.heap.size ∨ k = Bb) W pre.length rs
  rest : (b.all 0).drop pre.length = restR rs
  like : (pre.map plN).map ownQ = ((b.all 0).take pre.length).map ownQ
  its : itOk a pre
  res : Blk W rb 4 #[.bool false]
  ptr : Blk W pb 54 #[.pointer (some ⟨g, 0, none⟩)]
  kept : Kept w W
  far : ∀ k, v.ownBlock = some k → g < k ∨ k = R
  lt : ∀ k, v.ownBlock = some k → k < W.heap.size
def smO (g rb : Nat) (v : Value) (k : Nat) : Prop := walkS g v k ∨ k = rb
def smI (a b : Nd) (w : World) (R g Bb rb pb : Nat) (pre : List ItN) (W : World) (O : Nat → Prop) : Prop := ∃ rs v, O = smO g rb v ∧ SmF a b w W R g Bb rb pb pre rs v
def smX (a b : Nd) (w : World) (rb : Nat) (c : Code) (pre : List ItN) (W : World) : Prop := c = .ret ∧ Blk W rb 4 #[.bool false] ∧ Kept w W ∧ sameP a b = false

theorem smI.stay {a b : Nd} {w : World} {R g Bb rb pb n : Nat} {pre : List ItN} {A B : World} {O : Nat → Prop} (h : smI a b w R g Bb rb pb pre A O) (k : Only (fun k => n ≤ k ∧ ¬ O k) A B) (hn : w.heap.size ≤ n) (hB : Bb < n) (hP : pb < n) : smI a b w R g Bb rb pb pre B O := by
  obtain ⟨rs, v, rfl, h⟩ := h
  refine ⟨rs, v, rfl, ⟨⟨h.walk.1.only k (fun h => h.2 (.inl (.inl rfl))), owns_only h.walk.2 k (fun j hj h => h.2 (.inl (.inr hj)))⟩, h.rows.only k (fun j hj h => by have := h.1; omega), h.rest, h.like, h.its, h.res.only k (fun h => h.2 (.inr rfl)), h.ptr.only k (fun h => by have := h.1; omega), h.kept.only k rfl (fun j h => by have := h.1; omega), h.far, fun j hj => Nat.lt_of_lt_of_le (h.lt j hj) k.size⟩⟩
theorem smX.stay {a b : Nd} {w : World} {rb n : Nat} {c : Code} {pre : List ItN} {A B : World} (h : smX a b w rb c pre A) (k : Only (fun k => n ≤ k ∧ k < n + 2) A B) (hr : rb < n) (hn : w.heap.size ≤ n) : smX a b w rb c pre B := by
  obtain ⟨h1, h2, h3, h4⟩ := h
  exact ⟨h1, h2.only k (fun h => by omega), h3.only k rfl (fun k h => by omega), h4⟩

theorem rown_lt {w : World} {base k : Nat} {e : TypeId} {v : Value} {n : Nat} {xs : List Value} (h : w.ownsRow base e k v n xs) {g : Nat} (hg : v.ownBlock = some g) : g < w.heap.size := by
  rcases h.2 with ⟨rfl, _⟩ | ⟨g', cap, cur, rfl, _, hh, _⟩
  · simp [Value.ownBlock] at hg
  · have : g' = g := by simpa [Value.ownBlock] using hg
    subst this
    exact (Array.getElem?_eq_some_iff.1 hh).1

/-- The same, written out. -/
theorem ownOf_l (b o : Nat) (x : Nd) (w : World) (h : NdAt w b o x) :
    Calls Tryd.prog 36 #[.pointer (some ⟨b, o, none⟩)] w fun e w' => e = .returned (.agg #[.int .i64 x.kind, .string x.text, .string x.typ, .string x.frm, .int .i64 x.n, .int .i64 (x.kids.length : Nat)]) ∧ Kept w w' := ownOf_c b o x w h
theorem neqO_l (x y : Nd) (v : Bool) (hv : decide (ownP x = ownP y) = v) (w : World) : (binOp .neq 59 (.agg #[.int .i64 x.kind, .string x.text, .string x.typ, .string x.frm, .int .i64 x.n, .int .i64 (x.kids.length : Nat)]) (.agg #[.int .i64 y.kind, .string y.text, .string y.typ, .string y.frm, .int .i64 y.n, .int .i64 (y.kids.length : Nat)])).run Tryd.prog w = .ok (.bool (!v)) w := by
  rw [← hv]; exact neqO (ownP x) (ownP y) w

theorem toL_inj {s t : ByteArray} (h : s.toList = t.toList) : s = t := by
  rw [ByteArray.toList_eq, ByteArray.toList_eq] at h
  exact ByteArray.ext (Array.toList_inj.1 h)
theorem ow_eq {x y : Nd} (h1 : x.kind = y.kind) (h2 : x.text.toList = y.text.toList) (h3 : x.typ.toList = y.typ.toList) (h4 : x.frm.toList = y.frm.toList) (h5 : x.n = y.n) (h6 : (x.kids.length : Int) = (y.kids.length : Int)) : ownP x = ownP y := by
  unfold ownP
  rw [h1, toL_inj h2, toL_inj h3, toL_inj h4, h5, show x.kids.length = y.kids.length by omega]
theorem ow_parts {x y : Nd} (h : ownP x = ownP y) : x.kind = y.kind ∧ x.text = y.text ∧ x.typ = y.typ ∧ x.frm = y.frm ∧ x.n = y.n ∧ (x.kids.length : Int) = (y.kids.length : Int) := by
  unfold ownP at h
  simp only [Prod.mk.injEq] at h
  exact ⟨h.1, h.2.1, h.2.2.1, h.2.2.2.1, h.2.2.2.2.1, by rw [h.2.2.2.2.2]⟩

theorem bool_results {fn : Func} {p : Tmp} (h : fn.results = #[.cell p 4]) (tmps : Array Value) (W : World) {g : Nat} {b : Bool}
    (hp : tmps.getD p undef = .pointer (some ⟨g, 0, none⟩)) (hg : Blk W g 4 #[.bool b]) : (results fn tmps).run Tryd.prog W = .ok (.bool b) W := by
  have hp' : tmps[p]?.getD undef = .pointer (some ⟨g, 0, none⟩) := by simpa using hp
  have c3 := hg.cell 0
  simp at c3
  simp [results, h, hp', go_sem, c3]
  try rfl

set_option maxHeartbeats 16000000 in
theorem same_c (a b : Nd) (aa ab : Option Addr) (ca cb : Nat) (w : World) (hoa : a.ok1) (hka : KidsAt w (.slice aa a.kids.length ca) a.kids) (hob : b.ok1) (hkb : KidsAt w (.slice ab b.kids.length cb) b.kids) (hca : a.count ≤ 1000000000) (hcb : b.count ≤ 1000000000) :
    Calls Tryd.prog 18 #[ndV a (.slice aa a.kids.length ca), ndV b (.slice ab b.kids.length cb)] w fun e w' => e = .returned (.bool (sameP a b)) ∧ Kept w w' := by
  obtain ⟨W1, hW1⟩ : ∃ W1, ((w.alloc (.cells #[.int .i64 a.kind, .string a.text, .string a.typ, .string a.frm, .int .i64 a.n, .slice aa a.kids.length ca] 24)).alloc (.cells #[.int .i64 b.kind, .string b.text, .string b.typ, .string b.frm, .int .i64 b.n, .slice ab b.kids.length cb] 24)).alloc (.cells #[.bool false] 4) = W1 := ⟨_, rfl⟩
  have k1 : Kept w W1 := by rw [← hW1]; exact (((Kept.refl w).alloc _).alloc _).alloc _
  have hs1 : W1.heap.size = w.heap.size + 3 := by rw [← hW1]; simp
  have hba : Blk W1 w.heap.size 24 (ndC a (.slice aa a.kids.length ca)).toArray := by rw [← hW1]; exact ((Blk.new _ _ _).alloc _).alloc _
  have hrb : Blk W1 (w.heap.size + 2) 4 #[.bool false] := by rw [← hW1]; exact Blk.at (by simp)
  have HWO := Lib.hid (walkOf_c b ab cb W1)
  have HBA := Lib.hid hba
  have HRB := Lib.hid hrb
  have HK1 := Lib.hid k1
  have HS1 := Lib.hid hs1
  have HW1 := Lib.hid hW1
  have HOA := Lib.hid hoa
  have HOB := Lib.hid hob
  have HKA := Lib.hid hka
  have HKB := Lib.hid (KidsD.kept (KidsD.low hkb) k1)
  have HCA := Lib.hid hca
  have HCB := Lib.hid hcb
  clear hW1 k1 hs1 hba hrb hoa hob hka hkb
  refine (callsIn_wide (n := 3)).1 (callsIn_of_wp_marks Tryd.func18 rfl trivial (wpIn_wide.2 ?_) rfl)
  simp only [Tryd.ntmps18, List.size_toArray, List.length_cons, List.length_nil, Nat.reduceAdd, Nat.reduceSub, Array.replicate_succ, Array.replicate_zero, List.push_toArray, List.append_toArray, List.nil_append, List.cons_append]
  go_wp2_with fail
  rw [HW1.out]
  refine HWO.out.mono ?_
  rintro e w3 ⟨Bb, g, R, rfl, hz1, hz2, hz3, hz4, hz5, hBb, hwk, k3⟩
  obtain ⟨W4, hW4⟩ : ∃ W4, w3.alloc (.cells #[.pointer (some ⟨g, 0, none⟩)] 54) = W4 := ⟨_, rfl⟩
  have k4 : Kept w3 W4 := by rw [← hW4]; exact (Kept.refl w3).alloc _
  have hgp : Blk W4 w3.heap.size 54 #[.pointer (some ⟨g, 0, none⟩)] := by rw [← hW4]; exact Blk.new _ _ _
  have hs4 : W4.heap.size = w3.heap.size + 1 := by rw [← hW4]; simp
  obtain ⟨W5, hW5⟩ : ∃ W5, W4.alloc (.cells (ndC a (.slice aa a.kids.length ca)).toArray 24) = W5 := ⟨_, rfl⟩
  have k5 : Kept W4 W5 := by rw [← hW5]; exact (Kept.refl W4).alloc _
  have hs5 : W5.heap.size = w3.heap.size + 2 := by rw [← hW5]; simp [hs4]
  have hbn : Blk W5 W4.heap.size 24 (ndC a (.slice aa a.kids.length ca)).toArray := by rw [← hW5]; exact Blk.new _ _ _
  have hba4 := HBA.out.kept (k3.trans k4)
  obtain ⟨g0, g1, g2, g3, g4, g5⟩ : W4.cell? ⟨w.heap.size, 0, none⟩ = some (.int .i64 a.kind) ∧ W4.cell? ⟨w.heap.size, 1, none⟩ = some (.string a.text) ∧ W4.cell? ⟨w.heap.size, 2, none⟩ = some (.string a.typ) ∧ W4.cell? ⟨w.heap.size, 3, none⟩ = some (.string a.frm) ∧ W4.cell? ⟨w.heap.size, 4, none⟩ = some (.int .i64 a.n) ∧ W4.cell? ⟨w.heap.size, 5, none⟩ = some (.slice aa a.kids.length ca) :=
    ⟨hba4.cell 0, hba4.cell 1, hba4.cell 2, hba4.cell 3, hba4.cell 4, hba4.cell 5⟩
  have HN := Lib.hid (nodes_c a aa ca W4)
  rw [hW5] at HN
  have k35 := (k3.trans k4).trans k5
  have HKW := Lib.hid (HK1.out.trans k35)
  have HB5 := Lib.hid hbn
  have HGP := Lib.hid (hgp.kept k5)
  have HSS := Lib.hid (show w.heap.size + 3 < Bb ∧ Bb < R ∧ R < g ∧ g < w3.heap.size ∧ W4.heap.size = w3.heap.size + 1 ∧ W5.heap.size = w3.heap.size + 2 from ⟨by have := HS1.out; omega, hz2, hz3, hz4, hs4, hs5⟩)
  have HKK := Lib.hid (fun W k => box_kids (W := W) HKA.out k)
  have hBn : NdD (fun k => k < w.heap.size ∨ k = Bb) w3 Bb 0 b := blk_node HOB.out ((HKB.out.kept k3).mono fun _ _ h => .inl h) hBb (.inr rfl)
  have HI0 := Lib.hid (show smI a b w R g Bb (w.heap.size + 2) w3.heap.size [] W5 (smO g (w.heap.size + 2) (.slice (some ⟨R, 0, none⟩) 1 1)) from ⟨[(.slice (some ⟨Bb, 0, none⟩) 1 1, [b], 0)], _, rfl, {
    walk := ⟨hwk.1.kept (k4.trans k5), owns_kept hwk.2 (k4.trans k5)⟩
    rows := fun r hr => by
      obtain rfl := List.mem_singleton.1 hr
      exact ⟨by simp, KidsD.one (hBn.kept (k4.trans k5)) (Nat.le_refl _) (by decide), Nat.le_refl _⟩
    rest := by unfold restR; simp [Nd.allL_cons, Nd.allL_nil]
    like := by simp
    its := ⟨List.nil_prefix, fun i it h => by simp at h⟩
    res := HRB.out.kept k35
    ptr := hgp.kept k5
    kept := HK1.out.trans k35
    far := fun k hk => .inr (by have : R = k := by simpa [Value.ownBlock] using hk
                                omega)
    lt := fun k hk => by have : R = k := by simpa [Value.ownBlock] using hk
                         have := k35.size
                         have := k4.size
                         have := k5.size
                         omega }⟩)
  have HW4 := Lib.hid hW4
  clear hW4 hW5 k3 k4 k5 k35 hgp hs4 hs5 hbn hba4 hBn hBb hwk HWO HW1 HBA HRB
  go_wp2_with (rw [HW4.out])
  refine HN.out.mono ?_
  rintro e w5 ⟨rfl, rfl⟩
  clear HN HW4 g0 g1 g2 g3 g4 g5
  go_wp2_with fail
  refine wpIn_wide.1 (wpIn_rangeFunc_ownO (F := Fence.wide) (n := 3) rfl (by omega) (gf := 40) (lb := #[.pointer (some ⟨W4.heap.size, 0, none⟩)]) rfl trivial (enters_of Tryd.func40 (by kernel_rfl) rfl)
    (encs := encN) (S := itAll a) (Sp := itOk a) (G := itG a w5.heap.size) (b0 := w.heap.size) (smO g (w.heap.size + 2) (.slice (some ⟨R, 0, none⟩) 1 1))
    (fun k hk => by
      have := HSS.out
      rcases hk with (rfl | hk) | rfl
      · omega
      · have : R = k := by simpa [Value.ownBlock] using hk
        omega
      · omega)
    (fun Wq hkq hsq => nodes1_o (3 - 1) (by omega) a aa ca W4.heap.size w.heap.size w5.heap.size Wq (HB5.out.kept hkq) HOA.out (HKK.out Wq (HKW.out.trans hkq)) (by omega) (by have := HSS.out; omega) HCA.out)
    (fun s A B O h k => h.stay k) (fun _ => rfl) (smI a b w R g Bb (w.heap.size + 2) w3.heap.size) (smX a b w (w.heap.size + 2)) (fun s A B O h k => h.stay k (by have := HSS.out; omega) (by have := HSS.out; omega) (by have := HSS.out; omega)) (fun c s A B h k => h.stay k (by have := HSS.out; omega) (by have := HSS.out; omega)) HI0.out
    (fun i W => { tmps := #[ndV a (.slice aa a.kids.length ca), ndV b (.slice ab b.kids.length cb), .pointer (some ⟨w.heap.size, 0, none⟩), .pointer (some ⟨w.heap.size + 1, 0, none⟩), .pointer (some ⟨w.heap.size + 1 + 1, 0, none⟩), .pointer (some ⟨w3.heap.size, 0, none⟩), undef, .pointer (some ⟨i.2.1.1, i.2.1.2, none⟩), undef, undef, ndV b (.slice ab b.kids.length cb), .pointer (some ⟨g, 0, none⟩), ndV a (.slice aa a.kids.length ca), .func (.func 40) #[] #[.pointer (some ⟨W4.heap.size, 0, none⟩)], .agg #[.int .i64 i.1.1, .int .i64 i.1.2], .pointer (some ⟨i.2.1.1, i.2.1.2, none⟩), undef, undef, undef, undef, undef, undef, undef, undef, undef, undef], defers := [] })
    (fun i W => W) (fun i W => Kept.refl W) ?assign ?body ?done ?stop)
  case assign =>
    intro lr i W K hK
    gi_wp2
    first | exact hK | simpa using hK
  case body =>
    intro lr pre i W0 W O hlr hl0 hob hOl hI hG hsz
    obtain ⟨rs, v, rfl, hI⟩ := hI
    obtain ⟨D, hnd, hDO, hDl⟩ := hG.2 pre i rfl
    have hss := HSS.out
    have hpl : pre.length + 1 ≤ a.count := by
      have h1 := hG.1.1.length_le
      rw [List.length_map, Nd.count_all, List.length_append] at h1
      simpa using h1
    have hpre : pre.map plN = (a.all 0).take pre.length := by
      have h1 := List.prefix_iff_eq_take.1 hI.its.1
      rw [List.length_map] at h1; exact h1
    have hgo := same_goes (a := a) (b := b) (i := pre.length) (by omega) (by rw [← hpre]; exact hI.like)
    have hdr : (b.all 0).drop pre.length ≠ [] := fun h => by
      have := congrArg List.length h
      rw [List.length_drop, Nd.count_all] at this
      simp at this; omega
    have hrs : rs ≠ [] := fun h => hdr (by rw [hI.rest, h]; rfl)
    obtain ⟨rs0, r, rfl⟩ : ∃ rs0 r, rs = rs0 ++ [r] := ⟨rs.dropLast, rs.getLast hrs, (List.dropLast_concat_getLast hrs).symm⟩
    obtain ⟨hne, hkd, hab⟩ := hI.rows r (by simp)
    obtain ⟨rv, rl, ra⟩ := r
    dsimp only at hne hkd hab
    obtain ⟨y, ys, rfl⟩ : ∃ y ys, rl = y :: ys := by cases rl with
      | nil => exact absurd rfl hne
      | cons y ys => exact ⟨y, ys, rfl⟩
    obtain ⟨ra', rc, rfl, _⟩ := id hkd
    obtain ⟨b1, o1, rfl, hnl, hnc, hcm, hyn, hys⟩ := hkd.head
    obtain ⟨kad, kc, ⟨_, _, _, _, _, hk5⟩, hyok, hyk, hyD⟩ := hyn.cells
    have hvR : ∀ k, v.ownBlock = some k → R ≤ k := fun k hk => by rcases hI.far k hk with e | e <;> omega
    have hwS : ∀ k, (k < w.heap.size ∨ k = Bb) → ¬ walkS g v k := fun k hk hs => by
      rcases hs with e | e
      · omega
      · have := hvR k e; omega
    have hX : PerS (walkS g v) W (fun W => W.cell? ⟨b1, o1 + 5, none⟩ = some (.slice kad y.kids.length kc)) := fun w' hw' => by
      show w'.cell? _ = _
      rw [World.cell?_of_block (w := W) (a := ⟨b1, o1 + 5, none⟩) (hw'.block b1 hyn.lt (hwS b1 hyD))]; exact hk5
    have hlen := restR_len (rs0 ++ [(.slice (some ⟨b1, o1, none⟩) (y :: ys).length rc, y :: ys, ra)]) (fun q hq => (hI.rows q hq).1)
    rw [← hI.rest, List.length_drop, Nd.count_all, List.length_append, List.length_singleton] at hlen
    have HNX := Lib.hid (next_c g R v rs0 b1 o1 rc ra y ys kad kc W hI.walk hX hnc (by omega) (by have := HCA.out; omega) (by have := HCB.out; omega))
    have hrest : (b.all 0).drop pre.length = (ra, y) :: restR (rs0 ++ moreR b1 o1 rc y ys ra kad kc) := by rw [hI.rest, restR_more rs0 b1 o1 rc y ys ra kad kc]
    have hat : (b.all 0)[pre.length]? = some (ra, y) := by
      have := congrArg (fun l => l[0]?) hrest
      simpa using this
    have hdr2 : (b.all 0).drop (pre.length + 1) = restR (rs0 ++ moreR b1 o1 rc y ys ra kad kc) := by
      have := congrArg List.tail hrest
      rw [List.tail_drop] at this
      simpa using this
    have gp := hI.ptr.cell 0
    have HP := Lib.hid hI.ptr
    have HRS := Lib.hid hI.res
    have HKP := Lib.hid hI.kept
    have HLK := Lib.hid hI.like
    have HRW := Lib.hid hI.rows
    have HND := Lib.hid hnd
    have HDO := Lib.hid hDO
    have HYN := Lib.hid hyn
    have HYS := Lib.hid hys
    have HYK := Lib.hid hyk
    have HWS := Lib.hid hwS
    have HVR := Lib.hid hvR
    have HAB := Lib.hid hab
    have HVL := Lib.hid hI.lt
    have HFA := Lib.hid hI.far
    have HVP := Lib.hid (ne_row_blk hI.ptr (by decide) hI.walk.2)
    have HWW := Lib.hid (show W0.heap.size ≤ W.heap.size from hob.size)
    have HAT := Lib.hid hat
    have HD2 := Lib.hid hdr2
    have HIT := Lib.hid hG.1
    have HPL := Lib.hid hpl
    have HPRE := Lib.hid hpre
    have HZW := Lib.hid (show w3.heap.size < W0.heap.size ∧ w3.heap.size < W.heap.size from by have := hob.size; omega)
    simp only [List.getElem?_toArray, List.getElem?_cons_zero] at gp
    clear hI hG hob hOl hnd hDO hDl hpl hpre hgo hdr hrs hne hkd hab hnl hnc hcm hyn hys hyk hk5 hyok hyD hvR hwS hX hlen hrest hat hdr2 HI0 hss hz1 hz2 hz3 hz4 hz5
    gi_wp2
    refine ⟨trivial, (callsIn_wide.2 HNX.out).mono ?_⟩
    rintro e w6 ⟨rfl, v', hwk6, ho6, hv6⟩
    clear HNX gp
    have hnd6 := HND.out.only ho6 (fun k hk hs => HDO.out k (.inl hs) hk)
    have hyn6 := HYN.out.only ho6 HWS.out
    have HOW := Lib.hid (ownOf_l i.2.1.1 i.2.1.2 i.2.2 w6 hnd6.at)
    have HOY := Lib.hid (fun Wz (k : Kept w6 Wz) => ownOf_l b1 o1 y Wz (hyn6.at.kept k))
    have HW6 := Lib.hid hwk6
    have HO6 := Lib.hid ho6
    have HV6 := Lib.hid hv6
    clear hwk6 ho6 hv6 hnd6 hyn6
    gi_wp2
    refine ⟨trivial, (callsIn_wide.2 HOW.out).mono ?_⟩
    rintro e w7 ⟨rfl, k7⟩
    gi_wp2
    refine ⟨trivial, (callsIn_wide.2 (HOY.out w7 k7)).mono ?_⟩
    rintro e w8 ⟨rfl, k8⟩
    have k68 := k7.trans k8
    have HO8 := Lib.hid (show Only (fun k => smO g (w.heap.size + 2) v k ∨ W0.heap.size ≤ k) W w8 from (HO6.out.trans (Only.of_kept k68)).mono fun k _ h => .inl (.inl h))
    have HK8 := Lib.hid (show Kept w w8 from (HKP.out.only HO6.out rfl (fun k hk => by
      have := HSS.out
      rcases hk with e | e
      · omega
      · have := HVR.out k e; omega)).trans k68)
    have HR8 := Lib.hid ((HRS.out.only HO6.out (fun h => by
      have := HSS.out
      rcases h with e | e
      · omega
      · have := HVR.out _ e; omega)).kept k68)
    clear k7 HOW HOY
    by_cases heq : ownP i.2.2 = ownP y
    · obtain ⟨q1, q2, q3, q4, q5, q6⟩ := ow_parts heq
      have HR := Lib.hid (show smI a b w R g Bb (w.heap.size + 2) w3.heap.size (pre ++ [i]) w8 (smO g (w.heap.size + 2) v') from ⟨_, v', rfl, {
        walk := ⟨HW6.out.1.kept k68, owns_kept HW6.out.2 k68⟩
        rows := by
          have h1 := RowsOk.more (a := ra) (b := b1) (o := o1) (c := rc) (x := y) (r := ys) (ad := kad) (ck := kc) ((show RowsOk (fun k => k < w.heap.size ∨ k = Bb) W pre.length rs0 from fun q hq => HRW.out q (List.mem_append_left _ hq)).only HO6.out HWS.out) (HYS.out.only HO6.out HWS.out) (HYK.out.only HO6.out HWS.out) HAB.out
          rw [List.length_append]
          exact fun q hq => ⟨(h1 q hq).1, (h1 q hq).2.1.kept k68, (h1 q hq).2.2⟩
        rest := by rw [List.length_append]; exact HD2.out
        like := by
          rw [List.map_append, List.map_append, List.length_append, List.length_singleton, List.take_add_one, List.map_append, HAT.out, HLK.out]
          show _ ++ [ownP i.2.2] = _ ++ [ownP y]
          rw [heq]
        its := HIT.out
        res := HR8.out
        ptr := (HP.out.only HO6.out (fun h => by
          have := HSS.out
          rcases h with e | e
          · omega
          · exact HVP.out e)).kept k68
        kept := HK8.out
        far := fun k hk => by
          have := HSS.out
          rcases HV6.out k hk with e | e
          · exact HFA.out k e
          · have := HZW.out; left; omega
        lt := fun k hk => by
          have h2 := (rown_lt HW6.out.2 hk)
          have := k68.size; omega }⟩)
      have HOO := Lib.hid (show ∀ k, smO g (w.heap.size + 2) v' k → smO g (w.heap.size + 2) v k ∨ (W0.heap.size ≤ k ∧ k < w8.heap.size) from fun k hk => by
        rcases hk with (rfl | hk) | rfl
        · exact .inl (.inl (.inl rfl))
        · rcases HV6.out k hk with e | e
          · exact .inl (.inl (.inr e))
          · exact .inr ⟨by have := HZW.out; have := HWW.out; omega, by have := rown_lt HW6.out.2 hk; have := k68.size; omega⟩
        · exact .inl (.inr rfl))
      have HQ := Lib.hid heq
      clear k8 k68 heq HO6 HV6 HW6 HND HPL HIT HAT HLK HRW HP HRS HDO HYN HYS HYK
      gi_wp2
      exact ⟨HO8.out, _, HOO.out, HR.out⟩
    · have HX := Lib.hid (show smX a b w (w.heap.size + 2) .ret (pre ++ [i]) (w8.setCell ⟨w.heap.size + 2, 0, none⟩ (.bool false)) from ⟨rfl, by simpa using HR8.out.put 0 (.bool false), HK8.out.setCell (by simp) _, by
        unfold sameP
        rw [decide_eq_false_iff_not]
        intro hc
        have h1 := congrArg (fun l => l[pre.length]?) hc
        have hpl := HPL.out
        have hai : (a.all 0)[pre.length]? = some (plN i) := by
          have h2 := HIT.out.1
          rw [List.map_append] at h2
          obtain ⟨t2, h3⟩ := h2
          rw [← h3, List.append_assoc, List.getElem?_append_right (by simp)]
          simp
        simp only [List.getElem?_map, hai, List.getElem?_take_of_lt (show pre.length < a.count by omega), HAT.out, Option.map_some, Option.some.injEq] at h1
        exact heq h1⟩)
      have HO9 := Lib.hid (HO8.out.setCell (p := ⟨w.heap.size + 2, 0, none⟩) (.inl (.inl (.inr rfl))) (.bool false))
      have e0 : w8.cell? ⟨w.heap.size + 1 + 1, 0, none⟩ = some (.bool false) := HR8.out.cell 0
      have f0 : w8.frozen? ⟨w.heap.size + 1 + 1, 0, none⟩ = false := HR8.out.frozen 0
      have HNE := Lib.hid heq
      clear k8 k68 heq HO6 HV6 HW6 HND HPL HIT HAT HLK HRW HP HRS HDO HYN HYS HYK
      gi_wp2
      all_goals first | exact ⟨HO9.out, HX.out⟩ | exact absurd (ow_eq ‹_› ‹_› ‹_› ‹_› ‹_› ‹_›) HNE.out
  case done =>
    rintro D xs W O hD hS ⟨rs, v, rfl, hI⟩ hK
    have hsp : sameP a b = true := by
      unfold sameP
      rw [decide_eq_true_eq, ← hS.1]
      have h1 := congrArg List.length hS.1
      rw [List.length_map, Nd.count_all] at h1
      rw [← h1]; exact hI.like
    have e0 := hI.res.cell 0
    have f0 := hI.res.frozen 0
    simp only [List.getElem?_toArray, List.getElem?_cons_zero] at e0
    have hss := HSS.out
    have b3 := hI.res.put 0 (.bool true)
    have ho3 : Only (· = w.heap.size + 2) W (W.setCell ⟨w.heap.size + 2, 0, none⟩ (.bool true)) := (Only.refl _ W).put 0 _
    have hK2 := ho3.same hK (by omega)
    have hd : Only (· = D) (W.setCell ⟨w.heap.size + 2, 0, none⟩ (.bool true)) ((W.setCell ⟨w.heap.size + 2, 0, none⟩ (.bool true)).putObj D (.deferred none)) := (Only.refl (· = D) _).putObj (.inl rfl) _
    have HB := Lib.hid (show Blk ((W.setCell ⟨w.heap.size + 2, 0, none⟩ (.bool true)).putObj D (.deferred none)) (w.heap.size + 2) 4 #[.bool true] from by have := b3.only hd (by omega); simpa using this)
    have HZ := Lib.hid ((hI.kept.only ho3 rfl (fun k hk => by omega)).only hd rfl (fun k hk => by omega))
    have HK2 := Lib.hid hK2
    have HSP := Lib.hid hsp
    clear hI b3 ho3 hK hK2 hd hD hS hss hsp
    go_wp2_with fail
    refine ⟨by simp, .inl ⟨_, _, rfl, run_takeDeferred HK2.out, ?_⟩⟩
    exact ⟨_, bool_results (by rfl) _ _ rfl HB.out, by rw [HSP.out], HZ.out⟩
  case stop =>
    rintro D cd pre W hD hpre ⟨rfl, h1, h2, h3⟩ hK
    have hss := HSS.out
    have hd : Only (· = D) W (W.putObj D (.deferred none)) := (Only.refl (· = D) _).putObj (.inl rfl) _
    have HB := Lib.hid (h1.only hd (by omega))
    have HZ := Lib.hid (h2.only hd rfl (fun k hk => by omega))
    have HSP := Lib.hid h3
    clear h1 h2 h3 hd hD hss
    gi_wp2
    refine ⟨by simp, .inl ⟨_, _, rfl, run_takeDeferred hK, ?_⟩⟩
    exact ⟨_, bool_results (by rfl) _ _ rfl HB.out, by rw [HSP.out], HZ.out⟩

end Go.Proofs.YtgdmcdjkmgpkpaaDoor
