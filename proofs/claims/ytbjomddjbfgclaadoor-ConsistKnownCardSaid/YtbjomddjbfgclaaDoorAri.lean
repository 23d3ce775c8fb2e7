/- The contract of table.Arity. -/
import Derived.Test.YtbjomddjbfgclaaDoorBks
import Derived.Test.YtbjomddjbfgclaaDoorKey
set_option linter.unusedSimpArgs false
set_option linter.unusedVariables false
set_option maxRecDepth 100000
namespace Go.Proofs.YtbjomddjbfgclaaDoor
open Go.ChangeShapes Go.WideShapes Go.ChangeAt Go.RowKit Go.Shelf
attribute [local go_sem] Oper.semAt_some

/-- The name, and the results' cells. -/
def AriC (nm : ByteArray) (w : World) (n : Int) (b : Bool) (W : World) : Prop :=
  Blk W w.heap.size 9 #[.string nm] ∧ Blk W (w.heap.size + 1) 3 #[.int .i64 n] ∧ Blk W (w.heap.size + 1 + 1) 4 #[.bool b] ∧ Kept w W
theorem ariC_only {nm : ByteArray} {w A B : World} {n : Int} {b : Bool} {S : Nat → Prop} (h : AriC nm w n b A) (ho : Only S A B) (hs : ∀ k, S k → w.heap.size + 3 ≤ k) : AriC nm w n b B :=
  ⟨h.1.only ho (fun e => by have := hs _ e; omega), h.2.1.only ho (fun e => by have := hs _ e; omega), h.2.2.1.only ho (fun e => by have := hs _ e; omega), h.2.2.2.onlyS ho (fun k e => by have := hs k e; omega)⟩
theorem ariC_set {nm : ByteArray} {w W : World} {n : Int} {b : Bool} (h : AriC nm w n b W) (m : Int) (c : Bool) :
    AriC nm w m c ((W.setCell ⟨w.heap.size + 1, 0, none⟩ (.int .i64 m)).setCell ⟨w.heap.size + 1 + 1, 0, none⟩ (.bool c)) ∧
      Only (fun k => k = w.heap.size + 1 ∨ k = w.heap.size + 1 + 1) W ((W.setCell ⟨w.heap.size + 1, 0, none⟩ (.int .i64 m)).setCell ⟨w.heap.size + 1 + 1, 0, none⟩ (.bool c)) := by
  have hO : Only (fun k => k = w.heap.size + 1 ∨ k = w.heap.size + 1 + 1) W ((W.setCell ⟨w.heap.size + 1, 0, none⟩ (.int .i64 m)).setCell ⟨w.heap.size + 1 + 1, 0, none⟩ (.bool c)) :=
    ((Only.refl _ W).setCell (p := ⟨w.heap.size + 1, 0, none⟩) (.inl (.inl rfl)) _).setCell (p := ⟨w.heap.size + 1 + 1, 0, none⟩) (.inl (.inr rfl)) _
  refine ⟨⟨h.1.only hO (by omega), ?_, ?_, h.2.2.2.onlyS hO (fun k h => by omega)⟩, hO⟩
  · exact (h.2.1.put 0 (.int .i64 m)).only ((Only.refl (· = w.heap.size + 1 + 1) _).put 0 _) (by omega)
  · exact (h.2.2.1.only ((Only.refl (· = w.heap.size + 1) W).put 0 (.int .i64 m)) (by omega)).put 0 _

def AriI (t : List Tab.C) (nm : ByteArray) (w : World) (pre : List Nat) (W : World) : Prop :=
  AriC nm w 0 false W ∧ ∀ i ∈ pre, Tab.lastOf nm (Tab.nth t i).methods = none
def AriX (t : List Tab.C) (nm : ByteArray) (w : World) (c : Code) (pre : List Nat) (W : World) : Prop :=
  c = .ret ∧ ∃ pre0 i m, pre = pre0 ++ [i] ∧ (∀ i ∈ pre0, Tab.lastOf nm (Tab.nth t i).methods = none) ∧ Tab.lastOf nm (Tab.nth t i).methods = some m ∧ AriC nm w m.params.length true W

/-- Within the loop over a class's methods. -/
def AriJ (nm : ByteArray) (w Wr : World) (n₁ n₂ : Nat) (pre : List (MV × Nat)) (W : World) : Prop :=
  n₂ ≤ W.heap.size ∧ AriC nm w 0 false W ∧ (∀ y ∈ pre, ¬ y.1.1.1.name = nm) ∧ Only (fun k => (k = w.heap.size + 1 ∨ k = w.heap.size + 1 + 1) ∨ n₁ ≤ k) Wr W
def AriY (nm : ByteArray) (w Wr : World) (n₁ : Nat) (c : Code) (pre : List (MV × Nat)) (W : World) : Prop :=
  c = .ret ∧ ∃ (pre0 : List (MV × Nat)) (y : MV × Nat), pre = pre0 ++ [y] ∧ (∀ z ∈ pre0, ¬ z.1.1.1.name = nm) ∧ y.1.1.1.name = nm ∧ AriC nm w y.1.1.1.params.length true W ∧ Only (fun k => (k = w.heap.size + 1 ∨ k = w.heap.size + 1 + 1) ∨ n₁ ≤ k) Wr W

theorem KeepsFrom.of_only {S : Nat → Prop} {B : Nat} {W W' : World} (h : Only S W W') (hs : ∀ k, S k → k < B) : KeepsFrom B W W' :=
  ⟨h.size, fun k o hk ho _ => h.same ho fun e => by have := hs k e; omega⟩

theorem own_from {β : Type} {B : Nat} {I : β → World → Prop} (h : ∀ s X Y, I s X → Only (fun k => B ≤ k) X Y → I s Y) : OwnFrom B I := by
  intro s X Y row hs hg hr
  exact h s X Y hs ((Only.refl _ X).grown hg fun k e => .inl (hr k e).1)

theorem last_none {nm : ByteArray} {L : List MV} {l : List Tab.M} (hL : L.map (fun x => x.1.1) = l) (h : ∀ y ∈ bk L 0, ¬ y.1.1.1.name = nm) : Tab.lastOf nm l = none := by
  unfold Tab.lastOf
  rw [List.find?_eq_none]
  intro m hm
  rw [List.mem_reverse, ← hL, List.mem_map] at hm
  obtain ⟨x, hx, rfl⟩ := hm
  obtain ⟨k, hk, rfl⟩ := List.getElem_of_mem hx
  have : (L[k], k) ∈ bk L 0 := by
    unfold bk
    rw [List.drop_zero, List.mem_reverse, List.mem_zipIdx_iff_getElem?]
    exact List.getElem?_eq_getElem hk
  simpa using h _ this
theorem last_some {nm : ByteArray} {L : List MV} {l : List Tab.M} (hL : L.map (fun x => x.1.1) = l) {pre : List (MV × Nat)} {y : MV × Nat} (hp : (pre ++ [y]) <+: bk L 0) (h : ∀ y ∈ pre, ¬ y.1.1.1.name = nm) (hy : y.1.1.1.name = nm) : Tab.lastOf nm l = some y.1.1.1 := by
  obtain ⟨r, hr⟩ := hp
  have e : l.reverse = (pre ++ [y] ++ r).map fun z => z.1.1.1 := by
    rw [hr, ← hL, ← List.map_reverse, ← bk_fst, List.map_map]; rfl
  unfold Tab.lastOf
  rw [e, List.map_append, List.map_append, List.append_assoc, List.find?_append, List.find?_eq_none.2 (fun m hm => by
    obtain ⟨z, hz, rfl⟩ := List.mem_map.1 hm
    simpa using h z hz)]
  simp [hy]

theorem arity_no {t : List Tab.C} {s nm : ByteArray} (hf : Tab.field t s nm = none) (h : ∀ i ∈ Tab.line t s, Tab.lastOf nm (Tab.nth t i).methods = none) : Tab.arity t s nm = none := by
  unfold Tab.arity
  rw [hf]
  rw [if_neg (by simp), List.findSome?_eq_none_iff]
  intro i hi
  rw [h i hi]; rfl
theorem arity_yes {t : List Tab.C} {s nm : ByteArray} {pre : List Nat} {i : Nat} {m : Tab.M} (hf : Tab.field t s nm = none) (hp : (pre ++ [i]) <+: Tab.line t s) (h : ∀ i ∈ pre, Tab.lastOf nm (Tab.nth t i).methods = none) (hm : Tab.lastOf nm (Tab.nth t i).methods = some m) : Tab.arity t s nm = some (m.params.length : Int) := by
  obtain ⟨r, hr⟩ := hp
  unfold Tab.arity
  rw [hf]
  rw [if_neg (by simp), ← hr, List.append_assoc, List.findSome?_append, List.findSome?_eq_none_iff.2 (fun j hj => by rw [h j hj]; rfl)]
  simp [hm]
theorem arity_fld {t : List Tab.C} {s nm : ByteArray} {x : ByteArray} (hf : Tab.field t s nm = some x) : Tab.arity t s nm = some (-1) := by
  unfold Tab.arity
  rw [hf]; rfl

set_option maxHeartbeats 4000000 in
theorem arity_c (a : Option Addr) (c : Nat) (t : List Tab.C) (s nm : ByteArray) (w : World) (hT : TabAt w (.slice a t.length c) t) (hS : Small t) :
    Calls Tryd.prog 14 #[.slice a t.length c, .string s, .string nm] w fun e w' => e = .returned (.tuple #[.int .i64 ((Tab.arity t s nm).getD 0), .bool (Tab.arity t s nm).isSome]) ∧ Kept w w' := by
  have ht := hS.len
  refine (callsIn_wide (n := 3)).1 (callsIn_of_wp_marks Tryd.func14 rfl trivial (wpIn_wide.2 ?_) rfl)
  simp only [Tryd.ntmps14, List.size_toArray, List.length_cons, List.length_nil, Nat.reduceAdd, Nat.reduceSub, Array.replicate_succ, Array.replicate_zero, List.push_toArray, List.append_toArray, List.nil_append, List.cons_append]
  have HT := Lib.hid hT
  clear hT
  go_wp2_with fail
  obtain ⟨W1, hW1⟩ : ∃ W1, ((w.alloc (.cells #[.string nm] 9)).alloc (.cells #[.int .i64 0] 3)).alloc (.cells #[.bool false] 4) = W1 := ⟨_, rfl⟩
  have hI1 : AriC nm w 0 false W1 := by
    rw [← hW1]
    have h2 := Blk.new (w.alloc (.cells #[.string nm] 9)) 3 #[.int .i64 0]
    have h3 := Blk.new ((w.alloc (.cells #[.string nm] 9)).alloc (.cells #[.int .i64 0] 3)) 4 #[.bool false]
    simp only [World.size_alloc] at h2 h3
    exact ⟨((Blk.new w _ _).alloc _).alloc _, h2.alloc _, h3, (((Kept.refl w).alloc _).alloc _).alloc _⟩
  have HS1 := Lib.hid (show W1.heap.size = w.heap.size + 3 by rw [← hW1]; simp)
  rw [hW1]
  clear hW1
  have HF := Lib.hid (field_c a c t s nm W1 (tab_kept HT.out hI1.2.2.2) ht)
  have HI1 := Lib.hid hI1
  clear hI1
  cases hfd : Tab.field t s nm with
  | some x =>
    have HX := Lib.hid hfd
    rw [hfd] at HF
    have HAR := Lib.hid (arity_fld hfd)
    clear hfd
    simp only [Option.getD_some, Option.isSome_some] at HF
    refine HF.out.mono ?_
    rintro e w2 ⟨rfl, hk2⟩
    have hA := ariC_only HI1.out (S := fun _ => False) (Only.of_kept hk2) (fun _ h => h.elim)
    have hq1 := hA.2.1.cell 0
    have hq2 := hA.2.2.1.cell 0
    have hf1 := hA.2.1.frozen 0
    have hf2 := hA.2.2.1.frozen 0
    have HE := Lib.hid (ariC_set hA (-1) true)
    simp at hq1 hq2
    clear hA hk2 HF
    go_wp2
    have q1 := HE.out.1.2.1.cell 0
    have q2 := HE.out.1.2.2.1.cell 0
    simp only [List.getElem?_toArray, List.getElem?_cons_zero] at q1 q2
    exact ⟨.tuple #[.int .i64 (-1), .bool true], by simp [results, Tryd.results14, go_sem, q1, q2], by rw [HAR.out]; first | done | rfl, HE.out.1.2.2.2⟩
  | none =>
    have HX := Lib.hid hfd
    rw [hfd] at HF
    clear hfd
    simp only [Option.getD_none, Option.isSome_none] at HF
    refine HF.out.mono ?_
    rintro e w2 ⟨rfl, hk2⟩
    have HI2 := Lib.hid (ariC_only HI1.out (S := fun _ => False) (Only.of_kept hk2) (fun _ h => h.elim))
    have HS2 := Lib.hid (show w.heap.size + 3 ≤ w2.heap.size by have := HS1.out; have := hk2.size; omega)
    clear hk2 HF
    go_wp2_with fail
    refine (line_lineC a c t s _).mono ?_
    rintro e w3 ⟨rfl, hw3⟩
    have HK3 := Lib.hid (show Kept w2 w3 by rw [hw3]; exact ((Kept.refl w2).alloc _).alloc _)
    have HS3 := Lib.hid (show w3.heap.size = w2.heap.size + 2 by rw [hw3]; simp)
    have HB1 := Lib.hid (show Blk w3 w2.heap.size 22 #[.slice a t.length c] by rw [hw3]; exact (Blk.new _ _ _).alloc _)
    have HB2 := Lib.hid (show Blk w3 (w2.heap.size + 1) 9 #[.string s] by
      rw [hw3]
      have := Blk.new (w2.alloc (.cells #[.slice a t.length c] 22)) 9 #[.string s]
      simpa using this)
    clear hw3
    go_wp2_with fail
    have e2 := HS2.out
    have e3 : w2.heap.size + 2 ≤ w3.heap.size := by have := HS3.out; omega
    have hI3 : AriI t nm w [] w3 := ⟨ariC_only HI2.out (S := fun _ => False) (Only.of_kept HK3.out) (fun _ h => h.elim), by simp⟩
    refine wpIn_wide.1 (wpIn_range_line (w0 := w) (bt := w2.heap.size) (bn := w2.heap.size + 1) a c t s (fun k => k = w.heap.size + 1 ∨ k = w.heap.size + 1 + 1) rfl HT.out ht hI3.1.2.2.2 HB1.out HB2.out (by omega) (by omega) (by omega) (fun k e => by omega) rfl
      (AriI t nm w) (AriX t nm w) (fun pre A B h o => ⟨ariC_only h.1 o (fun k h => by omega), h.2⟩) ?hIx hI3
      (fun i => { tmps := #[.slice a t.length c, .string s, .string nm, undef, undef, .pointer (some ⟨w.heap.size, 0, none⟩), .pointer (some ⟨w.heap.size + 1, 0, none⟩), .pointer (some ⟨w.heap.size + 1 + 1, 0, none⟩), .string ⟨#[]⟩, .bool false, elC a i, undef, undef, .tuple #[.string ⟨#[]⟩, .bool false], .slice a t.length c, .string s, .string nm, .tuple #[.string ⟨#[]⟩, .bool false], .string ⟨#[]⟩, .bool false, .bool false, .slice a t.length c, .string s, .func (.func 66) #[] #[.pointer (some ⟨w2.heap.size, 0, none⟩), .pointer (some ⟨w2.heap.size + 1, 0, none⟩)], elC a i, undef, undef, undef, undef, undef, undef, undef, undef, undef, undef, undef, undef, undef, undef], defers := [] }) ?assign ?body ?done ?stop)
    case hIx =>
      rintro c pre A B ⟨rfl, pre0, i, m, h1, h2, h3, h4⟩ o
      exact ⟨rfl, pre0, i, m, h1, h2, h3, ariC_only h4 o (fun k h => by omega)⟩
    case assign =>
      intro l i W K hK
      gi_wp2
      exact hK
    case body =>
      rintro l pre i b o W hl ⟨r, hr⟩ hIW hsize hpre hi' rfl hcl
      obtain ⟨_, _, _, ⟨u, hcw, hu⟩, _⟩ := hcl
      have hc0 := hIW.1.2.2.2.cell hcw
      obtain ⟨ma, mc, L, hue, hLl, hMv⟩ := mv_of_row hu
      subst hue
      have hLn : L.length = (Tab.nth t i).methods.length := by rw [← hLl, List.length_map]
      have hnb := hIW.1.1.cell 0
      have HI := Lib.hid hIW
      have HMV := Lib.hid hMv
      have HLL := Lib.hid hLl
      have HLN := Lib.hid hLn
      have HR := Lib.hid hr
      have HML := Lib.hid (hS.methods _ (nth_mem hi'))
      have HSZ := Lib.hid hsize
      have HLT := Lib.hid (Array.getElem?_eq_some_iff.1 hr).1
      simp only [elC, evC, Option.map_some]
      simp at hnb
      clear hcw hu hpre hIW hMv hLl hr hLn hsize hI3 HI2 HI1
      gi_wp2
      refine ⟨trivial, (CallsIn.inRound l (callsIn_wide.2 (back_sigC _ _ ⟨_, _, _, rfl⟩))).mono ?_⟩
      rintro e W2 ⟨rfl, hW2⟩
      have HK2 := Lib.hid (show Kept W W2 by rw [hW2]; exact (Kept.refl W).alloc _)
      have HB2 := Lib.hid (show Blk W2 W.heap.size 43 #[.slice ma L.length mc] by rw [hW2, HLN.out]; exact Blk.new _ _ _)
      have HS2' := Lib.hid (show W2.heap.size = W.heap.size + 1 by rw [hW2]; simp)
      clear hW2
      gi_wp2
      have hI2 := ariC_only HI.out.1 (S := fun _ => False) (Only.of_kept HK2.out) (fun _ h => h.elim)
      have hn₁ : w3.heap.size + 3 ≤ W.heap.size := by have := HSZ.out; omega
      have hs2 := HS2'.out
      refine wpIn_rangeFunc_ownN (F := Fence.wide.inRound l) (n := 1) (l₀ := l) (r₀ := r) rfl ((HK2.out.block l HLT.out).trans HR.out) (by omega) (gf := 71) (lb := #[.pointer (some ⟨W.heap.size, 0, none⟩)]) rfl trivial (enters_of Tryd.func71 (by kernel_rfl) rfl)
        ((backs_stops (1 - 1) L ma mc W.heap.size w W2 (by rw [HLN.out]; exact HML.out) HMV.out hI2.2.2.2 HB2.out).inRound l) (fun h k => kpn_t h k)
        (fun X l' o o' h1 h2 h3 h4 => ⟨rfl, rfl, by simp [World.putObj], fun k hk => World.putObj_heap_other (by have := hI2.2.2.2.size; omega)⟩) (Below.refl _ _) (fun _ => rfl)
        (AriJ nm w W (w3.heap.size + 3) W2.heap.size) (AriY nm w W (w3.heap.size + 3))
        (own_from fun s X Y h ho => ⟨Nat.le_trans h.1 ho.size, ariC_only h.2.1 ho (fun k e => by omega), h.2.2.1, h.2.2.2.trans (ho.mono fun k _ e => .inr (by omega))⟩)
        (fun c => own_from fun s X Y ⟨h1, pre0, y, h2, h3, h4, h5, h6⟩ ho => ⟨h1, pre0, y, h2, h3, h4, ariC_only h5 ho (fun k e => by omega), h6.trans (ho.mono fun k _ e => .inr (by omega))⟩)
        ⟨Nat.le_refl _, hI2, by simp, Only.of_kept HK2.out⟩
        (fun y a' W' => ∃ Bx, W2.heap.size ≤ Bx ∧ Blk W' Bx 26 #[.string y.1.1.1.name, y.1.1.2, .string y.1.1.1.res] ∧ a' = { tmps := #[.slice (some ⟨b, o, none⟩) t.length c, .string s, .string nm, undef, undef, .pointer (some ⟨w.heap.size, 0, none⟩), .pointer (some ⟨w.heap.size + 1, 0, none⟩), .pointer (some ⟨w.heap.size + 1 + 1, 0, none⟩), .string ⟨#[]⟩, .bool false, .pointer (some ⟨b, o + i * 4, none⟩), undef, .pointer (some ⟨Bx, 0, none⟩), .tuple #[.string ⟨#[]⟩, .bool false], .slice (some ⟨b, o, none⟩) t.length c, .string s, .string nm, .tuple #[.string ⟨#[]⟩, .bool false], .string ⟨#[]⟩, .bool false, .bool false, .slice (some ⟨b, o, none⟩) t.length c, .string s, .func (.func 66) #[] #[.pointer (some ⟨w2.heap.size, 0, none⟩), .pointer (some ⟨w2.heap.size + 1, 0, none⟩)], .pointer (some ⟨b, o + i * 4, none⟩), .pointer (some ⟨b, o + i * 4, none⟩), .pointer (some ⟨b, o + i * 4, none⟩), .pointer (some ⟨b, o + i * 4 + 3, none⟩), .slice ma (Tab.nth t i).methods.length mc, .func (.func 71) #[] #[.pointer (some ⟨W.heap.size, 0, none⟩)], .int .i64 y.2, y.1.val, undef, undef, undef, undef, undef, undef, undef], defers := [] })
        (fun y a' => fun _ X Y row ⟨Bx, h1, h2, h3⟩ hg hr => ⟨Bx, h1, h2.grown hg (fun r e => (hr r e).2), h3⟩) ?assign2 ?body2 ?done2 ?stop2
      case assign2 =>
        rintro l' pre2 ⟨⟨⟨m, p⟩, pa, pc, hp⟩, kk⟩ W' K hi hK
        dsimp only at hp
        subst hp
        simp only [MV.val]
        have HH := Lib.hid hi
        have HKK := Lib.hid hK
        clear hi hK hI2
        gi_wp2
        refine HKK.out _ _ ((KeepsOthers.alloc _ _).from _) (Kpn.of_only ((Only.refl (fun _ => False) _).alloc _) ?_ ?_ (fun _ h => h.elim)) ⟨?_, ariC_only HH.out.2.1 ((Only.refl (fun _ => False) _).alloc _) (fun _ h => h.elim), HH.out.2.2.1, HH.out.2.2.2.alloc _⟩ ⟨W'.heap.size, HH.out.1, Blk.new _ _ _, rfl⟩
        · exact HH.out.2.1.2.2.2.size
        · have := HH.out.1; omega
        · have := HH.out.1; simp; omega
      case body2 =>
        rintro l' pre2 ⟨⟨⟨m, p⟩, pa, pc, hp⟩, kk⟩ a' W' hl' _ hi ⟨Bx, hBx, hblk, rfl⟩ hlt
        dsimp only at hp
        subst hp
        have b0 := hblk.cell 0
        have b1 := hblk.cell 1
        have q0 := hi.2.1.1.cell 0
        have q1 := hi.2.1.2.1.cell 0
        have q2 := hi.2.1.2.2.1.cell 0
        have f1 := hi.2.1.2.1.frozen 0
        have f2 := hi.2.1.2.2.1.frozen 0
        simp at b0 b1 q0 q1 q2
        have HH := Lib.hid hi
        clear hi hI2 hblk
        by_cases hx : m.name = nm
        · have HX := Lib.hid hx
          have hb := beq_yes hx
          clear hx
          gi_wp2
          have hE := ariC_set HH.out.2.1 (m.params.length : Int) true
          exact ⟨(KeepsFrom.of_only hE.2 (fun k h => by have := HH.out.2.1.2.2.2.size; have := HSZ.out; have := HS2'.out; omega)), rfl, pre2, _, rfl, HH.out.2.2.1, HX.out, hE.1, HH.out.2.2.2.trans (hE.2.mono fun k _ h => .inl h)⟩
        · have HX := Lib.hid hx
          have hb := beq_no hx
          clear hx
          gi_wp2
          refine ⟨KeepsFrom.refl _ _, ⟨rfl, rfl, Nat.le_refl _, fun _ _ => rfl⟩, HH.out.1, HH.out.2.1, fun z hz => ?_, HH.out.2.2.2⟩
          rcases List.mem_append.1 hz with hz | hz
          · exact HH.out.2.2.1 z hz
          · simp at hz
            subst hz
            exact HX.out
      case done2 =>
        rintro xs W' rfl hi
        have HH := Lib.hid hi
        clear hi hI2
        gi_wp2
        refine ⟨HH.out.2.2.2, HH.out.2.1, fun j hj => ?_⟩
        rcases List.mem_append.1 hj with hj | hj
        · exact HI.out.2 j hj
        · simp at hj
          subst hj
          exact last_none HLL.out HH.out.2.2.1
      case stop2 =>
        rintro c2 pre2 W' hpre2 ⟨rfl, pre0, y, rfl, h1, h2, h3, h4⟩
        have HA := Lib.hid h3
        have HO := Lib.hid h4
        have HL := Lib.hid (last_some HLL.out hpre2 h1 h2)
        clear hI2 h1 h2 h3 h4 hpre2
        gi_wp2
        exact ⟨HO.out, rfl, pre, i, _, rfl, HI.out.2, HL.out, HA.out⟩
    case done =>
      rintro D W hD hIW hd
      have HI := Lib.hid hIW
      have hDn : w.heap.size + 5 ≤ D := by omega
      have hq1 := hIW.1.2.1.cell 0
      have hq2 := hIW.1.2.2.1.cell 0
      have hf1 := hIW.1.2.1.frozen 0
      have hf2 := hIW.1.2.2.1.frozen 0
      have hE := ariC_set hIW.1 0 false
      have hd' := hE.2.same hd (by omega)
      have hR := ariC_only hE.1 (Only.putObj (Only.refl (· = D) _) (.inl rfl) (.deferred none)) (fun k h => by omega)
      have HR := Lib.hid hR
      have HE := Lib.hid hd'
      simp at hq1 hq2
      clear hIW hD hI3 HI1 HI2 e2 e3 hd' hR hE hDn hd
      go_wp2
      clear hq1 hq2 hf1 hf2
      have q1 := HR.out.2.1.cell 0
      have q2 := HR.out.2.2.1.cell 0
      simp only [List.getElem?_toArray, List.getElem?_cons_zero] at q1 q2
      generalize ((W.setCell ⟨w.heap.size + 1, 0, none⟩ (Value.int .i64 0)).setCell ⟨w.heap.size + 1 + 1, 0, none⟩ (Value.bool false)) = Wf at *
      refine ⟨by simp, .inl ⟨_, _, rfl, run_takeDeferred HE.out, ?_⟩⟩
      exact ⟨.tuple #[.int .i64 0, .bool false], by simp [results, Tryd.results14, go_sem, q1, q2], by rw [arity_no HX.out HI.out.2]; first | done | rfl, HR.out.2.2.2⟩
    case stop =>
      rintro D c2 pre W hD hpre ⟨rfl, pre0, i, m, rfl, h1, h2, h3⟩ hd
      have hDn : w.heap.size + 5 ≤ D := by omega
      have hR := ariC_only h3 (Only.putObj (Only.refl (· = D) W) (.inl rfl) (.deferred none)) (fun k h => by omega)
      have HM := Lib.hid (arity_yes HX.out hpre h1 h2)
      have q1 := hR.2.1.cell 0
      have q2 := hR.2.2.1.cell 0
      simp only [List.getElem?_toArray, List.getElem?_cons_zero] at q1 q2
      have HR := Lib.hid hR
      clear hR h1 h2 h3 hpre hI3 HI1 HI2 e2 e3 hD hDn
      gi_wp2
      refine ⟨by simp, .inl ⟨_, _, rfl, run_takeDeferred hd, ?_⟩⟩
      exact ⟨.tuple #[.int .i64 m.params.length, .bool true], by simp [results, Tryd.results14, go_sem, q1, q2], by rw [HM.out]; first | done | rfl, HR.out.2.2.2⟩

end Go.Proofs.YtbjomddjbfgclaaDoor
