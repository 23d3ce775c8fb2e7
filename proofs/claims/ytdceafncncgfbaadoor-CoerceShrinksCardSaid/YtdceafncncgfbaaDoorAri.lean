/- The contract of table.Method. The contract of table.Field. The contract of slices.Backward at a row of methods: whatever body a loop over it has, in a loop's round too. The contract of table.Arity. -/
import Derived.Test.YtdceafncncgfbaaDoorLgt
import Derived.Test.YtdceafncncgfbaaDoorTbf
import Derived.Test.YtdceafncncgfbaaDoorBlk
import Derived.Test.YtdceafncncgfbaaDoorFi2
import Derived.Test.YtdceafncncgfbaaDoorMts
import Derived.Test.YtdceafncncgfbaaDoorKey
set_option linter.unusedSimpArgs false
set_option linter.unusedVariables false
set_option maxRecDepth 100000

namespace Go.Proofs.YtdceafncncgfbaaDoor
open Go.ChangeShapes Go.WideShapes Go.ChangeAt Go.RowKit Go.Shelf
attribute [local go_sem] Oper.semAt_some

abbrev zSig : Array Value := #[.string ⟨#[]⟩, .slice none 0 0, .string ⟨#[]⟩]

/-- Within the loop: the name, the results' cells. -/
def MetC (nm : ByteArray) (w : World) (m : Array Value) (s : Value) (b : Value) (W : World) : Prop :=
  Blk W w.heap.size 9 #[.string nm] ∧ Blk W (w.heap.size + 1) 61 m ∧ Blk W (w.heap.size + 1 + 1) 9 #[s] ∧ Blk W (w.heap.size + 1 + 1 + 1) 4 #[b] ∧ Kept w W
def MetI (t : List Tab.C) (nm : ByteArray) (w : World) (pre : List Nat) (W : World) : Prop :=
  MetC nm w zSig (.string ⟨#[]⟩) (.bool false) W ∧ ∀ i ∈ pre, Tab.methodOf nm (Tab.nth t i) = none
def MetX (t : List Tab.C) (nm : ByteArray) (w : World) (c : Code) (pre : List Nat) (W : World) : Prop :=
  c = .ret ∧ ∃ pre0 i m p, pre = pre0 ++ [i] ∧ (∀ i ∈ pre0, Tab.methodOf nm (Tab.nth t i) = none) ∧ Tab.methodOf nm (Tab.nth t i) = some m ∧
    MetC nm w #[.string m.name, p, .string m.res] (.string (Tab.nth t i).name) (.bool true) W ∧ W.ownsRow (w.heap.size + 9) 58 2 p m.params.length (m.params.flatMap vCells)

theorem metC_only {nm : ByteArray} {w A B : World} {m : Array Value} {s b : Value} {S : Nat → Prop} (h : MetC nm w m s b A) (ho : Only S A B) (hs : ∀ k, S k → w.heap.size + 4 ≤ k) : MetC nm w m s b B :=
  ⟨h.1.only ho (fun e => by have := hs _ e; omega), h.2.1.only ho (fun e => by have := hs _ e; omega), h.2.2.1.only ho (fun e => by have := hs _ e; omega), h.2.2.2.1.only ho (fun e => by have := hs _ e; omega), h.2.2.2.2.onlyS ho (fun k e => by have := hs k e; omega)⟩
theorem met_keep {nm : ByteArray} {w A B : World} {m : Array Value} {s b : Value} (h : MetC nm w m s b A) (k : Kept A B) : MetC nm w m s b B := metC_only h (S := fun _ => False) (Only.of_kept k) (fun _ h => h.elim)
theorem met_facts {nm : ByteArray} {w W : World} {s b : Value} (h : MetC nm w zSig s b W) :
    (W.cell? ⟨w.heap.size + 1, 0, none⟩ = some (.string ⟨#[]⟩) ∧ W.cell? ⟨w.heap.size + 1, 1, none⟩ = some (.slice none 0 0) ∧ W.cell? ⟨w.heap.size + 1, 2, none⟩ = some (.string ⟨#[]⟩)) ∧ W.cell? ⟨w.heap.size + 1 + 1, 0, none⟩ = some s ∧ W.cell? ⟨w.heap.size + 1 + 1 + 1, 0, none⟩ = some b ∧
    W.frozen? ⟨w.heap.size + 1, 0, none⟩ = false ∧ W.frozen? ⟨w.heap.size + 1, 1, none⟩ = false ∧ W.frozen? ⟨w.heap.size + 1, 2, none⟩ = false ∧ W.frozen? ⟨w.heap.size + 1 + 1, 0, none⟩ = false ∧ W.frozen? ⟨w.heap.size + 1 + 1 + 1, 0, none⟩ = false :=
  ⟨⟨h.2.1.cell 0, h.2.1.cell 1, h.2.1.cell 2⟩, h.2.2.1.cell 0, h.2.2.2.1.cell 0, h.2.1.frozen 0, h.2.1.frozen 1, h.2.1.frozen 2, h.2.2.1.frozen 0, h.2.2.2.1.frozen 0⟩

theorem met_none {t : List Tab.C} {nm : ByteArray} {w W : World} {U : Nat → Prop} {pre : List Nat} {i : Nat} (h : MetI t nm w pre W) (hx : Tab.ix Tab.M.name (Tab.nth t i).methods nm = none) :
    Only U W W.drew ∧ MetI t nm w (pre ++ [i]) W.drew := by
  refine ⟨(Only.refl _ W).drew, ⟨h.1.1, h.1.2.1, h.1.2.2.1, h.1.2.2.2.1, h.1.2.2.2.2.drew⟩, fun j hj => ?_⟩
  rcases List.mem_append.1 hj with hj | hj
  · exact h.2 j hj
  · simp at hj
    subst hj
    unfold Tab.methodOf
    rw [hx]; rfl

/-- The results' cells, written. -/
def metW (w w2 : World) (m : Tab.M) (p : Value) (s : ByteArray) : World :=
  ((((w2.setCell ⟨w.heap.size + 1, 0, none⟩ (.string m.name)).setCell ⟨w.heap.size + 1, 1, none⟩ p).setCell ⟨w.heap.size + 1, 2, none⟩ (.string m.res)).setCell ⟨w.heap.size + 1 + 1, 0, none⟩ (.string s)).setCell ⟨w.heap.size + 1 + 1 + 1, 0, none⟩ (.bool true)

theorem met_some {t : List Tab.C} {nm : ByteArray} {w W W2 w2 : World} {X : Nat → Prop} {pre : List Nat} {i k : Nat} {m : Tab.M} {p : Value} (h : MetI t nm w pre W) (hx : Tab.ix Tab.M.name (Tab.nth t i).methods nm = some k) (hy : (Tab.nth t i).methods[k]? = some m)
    (hr : w2.ownsRow W2.heap.size 58 2 p m.params.length (m.params.flatMap vCells)) (hk : Kept W2 w2) (hk0 : Kept W W2) (hsz : w.heap.size + 9 ≤ W2.heap.size) :
    Only (fun k => (k = w.heap.size + 1 ∨ k = w.heap.size + 1 + 1 ∨ k = w.heap.size + 1 + 1 + 1) ∨ X k) W (metW w w2 m p (Tab.nth t i).name) ∧ MetX t nm w .ret (pre ++ [i]) (metW w w2 m p (Tab.nth t i).name) := by
  have hC := met_keep (h.1) (hk0.trans hk)
  have hO : Only (fun k => k = w.heap.size + 1 ∨ k = w.heap.size + 1 + 1 ∨ k = w.heap.size + 1 + 1 + 1) w2 (metW w w2 m p (Tab.nth t i).name) :=
    (((((Only.refl _ w2).setCell (p := ⟨w.heap.size + 1, 0, none⟩) (.inl (.inl rfl)) _).setCell (p := ⟨w.heap.size + 1, 1, none⟩) (.inl (.inl rfl)) _).setCell (p := ⟨w.heap.size + 1, 2, none⟩) (.inl (.inl rfl)) _).setCell (p := ⟨w.heap.size + 1 + 1, 0, none⟩) (.inl (.inr (.inl rfl))) _).setCell (p := ⟨w.heap.size + 1 + 1 + 1, 0, none⟩) (.inl (.inr (.inr rfl))) _
  refine ⟨(((Only.of_kept (hk0.trans hk)).trans hO)).mono fun k _ h => .inl h, rfl, pre, i, m, p, rfl, h.2, ?_, ⟨hC.1.only hO (by omega), ?_, ?_, ?_, hC.2.2.2.2.onlyS hO (fun k h => by omega)⟩, owns_base (owns_only hr hO (fun g hg => by omega)) hsz⟩
  · unfold Tab.methodOf
    rw [hx]
    exact hy
  · have h1 := ((hC.2.1.put 0 (.string m.name)).put 1 p).put 2 (.string m.res)
    exact (h1.only ((Only.refl (· = w.heap.size + 1 + 1) _).put 0 _) (by omega)).only ((Only.refl (· = w.heap.size + 1 + 1 + 1) _).put 0 _) (by omega)
  · have h2 := hC.2.2.1.only ((((Only.refl (· = w.heap.size + 1) w2).put 0 (.string m.name)).put 1 p).put 2 (.string m.res)) (by omega)
    exact (h2.put 0 _).only ((Only.refl (· = w.heap.size + 1 + 1 + 1) _).put 0 _) (by omega)
  · have h3 := hC.2.2.2.1.only ((((Only.refl (· = w.heap.size + 1) w2).put 0 (.string m.name)).put 1 p).put 2 (.string m.res)) (by omega)
    exact (h3.only ((Only.refl (· = w.heap.size + 1 + 1) _).put 0 (.string (Tab.nth t i).name)) (by omega)).put 0 _

/-- What Method answers: a copy. -/
def MethodPost (t : List Tab.C) (s nm : ByteArray) (w : World) (e : Ending) (w' : World) : Prop :=
  Kept w w' ∧ ((Tab.method t s nm = none ∧ e = .returned (.tuple #[.agg zSig, .string ⟨#[]⟩, .bool false])) ∨
    ∃ m own p, Tab.method t s nm = some (m, own) ∧ e = .returned (.tuple #[.agg #[.string m.name, p, .string m.res], .string own, .bool true]) ∧ w'.ownsRow w.heap.size 58 2 p m.params.length (m.params.flatMap vCells))

theorem method_no {t : List Tab.C} {s nm : ByteArray} (h : ∀ i ∈ Tab.line t s, Tab.methodOf nm (Tab.nth t i) = none) : Tab.method t s nm = none := by
  unfold Tab.method
  rw [List.findSome?_eq_none_iff]
  intro i hi
  rw [h i hi]; rfl
theorem method_yes {t : List Tab.C} {s nm : ByteArray} {pre : List Nat} {i : Nat} {m : Tab.M} (hp : (pre ++ [i]) <+: Tab.line t s) (h : ∀ i ∈ pre, Tab.methodOf nm (Tab.nth t i) = none) (hm : Tab.methodOf nm (Tab.nth t i) = some m) : Tab.method t s nm = some (m, (Tab.nth t i).name) := by
  obtain ⟨r, hr⟩ := hp
  unfold Tab.method
  rw [← hr, List.append_assoc, List.findSome?_append, List.findSome?_eq_none_iff.2 (fun j hj => by rw [h j hj]; rfl)]
  simp [hm]

/-- The results' cells, cleared. -/
def metZ (w W : World) : World :=
  ((((W.setCell ⟨w.heap.size + 1, 0, none⟩ (.string ⟨#[]⟩)).setCell ⟨w.heap.size + 1, 1, none⟩ (.slice none 0 0)).setCell ⟨w.heap.size + 1, 2, none⟩ (.string ⟨#[]⟩)).setCell ⟨w.heap.size + 1 + 1, 0, none⟩ (.string ⟨#[]⟩)).setCell ⟨w.heap.size + 1 + 1 + 1, 0, none⟩ (.bool false)
theorem met_zero {nm : ByteArray} {w W : World} (hC : MetC nm w zSig (.string ⟨#[]⟩) (.bool false) W) : Only (fun k => k = w.heap.size + 1 ∨ k = w.heap.size + 1 + 1 ∨ k = w.heap.size + 1 + 1 + 1) W (metZ w W) ∧ MetC nm w zSig (.string ⟨#[]⟩) (.bool false) (metZ w W) := by
  have hO : Only (fun k => k = w.heap.size + 1 ∨ k = w.heap.size + 1 + 1 ∨ k = w.heap.size + 1 + 1 + 1) W (metZ w W) :=
    (((((Only.refl _ W).setCell (p := ⟨w.heap.size + 1, 0, none⟩) (.inl (.inl rfl)) _).setCell (p := ⟨w.heap.size + 1, 1, none⟩) (.inl (.inl rfl)) _).setCell (p := ⟨w.heap.size + 1, 2, none⟩) (.inl (.inl rfl)) _).setCell (p := ⟨w.heap.size + 1 + 1, 0, none⟩) (.inl (.inr (.inl rfl))) _).setCell (p := ⟨w.heap.size + 1 + 1 + 1, 0, none⟩) (.inl (.inr (.inr rfl))) _
  refine ⟨hO, hC.1.only hO (by omega), ?_, ?_, ?_, hC.2.2.2.2.onlyS hO (fun k h => by omega)⟩
  · have h1 := ((hC.2.1.put 0 (.string ⟨#[]⟩)).put 1 (.slice none 0 0)).put 2 (.string ⟨#[]⟩)
    exact (h1.only ((Only.refl (· = w.heap.size + 1 + 1) _).put 0 _) (by omega)).only ((Only.refl (· = w.heap.size + 1 + 1 + 1) _).put 0 _) (by omega)
  · have h2 := hC.2.2.1.only ((((Only.refl (· = w.heap.size + 1) W).put 0 (.string ⟨#[]⟩)).put 1 (.slice none 0 0)).put 2 (.string ⟨#[]⟩)) (by omega)
    exact (h2.put 0 _).only ((Only.refl (· = w.heap.size + 1 + 1 + 1) _).put 0 _) (by omega)
  · have h3 := hC.2.2.2.1.only ((((Only.refl (· = w.heap.size + 1) W).put 0 (.string ⟨#[]⟩)).put 1 (.slice none 0 0)).put 2 (.string ⟨#[]⟩)) (by omega)
    exact (h3.only ((Only.refl (· = w.heap.size + 1 + 1) _).put 0 (.string ⟨#[]⟩)) (by omega)).put 0 _

set_option maxHeartbeats 4000000 in
theorem method_c (a : Option Addr) (c : Nat) (t : List Tab.C) (s nm : ByteArray) (w : World) (hT : TabAt w (.slice a t.length c) t) (hS : Small t) :
    Calls Tryd.prog 64 #[.slice a t.length c, .string s, .string nm] w (MethodPost t s nm w) := by
  have ht := hS.len
  refine (callsIn_wide (n := 3)).1 (callsIn_of_wp_marks Tryd.func64 rfl trivial (wpIn_wide.2 ?_) rfl)
  simp only [Tryd.ntmps64, List.size_toArray, List.length_cons, List.length_nil, Nat.reduceAdd, Nat.reduceSub, Array.replicate_succ, Array.replicate_zero, List.push_toArray, List.append_toArray, List.nil_append, List.cons_append]
  have HT := Lib.hid hT
  clear hT
  go_wp2_with fail
  obtain ⟨W1, hW1⟩ : ∃ W1, (((w.alloc (.cells #[.string nm] 9)).alloc (.cells zSig 61)).alloc (.cells #[.string ⟨#[]⟩] 9)).alloc (.cells #[.bool false] 4) = W1 := ⟨_, rfl⟩
  have hI1 : MetI t nm w [] W1 := by
    rw [← hW1]
    have h2 := Blk.new (w.alloc (.cells #[.string nm] 9)) 61 zSig
    have h3 := Blk.new ((w.alloc (.cells #[.string nm] 9)).alloc (.cells zSig 61)) 9 #[.string ⟨#[]⟩]
    have h4 := Blk.new (((w.alloc (.cells #[.string nm] 9)).alloc (.cells zSig 61)).alloc (.cells #[.string ⟨#[]⟩] 9)) 4 #[.bool false]
    simp only [World.size_alloc] at h2 h3 h4
    exact ⟨⟨(((Blk.new w _ _).alloc _).alloc _).alloc _, (h2.alloc _).alloc _, h3.alloc _, h4, ((((Kept.refl w).alloc _).alloc _).alloc _).alloc _⟩, by simp⟩
  have HS1 := Lib.hid (show W1.heap.size = w.heap.size + 4 by rw [← hW1]; simp)
  have HI1 := Lib.hid hI1
  rw [hW1]
  clear hW1 hI1
  refine (line_lineC a c t s _).mono ?_
  rintro e w3 ⟨rfl, hw3⟩
  have HK3 := Lib.hid (show Kept W1 w3 by rw [hw3]; exact ((Kept.refl W1).alloc _).alloc _)
  have HS3 := Lib.hid (show w3.heap.size = W1.heap.size + 2 by rw [hw3]; simp)
  have HB1 := Lib.hid (show Blk w3 W1.heap.size 22 #[.slice a t.length c] by rw [hw3]; exact (Blk.new _ _ _).alloc _)
  have HB2 := Lib.hid (show Blk w3 (W1.heap.size + 1) 9 #[.string s] by
    rw [hw3]
    have := Blk.new (W1.alloc (.cells #[.slice a t.length c] 22)) 9 #[.string s]
    simpa using this)
  clear hw3
  go_wp2_with fail
  have e1 : w.heap.size + 4 ≤ W1.heap.size := by have := HS1.out; omega
  have e3 : W1.heap.size + 2 ≤ w3.heap.size := by have := HS3.out; omega
  have hI3 : MetI t nm w [] w3 := ⟨met_keep HI1.out.1 HK3.out, HI1.out.2⟩
  refine wpIn_wide.1 (wpIn_range_line (w0 := w) (bt := W1.heap.size) (bn := W1.heap.size + 1) a c t s (fun k => k = w.heap.size + 1 ∨ k = w.heap.size + 1 + 1 ∨ k = w.heap.size + 1 + 1 + 1) rfl HT.out ht hI3.1.2.2.2.2 HB1.out HB2.out (by omega) (by omega) (by omega) (fun k e => by omega) rfl
    (MetI t nm w) (MetX t nm w) (fun pre A B h o => ⟨metC_only h.1 o (fun k h => by omega), h.2⟩) ?hIx hI3
    (fun i => { tmps := #[.slice a t.length c, .string s, .string nm, undef, undef, .pointer (some ⟨w.heap.size, 0, none⟩), .pointer (some ⟨w.heap.size + 1, 0, none⟩), .pointer (some ⟨w.heap.size + 1 + 1, 0, none⟩), .pointer (some ⟨w.heap.size + 1 + 1 + 1, 0, none⟩), elC a i, undef, undef, .slice a t.length c, .string s, .func (.func 83) #[] #[.pointer (some ⟨W1.heap.size, 0, none⟩), .pointer (some ⟨W1.heap.size + 1, 0, none⟩)], elC a i, undef, undef, undef, undef, undef, undef, undef, undef, undef, undef, undef, undef, undef, undef, undef, undef, undef, undef, undef, undef, undef, undef], defers := [] }) ?assign ?body ?done ?stop)
  case hIx =>
    rintro c pre A B ⟨rfl, pre0, i, m, p, h1, h2, h3, h4, h5⟩ o
    have := HS1.out
    have := HS3.out
    exact ⟨rfl, pre0, i, m, p, h1, h2, h3, metC_only h4 o (fun k h => by omega), owns_only h5 o (fun g hg h => by omega)⟩
  case assign =>
    intro l i W K hK
    gi_wp2
    exact hK
  case body =>
    rintro l pre i b o W hl _ hIW hsize hpre hi' rfl hcl
    have HSZ := Lib.hid (show w.heap.size + 9 ≤ W.heap.size by have := HS1.out; have := HS3.out; omega)
    have HI := Lib.hid hIW
    have HCW := Lib.hid hcl
    have hcl' := hcl.kept hIW.1.2.2.2.2
    have HCL := Lib.hid (show ClsAt W.drew b (o + i * 4) (Tab.nth t i) from hcl'.kept (Kept.refl W).drew)
    obtain ⟨hcn, _, _, ⟨u, hc0, hu⟩, _⟩ := hcl'
    have hn0 := hIW.1.1.cell 0
    simp at hn0
    have HF := Lib.hid (tfindSig_c (Tab.nth t i).methods u nm W.drew (sigs_kept hu (Kept.refl W).drew))
    unfold FindPost at HF
    have HU := Lib.hid (sigs_kept hu (Kept.refl W).drew)
    obtain ⟨ua, un, uc, rfl⟩ : ∃ a n c, u = .slice a n c := by obtain ⟨a, c, e, _⟩ := hu; exact ⟨_, _, _, e⟩
    simp only [elC, evC, Option.map_some]
    have hPM := hS.params _ (nth_mem hi')
    have HPM := Lib.hid hPM
    clear hcl hpre hIW hI3 HI1 hu e1 e3 hsize hl hPM
    cases hix : Tab.ix Tab.M.name (Tab.nth t i).methods nm with
    | none =>
      have HX := Lib.hid hix
      rw [hix] at HF
      clear hix
      simp only [Tab.num, Option.isSome_none] at HF
      gi_wp2
      refine wpIn_region_of_any (by kernel_rfl) (by kernel_rfl) (by rintro ⟨_, _, h⟩; exact h) ?_
      · change wpAny _ _ _ _ _ _ _ (World.drew _)
        refine wpAny_take (i := 0) (v := ?_) rfl (by kernel_rfl) (by kernel_rfl) (by kernel_rfl) (fun _ _ _ h => h) (Or.inl ⟨by rfl, ?_⟩) ?_
        rotate_left
        · intro w; go_simp; try with_reducible rfl
        refine wpAny_take (i := 1) (v := ?_) rfl (by kernel_rfl) (by kernel_rfl) (by kernel_rfl) (fun _ _ _ h => h) (Or.inl ⟨by rfl, ?_⟩) ?_
        rotate_left
        · intro w; go_simp; try with_reducible rfl
        refine wpAny_take (i := 2) (v := ?_) rfl (by kernel_rfl) (by kernel_rfl) (by kernel_rfl) (fun _ _ _ h => h) (Or.inl ⟨by rfl, ?_⟩) ?_
        rotate_left
        · intro w; go_simp; try with_reducible rfl
        refine wpAny_ready (rs := [3, 4]) (by kernel_rfl) (by simp) ?_
        refine AllReady.cons rfl (fun K hK => ?_) ?_
        · go_simp
          refine hK _ _ ?_; clear hK K
          refine wpAny_ready (rs := [4]) (by kernel_rfl) (by simp) ?_
          refine AllReady.cons rfl (fun K hK => ?_) ?_
          · go_simp
            refine hK _ _ ?_; clear hK K
            refine wpAny_ready (rs := [5]) (by kernel_rfl) (by simp) ?_
            refine AllReady.cons rfl (fun K hK => ?_) ?_
            · go_simp
              go_wp2_with fail
              refine HF.out.mono ?_
              rintro e w2 ⟨rfl, rfl⟩
              dsimp only
              refine hK _ _ ?_; clear hK K
              refine wpAny_take (i := 6) (v := ?_) rfl (by kernel_rfl) (by kernel_rfl) (by kernel_rfl) (fun _ _ _ h => h) (Or.inl ⟨by rfl, ?_⟩) ?_
              rotate_left
              · intro w; go_simp; try with_reducible rfl
              refine wpAny_take (i := 7) (v := ?_) rfl (by kernel_rfl) (by kernel_rfl) (by kernel_rfl) (fun _ _ _ h => h) (Or.inl ⟨by rfl, ?_⟩) ?_
              rotate_left
              · intro w; go_simp; try with_reducible rfl
              refine wpAny_take (i := 8) (v := ?_) rfl (by kernel_rfl) (by kernel_rfl) (by kernel_rfl) (fun _ _ _ h => h) (Or.inl ⟨by rfl, ?_⟩) ?_
              rotate_left
              · intro w; go_simp; try with_reducible rfl
              refine wpAny_take (i := 9) (v := ?_) rfl (by kernel_rfl) (by kernel_rfl) (by kernel_rfl) (fun _ _ _ h => h) (Or.inl ⟨by rfl, ?_⟩) ?_
              rotate_left
              · intro w; go_simp; try with_reducible rfl
              refine wpAny_take (i := 10) (v := ?_) rfl (by kernel_rfl) (by kernel_rfl) (by kernel_rfl) (fun _ _ _ h => h) (Or.inl ⟨by rfl, ?_⟩) ?_
              rotate_left
              · intro w; go_simp; try with_reducible rfl
              refine wpAny_done (by kernel_rfl) ?_ _
              gi_wp2
              exact met_none HI.out HX.out
            exact AllReady.nil
          exact AllReady.nil
        refine AllReady.cons rfl (fun K hK => ?_) ?_
        · go_simp
          refine hK _ _ ?_; clear hK K
          refine wpAny_ready (rs := [3]) (by kernel_rfl) (by simp) ?_
          refine AllReady.cons rfl (fun K hK => ?_) ?_
          · go_simp
            refine hK _ _ ?_; clear hK K
            refine wpAny_ready (rs := [5]) (by kernel_rfl) (by simp) ?_
            refine AllReady.cons rfl (fun K hK => ?_) ?_
            · go_simp
              go_wp2_with fail
              refine HF.out.mono ?_
              rintro e w2 ⟨rfl, rfl⟩
              dsimp only
              refine hK _ _ ?_; clear hK K
              refine wpAny_take (i := 6) (v := ?_) rfl (by kernel_rfl) (by kernel_rfl) (by kernel_rfl) (fun _ _ _ h => h) (Or.inl ⟨by rfl, ?_⟩) ?_
              rotate_left
              · intro w; go_simp; try with_reducible rfl
              refine wpAny_take (i := 7) (v := ?_) rfl (by kernel_rfl) (by kernel_rfl) (by kernel_rfl) (fun _ _ _ h => h) (Or.inl ⟨by rfl, ?_⟩) ?_
              rotate_left
              · intro w; go_simp; try with_reducible rfl
              refine wpAny_take (i := 8) (v := ?_) rfl (by kernel_rfl) (by kernel_rfl) (by kernel_rfl) (fun _ _ _ h => h) (Or.inl ⟨by rfl, ?_⟩) ?_
              rotate_left
              · intro w; go_simp; try with_reducible rfl
              refine wpAny_take (i := 9) (v := ?_) rfl (by kernel_rfl) (by kernel_rfl) (by kernel_rfl) (fun _ _ _ h => h) (Or.inl ⟨by rfl, ?_⟩) ?_
              rotate_left
              · intro w; go_simp; try with_reducible rfl
              refine wpAny_take (i := 10) (v := ?_) rfl (by kernel_rfl) (by kernel_rfl) (by kernel_rfl) (fun _ _ _ h => h) (Or.inl ⟨by rfl, ?_⟩) ?_
              rotate_left
              · intro w; go_simp; try with_reducible rfl
              refine wpAny_done (by kernel_rfl) ?_ _
              gi_wp2
              exact met_none HI.out HX.out
            exact AllReady.nil
          exact AllReady.nil
        exact AllReady.nil
    | some k =>
      have HX := Lib.hid hix
      obtain ⟨hk, _⟩ := Tab.ix_lt hix
      have hy : (Tab.nth t i).methods[k]? = some (Tab.nth t i).methods[k] := List.getElem?_eq_getElem hk
      obtain ⟨ua', uc', e, _, _, hat⟩ := HU.out
      obtain ⟨ub, uo, e2, hva⟩ := hat _ _ hy
      have hpl := HPM.out _ (List.mem_of_getElem? hy)
      generalize (Tab.nth t i).methods[k] = m at hy hva hpl
      injection e with e4 e5 e6
      subst e4 e5 e6 e2
      have HY := Lib.hid hy
      have HC := Lib.hid (copied_c ub (uo + k * 3) m W.drew.drew (hva.kept (Kept.refl W.drew).drew) hpl)
      have hkI : (k : Int) < ((Tab.nth t i).methods.length : Int) := by omega
      rw [hix] at HF
      clear hix hy hat hva HU hpl
      simp only [Tab.num, Option.isSome_some] at HF
      gi_wp2
      refine wpIn_region_of_any (by kernel_rfl) (by kernel_rfl) (by rintro ⟨_, _, h⟩; exact h) ?_
      · change wpAny _ _ _ _ _ _ _ (World.drew _)
        refine wpAny_take (i := 0) (v := ?_) rfl (by kernel_rfl) (by kernel_rfl) (by kernel_rfl) (fun _ _ _ h => h) (Or.inl ⟨by rfl, ?_⟩) ?_
        rotate_left
        · intro w; go_simp; try with_reducible rfl
        refine wpAny_take (i := 1) (v := ?_) rfl (by kernel_rfl) (by kernel_rfl) (by kernel_rfl) (fun _ _ _ h => h) (Or.inl ⟨by rfl, ?_⟩) ?_
        rotate_left
        · intro w; go_simp; try with_reducible rfl
        refine wpAny_take (i := 2) (v := ?_) rfl (by kernel_rfl) (by kernel_rfl) (by kernel_rfl) (fun _ _ _ h => h) (Or.inl ⟨by rfl, ?_⟩) ?_
        rotate_left
        · intro w; go_simp; try with_reducible rfl
        refine wpAny_ready (rs := [3, 4]) (by kernel_rfl) (by simp) ?_
        refine AllReady.cons rfl (fun K hK => ?_) ?_
        · go_simp
          refine hK _ _ ?_; clear hK K
          refine wpAny_ready (rs := [4]) (by kernel_rfl) (by simp) ?_
          refine AllReady.cons rfl (fun K hK => ?_) ?_
          · go_simp
            refine hK _ _ ?_; clear hK K
            refine wpAny_ready (rs := [5]) (by kernel_rfl) (by simp) ?_
            refine AllReady.cons rfl (fun K hK => ?_) ?_
            · go_simp
              go_wp2_with fail
              refine HF.out.mono ?_
              rintro e w2 ⟨rfl, rfl⟩
              dsimp only
              refine hK _ _ ?_; clear hK K
              refine wpAny_take (i := 6) (v := ?_) rfl (by kernel_rfl) (by kernel_rfl) (by kernel_rfl) (fun _ _ _ h => h) (Or.inl ⟨by rfl, ?_⟩) ?_
              rotate_left
              · intro w; go_simp; try with_reducible rfl
              refine wpAny_take (i := 7) (v := ?_) rfl (by kernel_rfl) (by kernel_rfl) (by kernel_rfl) (fun _ _ _ h => h) (Or.inl ⟨by rfl, ?_⟩) ?_
              rotate_left
              · intro w; go_simp; try with_reducible rfl
              refine wpAny_take (i := 8) (v := ?_) rfl (by kernel_rfl) (by kernel_rfl) (by kernel_rfl) (fun _ _ _ h => h) (Or.inl ⟨by rfl, ?_⟩) ?_
              rotate_left
              · intro w; go_simp; try with_reducible rfl
              refine wpAny_take (i := 9) (v := ?_) rfl (by kernel_rfl) (by kernel_rfl) (by kernel_rfl) (fun _ _ _ h => h) (Or.inl ⟨by rfl, ?_⟩) ?_
              rotate_left
              · intro w; go_simp; try with_reducible rfl
              refine wpAny_take (i := 10) (v := ?_) rfl (by kernel_rfl) (by kernel_rfl) (by kernel_rfl) (fun _ _ _ h => h) (Or.inl ⟨by rfl, ?_⟩) ?_
              rotate_left
              · intro w; go_simp; try with_reducible rfl
              refine wpAny_done (by kernel_rfl) ?_ _
              gi_wp2
              refine wpIn_region_of_any (by kernel_rfl) (by kernel_rfl) (by rintro ⟨_, _, h⟩; exact h) ?_
              change wpAny _ _ _ _ _ _ _ (World.drew _)
              refine wpAny_take (i := 0) (v := ?_) rfl (by kernel_rfl) (by kernel_rfl) (by kernel_rfl) (fun _ _ _ h => h) (Or.inl ⟨by rfl, ?_⟩) ?_
              rotate_left
              · intro w; go_simp; try with_reducible rfl
              refine wpAny_take (i := 1) (v := ?_) rfl (by kernel_rfl) (by kernel_rfl) (by kernel_rfl) (fun _ _ _ h => h) (Or.inl ⟨by rfl, ?_⟩) ?_
              rotate_left
              · intro w; go_simp; try with_reducible rfl
              refine wpAny_take (i := 2) (v := ?_) rfl (by kernel_rfl) (by kernel_rfl) (by kernel_rfl) (fun _ _ _ h => h) (Or.inl ⟨by rfl, ?_⟩) ?_
              rotate_left
              · intro w; go_simp; try with_reducible rfl
              refine wpAny_take (i := 4) (v := ?_) rfl (by kernel_rfl) (by kernel_rfl) (by kernel_rfl) (fun _ _ _ h => h) (Or.inl ⟨by rfl, ?_⟩) ?_
              rotate_left
              · intro w; go_simp; try with_reducible rfl
              refine wpAny_take (i := 7) (v := ?_) rfl (by kernel_rfl) (by kernel_rfl) (by kernel_rfl) (fun _ _ _ h => h) (Or.inl ⟨by rfl, ?_⟩) ?_
              rotate_left
              · intro w; go_simp; try with_reducible rfl
              refine wpAny_take (i := 8) (v := ?_) rfl (by kernel_rfl) (by kernel_rfl) (by kernel_rfl) (fun _ _ _ h => h) (Or.inl ⟨by rfl, ?_⟩) ?_
              rotate_left
              · intro w; go_simp; try with_reducible rfl
              refine wpAny_take (i := 9) (v := ?_) rfl (by kernel_rfl) (by kernel_rfl) (by kernel_rfl) (fun _ _ _ h => h) (Or.inl ⟨by rfl, ?_⟩) ?_
              rotate_left
              · intro w; go_simp; try with_reducible rfl
              refine wpAny_ready (rs := [3, 10]) (by kernel_rfl) (by simp) ?_
              refine AllReady.cons rfl (fun K hK => ?_) ?_
              · go_simp
                refine hK _ _ ?_; clear hK K
                refine wpAny_take (i := 5) (v := ?_) rfl (by kernel_rfl) (by kernel_rfl) (by kernel_rfl) (fun _ _ _ h => h) (Or.inl ⟨by rfl, ?_⟩) ?_
                rotate_left
                · intro w; go_simp; try with_reducible rfl
                refine wpAny_ready (rs := [6, 10]) (by kernel_rfl) (by simp) ?_
                refine AllReady.cons rfl (fun K hK => ?_) ?_
                · go_simp
                  go_wp2_with fail
                  refine HC.out.mono ?_
                  rintro e w2 ⟨v2, rfl, p2, rfl, hrow2, hk2⟩
                  obtain ⟨⟨hq0, hq1, hq2⟩, hq3, hq4, hg0, hg1, hg2, hg3, hg4⟩ := met_facts (met_keep HI.out.1 (((Kept.refl W).drew.drew).trans hk2))
                  have hn2 := (HCL.out.kept ((Kept.refl W.drew).drew.trans hk2)).1
                  have HR2 := Lib.hid hrow2
                  have HK2 := Lib.hid hk2
                  obtain ⟨pa, pn, pc, rfl⟩ := owns_slice hrow2
                  have hn3 := (HCW.out.kept ((((HI.out.1.2.2.2.2.trans (((Kept.refl W).drew.drew).trans hk2)).setCell (p := ⟨w.heap.size + 1, 0, none⟩) (by simp) (.string m.name)).setCell (p := ⟨w.heap.size + 1, 1, none⟩) (by simp) (.slice pa pn pc)).setCell (p := ⟨w.heap.size + 1, 2, none⟩) (by simp) (.string m.res))).1
                  clear hrow2 hk2 HC
                  dsimp only
                  refine hK _ _ ?_; clear hK K
                  refine wpAny_ready (rs := [10, 11]) (by kernel_rfl) (by simp) ?_
                  refine AllReady.cons rfl (fun K hK => ?_) ?_
                  · go_simp
                    refine hK _ _ ?_; clear hK K
                    refine wpAny_ready (rs := [11]) (by kernel_rfl) (by simp) ?_
                    refine AllReady.cons rfl (fun K hK => ?_) ?_
                    · go_simp
                      refine hK _ _ ?_; clear hK K
                      refine wpAny_ready (rs := [12]) (by kernel_rfl) (by simp) ?_
                      refine AllReady.cons rfl (fun K hK => ?_) ?_
                      · go_simp
                        refine hK _ _ ?_; clear hK K
                        refine wpAny_ready (rs := [13]) (by kernel_rfl) (by simp) ?_
                        refine AllReady.cons rfl (fun K hK => ?_) ?_
                        · go_simp
                          refine hK _ _ ?_; clear hK K
                          refine wpAny_done (by kernel_rfl) ?_ _
                          gi_wp2
                          exact met_some HI.out HX.out HY.out HR2.out HK2.out ((Kept.refl W).drew.drew) HSZ.out
                        exact AllReady.nil
                      exact AllReady.nil
                    exact AllReady.nil
                  refine AllReady.cons rfl (fun K hK => ?_) ?_
                  · go_simp
                    refine hK _ _ ?_; clear hK K
                    refine wpAny_ready (rs := [10]) (by kernel_rfl) (by simp) ?_
                    refine AllReady.cons rfl (fun K hK => ?_) ?_
                    · go_simp
                      refine hK _ _ ?_; clear hK K
                      refine wpAny_ready (rs := [12]) (by kernel_rfl) (by simp) ?_
                      refine AllReady.cons rfl (fun K hK => ?_) ?_
                      · go_simp
                        refine hK _ _ ?_; clear hK K
                        refine wpAny_ready (rs := [13]) (by kernel_rfl) (by simp) ?_
                        refine AllReady.cons rfl (fun K hK => ?_) ?_
                        · go_simp
                          refine hK _ _ ?_; clear hK K
                          refine wpAny_done (by kernel_rfl) ?_ _
                          gi_wp2
                          exact met_some HI.out HX.out HY.out HR2.out HK2.out ((Kept.refl W).drew.drew) HSZ.out
                        exact AllReady.nil
                      exact AllReady.nil
                    exact AllReady.nil
                  exact AllReady.nil
                refine AllReady.cons rfl (fun K hK => ?_) ?_
                · go_simp
                  refine hK _ _ ?_; clear hK K
                  refine wpAny_ready (rs := [6]) (by kernel_rfl) (by simp) ?_
                  refine AllReady.cons rfl (fun K hK => ?_) ?_
                  · go_simp
                    go_wp2_with fail
                    refine HC.out.mono ?_
                    rintro e w2 ⟨v2, rfl, p2, rfl, hrow2, hk2⟩
                    obtain ⟨⟨hq0, hq1, hq2⟩, hq3, hq4, hg0, hg1, hg2, hg3, hg4⟩ := met_facts (met_keep HI.out.1 (((Kept.refl W).drew.drew).trans hk2))
                    have hn2 := (HCL.out.kept ((Kept.refl W.drew).drew.trans hk2)).1
                    have HR2 := Lib.hid hrow2
                    have HK2 := Lib.hid hk2
                    obtain ⟨pa, pn, pc, rfl⟩ := owns_slice hrow2
                    have hn3 := (HCW.out.kept ((((HI.out.1.2.2.2.2.trans (((Kept.refl W).drew.drew).trans hk2)).setCell (p := ⟨w.heap.size + 1, 0, none⟩) (by simp) (.string m.name)).setCell (p := ⟨w.heap.size + 1, 1, none⟩) (by simp) (.slice pa pn pc)).setCell (p := ⟨w.heap.size + 1, 2, none⟩) (by simp) (.string m.res))).1
                    clear hrow2 hk2 HC
                    dsimp only
                    refine hK _ _ ?_; clear hK K
                    refine wpAny_ready (rs := [11]) (by kernel_rfl) (by simp) ?_
                    refine AllReady.cons rfl (fun K hK => ?_) ?_
                    · go_simp
                      refine hK _ _ ?_; clear hK K
                      refine wpAny_ready (rs := [12]) (by kernel_rfl) (by simp) ?_
                      refine AllReady.cons rfl (fun K hK => ?_) ?_
                      · go_simp
                        refine hK _ _ ?_; clear hK K
                        refine wpAny_ready (rs := [13]) (by kernel_rfl) (by simp) ?_
                        refine AllReady.cons rfl (fun K hK => ?_) ?_
                        · go_simp
                          refine hK _ _ ?_; clear hK K
                          refine wpAny_done (by kernel_rfl) ?_ _
                          gi_wp2
                          exact met_some HI.out HX.out HY.out HR2.out HK2.out ((Kept.refl W).drew.drew) HSZ.out
                        exact AllReady.nil
                      exact AllReady.nil
                    exact AllReady.nil
                  exact AllReady.nil
                exact AllReady.nil
              refine AllReady.cons rfl (fun K hK => ?_) ?_
              · go_simp
                refine hK _ _ ?_; clear hK K
                refine wpAny_ready (rs := [3]) (by kernel_rfl) (by simp) ?_
                refine AllReady.cons rfl (fun K hK => ?_) ?_
                · go_simp
                  refine hK _ _ ?_; clear hK K
                  refine wpAny_take (i := 5) (v := ?_) rfl (by kernel_rfl) (by kernel_rfl) (by kernel_rfl) (fun _ _ _ h => h) (Or.inl ⟨by rfl, ?_⟩) ?_
                  rotate_left
                  · intro w; go_simp; try with_reducible rfl
                  refine wpAny_ready (rs := [6]) (by kernel_rfl) (by simp) ?_
                  refine AllReady.cons rfl (fun K hK => ?_) ?_
                  · go_simp
                    go_wp2_with fail
                    refine HC.out.mono ?_
                    rintro e w2 ⟨v2, rfl, p2, rfl, hrow2, hk2⟩
                    obtain ⟨⟨hq0, hq1, hq2⟩, hq3, hq4, hg0, hg1, hg2, hg3, hg4⟩ := met_facts (met_keep HI.out.1 (((Kept.refl W).drew.drew).trans hk2))
                    have hn2 := (HCL.out.kept ((Kept.refl W.drew).drew.trans hk2)).1
                    have HR2 := Lib.hid hrow2
                    have HK2 := Lib.hid hk2
                    obtain ⟨pa, pn, pc, rfl⟩ := owns_slice hrow2
                    have hn3 := (HCW.out.kept ((((HI.out.1.2.2.2.2.trans (((Kept.refl W).drew.drew).trans hk2)).setCell (p := ⟨w.heap.size + 1, 0, none⟩) (by simp) (.string m.name)).setCell (p := ⟨w.heap.size + 1, 1, none⟩) (by simp) (.slice pa pn pc)).setCell (p := ⟨w.heap.size + 1, 2, none⟩) (by simp) (.string m.res))).1
                    clear hrow2 hk2 HC
                    dsimp only
                    refine hK _ _ ?_; clear hK K
                    refine wpAny_ready (rs := [11]) (by kernel_rfl) (by simp) ?_
                    refine AllReady.cons rfl (fun K hK => ?_) ?_
                    · go_simp
                      refine hK _ _ ?_; clear hK K
                      refine wpAny_ready (rs := [12]) (by kernel_rfl) (by simp) ?_
                      refine AllReady.cons rfl (fun K hK => ?_) ?_
                      · go_simp
                        refine hK _ _ ?_; clear hK K
                        refine wpAny_ready (rs := [13]) (by kernel_rfl) (by simp) ?_
                        refine AllReady.cons rfl (fun K hK => ?_) ?_
                        · go_simp
                          refine hK _ _ ?_; clear hK K
                          refine wpAny_done (by kernel_rfl) ?_ _
                          gi_wp2
                          exact met_some HI.out HX.out HY.out HR2.out HK2.out ((Kept.refl W).drew.drew) HSZ.out
                        exact AllReady.nil
                      exact AllReady.nil
                    exact AllReady.nil
                  exact AllReady.nil
                exact AllReady.nil
              exact AllReady.nil
            exact AllReady.nil
          exact AllReady.nil
        refine AllReady.cons rfl (fun K hK => ?_) ?_
        · go_simp
          refine hK _ _ ?_; clear hK K
          refine wpAny_ready (rs := [3]) (by kernel_rfl) (by simp) ?_
          refine AllReady.cons rfl (fun K hK => ?_) ?_
          · go_simp
            refine hK _ _ ?_; clear hK K
            refine wpAny_ready (rs := [5]) (by kernel_rfl) (by simp) ?_
            refine AllReady.cons rfl (fun K hK => ?_) ?_
            · go_simp
              go_wp2_with fail
              refine HF.out.mono ?_
              rintro e w2 ⟨rfl, rfl⟩
              dsimp only
              refine hK _ _ ?_; clear hK K
              refine wpAny_take (i := 6) (v := ?_) rfl (by kernel_rfl) (by kernel_rfl) (by kernel_rfl) (fun _ _ _ h => h) (Or.inl ⟨by rfl, ?_⟩) ?_
              rotate_left
              · intro w; go_simp; try with_reducible rfl
              refine wpAny_take (i := 7) (v := ?_) rfl (by kernel_rfl) (by kernel_rfl) (by kernel_rfl) (fun _ _ _ h => h) (Or.inl ⟨by rfl, ?_⟩) ?_
              rotate_left
              · intro w; go_simp; try with_reducible rfl
              refine wpAny_take (i := 8) (v := ?_) rfl (by kernel_rfl) (by kernel_rfl) (by kernel_rfl) (fun _ _ _ h => h) (Or.inl ⟨by rfl, ?_⟩) ?_
              rotate_left
              · intro w; go_simp; try with_reducible rfl
              refine wpAny_take (i := 9) (v := ?_) rfl (by kernel_rfl) (by kernel_rfl) (by kernel_rfl) (fun _ _ _ h => h) (Or.inl ⟨by rfl, ?_⟩) ?_
              rotate_left
              · intro w; go_simp; try with_reducible rfl
              refine wpAny_take (i := 10) (v := ?_) rfl (by kernel_rfl) (by kernel_rfl) (by kernel_rfl) (fun _ _ _ h => h) (Or.inl ⟨by rfl, ?_⟩) ?_
              rotate_left
              · intro w; go_simp; try with_reducible rfl
              refine wpAny_done (by kernel_rfl) ?_ _
              gi_wp2
              refine wpIn_region_of_any (by kernel_rfl) (by kernel_rfl) (by rintro ⟨_, _, h⟩; exact h) ?_
              change wpAny _ _ _ _ _ _ _ (World.drew _)
              refine wpAny_take (i := 0) (v := ?_) rfl (by kernel_rfl) (by kernel_rfl) (by kernel_rfl) (fun _ _ _ h => h) (Or.inl ⟨by rfl, ?_⟩) ?_
              rotate_left
              · intro w; go_simp; try with_reducible rfl
              refine wpAny_take (i := 1) (v := ?_) rfl (by kernel_rfl) (by kernel_rfl) (by kernel_rfl) (fun _ _ _ h => h) (Or.inl ⟨by rfl, ?_⟩) ?_
              rotate_left
              · intro w; go_simp; try with_reducible rfl
              refine wpAny_take (i := 2) (v := ?_) rfl (by kernel_rfl) (by kernel_rfl) (by kernel_rfl) (fun _ _ _ h => h) (Or.inl ⟨by rfl, ?_⟩) ?_
              rotate_left
              · intro w; go_simp; try with_reducible rfl
              refine wpAny_take (i := 4) (v := ?_) rfl (by kernel_rfl) (by kernel_rfl) (by kernel_rfl) (fun _ _ _ h => h) (Or.inl ⟨by rfl, ?_⟩) ?_
              rotate_left
              · intro w; go_simp; try with_reducible rfl
              refine wpAny_take (i := 7) (v := ?_) rfl (by kernel_rfl) (by kernel_rfl) (by kernel_rfl) (fun _ _ _ h => h) (Or.inl ⟨by rfl, ?_⟩) ?_
              rotate_left
              · intro w; go_simp; try with_reducible rfl
              refine wpAny_take (i := 8) (v := ?_) rfl (by kernel_rfl) (by kernel_rfl) (by kernel_rfl) (fun _ _ _ h => h) (Or.inl ⟨by rfl, ?_⟩) ?_
              rotate_left
              · intro w; go_simp; try with_reducible rfl
              refine wpAny_take (i := 9) (v := ?_) rfl (by kernel_rfl) (by kernel_rfl) (by kernel_rfl) (fun _ _ _ h => h) (Or.inl ⟨by rfl, ?_⟩) ?_
              rotate_left
              · intro w; go_simp; try with_reducible rfl
              refine wpAny_ready (rs := [3, 10]) (by kernel_rfl) (by simp) ?_
              refine AllReady.cons rfl (fun K hK => ?_) ?_
              · go_simp
                refine hK _ _ ?_; clear hK K
                refine wpAny_take (i := 5) (v := ?_) rfl (by kernel_rfl) (by kernel_rfl) (by kernel_rfl) (fun _ _ _ h => h) (Or.inl ⟨by rfl, ?_⟩) ?_
                rotate_left
                · intro w; go_simp; try with_reducible rfl
                refine wpAny_ready (rs := [6, 10]) (by kernel_rfl) (by simp) ?_
                refine AllReady.cons rfl (fun K hK => ?_) ?_
                · go_simp
                  go_wp2_with fail
                  refine HC.out.mono ?_
                  rintro e w2 ⟨v2, rfl, p2, rfl, hrow2, hk2⟩
                  obtain ⟨⟨hq0, hq1, hq2⟩, hq3, hq4, hg0, hg1, hg2, hg3, hg4⟩ := met_facts (met_keep HI.out.1 (((Kept.refl W).drew.drew).trans hk2))
                  have hn2 := (HCL.out.kept ((Kept.refl W.drew).drew.trans hk2)).1
                  have HR2 := Lib.hid hrow2
                  have HK2 := Lib.hid hk2
                  obtain ⟨pa, pn, pc, rfl⟩ := owns_slice hrow2
                  have hn3 := (HCW.out.kept ((((HI.out.1.2.2.2.2.trans (((Kept.refl W).drew.drew).trans hk2)).setCell (p := ⟨w.heap.size + 1, 0, none⟩) (by simp) (.string m.name)).setCell (p := ⟨w.heap.size + 1, 1, none⟩) (by simp) (.slice pa pn pc)).setCell (p := ⟨w.heap.size + 1, 2, none⟩) (by simp) (.string m.res))).1
                  clear hrow2 hk2 HC
                  dsimp only
                  refine hK _ _ ?_; clear hK K
                  refine wpAny_ready (rs := [10, 11]) (by kernel_rfl) (by simp) ?_
                  refine AllReady.cons rfl (fun K hK => ?_) ?_
                  · go_simp
                    refine hK _ _ ?_; clear hK K
                    refine wpAny_ready (rs := [11]) (by kernel_rfl) (by simp) ?_
                    refine AllReady.cons rfl (fun K hK => ?_) ?_
                    · go_simp
                      refine hK _ _ ?_; clear hK K
                      refine wpAny_ready (rs := [12]) (by kernel_rfl) (by simp) ?_
                      refine AllReady.cons rfl (fun K hK => ?_) ?_
                      · go_simp
                        refine hK _ _ ?_; clear hK K
                        refine wpAny_ready (rs := [13]) (by kernel_rfl) (by simp) ?_
                        refine AllReady.cons rfl (fun K hK => ?_) ?_
                        · go_simp
                          refine hK _ _ ?_; clear hK K
                          refine wpAny_done (by kernel_rfl) ?_ _
                          gi_wp2
                          exact met_some HI.out HX.out HY.out HR2.out HK2.out ((Kept.refl W).drew.drew) HSZ.out
                        exact AllReady.nil
                      exact AllReady.nil
                    exact AllReady.nil
                  refine AllReady.cons rfl (fun K hK => ?_) ?_
                  · go_simp
                    refine hK _ _ ?_; clear hK K
                    refine wpAny_ready (rs := [10]) (by kernel_rfl) (by simp) ?_
                    refine AllReady.cons rfl (fun K hK => ?_) ?_
                    · go_simp
                      refine hK _ _ ?_; clear hK K
                      refine wpAny_ready (rs := [12]) (by kernel_rfl) (by simp) ?_
                      refine AllReady.cons rfl (fun K hK => ?_) ?_
                      · go_simp
                        refine hK _ _ ?_; clear hK K
                        refine wpAny_ready (rs := [13]) (by kernel_rfl) (by simp) ?_
                        refine AllReady.cons rfl (fun K hK => ?_) ?_
                        · go_simp
                          refine hK _ _ ?_; clear hK K
                          refine wpAny_done (by kernel_rfl) ?_ _
                          gi_wp2
                          exact met_some HI.out HX.out HY.out HR2.out HK2.out ((Kept.refl W).drew.drew) HSZ.out
                        exact AllReady.nil
                      exact AllReady.nil
                    exact AllReady.nil
                  exact AllReady.nil
                refine AllReady.cons rfl (fun K hK => ?_) ?_
                · go_simp
                  refine hK _ _ ?_; clear hK K
                  refine wpAny_ready (rs := [6]) (by kernel_rfl) (by simp) ?_
                  refine AllReady.cons rfl (fun K hK => ?_) ?_
                  · go_simp
                    go_wp2_with fail
                    refine HC.out.mono ?_
                    rintro e w2 ⟨v2, rfl, p2, rfl, hrow2, hk2⟩
                    obtain ⟨⟨hq0, hq1, hq2⟩, hq3, hq4, hg0, hg1, hg2, hg3, hg4⟩ := met_facts (met_keep HI.out.1 (((Kept.refl W).drew.drew).trans hk2))
                    have hn2 := (HCL.out.kept ((Kept.refl W.drew).drew.trans hk2)).1
                    have HR2 := Lib.hid hrow2
                    have HK2 := Lib.hid hk2
                    obtain ⟨pa, pn, pc, rfl⟩ := owns_slice hrow2
                    have hn3 := (HCW.out.kept ((((HI.out.1.2.2.2.2.trans (((Kept.refl W).drew.drew).trans hk2)).setCell (p := ⟨w.heap.size + 1, 0, none⟩) (by simp) (.string m.name)).setCell (p := ⟨w.heap.size + 1, 1, none⟩) (by simp) (.slice pa pn pc)).setCell (p := ⟨w.heap.size + 1, 2, none⟩) (by simp) (.string m.res))).1
                    clear hrow2 hk2 HC
                    dsimp only
                    refine hK _ _ ?_; clear hK K
                    refine wpAny_ready (rs := [11]) (by kernel_rfl) (by simp) ?_
                    refine AllReady.cons rfl (fun K hK => ?_) ?_
                    · go_simp
                      refine hK _ _ ?_; clear hK K
                      refine wpAny_ready (rs := [12]) (by kernel_rfl) (by simp) ?_
                      refine AllReady.cons rfl (fun K hK => ?_) ?_
                      · go_simp
                        refine hK _ _ ?_; clear hK K
                        refine wpAny_ready (rs := [13]) (by kernel_rfl) (by simp) ?_
                        refine AllReady.cons rfl (fun K hK => ?_) ?_
                        · go_simp
                          refine hK _ _ ?_; clear hK K
                          refine wpAny_done (by kernel_rfl) ?_ _
                          gi_wp2
                          exact met_some HI.out HX.out HY.out HR2.out HK2.out ((Kept.refl W).drew.drew) HSZ.out
                        exact AllReady.nil
                      exact AllReady.nil
                    exact AllReady.nil
                  exact AllReady.nil
                exact AllReady.nil
              refine AllReady.cons rfl (fun K hK => ?_) ?_
              · go_simp
                refine hK _ _ ?_; clear hK K
                refine wpAny_ready (rs := [3]) (by kernel_rfl) (by simp) ?_
                refine AllReady.cons rfl (fun K hK => ?_) ?_
                · go_simp
                  refine hK _ _ ?_; clear hK K
                  refine wpAny_take (i := 5) (v := ?_) rfl (by kernel_rfl) (by kernel_rfl) (by kernel_rfl) (fun _ _ _ h => h) (Or.inl ⟨by rfl, ?_⟩) ?_
                  rotate_left
                  · intro w; go_simp; try with_reducible rfl
                  refine wpAny_ready (rs := [6]) (by kernel_rfl) (by simp) ?_
                  refine AllReady.cons rfl (fun K hK => ?_) ?_
                  · go_simp
                    go_wp2_with fail
                    refine HC.out.mono ?_
                    rintro e w2 ⟨v2, rfl, p2, rfl, hrow2, hk2⟩
                    obtain ⟨⟨hq0, hq1, hq2⟩, hq3, hq4, hg0, hg1, hg2, hg3, hg4⟩ := met_facts (met_keep HI.out.1 (((Kept.refl W).drew.drew).trans hk2))
                    have hn2 := (HCL.out.kept ((Kept.refl W.drew).drew.trans hk2)).1
                    have HR2 := Lib.hid hrow2
                    have HK2 := Lib.hid hk2
                    obtain ⟨pa, pn, pc, rfl⟩ := owns_slice hrow2
                    have hn3 := (HCW.out.kept ((((HI.out.1.2.2.2.2.trans (((Kept.refl W).drew.drew).trans hk2)).setCell (p := ⟨w.heap.size + 1, 0, none⟩) (by simp) (.string m.name)).setCell (p := ⟨w.heap.size + 1, 1, none⟩) (by simp) (.slice pa pn pc)).setCell (p := ⟨w.heap.size + 1, 2, none⟩) (by simp) (.string m.res))).1
                    clear hrow2 hk2 HC
                    dsimp only
                    refine hK _ _ ?_; clear hK K
                    refine wpAny_ready (rs := [11]) (by kernel_rfl) (by simp) ?_
                    refine AllReady.cons rfl (fun K hK => ?_) ?_
                    · go_simp
                      refine hK _ _ ?_; clear hK K
                      refine wpAny_ready (rs := [12]) (by kernel_rfl) (by simp) ?_
                      refine AllReady.cons rfl (fun K hK => ?_) ?_
                      · go_simp
                        refine hK _ _ ?_; clear hK K
                        refine wpAny_ready (rs := [13]) (by kernel_rfl) (by simp) ?_
                        refine AllReady.cons rfl (fun K hK => ?_) ?_
                        · go_simp
                          refine hK _ _ ?_; clear hK K
                          refine wpAny_done (by kernel_rfl) ?_ _
                          gi_wp2
                          exact met_some HI.out HX.out HY.out HR2.out HK2.out ((Kept.refl W).drew.drew) HSZ.out
                        exact AllReady.nil
                      exact AllReady.nil
                    exact AllReady.nil
                  exact AllReady.nil
                exact AllReady.nil
              exact AllReady.nil
            exact AllReady.nil
          exact AllReady.nil
        exact AllReady.nil
  case done =>
    rintro D W hD hIW hd
    have HI := Lib.hid hIW
    have hDn : w.heap.size + 6 ≤ D := by have := HS1.out; have := HS3.out; omega
    obtain ⟨⟨hq0, hq1, hq2⟩, hq3, hq4, hg0, hg1, hg2, hg3, hg4⟩ := met_facts hIW.1
    have hF := met_zero HI.out.1
    have hd' : (metZ w W).heap[D]? = some (.deferred (some [])) := hF.1.same hd (by omega)
    have hR := metC_only hF.2 (Only.putObj (Only.refl (· = D) (metZ w W)) (.inl rfl) (.deferred none)) (fun k h => by omega)
    have HD := Lib.hid hDn
    have HR := Lib.hid hR
    have HE := Lib.hid hd'
    clear hIW hD hI3 HI1 e1 e3 hd' hR hF hDn hd
    go_wp2
    clear hq0 hq1 hq2 hq3 hq4 hg0 hg1 hg2 hg3 hg4
    change bodyPostM _ _ _ _ _ _ _ (metZ w W)
    obtain ⟨⟨hq0, hq1, hq2⟩, hq3, hq4, _⟩ := met_facts HR.out
    generalize metZ w W = Wf at *
    refine ⟨by simp, .inl ⟨_, _, rfl, run_takeDeferred HE.out, ?_⟩⟩
    exact ⟨_, by simp [results, Tryd.results64, go_sem, hq0, hq1, hq2, hq3, hq4], HR.out.2.2.2.2, .inl ⟨method_no HI.out.2, rfl⟩⟩
  case stop =>
    rintro D c pre W hD hpre ⟨rfl, pre0, i, m, p, rfl, h1, h2, h3, h4⟩ hd
    have hDn : w.heap.size + 6 ≤ D ∧ D < w.heap.size + 9 := by have := HS1.out; have := HS3.out; omega
    have hR := metC_only h3 (Only.putObj (Only.refl (· = D) W) (.inl rfl) (.deferred none)) (fun k h => by omega)
    have hO := owns_only h4 (Only.putObj (Only.refl (· = D) W) (.inl rfl) (.deferred none)) (fun g hg h => by omega)
    have HM := Lib.hid (method_yes hpre h1 h2)
    have q0 := hR.2.1.cell 0
    have q1 := hR.2.1.cell 1
    have q2 := hR.2.1.cell 2
    have q3 := hR.2.2.1.cell 0
    have q4 := hR.2.2.2.1.cell 0
    simp only [List.getElem?_toArray, List.getElem?_cons_zero, List.getElem?_cons_succ] at q0 q1 q2 q3 q4
    have HR := Lib.hid hR
    have HO := Lib.hid hO
    clear hR hO h1 h2 h3 h4 hpre hI3 HI1 e1 e3 hD hDn
    gi_wp2
    refine ⟨by simp, .inl ⟨_, _, rfl, run_takeDeferred hd, ?_⟩⟩
    exact ⟨_, by simp [results, Tryd.results64, go_sem, q0, q1, q2, q3, q4], HR.out.2.2.2.2, .inr ⟨m, _, p, HM.out, rfl, owns_base HO.out (by omega)⟩⟩

end Go.Proofs.YtdceafncncgfbaaDoor

namespace Go.Proofs.YtdceafncncgfbaaDoor
open Go.ChangeShapes Go.WideShapes Go.ChangeAt Go.RowKit Go.Shelf
attribute [local go_sem] Oper.semAt_some

def fldAcc (t : List Tab.C) (nm : ByteArray) (pre : List Nat) : Option ByteArray := pre.foldl (fun a i => (Tab.fieldOf nm (Tab.nth t i)).or a) none
theorem fldAcc_snoc (t : List Tab.C) (nm : ByteArray) (pre : List Nat) (i : Nat) : fldAcc t nm (pre ++ [i]) = (Tab.fieldOf nm (Tab.nth t i)).or (fldAcc t nm pre) := by unfold fldAcc; simp

/-- Within the loop: the name, and what was found so far. -/
def FleI (t : List Tab.C) (nm : ByteArray) (w : World) (pre : List Nat) (W : World) : Prop :=
  Blk W w.heap.size 9 #[.string nm] ∧ Blk W (w.heap.size + 1) 9 #[.string ((fldAcc t nm pre).getD ⟨#[]⟩)] ∧ Blk W (w.heap.size + 1 + 1) 4 #[.bool (fldAcc t nm pre).isSome] ∧ Kept w W

theorem fld_none {t : List Tab.C} {nm : ByteArray} {w W : World} {U : Nat → Prop} {pre : List Nat} {i : Nat} (h : FleI t nm w pre W) (hx : Tab.ix Tab.V.name (Tab.nth t i).fields nm = none) :
    Only U W W.drew ∧ FleI t nm w (pre ++ [i]) W.drew := by
  have e : fldAcc t nm (pre ++ [i]) = fldAcc t nm pre := by
    rw [fldAcc_snoc]
    unfold Tab.fieldOf
    rw [hx]; rfl
  refine ⟨(Only.refl _ W).drew, ?_⟩
  unfold FleI at h ⊢
  rw [e]
  exact ⟨h.1, h.2.1, h.2.2.1, h.2.2.2.drew⟩

theorem fld_some {t : List Tab.C} {nm : ByteArray} {w W : World} {X : Nat → Prop} {pre : List Nat} {i k : Nat} {x : Tab.V} (h : FleI t nm w pre W) (hx : Tab.ix Tab.V.name (Tab.nth t i).fields nm = some k) (hy : (Tab.nth t i).fields[k]? = some x) :
    Only (fun k => (k = w.heap.size + 1 ∨ k = w.heap.size + 1 + 1) ∨ X k) W ((W.drew.setCell ⟨w.heap.size + 1, 0, none⟩ (.string x.typ)).setCell ⟨w.heap.size + 1 + 1, 0, none⟩ (.bool true)) ∧
      FleI t nm w (pre ++ [i]) ((W.drew.setCell ⟨w.heap.size + 1, 0, none⟩ (.string x.typ)).setCell ⟨w.heap.size + 1 + 1, 0, none⟩ (.bool true)) := by
  have e : fldAcc t nm (pre ++ [i]) = some x.typ := by
    rw [fldAcc_snoc]
    unfold Tab.fieldOf
    rw [hx]
    simp [hy]
  have hO : Only (fun k => k = w.heap.size + 1 ∨ k = w.heap.size + 1 + 1) W ((W.drew.setCell ⟨w.heap.size + 1, 0, none⟩ (.string x.typ)).setCell ⟨w.heap.size + 1 + 1, 0, none⟩ (.bool true)) :=
    (((Only.refl _ W).drew).setCell (p := ⟨w.heap.size + 1, 0, none⟩) (.inl (.inl rfl)) _).setCell (p := ⟨w.heap.size + 1 + 1, 0, none⟩) (.inl (.inr rfl)) _
  refine ⟨hO.mono fun k _ h => .inl h, ?_⟩
  unfold FleI at h ⊢
  rw [e]
  refine ⟨h.1.only hO (by omega), ?_, ?_, h.2.2.2.onlyS hO (fun k h => by omega)⟩
  · have h1 : Blk (W.drew.setCell ⟨w.heap.size + 1, 0, none⟩ (.string x.typ)) (w.heap.size + 1) 9 #[.string x.typ] := (show Blk W.drew _ _ _ from h.2.1).put 0 _
    exact h1.only ((Only.refl (· = w.heap.size + 1 + 1) _).put 0 _) (by omega)
  · have h2 : Blk (W.drew.setCell ⟨w.heap.size + 1, 0, none⟩ (.string x.typ)) (w.heap.size + 1 + 1) 4 _ := (show Blk W.drew _ _ _ from h.2.2.1).only ((Only.refl (· = w.heap.size + 1) _).put 0 _) (by omega)
    exact h2.put 0 _

theorem fldI_only {t : List Tab.C} {nm : ByteArray} {w A B : World} {pre : List Nat} {S : Nat → Prop} (h : FleI t nm w pre A) (ho : Only S A B) (hs : ∀ k, S k → w.heap.size + 3 ≤ k) : FleI t nm w pre B :=
  ⟨h.1.only ho (fun e => by have := hs _ e; omega), h.2.1.only ho (fun e => by have := hs _ e; omega), h.2.2.1.only ho (fun e => by have := hs _ e; omega), h.2.2.2.onlyS ho (fun k e => by have := hs k e; omega)⟩

set_option maxHeartbeats 2000000 in
theorem field_c (a : Option Addr) (c : Nat) (t : List Tab.C) (s nm : ByteArray) (w : World) (hT : TabAt w (.slice a t.length c) t) (ht : t.length ≤ 1000) :
    Calls Tryd.prog 63 #[.slice a t.length c, .string s, .string nm] w fun e w' => e = .returned (.tuple #[.string ((Tab.field t s nm).getD ⟨#[]⟩), .bool (Tab.field t s nm).isSome]) ∧ Kept w w' := by
  refine (callsIn_wide (n := 3)).1 (callsIn_of_wp_marks Tryd.func63 rfl trivial (wpIn_wide.2 ?_) rfl)
  simp only [Tryd.ntmps63, List.size_toArray, List.length_cons, List.length_nil, Nat.reduceAdd, Nat.reduceSub, Array.replicate_succ, Array.replicate_zero, List.push_toArray, List.append_toArray, List.nil_append, List.cons_append]
  have HT := Lib.hid hT
  clear hT
  go_wp2_with fail
  obtain ⟨W1, hW1⟩ : ∃ W1, ((w.alloc (.cells #[.string nm] 9)).alloc (.cells #[.string ⟨#[]⟩] 9)).alloc (.cells #[.bool false] 4) = W1 := ⟨_, rfl⟩
  have hI1 : FleI t nm w [] W1 := by
    rw [← hW1]
    have h2 := Blk.new (w.alloc (.cells #[.string nm] 9)) 9 #[.string ⟨#[]⟩]
    have h3 := Blk.new ((w.alloc (.cells #[.string nm] 9)).alloc (.cells #[.string ⟨#[]⟩] 9)) 4 #[.bool false]
    simp only [World.size_alloc] at h2 h3
    exact ⟨((Blk.new w _ _).alloc _).alloc _, h2.alloc _, h3, (((Kept.refl w).alloc _).alloc _).alloc _⟩
  have hs1 : W1.heap.size = w.heap.size + 3 := by rw [← hW1]; simp
  have HS1 := Lib.hid hs1
  have HI1 := Lib.hid hI1
  rw [hW1]
  clear hW1 hs1 hI1
  refine (line_lineC a c t s _).mono ?_
  rintro e w3 ⟨rfl, hw3⟩
  have HK3 := Lib.hid (show Kept W1 w3 by rw [hw3]; exact ((Kept.refl W1).alloc _).alloc _)
  have HS3 := Lib.hid (show w3.heap.size = W1.heap.size + 2 by rw [hw3]; simp)
  have HB1 := Lib.hid (show Blk w3 W1.heap.size 22 #[.slice a t.length c] by rw [hw3]; exact (Blk.new _ _ _).alloc _)
  have HB2 := Lib.hid (show Blk w3 (W1.heap.size + 1) 9 #[.string s] by
    rw [hw3]
    have := Blk.new (W1.alloc (.cells #[.slice a t.length c] 22)) 9 #[.string s]
    simpa using this)
  clear hw3
  go_wp2_with fail
  have e1 : w.heap.size + 3 ≤ W1.heap.size := by have := HS1.out; omega
  have e3 : W1.heap.size + 2 ≤ w3.heap.size := by have := HS3.out; omega
  have hI3 : FleI t nm w [] w3 := fldI_only HI1.out (S := fun _ => False) (Only.of_kept HK3.out) (fun k h => h.elim)
  refine wpIn_wide.1 (wpIn_range_line (w0 := w) (bt := W1.heap.size) (bn := W1.heap.size + 1) a c t s (fun k => k = w.heap.size + 1 ∨ k = w.heap.size + 1 + 1) rfl HT.out ht hI3.2.2.2 HB1.out HB2.out (by omega) (by omega) (by omega) (fun k e => by omega) rfl
    (FleI t nm w) (fun _ _ _ => False) (fun pre A B h o => fldI_only h o (fun k h => by omega)) (fun _ _ _ _ h _ => h) hI3
    (fun i => { tmps := #[.slice a t.length c, .string s, .string nm, undef, undef, .pointer (some ⟨w.heap.size, 0, none⟩), .string ⟨#[]⟩, .bool false, .pointer (some ⟨w.heap.size + 1, 0, none⟩), .pointer (some ⟨w.heap.size + 1 + 1, 0, none⟩), elC a i, undef, undef, .slice a t.length c, .string s, .func (.func 83) #[] #[.pointer (some ⟨W1.heap.size, 0, none⟩), .pointer (some ⟨W1.heap.size + 1, 0, none⟩)], elC a i, undef, undef, undef, undef, undef, undef, undef, undef, undef, undef, undef, undef, undef, undef, undef, undef, undef, undef, undef, undef], defers := [] }) ?assign ?body ?done ?stop)
  case assign =>
    intro l i W K hK
    gi_wp2
    exact hK
  case body =>
    rintro l pre i b o W hl _ hIW hsize hpre hi' rfl hcl
    have HI := Lib.hid hIW
    obtain ⟨_, _, ⟨u, hc0, hu⟩, _⟩ := hcl.kept hIW.2.2.2
    have hn0 := hIW.1.cell 0
    have hn1 := hIW.2.1.cell 0
    have hn2 := hIW.2.2.1.cell 0
    have hf1 := hIW.2.1.frozen 0
    have hf2 := hIW.2.2.1.frozen 0
    simp at hn0 hn1 hn2
    have HF := Lib.hid (tfindVar_c (Tab.nth t i).fields u nm W.drew (vars_kept hu (Kept.refl W).drew))
    unfold FindPost at HF
    have HU := Lib.hid hu
    obtain ⟨ua, un, uc, rfl⟩ : ∃ a n c, u = .slice a n c := by obtain ⟨a, c, e, _⟩ := hu; exact ⟨_, _, _, e⟩
    simp only [elC, evC, Option.map_some]
    clear hcl hpre hIW hI3 HI1 hu e1 e3 hsize hl
    cases hix : Tab.ix Tab.V.name (Tab.nth t i).fields nm with
    | none =>
      have HX := Lib.hid hix
      rw [hix] at HF
      clear hix
      simp only [Tab.num, Option.isSome_none] at HF
      gi_wp2
      refine wpIn_region_of_any (by kernel_rfl) (by kernel_rfl) (by rintro ⟨_, _, h⟩; exact h) ?_
      · change wpAny _ _ _ _ _ _ _ (World.drew _)
        refine wpAny_take (i := 0) (v := ?_) rfl (by kernel_rfl) (by kernel_rfl) (by kernel_rfl) (fun _ _ _ h => h) (Or.inl ⟨by rfl, ?_⟩) ?_
        rotate_left
        · intro w; go_simp; try with_reducible rfl
        refine wpAny_take (i := 1) (v := ?_) rfl (by kernel_rfl) (by kernel_rfl) (by kernel_rfl) (fun _ _ _ h => h) (Or.inl ⟨by rfl, ?_⟩) ?_
        rotate_left
        · intro w; go_simp; try with_reducible rfl
        refine wpAny_take (i := 2) (v := ?_) rfl (by kernel_rfl) (by kernel_rfl) (by kernel_rfl) (fun _ _ _ h => h) (Or.inl ⟨by rfl, ?_⟩) ?_
        rotate_left
        · intro w; go_simp; try with_reducible rfl
        refine wpAny_ready (rs := [3, 4]) (by kernel_rfl) (by simp) ?_
        refine AllReady.cons rfl (fun K hK => ?_) ?_
        · go_simp
          refine hK _ _ ?_; clear hK K
          refine wpAny_ready (rs := [4]) (by kernel_rfl) (by simp) ?_
          refine AllReady.cons rfl (fun K hK => ?_) ?_
          · go_simp
            refine hK _ _ ?_; clear hK K
            refine wpAny_ready (rs := [5]) (by kernel_rfl) (by simp) ?_
            refine AllReady.cons rfl (fun K hK => ?_) ?_
            · go_simp
              go_wp2_with fail
              refine HF.out.mono ?_
              rintro e w2 ⟨rfl, rfl⟩
              dsimp only
              refine hK _ _ ?_; clear hK K
              refine wpAny_take (i := 6) (v := ?_) rfl (by kernel_rfl) (by kernel_rfl) (by kernel_rfl) (fun _ _ _ h => h) (Or.inl ⟨by rfl, ?_⟩) ?_
              rotate_left
              · intro w; go_simp; try with_reducible rfl
              refine wpAny_take (i := 7) (v := ?_) rfl (by kernel_rfl) (by kernel_rfl) (by kernel_rfl) (fun _ _ _ h => h) (Or.inl ⟨by rfl, ?_⟩) ?_
              rotate_left
              · intro w; go_simp; try with_reducible rfl
              refine wpAny_take (i := 8) (v := ?_) rfl (by kernel_rfl) (by kernel_rfl) (by kernel_rfl) (fun _ _ _ h => h) (Or.inl ⟨by rfl, ?_⟩) ?_
              rotate_left
              · intro w; go_simp; try with_reducible rfl
              refine wpAny_take (i := 9) (v := ?_) rfl (by kernel_rfl) (by kernel_rfl) (by kernel_rfl) (fun _ _ _ h => h) (Or.inl ⟨by rfl, ?_⟩) ?_
              rotate_left
              · intro w; go_simp; try with_reducible rfl
              refine wpAny_take (i := 10) (v := ?_) rfl (by kernel_rfl) (by kernel_rfl) (by kernel_rfl) (fun _ _ _ h => h) (Or.inl ⟨by rfl, ?_⟩) ?_
              rotate_left
              · intro w; go_simp; try with_reducible rfl
              refine wpAny_done (by kernel_rfl) ?_ _
              gi_wp2
              exact fld_none HI.out HX.out
            exact AllReady.nil
          exact AllReady.nil
        refine AllReady.cons rfl (fun K hK => ?_) ?_
        · go_simp
          refine hK _ _ ?_; clear hK K
          refine wpAny_ready (rs := [3]) (by kernel_rfl) (by simp) ?_
          refine AllReady.cons rfl (fun K hK => ?_) ?_
          · go_simp
            refine hK _ _ ?_; clear hK K
            refine wpAny_ready (rs := [5]) (by kernel_rfl) (by simp) ?_
            refine AllReady.cons rfl (fun K hK => ?_) ?_
            · go_simp
              go_wp2_with fail
              refine HF.out.mono ?_
              rintro e w2 ⟨rfl, rfl⟩
              dsimp only
              refine hK _ _ ?_; clear hK K
              refine wpAny_take (i := 6) (v := ?_) rfl (by kernel_rfl) (by kernel_rfl) (by kernel_rfl) (fun _ _ _ h => h) (Or.inl ⟨by rfl, ?_⟩) ?_
              rotate_left
              · intro w; go_simp; try with_reducible rfl
              refine wpAny_take (i := 7) (v := ?_) rfl (by kernel_rfl) (by kernel_rfl) (by kernel_rfl) (fun _ _ _ h => h) (Or.inl ⟨by rfl, ?_⟩) ?_
              rotate_left
              · intro w; go_simp; try with_reducible rfl
              refine wpAny_take (i := 8) (v := ?_) rfl (by kernel_rfl) (by kernel_rfl) (by kernel_rfl) (fun _ _ _ h => h) (Or.inl ⟨by rfl, ?_⟩) ?_
              rotate_left
              · intro w; go_simp; try with_reducible rfl
              refine wpAny_take (i := 9) (v := ?_) rfl (by kernel_rfl) (by kernel_rfl) (by kernel_rfl) (fun _ _ _ h => h) (Or.inl ⟨by rfl, ?_⟩) ?_
              rotate_left
              · intro w; go_simp; try with_reducible rfl
              refine wpAny_take (i := 10) (v := ?_) rfl (by kernel_rfl) (by kernel_rfl) (by kernel_rfl) (fun _ _ _ h => h) (Or.inl ⟨by rfl, ?_⟩) ?_
              rotate_left
              · intro w; go_simp; try with_reducible rfl
              refine wpAny_done (by kernel_rfl) ?_ _
              gi_wp2
              exact fld_none HI.out HX.out
            exact AllReady.nil
          exact AllReady.nil
        exact AllReady.nil
    | some k =>
      have HX := Lib.hid hix
      obtain ⟨hk, _⟩ := Tab.ix_lt hix
      have hy : (Tab.nth t i).fields[k]? = some (Tab.nth t i).fields[k] := List.getElem?_eq_getElem hk
      obtain ⟨ua', uc', e, _, _, hat⟩ := HU.out
      obtain ⟨ub, uo, e2, hva⟩ := hat _ _ hy
      generalize (Tab.nth t i).fields[k] = x at hy hva
      injection e with e4 e5 e6
      subst e4 e5 e6 e2
      have HY := Lib.hid hy
      have hvt := hva.2.1
      have hkI : (k : Int) < ((Tab.nth t i).fields.length : Int) := by omega
      rw [hix] at HF
      clear hix hy hat hva HU
      simp only [Tab.num, Option.isSome_some] at HF
      gi_wp2
      refine wpIn_region_of_any (by kernel_rfl) (by kernel_rfl) (by rintro ⟨_, _, h⟩; exact h) ?_
      · change wpAny _ _ _ _ _ _ _ (World.drew _)
        refine wpAny_take (i := 0) (v := ?_) rfl (by kernel_rfl) (by kernel_rfl) (by kernel_rfl) (fun _ _ _ h => h) (Or.inl ⟨by rfl, ?_⟩) ?_
        rotate_left
        · intro w; go_simp; try with_reducible rfl
        refine wpAny_take (i := 1) (v := ?_) rfl (by kernel_rfl) (by kernel_rfl) (by kernel_rfl) (fun _ _ _ h => h) (Or.inl ⟨by rfl, ?_⟩) ?_
        rotate_left
        · intro w; go_simp; try with_reducible rfl
        refine wpAny_take (i := 2) (v := ?_) rfl (by kernel_rfl) (by kernel_rfl) (by kernel_rfl) (fun _ _ _ h => h) (Or.inl ⟨by rfl, ?_⟩) ?_
        rotate_left
        · intro w; go_simp; try with_reducible rfl
        refine wpAny_ready (rs := [3, 4]) (by kernel_rfl) (by simp) ?_
        refine AllReady.cons rfl (fun K hK => ?_) ?_
        · go_simp
          refine hK _ _ ?_; clear hK K
          refine wpAny_ready (rs := [4]) (by kernel_rfl) (by simp) ?_
          refine AllReady.cons rfl (fun K hK => ?_) ?_
          · go_simp
            refine hK _ _ ?_; clear hK K
            refine wpAny_ready (rs := [5]) (by kernel_rfl) (by simp) ?_
            refine AllReady.cons rfl (fun K hK => ?_) ?_
            · go_simp
              go_wp2_with fail
              refine HF.out.mono ?_
              rintro e w2 ⟨rfl, rfl⟩
              dsimp only
              refine hK _ _ ?_; clear hK K
              refine wpAny_take (i := 6) (v := ?_) rfl (by kernel_rfl) (by kernel_rfl) (by kernel_rfl) (fun _ _ _ h => h) (Or.inl ⟨by rfl, ?_⟩) ?_
              rotate_left
              · intro w; go_simp; try with_reducible rfl
              refine wpAny_take (i := 7) (v := ?_) rfl (by kernel_rfl) (by kernel_rfl) (by kernel_rfl) (fun _ _ _ h => h) (Or.inl ⟨by rfl, ?_⟩) ?_
              rotate_left
              · intro w; go_simp; try with_reducible rfl
              refine wpAny_take (i := 8) (v := ?_) rfl (by kernel_rfl) (by kernel_rfl) (by kernel_rfl) (fun _ _ _ h => h) (Or.inl ⟨by rfl, ?_⟩) ?_
              rotate_left
              · intro w; go_simp; try with_reducible rfl
              refine wpAny_take (i := 9) (v := ?_) rfl (by kernel_rfl) (by kernel_rfl) (by kernel_rfl) (fun _ _ _ h => h) (Or.inl ⟨by rfl, ?_⟩) ?_
              rotate_left
              · intro w; go_simp; try with_reducible rfl
              refine wpAny_take (i := 10) (v := ?_) rfl (by kernel_rfl) (by kernel_rfl) (by kernel_rfl) (fun _ _ _ h => h) (Or.inl ⟨by rfl, ?_⟩) ?_
              rotate_left
              · intro w; go_simp; try with_reducible rfl
              refine wpAny_done (by kernel_rfl) ?_ _
              gi_wp2
              exact fld_some HI.out HX.out HY.out
            exact AllReady.nil
          exact AllReady.nil
        refine AllReady.cons rfl (fun K hK => ?_) ?_
        · go_simp
          refine hK _ _ ?_; clear hK K
          refine wpAny_ready (rs := [3]) (by kernel_rfl) (by simp) ?_
          refine AllReady.cons rfl (fun K hK => ?_) ?_
          · go_simp
            refine hK _ _ ?_; clear hK K
            refine wpAny_ready (rs := [5]) (by kernel_rfl) (by simp) ?_
            refine AllReady.cons rfl (fun K hK => ?_) ?_
            · go_simp
              go_wp2_with fail
              refine HF.out.mono ?_
              rintro e w2 ⟨rfl, rfl⟩
              dsimp only
              refine hK _ _ ?_; clear hK K
              refine wpAny_take (i := 6) (v := ?_) rfl (by kernel_rfl) (by kernel_rfl) (by kernel_rfl) (fun _ _ _ h => h) (Or.inl ⟨by rfl, ?_⟩) ?_
              rotate_left
              · intro w; go_simp; try with_reducible rfl
              refine wpAny_take (i := 7) (v := ?_) rfl (by kernel_rfl) (by kernel_rfl) (by kernel_rfl) (fun _ _ _ h => h) (Or.inl ⟨by rfl, ?_⟩) ?_
              rotate_left
              · intro w; go_simp; try with_reducible rfl
              refine wpAny_take (i := 8) (v := ?_) rfl (by kernel_rfl) (by kernel_rfl) (by kernel_rfl) (fun _ _ _ h => h) (Or.inl ⟨by rfl, ?_⟩) ?_
              rotate_left
              · intro w; go_simp; try with_reducible rfl
              refine wpAny_take (i := 9) (v := ?_) rfl (by kernel_rfl) (by kernel_rfl) (by kernel_rfl) (fun _ _ _ h => h) (Or.inl ⟨by rfl, ?_⟩) ?_
              rotate_left
              · intro w; go_simp; try with_reducible rfl
              refine wpAny_take (i := 10) (v := ?_) rfl (by kernel_rfl) (by kernel_rfl) (by kernel_rfl) (fun _ _ _ h => h) (Or.inl ⟨by rfl, ?_⟩) ?_
              rotate_left
              · intro w; go_simp; try with_reducible rfl
              refine wpAny_done (by kernel_rfl) ?_ _
              gi_wp2
              exact fld_some HI.out HX.out HY.out
            exact AllReady.nil
          exact AllReady.nil
        exact AllReady.nil
  case done =>
    rintro D W hD hIW hd
    have HI := Lib.hid hIW
    have hn1 := hIW.2.1.cell 0
    have hn2 := hIW.2.2.1.cell 0
    have HD := Lib.hid hD
    have HO := Lib.hid (show Only (· = D) W.drew (W.drew.putObj D (.deferred none)) from Only.putObj (Only.refl (· = D) W.drew) (.inl rfl) _)
    rw [show fldAcc t nm (Tab.line t s) = Tab.field t s nm from rfl] at hn1 hn2
    simp at hn1 hn2
    clear hIW hD hI3 HI1 e1 e3
    go_wp2
    go_region
    all_goals
      go_wp2
      refine ⟨by simp, .inl ⟨_, _, rfl, run_takeDeferred (show W.drew.heap[D]? = _ from hd), ?_⟩⟩
      exact ⟨_, by simp [results, Tryd.results63, go_sem], rfl, HI.out.2.2.2.drew.onlyS HO.out (by intro k e; have := HD.out; have := HS3.out; have := HS1.out; omega)⟩
  case stop =>
    rintro D c pre W _ _ h _
    exact h.elim

end Go.Proofs.YtdceafncncgfbaaDoor

namespace Go.Proofs.YtdceafncncgfbaaDoor
open Go.RowKit Go.Shelf
attribute [local go_sem] Oper.semAt_some

/-- A method as it lies in memory: with the slice of its parameters. -/
abbrev MV := { x : Tab.M × Value // ∃ a c, x.2 = .slice a x.1.params.length c }
def MV.val (x : MV) : Value := .agg #[.string x.1.1.name, x.1.2, .string x.1.1.res]

/-- Which methods a slice has. -/
def MvAt (w : World) (a : Option Addr) (L : List MV) : Prop :=
  ∀ (k : Nat) (x : MV), L[k]? = some x → ∃ b o, a = some ⟨b, o, none⟩ ∧ w.cell? ⟨b, o + k * 3, none⟩ = some (.string x.1.1.name) ∧ w.cell? ⟨b, o + k * 3 + 1, none⟩ = some x.1.2 ∧ w.cell? ⟨b, o + k * 3 + 2, none⟩ = some (.string x.1.1.res)

theorem mv_of_row {w : World} {v : Value} {l : List Tab.M} (h : Row 3 SigAt w v l) : ∃ (a : Option Addr) (c : Nat) (L : List MV), v = .slice a l.length c ∧ L.map (fun x => x.1.1) = l ∧ MvAt w a L := by
  obtain ⟨a, c, rfl, h1, h2, h3⟩ := h
  have each : ∀ i : Fin l.length, ∃ y : MV, y.1.1 = l[i] ∧ ∃ b o, a = some ⟨b, o, none⟩ ∧ w.cell? ⟨b, o + i.1 * 3, none⟩ = some (.string y.1.1.name) ∧ w.cell? ⟨b, o + i.1 * 3 + 1, none⟩ = some y.1.2 ∧ w.cell? ⟨b, o + i.1 * 3 + 2, none⟩ = some (.string y.1.1.res) := fun i => by
    obtain ⟨b, o, e, c0, ⟨p, c1, hp⟩, c2, _⟩ := h3 i.1 l[i] (List.getElem?_eq_getElem i.2)
    obtain ⟨pa, pc, rfl, _⟩ := hp
    exact ⟨⟨(l[i], .slice pa l[i].params.length pc), pa, pc, rfl⟩, rfl, b, o, e, c0, c1, c2⟩
  let g : Fin l.length → MV := fun i => Classical.choose (each i)
  have gs := fun i : Fin l.length => Classical.choose_spec (each i)
  refine ⟨a, c, List.ofFn g, rfl, ?_, fun k x hx => ?_⟩
  · refine List.ext_getElem (by simp) fun k h1 h2 => ?_
    rw [List.getElem_map, List.getElem_ofFn]
    exact (gs ⟨k, h2⟩).1
  · obtain ⟨hk, hy⟩ := List.getElem?_eq_some_iff.1 hx
    have hk' : k < l.length := by simpa using hk
    have hxg : x = g ⟨k, hk'⟩ := by rw [← hy]; simp
    rw [hxg]
    exact (gs ⟨k, hk'⟩).2

theorem MvAt.kept {w w' : World} {a : Option Addr} {L : List MV} (h : MvAt w a L) (k : Kept w w') : MvAt w' a L := fun j x hx => by
  obtain ⟨b, o, e, c0, c1, c2⟩ := h j x hx
  exact ⟨b, o, e, k.cell c0, k.cell c1, k.cell c2⟩

/-- What lay ahead of w0's end, and the iterator's box, are as they were. -/
def Kpn (n₀ B : Nat) (W W' : World) : Prop := W'.os = W.os ∧ W'.output = W.output ∧ W.heap.size ≤ W'.heap.size ∧ ∀ k, k < n₀ ∨ k = B → W'.heap[k]? = W.heap[k]?
theorem kpn_t {n₀ B : Nat} {X Y Z : World} (h : Kpn n₀ B X Y) (k : Kpn n₀ B Y Z) : Kpn n₀ B X Z := ⟨k.1.trans h.1, k.2.1.trans h.2.1, Nat.le_trans h.2.2.1 k.2.2.1, fun i hi => (k.2.2.2 i hi).trans (h.2.2.2 i hi)⟩
theorem Kpn.of_only {n₀ B : Nat} {S : Nat → Prop} {W W' : World} (h : Only S W W') (hn : n₀ ≤ W.heap.size) (hB : B < W.heap.size) (hs : ∀ k, S k → n₀ ≤ k ∧ k ≠ B) : Kpn n₀ B W W' :=
  ⟨h.os, h.output, h.size, fun k hk => h.block k (by rcases hk with hk | hk <;> omega) fun e => by have := hs k e; omega⟩

end Go.Proofs.YtdceafncncgfbaaDoor

namespace Go.Proofs.YtdceafncncgfbaaDoor
open Go.ChangeShapes Go.WideShapes Go.ChangeAt Go.RowKit Go.Shelf
attribute [local go_sem] Oper.semAt_some

/-- The name, and the results' cells. -/
def AriC (nm : ByteArray) (w : World) (n : Int) (b : Bool) (W : World) : Prop :=
  Blk W w.heap.size 9 #[.string nm] ∧ Blk W (w.heap.size + 1) 3 #[.int .i64 n] ∧ Blk W (w.heap.size + 1 + 1) 4 #[.bool b] ∧ Kept w W
theorem ariC_only {nm : ByteArray} {w A B : World} {n : Int} {b : Bool} {S : Nat → Prop} (h : AriC nm w n b A) (ho : Only S A B) (hs : ∀ k, S k → w.heap.size + 3 ≤ k) : AriC nm w n b B :=
  ⟨h.1.only ho (fun e => by have := hs _ e; omega), h.2.1.only ho (fun e => by have := hs _ e; omega), h.2.2.1.only ho (fun e => by have := hs _ e; omega), h.2.2.2.onlyS ho (fun k e => by have := hs k e; omega)⟩
theorem ariC_set {nm : ByteArray} {w W : World} {n : Int} {b : Bool} (h : AriC nm w n b W) (m : Int) (c : Bool) :
    AriC nm w m c ((W.setCell ⟨w.heap.size + 1, 0, none⟩ (.int .i64 m)).setCell ⟨w.heap.size + 1 + 1, 0, none⟩ (.bool c)) ∧
      Only (fun k => k = w.heap.size + 1 ∨ k = w.heap.size + 1 + 1) W ((W.setCell ⟨w.heap.size + 1, 0, none⟩ (.int .i64 m)).setCell ⟨w.heap.size + 1 + 1, 0, none⟩ (.bool c)) := by
  have hO : Only (fun k => k = w.heap.size + 1 ∨ k = w.heap.size + 1 + 1) W ((W.setCell ⟨w.heap.size + 1, 0, none⟩ (.int .i64 m)).setCell ⟨w.heap.size + 1 + 1, 0, none⟩ (.bool c)) :=
    ((Only.refl _ W).setCell (p := ⟨w.heap.size + 1, 0, none⟩) (.inl (.inl rfl)) _).setCell (p := ⟨w.heap.size + 1 + 1, 0, none⟩) (.inl (.inr rfl)) _
  refine ⟨⟨h.1.only hO (by omega), ?_, ?_, h.2.2.2.onlyS hO (fun k h => by omega)⟩, hO⟩
  · exact (h.2.1.put 0 (.int .i64 m)).only ((Only.refl (· = w.heap.size + 1 + 1) _).put 0 _) (by omega)
  · exact (h.2.2.1.only ((Only.refl (· = w.heap.size + 1) W).put 0 (.int .i64 m)) (by omega)).put 0 _

def AriI (t : List Tab.C) (nm : ByteArray) (w : World) (pre : List Nat) (W : World) : Prop :=
  AriC nm w 0 false W ∧ ∀ i ∈ pre, Tab.lastOf nm (Tab.nth t i).methods = none
def AriX (t : List Tab.C) (nm : ByteArray) (w : World) (c : Code) (pre : List Nat) (W : World) : Prop :=
  c = .ret ∧ ∃ pre0 i m, pre = pre0 ++ [i] ∧ (∀ i ∈ pre0, Tab.lastOf nm (Tab.nth t i).methods = none) ∧ Tab.lastOf nm (Tab.nth t i).methods = some m ∧ AriC nm w m.params.length true W

/-- Within the loop over a class's methods. -/
def AriJ (nm : ByteArray) (w Wr : World) (n₁ n₂ : Nat) (pre : List (MV × Nat)) (W : World) : Prop :=
  n₂ ≤ W.heap.size ∧ AriC nm w 0 false W ∧ (∀ y ∈ pre, ¬ y.1.1.1.name = nm) ∧ Only (fun k => (k = w.heap.size + 1 ∨ k = w.heap.size + 1 + 1) ∨ n₁ ≤ k) Wr W
def AriY (nm : ByteArray) (w Wr : World) (n₁ : Nat) (c : Code) (pre : List (MV × Nat)) (W : World) : Prop :=
  c = .ret ∧ ∃ (pre0 : List (MV × Nat)) (y : MV × Nat), pre = pre0 ++ [y] ∧ (∀ z ∈ pre0, ¬ z.1.1.1.name = nm) ∧ y.1.1.1.name = nm ∧ AriC nm w y.1.1.1.params.length true W ∧ Only (fun k => (k = w.heap.size + 1 ∨ k = w.heap.size + 1 + 1) ∨ n₁ ≤ k) Wr W

theorem KeepsFrom.of_only {S : Nat → Prop} {B : Nat} {W W' : World} (h : Only S W W') (hs : ∀ k, S k → k < B) : KeepsFrom B W W' :=
  ⟨h.size, fun k o hk ho _ => h.same ho fun e => by have := hs k e; omega⟩

theorem own_from {β : Type} {B : Nat} {I : β → World → Prop} (h : ∀ s X Y, I s X → Only (fun k => B ≤ k) X Y → I s Y) : OwnFrom B I := by
  intro s X Y row hs hg hr
  exact h s X Y hs ((Only.refl _ X).grown hg fun k e => .inl (hr k e).1)

theorem last_none {nm : ByteArray} {L : List MV} {l : List Tab.M} (hL : L.map (fun x => x.1.1) = l) (h : ∀ y ∈ bk L 0, ¬ y.1.1.1.name = nm) : Tab.lastOf nm l = none := by
  unfold Tab.lastOf
  rw [List.find?_eq_none]
  intro m hm
  rw [List.mem_reverse, ← hL, List.mem_map] at hm
  obtain ⟨x, hx, rfl⟩ := hm
  obtain ⟨k, hk, rfl⟩ := List.getElem_of_mem hx
  have : (L[k], k) ∈ bk L 0 := by
    unfold bk
    rw [List.drop_zero, List.mem_reverse, List.mem_zipIdx_iff_getElem?]
    exact List.getElem?_eq_getElem hk
  simpa using h _ this
theorem last_some {nm : ByteArray} {L : List MV} {l : List Tab.M} (hL : L.map (fun x => x.1.1) = l) {pre : List (MV × Nat)} {y : MV × Nat} (hp : (pre ++ [y]) <+: bk L 0) (h : ∀ y ∈ pre, ¬ y.1.1.1.name = nm) (hy : y.1.1.1.name = nm) : Tab.lastOf nm l = some y.1.1.1 := by
  obtain ⟨r, hr⟩ := hp
  have e : l.reverse = (pre ++ [y] ++ r).map fun z => z.1.1.1 := by
    rw [hr, ← hL, ← List.map_reverse, ← bk_fst, List.map_map]; rfl
  unfold Tab.lastOf
  rw [e, List.map_append, List.map_append, List.append_assoc, List.find?_append, List.find?_eq_none.2 (fun m hm => by
    obtain ⟨z, hz, rfl⟩ := List.mem_map.1 hm
    simpa using h z hz)]
  simp [hy]

theorem arity_no {t : List Tab.C} {s nm : ByteArray} (hf : Tab.field t s nm = none) (h : ∀ i ∈ Tab.line t s, Tab.lastOf nm (Tab.nth t i).methods = none) : Tab.arity t s nm = none := by
  unfold Tab.arity
  rw [hf]
  rw [if_neg (by simp), List.findSome?_eq_none_iff]
  intro i hi
  rw [h i hi]; rfl
theorem arity_yes {t : List Tab.C} {s nm : ByteArray} {pre : List Nat} {i : Nat} {m : Tab.M} (hf : Tab.field t s nm = none) (hp : (pre ++ [i]) <+: Tab.line t s) (h : ∀ i ∈ pre, Tab.lastOf nm (Tab.nth t i).methods = none) (hm : Tab.lastOf nm (Tab.nth t i).methods = some m) : Tab.arity t s nm = some (m.params.length : Int) := by
  obtain ⟨r, hr⟩ := hp
  unfold Tab.arity
  rw [hf]
  rw [if_neg (by simp), ← hr, List.append_assoc, List.findSome?_append, List.findSome?_eq_none_iff.2 (fun j hj => by rw [h j hj]; rfl)]
  simp [hm]
theorem arity_fld {t : List Tab.C} {s nm : ByteArray} {x : ByteArray} (hf : Tab.field t s nm = some x) : Tab.arity t s nm = some (-1) := by
  unfold Tab.arity
  rw [hf]; rfl

end Go.Proofs.YtdceafncncgfbaaDoor
