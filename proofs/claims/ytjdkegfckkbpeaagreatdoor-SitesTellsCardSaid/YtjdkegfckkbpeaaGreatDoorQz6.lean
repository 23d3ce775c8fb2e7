/- A range over a function whose element is boxed at the start of each round: the law of XRgw where the assignment makes memory. -/
import Derived.Test.YtjdkegfckkbpeaaGreatDoorQz4
import Derived.Test.YtjdkegfckkbpeaaGreatDoorQTkk
set_option linter.unusedSimpArgs false
set_option linter.unusedVariables false
set_option maxRecDepth 100000
namespace Go.Proofs.YtjdkegfckkbpeaaGreatDoor
open Go.RowKit
section
variable {F : Fence} {n : Nat} {P : Program}
theorem wpIn_rangeFunc_ownA {α : Type} {g : Operand} {ps : Array Tmp} {assign body : Code} {Q : Exit → Act → World → Prop} {a : Act} {w : World}
  (hro : F.round = none) (h1 : 1 ≤ n) {gf : Nat} {lb : Array Value} (hg : a.eval g = .func (.func gf) #[] lb) (hFg : F.fn gf) (eg : ∀ args w, (callFunc gf args).run P w = .ok (.enter gf args) w)
  {encs : α → Array Value} {It U : Nat → Prop} {S Sp G : List α → Prop} {m : Nat}
  (hseq : ∀ W1, Kept w W1 → W1.heap.size = w.heap.size + 2 → SeqOwn F (n - 1) P gf lb encs It U S Sp G m W1)
  (hIt : ∀ k, It k → k < w.heap.size) (hU : ∀ k, U k → k ≠ w.heap.size ∧ k ≠ w.heap.size + 1) (hps : ∀ x, (encs x).size = ps.size)
  (I : List α → World → Prop) (Ix : Code → List α → World → Prop)
  (hI : ∀ s A B, I s A → Only (fun k => It k ∨ (w.heap.size ≤ k ∧ k < w.heap.size + 2 + m)) A B → I s B)
  (hIx : ∀ c s A B, Ix c s A → Only (fun k => It k ∨ (w.heap.size ≤ k ∧ k < w.heap.size + 2 + m)) A B → Ix c s B)
  (h0 : I [] w) (a₁ : α → World → Act) (wa : α → World → World) (hwa : ∀ x W, Kept W (wa x W))
  (hassign : ∀ (l : Nat) (x : α) (W : World) (K : Act → World → Prop), K (a₁ x W) (wa x W) →
   assign.wpIn (F.inRound l) (n - 1 - 1) P (Exit.then K (fun _ _ _ => False)) { tmps := (ps.zip (encs x)).foldl (fun t (p, v) => t.setIfInBounds p v) a.tmps, defers := [] } W)
  (hbody : ∀ (l : Nat) (pre : List α) (x : α) (W0 W : World), l = w.heap.size + 1 → l < W0.heap.size → Only (· = l) (wa x W0) W → (∃ r, W.heap[l]? = some (.loop r)) → I pre W → G (pre ++ [x]) → w.heap.size + 2 + m ≤ W.heap.size → body.wpIn (F.inRound l) (n - 1 - 1) P (ownPostW U I Ix (pre ++ [x]) W) (a₁ x W0) W)
  (hdone : ∀ (D : Nat) (xs : List α) (W : World), D = w.heap.size → S xs → I xs W → W.heap[D]? = some (.deferred (some [])) → Q .normal { a with defers := { target := .collected D, args := #[] } :: a.defers } W)
  (hstop : ∀ (D : Nat) (c : Code) (pre : List α) (W : World), D = w.heap.size → Sp pre → Ix c pre W → W.heap[D]? = some (.deferred (some [])) → c.wpIn F n P Q { a with defers := { target := .collected D, args := #[] } :: a.defers } W) :
  (Code.rangeFunc g ps assign body).wpIn F n P Q a w := by
 refine wpIn_rangeFunc fun fn hfn => ?_
 rw [hro]
 obtain ⟨rc, hrc⟩ : ∃ rc : LoopState → Option Code → Loop, ∀ st pe, rc st pe = { state := st, pending := pe, fn, tmps := a.tmps, params := ps, assign, body, defers := w.heap.size } := ⟨fun st pe => _, fun _ _ => rfl⟩
 obtain ⟨W1, hW1⟩ : ∃ W1, (w.alloc (.deferred (some []))).alloc (.loop (rc .ready none)) = W1 := ⟨_, rfl⟩
 have hk1 : Kept w W1 := by rw [← hW1]; exact ((Kept.refl w).alloc _).alloc _
 have hs1 : W1.heap.size = w.heap.size + 2 := by rw [← hW1]; simp
 have hL1 : W1.heap[w.heap.size + 1]? = some (.loop (rc .ready none)) := by
  rw [← hW1]; have := heap_alloc_new (w.alloc (.deferred (some []))) (.loop (rc .ready none)); rwa [World.size_alloc] at this
 have hD1 : W1.heap[w.heap.size]? = some (.deferred (some [])) := by
  rw [← hW1]; exact (Below.heap_alloc _ _ _ (by simp)).trans (heap_alloc_new w _)
 have notl : ¬ (It (w.heap.size + 1) ∨ (W1.heap.size ≤ w.heap.size + 1 ∧ w.heap.size + 1 < W1.heap.size + m)) := fun h => h.elim (fun h => by have := hIt _ h; omega) (fun h => by omega)
 have notd : ¬ (It w.heap.size ∨ (W1.heap.size ≤ w.heap.size ∧ w.heap.size < W1.heap.size + m)) := fun h => h.elim (fun h => by have := hIt _ h; omega) (fun h => by omega)
 refine ⟨w.heap.size + 1, [{ target := .collected w.heap.size, args := #[] }], W1, { target := .fn (.func gf) lb, args := #[.func (.yield (w.heap.size + 1)) #[] #[]] }, W1, gf,
  #[.func (.yield (w.heap.size + 1)) #[] #[]] ++ lb, W1, by rw [← hW1, hrc]; exact run_enterLoop_outer _ _ _ _ _, ?_, ?_, ?_, fun _ => h1, ?_⟩
 ·simp only [resolve, hg]
  simp [go_sem]
 ·intro f' hf'; simp [Target.leads] at hf'; subst hf'; exact hFg
 ·simp [invoke, go_sem, eg]
 ·refine (hseq W1 hk1 hs1 (w.heap.size + 1)
   (fun pre W => I pre W ∧ W.heap[w.heap.size + 1]? = some (.loop (rc .ready none)) ∧ W.heap[w.heap.size]? = some (.deferred (some [])))
   (fun pre W => ∃ c, Ix c pre W ∧ W.heap[w.heap.size + 1]? = some (.loop (rc .done (some c))) ∧ W.heap[w.heap.size]? = some (.deferred (some [])))
   (by omega) ?abJ ?abJx ?round ⟨hI _ _ _ h0 (Only.of_kept hk1), hL1, hD1⟩).mono ?behind
  case abJ =>
   rintro s A B ⟨hi, hl, hd⟩ ho
   exact ⟨hI _ _ _ hi (ho.mono fun k _ h => h.imp id fun e => ⟨by omega, by omega⟩), ho.same hl notl, ho.same hd notd⟩
  case abJx =>
   rintro s A B ⟨c, hi, hl, hd⟩ ho
   exact ⟨c, hIx _ _ _ _ hi (ho.mono fun k _ h => h.imp id fun e => ⟨by omega, by omega⟩), ho.same hl notl, ho.same hd notd⟩
  case round =>
   rintro pre x W0 ⟨hi0, hl0, hd0⟩ hlen hsz
   have hlt0 : w.heap.size + 1 < W0.heap.size := (Array.getElem?_eq_some_iff.1 hl0).1
   have hy := run_yield (P := P) (args := encs x) hl0 (by rw [hrc]; exact hps x)
   rw [hrc] at hy
   obtain ⟨W, hW⟩ : ∃ W, W = wa x W0 := ⟨_, rfl⟩
   have hkW : Kept W0 W := by rw [hW]; exact hwa x W0
   have hl : W.heap[w.heap.size + 1]? = some (.loop (rc .ready none)) := (hkW.block _ hlt0).trans hl0
   have hd : W.heap[w.heap.size]? = some (.deferred (some [])) := (hkW.block _ (by omega)).trans hd0
   have hi : I pre W := hI _ _ _ hi0 (Only.of_kept hkW)
   have hlt : w.heap.size + 1 < W.heap.size := (Array.getElem?_eq_some_iff.1 hl).1
   have hszW := hkW.size
   refine ⟨fn, _, assign, body, hy, roundIn_of_wpIn hfn (hassign _ x W0 _ ⟨_, by rw [← hW]; exact run_beginRound hl (by rw [hrc]), ?_⟩)⟩
   have hl2 : (W.putObj (w.heap.size + 1) (.loop { rc .ready none with state := .busy })).heap[w.heap.size + 1]? = some (.loop { rc .ready none with state := .busy }) := World.putObj_heap_same hlt
   have hd2 : (W.putObj (w.heap.size + 1) (.loop { rc .ready none with state := .busy })).heap[w.heap.size]? = some (.deferred (some [])) := (World.putObj_heap_other (by omega)).trans hd
   have hob : Only (· = w.heap.size + 1) (wa x W0) (W.putObj (w.heap.size + 1) (.loop { rc .ready none with state := .busy })) := by rw [← hW]; exact (Only.refl (· = w.heap.size + 1) W).putObj (.inl rfl) _
   refine wpIn_mono (hbody _ pre x W0 _ rfl hlt0 hob ⟨_, hl2⟩ (hI _ _ _ hi ((Only.refl _ _).putObj (.inl (.inr ⟨by omega, by omega⟩)) _)) hlen (by simp [World.putObj]; omega)) ?_
   have ends : ∀ (jump : Option Code) (W3 : World), Only U (W.putObj (w.heap.size + 1) (.loop { rc .ready none with state := .busy })) W3 →
     (Instr.endRound (w.heap.size + 1) jump).run P W3 = .ok (.bool jump.isNone) (W3.putObj (w.heap.size + 1) (.loop (rc (if jump.isNone then .ready else .done) jump))) ∧
     (W3.putObj (w.heap.size + 1) (.loop (rc (if jump.isNone then .ready else .done) jump))).heap[w.heap.size + 1]? = some (.loop (rc (if jump.isNone then .ready else .done) jump)) ∧
     (W3.putObj (w.heap.size + 1) (.loop (rc (if jump.isNone then .ready else .done) jump))).heap[w.heap.size]? = some (.deferred (some [])) ∧
     Only (fun k => U k ∨ k = w.heap.size + 1) W0 (W3.putObj (w.heap.size + 1) (.loop (rc (if jump.isNone then .ready else .done) jump))) := fun jump W3 ho => by
    have hl3 := ho.same hl2 (fun h => (hU _ h).2 rfl)
    have hd3 := ho.same hd2 (fun h => (hU _ h).1 rfl)
    have hr := run_endRound (P := P) jump hl3
    refine ⟨?_, World.putObj_heap_same (Array.getElem?_eq_some_iff.1 hl3).1, (World.putObj_heap_other (by omega)).trans hd3, ?_⟩
    ·rw [hrc] at hr ⊢; exact hr
    ·exact (Only.of_kept hkW).trans ((((Only.refl _ W).putObj (.inl (.inr rfl)) _).trans (ho.mono fun k _ h => .inl h)).putObj (.inl (.inr rfl)) _)
   rintro e a3 W3 hp
   cases e with
   | normal =>
    obtain ⟨hr, hl4, hd4, ho4⟩ := ends none W3 hp.1
    exact ⟨_, _, hr, .inl ⟨rfl, ⟨hI _ _ _ hp.2 ((Only.refl _ _).putObj (.inl (.inr ⟨by omega, by omega⟩)) _), hl4, hd4⟩, ho4⟩⟩
   | ret =>
    obtain ⟨hr, hl4, hd4, ho4⟩ := ends (some .ret) W3 hp.1
    exact ⟨_, _, hr, .inr ⟨rfl, .ret, hIx _ _ _ _ hp.2 ((Only.refl _ _).putObj (.inl (.inr ⟨by omega, by omega⟩)) _), hl4, hd4⟩⟩
   | exit id =>
    obtain ⟨hr, hl4, hd4, ho4⟩ := ends (some (.exit id)) W3 hp.1
    exact ⟨_, _, hr, .inr ⟨rfl, .exit id, hIx _ _ _ _ hp.2 ((Only.refl _ _).putObj (.inl (.inr ⟨by omega, by omega⟩)) _), hl4, hd4⟩⟩
   | goto t =>
    obtain ⟨hr, hl4, hd4, ho4⟩ := ends (some (.goto t)) W3 hp.1
    exact ⟨_, _, hr, .inr ⟨rfl, .goto t, hIx _ _ _ _ hp.2 ((Only.refl _ _).putObj (.inl (.inr ⟨by omega, by omega⟩)) _), hl4, hd4⟩⟩
   | panic ch => exact hp.elim
   | outgrown => exact hp.elim
  case behind =>
   rintro e W2 ⟨⟨v, rfl⟩, (⟨xs, hS, hi, hl, hd⟩ | ⟨pre, hSp, c, hi, hl, hd⟩)⟩
   ·refine ⟨none, _, by have := run_endLoop (P := P) hl (by rw [hrc]; simp); rw [hrc] at this; exact this, hdone _ xs _ rfl hS (hI _ _ _ hi ((Only.refl _ _).putObj (.inl (.inr ⟨by omega, by omega⟩)) _)) ((World.putObj_heap_other (by omega)).trans hd)⟩
   ·refine ⟨some c, _, by have := run_endLoop (P := P) hl (by rw [hrc]; simp); rw [hrc] at this; exact this, hstop _ c pre _ rfl hSp (hIx _ _ _ _ hi ((Only.refl _ _).putObj (.inl (.inr ⟨by omega, by omega⟩)) _)) ((World.putObj_heap_other (by omega)).trans hd)⟩
end
end Go.Proofs.YtjdkegfckkbpeaaGreatDoor
namespace Go.Proofs.YtjdkegfckkbpeaaGreatDoor
open Go.ChangeShapes Go.WideShapes Go.ChangeAt Go.RowKit Go.Shelf
attribute [local go_sem] Oper.semAt_some
/-- Within the loop: the names so far. -/
def SupI (t : List Tab.C) (w : World) (pre : List Nat) (W : World) : Prop :=
 (∃ v, Boxed W w.heap.size 70 v ∧ W.ownsRow (w.heap.size + 6) 9 1 v pre.length (pre.map fun i => Value.string (Tab.nth t i).name) ∧ (v = .slice none 0 0 ↔ pre = [])) ∧ Kept w W ∧ w.heap.size + 3 ≤ W.heap.size
theorem sup_end {t : List Tab.C} {w W0 W w1 : World} {pre : List Nat} {i g cap : Nat} {v : Value} (hsz : W0.heap.size = w.heap.size + 3) (hO : Only (fun k => k = w.heap.size ∨ w.heap.size + 6 ≤ k) W w1)
  (hV : Blk w1 w.heap.size 70 #[v]) (hW : w1.ownsRow (w.heap.size + 6) 9 1 (.slice (some ⟨g, 0, none⟩) (pre.length + 1) cap) (pre.length + 1) ((pre.map fun i => Value.string (Tab.nth t i).name) ++ [.string (Tab.nth t i).name])) (hK : Kept w W) (hB : w.heap.size + 6 ≤ W.heap.size) :
  Only (fun k => k = w.heap.size ∨ W0.heap.size + 3 ≤ k) W (w1.setCell ⟨w.heap.size, 0, none⟩ (.slice (some ⟨g, 0, none⟩) (pre.length + 1) cap)) ∧ SupI t w (pre ++ [i]) (w1.setCell ⟨w.heap.size, 0, none⟩ (.slice (some ⟨g, 0, none⟩) (pre.length + 1) cap)) := by
 have hO2 := hO.setCell (p := ⟨w.heap.size, 0, none⟩) (.inl (.inl rfl)) (.slice (some ⟨g, 0, none⟩) (pre.length + 1) cap)
 refine ⟨hO2.mono fun k _ h => h.imp id fun e => by omega, ⟨_, hV.put 0 _, ?_, by simp⟩, hK.onlyS hO2 (fun k h => by omega), by have := hO2.size; omega⟩
 have := owns_only hW ((Only.refl (· = w.heap.size) w1).put 0 (.slice (some ⟨g, 0, none⟩) (pre.length + 1) cap)) (fun g hg => by omega)
 simpa using this
theorem sup_fin {t : List Tab.C} {n₁ : Nat} {W : World} {l : List Nat} {v : Value} (h : W.ownsRow n₁ 9 1 v l.length (l.map fun i => Value.string (Tab.nth t i).name)) :
  ∀ {S : Nat → Prop} (w' : World), Only S W w' → (∀ g, n₁ ≤ g → ¬ S g) → Row 1 (fun w b o x => w.cell? ⟨b, o, none⟩ = some (.string x)) w' v (l.map fun i => (Tab.nth t i).name) := by
 intro S w' hO hS
 have h' := owns_only h hO hS
 rcases h'.2 with ⟨rfl, hl0⟩ | ⟨g, cap, cur, rfl, hg1, hg2, hg3, hg4, hg5, hg6⟩
 ·obtain rfl : l = [] := List.eq_nil_of_length_eq_zero hl0
  exact Row.nil
 ·refine ⟨_, cap, by simp, by simpa using hg3, hg4, fun i x hx => ⟨g, 0, rfl, ?_⟩⟩
  have := h'.cells (g := g) rfl i (.string x) (by
   rw [List.getElem?_map] at hx ⊢
   cases e : l[i]? with
   | none => rw [e] at hx; cases hx
   | some k => rw [e] at hx; cases hx; rfl)
  rw [addr_plain] at this
  simpa using this
set_option maxHeartbeats 2000000 in
theorem supers_o (a : Option Addr) (c : Nat) (t : List Tab.C) (s : ByteArray) (w : World) (hT : TabAt w (.slice a t.length c) t) (ht : t.length ≤ 1000) :
  Calls Tryz.prog 125 #[.slice a t.length c, .string s] w fun e w' => ∃ v, e = .returned v ∧ Row 1 (fun w b o x => w.cell? ⟨b, o, none⟩ = some (.string x)) w' v (Tab.supers t s) ∧ w'.ownsRow w.heap.size 9 1 v (Tab.line t s).length ((Tab.line t s).map fun i => Value.string (Tab.nth t i).name) ∧ Kept w w' := by
 obtain ⟨i0, hi, hz0, hzz1, hzz2⟩ := info_parts info_str
 refine (callsIn_wide (n := 3)).1 (callsIn_of_wp_marks Tryz.func125 rfl trivial (wpIn_wide.2 ?_) rfl)
 simp only [Tryz.ntmps125, List.size_toArray, List.length_cons, List.length_nil, Nat.reduceAdd, Nat.reduceSub, Array.replicate_succ, Array.replicate_zero, List.push_toArray, List.append_toArray, List.nil_append, List.cons_append]
 go_wp2_with fail
 refine (line_lineC a c t s _).mono ?_
 rintro e w1 ⟨rfl, rfl⟩
 go_wp2_with fail
 have hk0 : Kept w (((w.alloc (.cells #[.slice none 0 0] 70)).alloc (.cells #[.slice a t.length c] 22)).alloc (.cells #[.string s] 9)) := (((Kept.refl w).alloc _).alloc _).alloc _
 have b0 := ((Boxed.new w 70 (.slice none 0 0)).alloc (.cells #[.slice a t.length c] 22)).alloc (.cells #[.string s] 9)
 have b1 := (Blk.new (w.alloc (.cells #[.slice none 0 0] 70)) 22 #[.slice a t.length c]).alloc (.cells #[.string s] 9)
 have b2 := Blk.new ((w.alloc (.cells #[.slice none 0 0] 70)).alloc (.cells #[.slice a t.length c] 22)) 9 #[.string s]
 simp only [World.size_alloc] at b1 b2
 obtain ⟨W0, hW0⟩ : ∃ W0, ((w.alloc (.cells #[.slice none 0 0] 70)).alloc (.cells #[.slice a t.length c] 22)).alloc (.cells #[.string s] 9) = W0 := ⟨_, rfl⟩
 have hsz : W0.heap.size = w.heap.size + 3 := by rw [← hW0]; simp
 rw [hW0] at hk0 b0 b1 b2 ⊢
 refine wpIn_wide.1 (wpIn_range_line (w0 := w) (bt := w.heap.size + 1) (bn := w.heap.size + 1 + 1) a c t s (· = w.heap.size) rfl hT ht hk0 b1 b2 (by omega) (by omega) (by omega) (fun k e => by subst e; omega) rfl
  (SupI t w) (fun _ _ _ => False) ?hI (fun _ _ _ _ h _ => h) ⟨⟨_, b0, World.ownsRow_nil _ _ _ _, by simp⟩, hk0, by omega⟩
  (fun i => { tmps := #[.slice a t.length c, .string s, undef, undef, .slice none 0 0, .pointer (some ⟨w.heap.size, 0, none⟩), elC a i, .slice a t.length c, .string s, .func (.func 164) #[] #[.pointer (some ⟨w.heap.size + 1, 0, none⟩), .pointer (some ⟨w.heap.size + 1 + 1, 0, none⟩)], elC a i, undef, undef, undef, undef, undef, undef, undef, undef], defers := [] }) ?assign ?body ?done ?stop)
 case hI =>
  rintro pre A B ⟨⟨v, h1, h2, h3⟩, h4, h5⟩ ho
  exact ⟨⟨v, Blk.only (cs := #[v]) h1 ho (by omega), owns_only h2 ho (fun g hg => by omega), h3⟩, h4.onlyS ho (fun k h => by omega), Nat.le_trans h5 ho.size⟩
 case assign =>
  intro l i W K hK
  gi_wp2
  exact hK
 case body =>
  rintro l pre i b o W hl _ ⟨⟨v, hv, hrow, hnil⟩, hKp, _⟩ hsize hpre hi' rfl hcl
  have hc := hv.cell
  obtain ⟨hc0, _⟩ := hcl.kept hKp
  have hlen : pre.length ≤ 1000 := by
   have h1 := hpre.length_le
   have h2 := Tab.line_len t s
   simp at h1
   omega
  have HR := Lib.hid (show (W.drew.alloc (.cells #[.string (Tab.nth t i).name] 9)).ownsRow (w.heap.size + 6) 9 1 v pre.length (pre.map fun i => Value.string (Tab.nth t i).name) from owns_only hrow (((Only.refl (fun _ => False) W).drew).alloc _) (fun _ _ h => h))
  have HS := Lib.hid (Src.ofSlice (P := Tryz.prog) (size := 1) (tx := 70) (W.drew.alloc (.cells #[.string (Tab.nth t i).name] 9)) Tryz.underlying70 ⟨W.heap.size, 0, none⟩ 1 1 [.string (Tab.nth t i).name] rfl (cell_one_new W.drew _ _) (by simp [Value.oneCell']))
  have HV := Lib.hid (show Blk (W.drew.alloc (.cells #[.string (Tab.nth t i).name] 9)) w.heap.size 70 #[v] from (show Blk W.drew w.heap.size 70 #[v] from hv).alloc _)
  have hca := (show Blk (W.alloc (.cells #[.string (Tab.nth t i).name] 9)) w.heap.size 70 #[v] from (show Blk W w.heap.size 70 #[v] from hv).alloc _).cell 0
  simp at hca
  have HZ := Lib.hid (show w.heap.size + 6 ≤ (W.drew.alloc (.cells #[.string (Tab.nth t i).name] 9)).heap.size by simp; omega)
  have HO0 := Lib.hid (show Only (fun k => k = w.heap.size ∨ w.heap.size + 6 ≤ k) W (W.drew.alloc (.cells #[.string (Tab.nth t i).name] 9)) from ((Only.refl _ W).drew).alloc _)
  have HN := Lib.hid (show w.heap.size + 6 ≤ W.heap.size by omega)
  have HK := Lib.hid hKp
  have HB := Lib.hid (show w.heap.size + 6 ≤ W.heap.size by omega)
  simp only [elC, evC, Option.map_some]
  clear hv hrow hnil hKp hcl b0 b1 b2 hk0 hT hpre
  gi_wp2
  refine wpIn_region_of_any (by kernel_rfl) (by kernel_rfl) (by rintro ⟨_, _, h⟩; exact h) ?_
  ·change wpAny _ _ _ _ _ _ _ (World.drew _)
   refine tkA 1 ?_
   refine tkA 2 ?_
   refine tkA 3 ?_
   refine rdA [0, 4] ?_
   refine aR (fun K hK => ?_) ?_
   ·go_simp
    refine hK _ _ ?_; clear hK K
    refine rdA [4] ?_
    refine aR (fun K hK => ?_) ?_
    ·go_simp
     refine hK _ _ ?_; clear hK K
     refine rdA [5] ?_
     refine aR (fun K hK => ?_) ?_
     ·go_simp
      refine hK _ _ ?_; clear hK K
      refine rdA [6] ?_
      refine aR (fun K hK => ?_) ?_
      ·refine step_apk rfl (.tmp 11) (.tmp 16) 70 70 rfl (w.heap.size + 6) 1 9 i0 _ 16 Tryz.underlying70 hi hz0 hzz1 hzz2 rfl rfl HR.out rfl HS.out (by unfold maxLen; omega) (by omega) HZ.out ?_
       intro v' w1 hown' hgrow _ _
       obtain ⟨g', cap', rfl⟩ := ownsRow_succ hown'
       have hv1 : Blk w1 w.heap.size 70 #[v] := HV.out.grownBy hgrow (ne_row_blk HV.out (by decide) HR.out)
       have hc1 := hv1.cell 0
       have hf1 := hv1.frozen 0
       have HO := Lib.hid (app_only HO0.out HR.out hgrow HN.out)
       have HV1 := Lib.hid hv1
       have HW := Lib.hid hown'
       simp at hc1
       clear hv1 hown' hgrow
       refine hK _ _ ?_; clear hK K
       refine rdA [7] ?_
       refine aR (fun K hK => ?_) ?_
       ·go_simp
        refine hK _ _ ?_; clear hK K
        refine wpAny_done (by kernel_rfl) ?_ _
        exact sup_end hsz HO.out HV1.out HW.out HK.out HB.out
       exact AllReady.nil
      exact AllReady.nil
     exact AllReady.nil
    exact AllReady.nil
   refine aR (fun K hK => ?_) ?_
   ·go_simp
    refine hK _ _ ?_; clear hK K
    refine rdA [0, 5] ?_
    refine aR (fun K hK => ?_) ?_
    ·go_simp
     refine hK _ _ ?_; clear hK K
     refine rdA [5] ?_
     refine aR (fun K hK => ?_) ?_
     ·go_simp
      refine hK _ _ ?_; clear hK K
      refine rdA [6] ?_
      refine aR (fun K hK => ?_) ?_
      ·refine step_apk rfl (.tmp 11) (.tmp 16) 70 70 rfl (w.heap.size + 6) 1 9 i0 _ 16 Tryz.underlying70 hi hz0 hzz1 hzz2 rfl rfl HR.out rfl HS.out (by unfold maxLen; omega) (by omega) HZ.out ?_
       intro v' w1 hown' hgrow _ _
       obtain ⟨g', cap', rfl⟩ := ownsRow_succ hown'
       have hv1 : Blk w1 w.heap.size 70 #[v] := HV.out.grownBy hgrow (ne_row_blk HV.out (by decide) HR.out)
       have hc1 := hv1.cell 0
       have hf1 := hv1.frozen 0
       have HO := Lib.hid (app_only HO0.out HR.out hgrow HN.out)
       have HV1 := Lib.hid hv1
       have HW := Lib.hid hown'
       simp at hc1
       clear hv1 hown' hgrow
       refine hK _ _ ?_; clear hK K
       refine rdA [7] ?_
       refine aR (fun K hK => ?_) ?_
       ·go_simp
        refine hK _ _ ?_; clear hK K
        refine wpAny_done (by kernel_rfl) ?_ _
        exact sup_end hsz HO.out HV1.out HW.out HK.out HB.out
       exact AllReady.nil
      exact AllReady.nil
     exact AllReady.nil
    refine aR (fun K hK => ?_) ?_
    ·go_simp
     refine hK _ _ ?_; clear hK K
     refine rdA [0] ?_
     refine aR (fun K hK => ?_) ?_
     ·go_simp
      refine hK _ _ ?_; clear hK K
      refine rdA [6] ?_
      refine aR (fun K hK => ?_) ?_
      ·refine step_apk rfl (.tmp 11) (.tmp 16) 70 70 rfl (w.heap.size + 6) 1 9 i0 _ 16 Tryz.underlying70 hi hz0 hzz1 hzz2 rfl rfl HR.out rfl HS.out (by unfold maxLen; omega) (by omega) HZ.out ?_
       intro v' w1 hown' hgrow _ _
       obtain ⟨g', cap', rfl⟩ := ownsRow_succ hown'
       have hv1 : Blk w1 w.heap.size 70 #[v] := HV.out.grownBy hgrow (ne_row_blk HV.out (by decide) HR.out)
       have hc1 := hv1.cell 0
       have hf1 := hv1.frozen 0
       have HO := Lib.hid (app_only HO0.out HR.out hgrow HN.out)
       have HV1 := Lib.hid hv1
       have HW := Lib.hid hown'
       simp at hc1
       clear hv1 hown' hgrow
       refine hK _ _ ?_; clear hK K
       refine rdA [7] ?_
       refine aR (fun K hK => ?_) ?_
       ·go_simp
        refine hK _ _ ?_; clear hK K
        refine wpAny_done (by kernel_rfl) ?_ _
        exact sup_end hsz HO.out HV1.out HW.out HK.out HB.out
       exact AllReady.nil
      exact AllReady.nil
     exact AllReady.nil
    exact AllReady.nil
   exact AllReady.nil
 case done =>
  rintro D W hD ⟨⟨v, hv, hrow, hnil⟩, hKp, _⟩ hd
  have HD := Lib.hid (hD.trans hsz)
  clear hD
  have hc := hv.cell
  have hfin := sup_fin (S := (· = D)) hrow
  have hown := fun w' (h : Only (· = D) W w') => owns_base (base' := w.heap.size) (owns_only hrow h (by intro g hg e; have := HD.out; omega)) (by omega)
  rcases hrow.2 with ⟨rfl, hl0⟩ | ⟨g, cap, cur, rfl, hg1, hg2, hg3, hg4, hg5, hg6⟩
  ·clear hl0
   go_wp2
   refine ⟨by simp, .inl ⟨_, _, rfl, run_takeDeferred hd, ?_⟩⟩
   refine ⟨_, results_tmp rfl _ _ _, _, rfl, hfin _ (Only.putObj (Only.refl (· = D) _) (.inl rfl) _) (by intro g hg e; have := HD.out; omega), hown _ (Only.putObj (Only.refl (· = D) _) (.inl rfl) _), hKp.onlyS (Only.putObj (Only.refl (· = D) _) (.inl rfl) _) (by intro k e; have := HD.out; omega)⟩
  ·go_wp2
   refine ⟨by simp, .inl ⟨_, _, rfl, run_takeDeferred hd, ?_⟩⟩
   refine ⟨_, results_tmp rfl _ _ _, _, rfl, hfin _ (Only.putObj (Only.refl (· = D) _) (.inl rfl) _) (by intro g hg e; have := HD.out; omega), hown _ (Only.putObj (Only.refl (· = D) _) (.inl rfl) _), hKp.onlyS (Only.putObj (Only.refl (· = D) _) (.inl rfl) _) (by intro k e; have := HD.out; omega)⟩
 case stop =>
  rintro D c pre W _ _ h _
  exact h.elim
end Go.Proofs.YtjdkegfckkbpeaaGreatDoor
