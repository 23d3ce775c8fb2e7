/- A range over a function whose body may panic within a round: the round's frame is left by the panic, the iterator passes it on, the statement is left by it. The loop's record bears the number of the function that it stands in: so a walk that knows of which function its frame is. -/
import Derived.Test.YtdceafncncgfbaaDoorRgw
set_option linter.unusedSimpArgs false
set_option linter.unusedVariables false
namespace Go.Proofs.YtdceafncncgfbaaDoor
open Go.RowKit

section
variable {F : Fence} {n : Nat} {P : Program} {f : FuncId}

/-- A round that is left by a panic. -/
def onlyPanic (R : Ending → World → Prop) : Exit → Act → World → Prop
  | .panic ch, a, w => a.defers = [] ∧ R (.panicked ch) w
  | _, _, _ => False
theorem round_panics {l : Nat} {tmps : Array Value} {assign body : Code} {w : World} {R : Ending → World → Prop} (hF : F.fn f) (hf : ∃ fn, P.funcs[f]? = some fn)
    (h : assign.wpIn (F.inRound l) n P (Exit.then (fun a₁ w₁ => ∃ w₂, (Instr.beginRound l).run P w₁ = .ok () w₂ ∧ body.wpIn (F.inRound l) n P (onlyPanic R) a₁ w₂) (fun _ _ _ => False)) { tmps := tmps, defers := [] } w) :
    RoundIn F n P l f tmps assign body w R := by
  refine ⟨hF, fun c cs hr => ?_⟩
  let b : Frame := { (default : Frame) with fn := f, kind := .normal, roundOf := some l }
  have hr2 : (F.inRound l).room ((c :: cs).length + 1 + n) := hr
  have hF2 : (F.inRound l).fn b.fn := hF
  obtain ⟨e, a₁, w₁, hq, h1⟩ := h b [.beginRound, .code body] (c :: cs) rfl hF2 hr2
  cases e with
  | normal =>
    obtain ⟨w₂, hbr, hbody⟩ := hq
    obtain ⟨e₂, a₂, w₃, hq₂, h2⟩ := hbody b [] (c :: cs) rfl hF2 hr2
    cases e₂ with
    | panic ch =>
      obtain ⟨todo, h3⟩ := h2
      have hl : ({ b.atR a₂ todo with mode := .panicking ch } : Frame).leaving P w₃ (.panicked ch) := ⟨rfl, hq₂.1, hf⟩
      have s1 : StepsIn (Machine.fenced P (F.inRound l)) P (lone (b.atR a₁ [.beginRound, .code body]) (c :: cs) w₁) (lone (b.atR a₁ [.code body]) (c :: cs) w₂) := .one (fenced_calm (fr := b.atR a₁ [.beginRound, .code body]) hF2 hr2 rfl) (stepR_beginRound rfl hbr)
      have s2 : StepsIn (Machine.fenced P (F.inRound l)) P (lone { b.atR a₂ todo with mode := .panicking ch } (c :: cs) w₃) (lone (c.raise ch) cs w₃) := .one (fenced_leaving (n := n) hF2 hr2 hl) (step_leave_panicked hl)
      exact ⟨.panicked ch, w₃, hq₂.2, h1.trans (s1.trans (h3.trans s2))⟩
    | _ => exact hq₂.elim
  | _ => exact hq.elim

/-- A walk of code in a frame of the function f. -/
def WpB (f : FuncId) (F : Fence) (n : Nat) (P : Program) (c : Code) (Q : Exit → Act → World → Prop) (a : Act) (w : World) : Prop :=
  ∀ (b : Frame) (k : List Item) (cs : List Frame), b.fn = f → b.roundOf = F.round → F.fn b.fn → F.room (cs.length + 1 + n) →
    ∃ e a' w', Q e a' w' ∧ ArrivesIn (Machine.fenced P F) P (lone (b.atR a (.code c :: k)) cs w) b k cs e a' w'
theorem WpB.of {c : Code} {Q : Exit → Act → World → Prop} {a : Act} {w : World} (h : c.wpIn F n P Q a w) : WpB f F n P c Q a w := fun b k cs _ => h b k cs
theorem WpB.seq {Q : Exit → Act → World → Prop} {a : Act} {w : World} {x y : Code} (h : ∀ K : Act → World → Prop, (∀ a w, WpB f F n P y Q a w → K a w) → x.wpIn F n P (Exit.then K Q) a w) : WpB f F n P (Code.seq x y) Q a w := fun b k cs hfn hro hb hr => by
  have h0 : (lone (b.atR a (.code (.seq x y) :: k)) cs w).fenced P F := fenced_calm hb hr rfl
  obtain ⟨e, a₁, w₁, hq, h1⟩ := h _ (fun _ _ h => h) b (.code y :: k) cs hro hb hr
  cases e with
  | normal =>
    obtain ⟨e₂, a₂, w₂, hq₂, h2⟩ := hq b k cs hfn hro hb hr
    exact ⟨e₂, a₂, w₂, hq₂, .of_steps (.head h0 stepR_seq h1) h2⟩
  | _ => exact ⟨_, a₁, w₁, hq, .of_steps (.one h0 stepR_seq) (.pass (x := .code y) rfl (fun _ _ => .inl (by simp)) h1)⟩
/-- Off its end, or by a panic. -/
def plainExit (Q : Exit → Act → World → Prop) : Exit → Act → World → Prop
  | .normal, a, w => Q .normal a w
  | .panic ch, a, w => Q (.panic ch) a w
  | _, _, _ => False
theorem WpB.block {Q : Exit → Act → World → Prop} {a : Act} {w : World} {id : Nat} {c : Code} (h : WpB f F n P c (plainExit Q) a w) : WpB f F n P (Code.block id c) Q a w := fun b k cs hfn hro hb hr => by
  have h0 : (lone (b.atR a (.code (.block id c) :: k)) cs w).fenced P F := fenced_calm hb hr rfl
  obtain ⟨e, a₁, w₁, hq, h1⟩ := h b (.inBlock id :: k) cs hfn hro hb hr
  cases e with
  | normal => exact ⟨.normal, a₁, w₁, hq, .head h0 stepR_block (StepsIn.trans h1 (.one (fenced_calm hb hr rfl) stepR_inBlock))⟩
  | panic ch => exact ⟨_, a₁, w₁, hq, .of_steps (.one h0 stepR_block) h1⟩
  | _ => exact hq.elim

/-- A function's contract, where its body was walked as that function's. -/
theorem calls_of_wpB {fn : Func} {c : Code} {args : Array Value} {w : World} {R : Ending → World → Prop} (hf : P.funcs[f]? = some fn) (hb : fn.body = some c) (hF : F.fn f) (hro : F.round = none)
    (h : WpB f F n P c (fun e a w => match e with
      | .normal | .ret => LeavesInM F n P fn a.tmps R a.defers .returning w
      | .panic ch => LeavesInM F n P fn a.tmps R a.defers (.panicking ch) w
      | _ => False) { tmps := args ++ Array.replicate (fn.ntmps - args.size) undef, defers := [] } w) : CallsIn F n P f args w R := by
  refine ⟨hF, fun cs hr => ?_⟩
  let b : Frame := { (default : Frame) with fn := f, kind := .normal, roundOf := none }
  have hen : Frame.enter P f args .normal = b.atR { tmps := args ++ Array.replicate (fn.ntmps - args.size) undef, defers := [] } [.code c] := by
    simp [Frame.enter, Frame.atR, hf, hb, b]
  obtain ⟨e, a', w', hq, h1⟩ := h b [] cs rfl hro.symm hF hr
  rw [← hen] at h1
  have out : ∀ (u : FrameMode) (todo : List Item), StepsIn (Machine.fenced P F) P (lone (Frame.enter P f args .normal) cs w) (lone { b.atR a' todo with mode := u } cs w') → LeavesInM F n P fn a'.tmps R a'.defers u w' →
      ∃ e w' fr, R e w' ∧ ComesIn (Machine.fenced P F) P (lone (Frame.enter P f args .normal) cs w) (lone fr cs w') e ∧ fr.fn = f ∧ fr.leaving P w' e := fun u todo hs hl => by
    obtain ⟨e', w2, fr, hR, h2, hfn, hlv⟩ := leaves_stepsInM a'.defers u w' { b.atR a' todo with mode := u } cs rfl rfl rfl hf rfl hF hr hl
    exact ⟨e', w2, fr, hR, ComesIn.of_steps hs h2, hfn, hlv⟩
  cases e with
  | normal => exact out .returning [] (StepsIn.trans h1 (.one (fenced_calm (fr := b.atR a' []) hF hr rfl) (stepR_end rfl))) hq
  | ret =>
    obtain ⟨todo, hs⟩ := h1.1 rfl
    exact out .returning todo hs hq
  | panic ch =>
    obtain ⟨todo, hs⟩ := h1
    exact out (.panicking ch) todo hs hq
  | _ => exact hq.elim

/-- The statement, in a frame of f: its function ends, and the loop has no pending jump; or it passes a panic up. -/
theorem WpB.ranged {g : Operand} {ps : Array Tmp} {assign body : Code} {Q : Exit → Act → World → Prop} {a : Act} {w : World} {l : Nat} {mark : List Deferred} {w₁ : World} {d : Deferred} {w₁' : World} {h : FuncId} {args : Array Value} {w₂ : World}
    (he : (Instr.enterLoop f a.tmps ps assign body F.round).run P w = .ok (l, mark) w₁) (hres : (resolve a.eval (rangeCall g l) 0).run P w₁ = .ok d w₁') (hlead : ∀ f', Target.leads P w₁' d.target d.args = some f' → F.fn f')
    (hinv : (invoke d.target d.args).run P w₁' = .ok (.enter h args) w₂) (hn : F.depth.isSome = true → 1 ≤ n)
    (hcall : CallsIn F (n - 1) P h args w₂ fun e w₃ => match e with
      | .returned _ => ∃ w₄, (Instr.endLoop l).run P w₃ = .ok none w₄ ∧ Q .normal { a with defers := mark ++ a.defers } w₄
      | .panicked ch => Q (.panic ch) { a with defers := mark ++ a.defers } w₃
      | .outgrown => False) :
    WpB f F n P (Code.rangeFunc g ps assign body) Q a w := fun b k cs hfn hro hb hr => by
  rw [← hro] at he
  subst hfn
  have h0 : (lone (b.atR a (.code (.rangeFunc g ps assign body) :: k)) cs w).fenced P F := by
    refine fenced_lone (.inl hb) (fun f' hf' => hlead f' ?_) (Fence.room_le hr (by omega))
    have hev := Frame.eval_atR b a (.code (.rangeFunc g ps assign body) :: k)
    simp only [Frame.atR] at hev
    simp only [Frame.about, Frame.atR, he, hev, hres] at hf'
    exact hf'
  have hen := stepR_rangeFunc (P := P) (b := b) (a := a) (k := k) (cs := cs) (w := w) he hres hinv
  have hroom : F.room ((b.atR { a with defers := mark ++ a.defers } (.inRangeFunc l :: k) :: cs).length + 1 + (n - 1)) := Fence.room_enter hr hn
  obtain ⟨e, w₃, fr, hR, hs, hfr, hlv⟩ := hcall.2 (b.atR { a with defers := mark ++ a.defers } (.inRangeFunc l :: k) :: cs) hroom
  cases e with
  | outgrown => exact hR.elim
  | returned v =>
    have hl := fenced_leaving (n := n - 1) (P := P) (F := F) (w := w₃) (hfr ▸ hcall.1) hroom hlv
    obtain ⟨w₄, hend, hj⟩ := hR
    refine ⟨.normal, _, w₄, hj, .head h0 hen (StepsIn.trans hs (.head hl (step_leave_returned hlv) ?_))⟩
    rw [finish_atR_inRangeFunc l v]
    exact .one (fenced_calm (fr := b.atR { a with defers := mark ++ a.defers } (.endRangeFunc l :: k)) hb hr rfl) (stepR_endRangeFunc hend)
  | panicked ch =>
    have hl := fenced_leaving (n := n - 1) (P := P) (F := F) (w := w₃) (hfr ▸ hcall.1) hroom hlv
    refine ⟨.panic ch, _, w₃, hR, .inRangeFunc l :: k, .head h0 hen (StepsIn.trans hs (.one hl ?_))⟩
    rw [← Frame.raise_atR]
    exact step_leave_panicked hlv

/-- An iterator that yields the elements of L, one after another, and writes nothing itself; a yield that panics ends it. -/
def SeqP {α : Type} (F : Fence) (n : Nat) (P : Program) (g : Nat) (lb : Array Value) (encs : α → Array Value) (L : List α) (U Inv : World → Prop) (W : World) : Prop :=
  ∀ (l : Nat) (J : Nat → World → Prop) (Jp : List PanicEntry → World → Prop), l + 1 = W.heap.size → (∀ i W1, J i W1 → Inv W1) →
    (∀ i x W1, L[i]? = some x → J i W1 → YieldAt F (n - 1) P l (encs x) W1 fun e W' => (e = .returned (.bool true) ∧ J (i + 1) W') ∨ (∃ ch, e = .panicked ch ∧ Jp ch W')) →
    J 0 W → CallsIn F n P g (#[.func (.yield l) #[] #[]] ++ lb) W fun e W' => (∃ v, e = .returned v ∧ J L.length W') ∨ (∃ ch, e = .panicked ch ∧ Jp ch W')

/-- How a round goes: off its end, or by a panic; known beforehand. -/
def oneWay (U : Nat → Prop) (I : World → Prop) (W : World) : Exit → Act → World → Prop
  | .normal, _, W' => Only U W W' ∧ I W'
  | _, _, _ => False
def pWay (U : Nat → Prop) (Ip : List PanicEntry → World → Prop) (W : World) : Exit → Act → World → Prop
  | .panic ch, a, W' => a.defers = [] ∧ Only U W W' ∧ Ip ch W'
  | _, _, _ => False

theorem WpB.over {α : Type} {g : Operand} {ps : Array Tmp} {assign body : Code} {Q : Exit → Act → World → Prop} {a : Act} {w : World}
    (hro : F.round = none) (h1 : 1 ≤ n) {gf : Nat} {lb : Array Value} (hg : a.eval g = .func (.func gf) #[] lb) (hFg : F.fn gf) (eg : ∀ args w, (callFunc gf args).run P w = .ok (.enter gf args) w) (hFf : F.fn f) (hf : ∃ fn, P.funcs[f]? = some fn)
    {encs : α → Array Value} {L : List α} {U : Nat → Prop} {Inv : World → Prop}
    (hseq : ∀ W1, Kept w W1 → W1.heap.size = w.heap.size + 2 → SeqP F (n - 1) P gf lb encs L (fun _ => True) Inv W1)
    (hU : ∀ k, U k → k ≠ w.heap.size ∧ k ≠ w.heap.size + 1) (hps : ∀ x, (encs x).size = ps.size)
    (I : Nat → World → Prop) (Ip : List PanicEntry → World → Prop)
    (hI : ∀ i A B, I i A → Only (fun k => k = w.heap.size ∨ k = w.heap.size + 1) A B → I i B)
    (hInv : ∀ i W, I i W → Inv W) (h0 : I 0 w) (Ax : α → Act → World → Prop)
    (hAx : ∀ x a' A B, Ax x a' A → Only (fun k => k = w.heap.size ∨ k = w.heap.size + 1) A B → Ax x a' B)
    (hassign : ∀ (l : Nat) (x : α) (W : World) (K : Act → World → Prop), w.heap.size + 2 ≤ W.heap.size → (∀ a' W', Kept W W' → Ax x a' W' → K a' W') →
      assign.wpIn (F.inRound l) (n - 1 - 1) P (Exit.then K (fun _ _ _ => False)) { tmps := (ps.zip (encs x)).foldl (fun t (p, v) => t.setIfInBounds p v) a.tmps, defers := [] } W)
    (hbody : ∀ (l i : Nat) (x : α) (W : World), L[i]? = some x → I i W → (∀ a' W', w.heap.size + 2 ≤ W'.heap.size → I i W' → Ax x a' W' → body.wpIn (F.inRound l) (n - 1 - 1) P (oneWay U (I (i + 1)) W') a' W') ∨ (∀ a' W', w.heap.size + 2 ≤ W'.heap.size → I i W' → Ax x a' W' → body.wpIn (F.inRound l) (n - 1 - 1) P (pWay U Ip W') a' W'))
    (hdone : ∀ (D : Nat) (W : World), D = w.heap.size → I L.length W → W.heap[D]? = some (.deferred (some [])) → Q .normal { a with defers := { target := .collected D, args := #[] } :: a.defers } W)
    (hpan : ∀ (D : Nat) (ch : List PanicEntry) (W : World), D = w.heap.size → Ip ch W → W.heap[D]? = some (.deferred (some [])) → Q (.panic ch) { a with defers := { target := .collected D, args := #[] } :: a.defers } W) :
    WpB f F n P (Code.rangeFunc g ps assign body) Q a w := by
  obtain ⟨rc, hrc⟩ : ∃ rc : LoopState → Option Code → Loop, ∀ st pe, rc st pe = { state := st, pending := pe, fn := f, tmps := a.tmps, params := ps, assign, body, defers := w.heap.size } := ⟨fun st pe => _, fun _ _ => rfl⟩
  obtain ⟨W1, hW1⟩ : ∃ W1, (w.alloc (.deferred (some []))).alloc (.loop (rc .ready none)) = W1 := ⟨_, rfl⟩
  have hk1 : Kept w W1 := by rw [← hW1]; exact ((Kept.refl w).alloc _).alloc _
  have hs1 : W1.heap.size = w.heap.size + 2 := by rw [← hW1]; simp
  have hL1 : W1.heap[w.heap.size + 1]? = some (.loop (rc .ready none)) := by
    rw [← hW1]; have := heap_alloc_new (w.alloc (.deferred (some []))) (.loop (rc .ready none)); rwa [World.size_alloc] at this
  have hD1 : W1.heap[w.heap.size]? = some (.deferred (some [])) := by
    rw [← hW1]; exact (Below.heap_alloc _ _ _ (by simp)).trans (heap_alloc_new w _)
  have put : ∀ (i : Nat) (A : World) (o : Obj), I i A → I i (A.putObj (w.heap.size + 1) o) := fun i A o h => hI i _ _ h ((Only.refl _ _).putObj (.inl (.inr rfl)) _)
  refine WpB.ranged (l := w.heap.size + 1) (mark := [{ target := .collected w.heap.size, args := #[] }]) (w₁ := W1) (d := { target := .fn (.func gf) lb, args := #[.func (.yield (w.heap.size + 1)) #[] #[]] }) (w₁' := W1) (h := gf)
    (args := #[.func (.yield (w.heap.size + 1)) #[] #[]] ++ lb) (w₂ := W1) ?_ ?_ ?_ ?_ (fun _ => h1) ?_
  · rw [hro, ← hW1, hrc]; exact run_enterLoop_outer _ _ _ _ _
  · simp only [resolve, hg]
    simp [go_sem]
  · intro f' hf'; simp [Target.leads] at hf'; subst hf'; exact hFg
  · simp [invoke, go_sem, eg]
  · refine (hseq W1 hk1 hs1 (w.heap.size + 1)
      (fun i W => I i W ∧ W.heap[w.heap.size + 1]? = some (.loop (rc .ready none)) ∧ W.heap[w.heap.size]? = some (.deferred (some [])) ∧ w.heap.size + 2 ≤ W.heap.size)
      (fun ch W => Ip ch W ∧ W.heap[w.heap.size]? = some (.deferred (some [])))
      (by omega) (fun i W h => hInv i W h.1) ?round ⟨hI _ _ _ h0 (Only.of_kept hk1), hL1, hD1, by omega⟩).mono ?behind
    case round =>
      rintro i x W hx ⟨hi, hl, hd, hz⟩
      have hlt : w.heap.size + 1 < W.heap.size := (Array.getElem?_eq_some_iff.1 hl).1
      have hy := run_yield (P := P) (args := encs x) hl (by rw [hrc]; exact hps x)
      rw [hrc] at hy
      have busy : ∀ W2, Kept W W2 → (Instr.beginRound (w.heap.size + 1)).run P W2 = .ok () (W2.putObj (w.heap.size + 1) (.loop { rc .ready none with state := .busy })) ∧
          (W2.putObj (w.heap.size + 1) (.loop { rc .ready none with state := .busy })).heap[w.heap.size + 1]? = some (.loop { rc .ready none with state := .busy }) ∧
          (W2.putObj (w.heap.size + 1) (.loop { rc .ready none with state := .busy })).heap[w.heap.size]? = some (.deferred (some [])) ∧
          w.heap.size + 2 ≤ (W2.putObj (w.heap.size + 1) (.loop { rc .ready none with state := .busy })).heap.size ∧
          I i (W2.putObj (w.heap.size + 1) (.loop { rc .ready none with state := .busy })) ∧ ∀ a', Ax x a' W2 → Ax x a' (W2.putObj (w.heap.size + 1) (.loop { rc .ready none with state := .busy })) := fun W2 k2 => by
        have hl2 : W2.heap[w.heap.size + 1]? = some (.loop (rc .ready none)) := (k2.block _ hlt).trans hl
        have hd2 : W2.heap[w.heap.size]? = some (.deferred (some [])) := (k2.block _ (by omega)).trans hd
        have := k2.size
        exact ⟨run_beginRound hl2 (by rw [hrc]), World.putObj_heap_same (by omega), (World.putObj_heap_other (by omega)).trans hd2, by simp [World.putObj]; omega, put i W2 _ (hI i _ _ hi (Only.of_kept k2)), fun a' h => hAx _ _ _ _ h ((Only.refl _ _).putObj (.inl (.inr rfl)) _)⟩
      refine ⟨f, _, assign, body, hy, ?_⟩
      rcases hbody (w.heap.size + 1) i x W hx hi with hb | hb
      · refine roundIn_of_wpIn hFf (hassign _ x W _ hz fun a2 W2 k2 hax => ?_)
        obtain ⟨hbr, hl2, hd2, hz2, hi2, hax2⟩ := busy W2 k2
        refine ⟨_, hbr, wpIn_mono (hb a2 _ hz2 hi2 (hax2 _ hax)) ?_⟩
        rintro e a3 W3 hp
        cases e with
        | normal =>
          have hl3 := hp.1.same hl2 (fun h => (hU _ h).2 rfl)
          have hd3 := hp.1.same hd2 (fun h => (hU _ h).1 rfl)
          have hr := run_endRound (P := P) none hl3
          rw [hrc] at hr
          refine ⟨_, _, hr, .inl ⟨rfl, put _ _ _ hp.2, ?_, (World.putObj_heap_other (by omega)).trans hd3, ?_⟩⟩
          · rw [World.putObj_heap_same (Array.getElem?_eq_some_iff.1 hl3).1, hrc]
            rfl
          · have := hp.1.size
            simp [World.putObj] at this ⊢
            have := k2.size
            omega
        | _ => exact hp.elim
      · refine round_panics hFf hf (hassign _ x W _ hz fun a2 W2 k2 hax => ?_)
        obtain ⟨hbr, hl2, hd2, hz2, hi2, hax2⟩ := busy W2 k2
        refine ⟨_, hbr, wpIn_mono (hb a2 _ hz2 hi2 (hax2 _ hax)) ?_⟩
        rintro e a3 W3 hp
        cases e with
        | panic ch => exact ⟨hp.1, .inr ⟨ch, rfl, hp.2.2, hp.2.1.same hd2 (fun h => (hU _ h).1 rfl)⟩⟩
        | _ => exact hp.elim
    case behind =>
      rintro e W2 (⟨v, rfl, hi, hl, hd, _⟩ | ⟨ch, rfl, hi, hd⟩)
      · refine ⟨_, by have := run_endLoop (P := P) hl (by rw [hrc]; simp); rw [hrc] at this; exact this, hdone _ _ rfl (put _ _ _ hi) ((World.putObj_heap_other (by omega)).trans hd)⟩
      · exact hpan _ ch _ rfl hi hd
end
end Go.Proofs.YtdceafncncgfbaaDoor
