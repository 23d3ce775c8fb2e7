import Derived.Test.YtegcgflhgfmkpaaGreatDoorUw1
import Derived.Orders
import Derived.RegionTactic
set_option linter.unusedSimpArgs false
set_option linter.unusedVariables false
namespace Go.Proofs.YtegcgflhgfmkpaaGreatDoor
section
variable {P : Program} {ops : Array Oper} {Q : Exit -> Act -> World -> Prop} {md : Region.Mode}
def dstOf (ops : Array Oper) (j : Nat) : Option Tmp := (ops[j]?).bind (·.dst)
def waitsOn (md : Region.Mode) (ops : Array Oper) (i j : Nat) : Bool := ((ops[i]?).map fun o => o.after.any fun e => Region.binds md e && e.on == j).getD false
def ownSlots (ops : Array Oper) : Bool := (List.range ops.size).all fun i => (dstOf ops i).isSome && (List.range ops.size).all fun j => i == j || dstOf ops i != dstOf ops j
structure FlowAt (ops : Array Oper) (V : Nat -> World -> Value -> Prop) (a0 : Act) (w0 : World) (done : Nat -> Prop) (a : Act) (w : World) : Prop where
 kept : Kept w0 w
 defers : a.defers = a0.defers
 size : a.tmps.size = a0.tmps.size
 other : ∀ t, (∀ j, dstOf ops j ≠ some t) -> a.tmps[t]? = a0.tmps[t]?
 vals : ∀ j d, done j -> dstOf ops j = some d -> V j w (a.tmps[d]?.getD undef)
def lowDeps (md : Region.Mode) (ops : Array Oper) : Bool := (List.range ops.size).all fun i => ((ops[i]?).map fun o => o.after.all fun e => !Region.binds md e || decide (e.on < i)).getD true
def stillOut (listed : Array Bool) (i : Nat) : Bool := !listed.getD i true
theorem countP_less {α : Type} {p p' : α -> Bool} {l : List α} {x : α} (hx : x ∈ l) (h : ∀ y, p' y = true -> p y = true) (h1 : p x = true) (h2 : p' x = false) : l.countP p' < l.countP p := by
 induction l with
 | nil => cases hx
 | cons y r ih =>
  rw [List.countP_cons, List.countP_cons];rcases List.mem_cons.1 hx with rfl | hx
  ·rw [h1, h2];have := List.countP_mono_left (p := p') (q := p) (l := r) (fun y _ => h y)
   simp; omega
  ·have := ih hx;have h3 := h y
   cases hp' : p' y <;> cases hp : p y <;> simp_all <;> omega
theorem ready_of_out {listed : Array Bool} (hl : lowDeps md ops = true) : ∀ n i, i < n -> i < ops.size -> stillOut listed i = true -> listed.size = ops.size -> ∃ j, j ∈ Region.ready md ops listed := by
 intro n
 induction n with
 | zero => intro i h; omega
 | succ n ih =>
  intro i hi hio hout hsz;by_cases hr : i ∈ Region.ready md ops listed
  ·exact ⟨i, hr⟩
  ·rw [mem_ready] at hr;have ho := Array.getElem?_eq_getElem hio;simp only [lowDeps, List.all_eq_true, List.mem_range] at hl;have h1 := hl i hio;rw [ho] at h1;simp only [Option.map_some, Option.getD_some, Array.all_eq_true_iff_forall_mem, Bool.or_eq_true, Bool.not_eq_true', decide_eq_true_eq] at h1;have h2 : ∃ e ∈ ops[i].after, Region.binds md e = true /\ listed.getD e.on false = false := by
    refine Classical.byContradiction fun hc => hr ⟨by simpa [stillOut] using hout, ops[i], ho, fun e he hb => ?_⟩
    cases hq : listed.getD e.on false with
    | true => rfl
    | false => exact absurd ⟨e, he, hb, hq⟩ hc
   obtain ⟨e, he, hb, hq⟩ := h2;have h3 : e.on < i := (h1 e he).resolve_left (by rw [hb]; simp);refine ih e.on (by omega) (by omega) ?_ hsz;have hlt : e.on < listed.size := by omega
   simp [stillOut, hlt] at hq ⊢;exact hq
theorem flow_any {V : Nat -> World -> Value -> Prop} (hV : ∀ i w w' v, V i w v -> Kept w w' -> V i w' v) (hslots : (ownSlots ops && lowDeps md ops) = true) (a0 : Act) (w0 : World) (hsz : ∀ j d, dstOf ops j = some d -> d < a0.tmps.size)
  (hstep : ∀ i o, ops[i]? = some o -> ∀ a w, FlowAt ops V a0 w0 (fun j => waitsOn md ops i j = true) a w ->
   ∀ K : Act -> World -> Prop, (∀ v w', V i w' v -> Kept w w' -> K (a.put o.dst v) w') -> if Region.wanted o (yielded ops a.tmps) = true then Oper.wp P o a w K Q else K (a.put o.dst undef) w)
  (hdone : ∀ a w, FlowAt ops V a0 w0 (fun j => j < ops.size) a w -> Q .normal a w) :
  ∀ (fuel : Nat) (listed : Array Bool) (a : Act) (w : World), listed.size = ops.size -> (List.range ops.size).countP (stillOut listed) <= fuel -> FlowAt ops V a0 w0 (fun j => listed[j]? = some true) a w -> wpAny P md ops Q fuel listed a w := by
 rw [Bool.and_eq_true] at hslots;obtain ⟨hown, hlow⟩ := hslots;have fin : ∀ (listed : Array Bool) (a : Act) (w : World), listed.size = ops.size -> Region.ready md ops listed = [] -> FlowAt ops V a0 w0 (fun j => listed[j]? = some true) a w -> Q .normal a w := by
  intro listed a w hls hr h;refine hdone a w ⟨h.kept, h.defers, h.size, h.other, fun j d hj hd => h.vals j d ?_ hd⟩;rcases Bool.eq_false_or_eq_true (stillOut listed j) with hq | hq
  ·obtain ⟨k, hk⟩ := ready_of_out (md := md) hlow (j + 1) j (by omega) hj hq hls;rw [hr] at hk; cases hk
  ·have : j < listed.size := by omega
   simp [stillOut, this] at hq ⊢;exact hq
 intro fuel
 induction fuel with
 | zero =>
  intro listed a w hls hc h;have hr : Region.ready md ops listed = [] := by
   cases hr : Region.ready md ops listed with
   | nil => rfl
   | cons i r =>
    have hi : i ∈ Region.ready md ops listed := by rw [hr]; simp
    obtain ⟨h0, o, ho, _⟩ := mem_ready.1 hi;have h1 : i < ops.size := (Array.getElem?_eq_some_iff.1 ho).1;have : 0 < (List.range ops.size).countP (stillOut listed) := List.countP_pos_iff.2 ⟨i, List.mem_range.2 h1, by simp only [stillOut, h0]; rfl⟩;omega
  exact ⟨hr, fin listed a w hls hr h⟩
 | succ fuel ih =>
  intro listed a w hls hc h;refine ⟨fun hr => fin listed a w hls hr h, fun i hi => ?_⟩;obtain ⟨h0, o, ho, hall⟩ := mem_ready.1 hi;have hio : i < ops.size := (Array.getElem?_eq_some_iff.1 ho).1;have hbefore : FlowAt ops V a0 w0 (fun j => waitsOn md ops i j = true) a w := by
   refine ⟨h.kept, h.defers, h.size, h.other, fun j d hj hd => h.vals j d ?_ hd⟩;unfold waitsOn at hj;rw [ho] at hj;obtain ⟨e, he, hb⟩ := Array.any_eq_true'.1 hj;simp only [Bool.and_eq_true, beq_iff_eq] at hb;have h1 := hall e he hb.1;rw [hb.2] at h1;rcases Nat.lt_or_ge j listed.size with h' | h'
   ·simp [h'] at h1 ⊢; exact h1
   ·simp [Array.getElem?_eq_none h'] at h1
  refine wpOp_step ho fun K' hK => hstep i o ho a w hbefore K' fun v w' hv hk => hK _ _ ?_;simp only [ownSlots, List.all_eq_true, List.mem_range, Bool.and_eq_true, Bool.or_eq_true, beq_iff_eq, bne_iff_ne] at hown;have hoi := hown i hio;obtain ⟨d, hd⟩ := Option.isSome_iff_exists.1 hoi.1;have hod : o.dst = some d := by have := hd; unfold dstOf at this; rw [ho] at this; exact this
  have hdl : d < a.tmps.size := by rw [h.size]; exact hsz i d hd
  refine ih (listed.setIfInBounds i true) (a.put o.dst v) w' (by simpa using hls) ?_ ?_
  ·have : (List.range ops.size).countP (stillOut (listed.setIfInBounds i true)) < (List.range ops.size).countP (stillOut listed) := by
    refine countP_less (x := i) (List.mem_range.2 hio) (fun y hy => ?_) (by simp only [stillOut, h0]; rfl) (by have hil : i < listed.size := by { omega }; simp [stillOut, hil]);by_cases hiy : i = y
    ·subst hiy; simp only [stillOut, h0]; rfl
    ·simp only [stillOut] at hy ⊢; rw [getD_set_ne true hiy] at hy; exact hy
   omega
  ·refine ⟨h.kept.trans hk, by rw [hod]; exact h.defers, by rw [hod]; simpa [Act.put] using h.size, fun t ht => ?_, fun j e hj he => ?_⟩
   ·have hne : d ≠ t := fun q => ht i (by rw [hd, q]);rw [hod];simp only [Act.put];rw [Array.getElem?_setIfInBounds_ne hne];exact h.other t ht
   ·by_cases hij : i = j
    ·subst hij;obtain rfl : d = e := Option.some.inj (hd.symm.trans he);rw [hod];simp only [Act.put, Array.getElem?_setIfInBounds_self_of_lt hdl, Option.getD_some];exact hv
    ·have hjo : j < ops.size := by
      unfold dstOf at he;rcases Nat.lt_or_ge j ops.size with h' | h'
      ·exact h'
      ·rw [Array.getElem?_eq_none h'] at he; cases he
     have hde : d ≠ e := fun q => by
      have := (hoi.2 j hjo).resolve_left hij;exact this (by rw [hd, he, q])
     rw [hod];simp only [Act.put];rw [Array.getElem?_setIfInBounds_ne hde];refine hV j w w' _ (h.vals j e ?_ he) hk;rw [Array.getElem?_setIfInBounds_ne hij] at hj;exact hj
theorem flow_region {V : Nat -> World -> Value -> Prop} {id : Nat} {a0 : Act} {w : World} (hm : P.follows .mixedOrders = true) (hV : ∀ i w w' v, V i w v -> Kept w w' -> V i w' v) (hslots : (ownSlots ops && lowDeps .any ops) = true)
  (hsz : ((List.range ops.size).all fun j => ((dstOf ops j).map fun d => decide (d < a0.tmps.size)).getD true) = true)
  (hstep : ∀ i o, ops[i]? = some o -> ∀ a w', FlowAt ops V a0 w.drew (fun j => waitsOn .any ops i j = true) a w' ->
   ∀ K : Act -> World -> Prop, (∀ v w'', V i w'' v -> Kept w' w'' -> K (a.put o.dst v) w'') -> if Region.wanted o (yielded ops a.tmps) = true then Oper.wp P o a w' K Q else K (a.put o.dst undef) w')
  (hdone : ∀ a w', FlowAt ops V a0 w.drew (fun j => j < ops.size) a w' -> Q .normal a w') : (Code.region id ops true).wp P Q a0 w := by
 refine wp_region_any hm ?_;refine flow_any hV hslots a0 w.drew (fun j d hd => ?_) hstep hdone ops.size _ a0 w.drew (by simp) (Nat.le_trans List.countP_le_length (by simp)) ⟨Kept.refl _, rfl, rfl, fun _ _ => rfl, fun j d hj hd => ?_⟩
 ·simp only [List.all_eq_true, List.mem_range] at hsz;have hj : j < ops.size := by
   unfold dstOf at hd;rcases Nat.lt_or_ge j ops.size with h' | h'
   ·exact h'
   ·rw [Array.getElem?_eq_none h'] at hd; cases hd
  have := hsz j hj;rw [hd] at this
  simpa using this
 ·have : ops.size ≠ 0 /\ (Array.replicate ops.size false)[j]? = some true := ⟨fun h => by rw [h] at hj; simp at hj, hj⟩;rcases Nat.lt_or_ge j ops.size with h' | h'
  ·simp [h'] at hj
  ·simp [h'] at hj
end
end Go.Proofs.YtegcgflhgfmkpaaGreatDoor
