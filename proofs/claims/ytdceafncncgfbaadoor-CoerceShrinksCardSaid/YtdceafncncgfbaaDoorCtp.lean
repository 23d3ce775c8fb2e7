/- pass: a value passes through an object's layers. -/
import Derived.Test.YtdceafncncgfbaaDoorCta
set_option linter.unusedSimpArgs false
set_option linter.unusedVariables false
set_option maxRecDepth 100000
namespace Go.Proofs.YtdceafncncgfbaaDoor
open Go.ChangeShapes Go.WideShapes Go.ChangeAt Go.RowKit Go.Shelf
attribute [local go_sem] Oper.semAt_some

namespace Co
/-- A layer that is passed: leave or enter, with the type that its class tells. -/
def stepL (t : List Tab.C) (x : Vw) (ty : ByteArray → Option ByteArray) (back : Bool) (l : List Ly) (y : Ly) : Except Int (List Ly) := match ty y.cls with
  | none => .ok l
  | some s => if y.out = back then .ok (wrapL x l ⟨false, s, y.lab⟩) else if fitsB t x l s = true then .ok (wrapL x l ⟨true, s, y.lab⟩) else .error y.lab
def passL (t : List Tab.C) (x : Vw) (ty : ByteArray → Option ByteArray) (back : Bool) : List Ly → List Ly → Except Int (List Ly)
  | [], l => .ok l
  | y :: r, l => match stepL t x ty back l y with
    | .ok l' => passL t x ty back r l'
    | .error q => .error q
theorem passL_app {t : List Tab.C} {x : Vw} {ty : ByteArray → Option ByteArray} {back : Bool} : ∀ (L M l : List Ly), passL t x ty back (L ++ M) l = match passL t x ty back L l with | .ok l' => passL t x ty back M l' | .error q => .error q
  | [], M, l => rfl
  | y :: r, M, l => by
    rw [List.cons_append, passL, passL]
    cases stepL t x ty back l y with
    | ok l' => exact passL_app r M l'
    | error q => rfl
theorem stepL_len {t : List Tab.C} {x : Vw} {ty : ByteArray → Option ByteArray} {back : Bool} {l l' : List Ly} {y : Ly} (h : stepL t x ty back l y = .ok l') : l'.length ≤ l.length + 1 := by
  unfold stepL at h
  split at h
  · injection h with h; subst h; omega
  · split at h
    · injection h with h; subst h; exact wrapL_len _ _ _
    · split at h
      · injection h with h; subst h; exact wrapL_len _ _ _
      · cases h
theorem passL_len {t : List Tab.C} {x : Vw} {ty : ByteArray → Option ByteArray} {back : Bool} : ∀ (L l l' : List Ly), passL t x ty back L l = .ok l' → l'.length ≤ l.length + L.length
  | [], l, l', h => by injection h with h; subst h; simp
  | y :: r, l, l', h => by
    rw [passL] at h
    cases hs : stepL t x ty back l y with
    | ok l2 =>
      rw [hs] at h
      have := passL_len r l2 l' h
      have := stepL_len hs
      rw [List.length_cons]; omega
    | error q => rw [hs] at h; cases h
/-- One layer more. -/
theorem passL_next {t : List Tab.C} {x : Vw} {ty : ByteArray → Option ByteArray} {back : Bool} {L l l' : List Ly} {i : Nat} {y : Ly} (h : passL t x ty back (L.take i) l = .ok l') (hy : L[i]? = some y) : passL t x ty back (L.take (i + 1)) l = stepL t x ty back l' y := by
  rw [List.take_add_one, hy, passL_app, h]
  simp only [Option.toList, passL]
  cases stepL t x ty back l' y <;> rfl
theorem passL_stop {t : List Tab.C} {x : Vw} {ty : ByteArray → Option ByteArray} {back : Bool} {L l : List Ly} {i : Nat} {q : Int} (h : passL t x ty back (L.take i) l = .error q) : passL t x ty back L l = .error q := by
  rw [← List.take_append_drop i L, passL_app, h]
end Co

def PassPost (bs : List Nat) (B : Nat) (x : Vw) (tv : Value) (t : List Tab.C) (came : Int) (r : Except Int (List Ly)) (w : World) (e : Ending) (w' : World) : Prop := match r with
  | .ok l => e = .returned (.tuple #[]) ∧ TrPost bs [] B x l tv t came w w'
  | .error q => e = .panicked (blameV q) ∧ ∃ bs', Moved bs bs' w w'

section
variable {bs : List Nat} {B : Nat} {x : Vw} {l : List Ly} {a : Option Addr} {cp : Nat} {t : List Tab.C} {came : Int}

set_option maxHeartbeats 8000000 in
theorem pass_c (back : Bool) (y : Vw) (ta : Option Addr) (tc : Nat) (L : List Ly) (gT : FuncId) (cb : Array Value) (ty : ByteArray → Option ByteArray) (w0 w : World)
    (eg : ∀ args w, (callFunc gT args).run Tryd.prog w = .ok (.enter gT args) w)
    (hty : ∀ (c : ByteArray) (W : World), Kept w0 W → c.size ≤ maxLen → Calls Tryd.prog gT (#[.string c] ++ cb) W fun e w' => e = .returned (optV (ty c)) ∧ Kept W w')
    (hsz : ∀ c s, ty c = some s → s.size ≤ maxLen)
    (h : TrAt bs [] B x l (.slice a t.length cp) t came w) (E : Env w0 a cp t) (h0 : At0 w0 bs w) (hbl : ∀ k ∈ bs, k < w.heap.size) (hL : LysAt w0 (.slice ta L.length tc) L) (hs : x.s.size ≤ maxLen) (hl : l.length + L.length ≤ 100000) :
    Calls Tryd.prog 40 #[.pointer (some ⟨B, 0, none⟩), vV y (.slice ta L.length tc), .bool back, .func (.func gT) #[] cb] w (PassPost bs B x (.slice a t.length cp) t came (if y.tag = 7 then Co.passL t x ty back (wayY back L) l else .ok l) w) := by
  obtain ⟨res, hres⟩ : ∃ r, (if y.tag = 7 then Co.passL t x ty back (wayY back L) l else .ok l) = r := ⟨_, rfl⟩
  rw [hres]
  have HRS := Lib.hid hres
  clear hres
  have HH := Lib.hid h
  have HE := Lib.hid E
  have H0 := Lib.hid h0
  have HBL := Lib.hid hbl
  have HTY := Lib.hid hty
  have HSZ := Lib.hid hsz
  have HCH := Lib.hid hL
  have HLL := Lib.hid (And.intro hs hl)
  clear h E h0 hbl hty hsz hL hs hl
  obtain ⟨W1, hW1⟩ : ∃ W, w.alloc (.cells #[.pointer (some ⟨B, 0, none⟩)] 71) = W := ⟨_, rfl⟩
  obtain ⟨W2, hW2⟩ : ∃ W, W1.alloc (.cells #[.int .i64 y.tag, .int .i64 y.n, .int .u64 y.bits, .string y.s, .slice ta L.length tc] 27) = W := ⟨_, rfl⟩
  obtain ⟨W3, hW3⟩ : ∃ W, W2.alloc (.cells #[.bool back] 4) = W := ⟨_, rfl⟩
  obtain ⟨W4, hW4⟩ : ∃ W, W3.alloc (.cells #[.func (.func gT) #[] cb] 77) = W := ⟨_, rfl⟩
  have z1 : W1.heap.size = w.heap.size + 1 := by rw [← hW1]; simp
  have z2 : W2.heap.size = w.heap.size + 2 := by rw [← hW2]; simp [z1]
  have z3 : W3.heap.size = w.heap.size + 3 := by rw [← hW3]; simp [z2]
  have z4 : W4.heap.size = w.heap.size + 4 := by rw [← hW4]; simp [z3]
  have k1 : Kept w W1 := by rw [← hW1]; exact (Kept.refl _).alloc _
  have k2 : Kept W1 W2 := by rw [← hW2]; exact (Kept.refl _).alloc _
  have k3 : Kept W2 W3 := by rw [← hW3]; exact (Kept.refl _).alloc _
  have k4 : Kept W3 W4 := by rw [← hW4]; exact (Kept.refl _).alloc _
  have b1 : Blk W4 w.heap.size 71 #[.pointer (some ⟨B, 0, none⟩)] := by
    have : Blk W1 w.heap.size 71 #[.pointer (some ⟨B, 0, none⟩)] := by rw [← hW1]; exact Blk.new _ _ _
    exact ((this.kept k2).kept k3).kept k4
  have b2 : Blk W4 (w.heap.size + 1) 27 #[.int .i64 y.tag, .int .i64 y.n, .int .u64 y.bits, .string y.s, .slice ta L.length tc] := by
    have : Blk W2 (w.heap.size + 1) 27 #[.int .i64 y.tag, .int .i64 y.n, .int .u64 y.bits, .string y.s, .slice ta L.length tc] := by rw [← hW2, ← z1]; exact Blk.new _ _ _
    exact (this.kept k3).kept k4
  have b3 : Blk W4 (w.heap.size + 2) 4 #[.bool back] := by
    have : Blk W3 (w.heap.size + 2) 4 #[.bool back] := by rw [← hW3, ← z2]; exact Blk.new _ _ _
    exact this.kept k4
  have b4 : Blk W4 (w.heap.size + 3) 77 #[.func (.func gT) #[] cb] := by rw [← hW4, ← z3]; exact Blk.new _ _ _
  have HK4 := Lib.hid (((k1.trans k2).trans k3).trans k4)
  have HB1 := Lib.hid b1
  have HB2 := Lib.hid b2
  have HB3 := Lib.hid b3
  have HB4 := Lib.hid b4
  have HW1 := Lib.hid hW1
  have HW2 := Lib.hid hW2
  have HW3 := Lib.hid hW3
  have HW4 := Lib.hid hW4
  have c0 := b2.cell 0
  simp at c0
  clear k1 k2 k3 k4 b1 b2 b3 b4 hW1 hW2 hW3 hW4
  refine callsIn_wide.1 (calls_of_wpB (n := 3) Tryd.func40 rfl trivial rfl ?_)
  simp only [Tryd.ntmps40, List.size_toArray, List.length_cons, List.length_nil, Nat.reduceAdd, Nat.reduceSub, Array.replicate_succ, Array.replicate_zero, List.push_toArray, List.append_toArray, List.nil_append, List.cons_append]
  refine WpB.seq fun K1 hK1 => wpIn_wide.2 ?_
  go_wp2_with (first | rw [HW1.out] | rw [HW2.out] | rw [HW3.out] | rw [HW4.out] | rw [z1] | rw [z2] | rw [z3])
  refine WpB.seq fun K2 hK2 => wpIn_wide.2 ?_
  by_cases h7 : y.tag = 7
  · rw [h7] at c0
    go_wp2_with fail
    refine WpB.seq fun K3 hK3 => wpIn_wide.2 ?_
    have c4 := HB2.out.cell 4
    have d0 := HB3.out.cell 0
    simp at c4 d0
    go_wp2_with fail
    refine (calong_c ta L.length tc back W4).mono ?_
    rintro e w5 ⟨rfl, hw5⟩
    obtain ⟨W5, hW5⟩ : ∃ W, W4.alloc (.cells #[.slice ta L.length tc] 25) = W := ⟨_, rfl⟩
    rw [hW5] at hw5
    have z5 : W5.heap.size = w.heap.size + 5 := by rw [← hW5]; simp [z4]
    have z6 : w5.heap.size = w.heap.size + 6 := by rw [hw5]; simp [z5]
    have k5 : Kept W4 w5 := by rw [hw5, ← hW5]; exact ((Kept.refl _).alloc _).alloc _
    have HB5 := Lib.hid (show Blk w5 (w.heap.size + 4) 25 #[.slice ta L.length tc] from by
      have : Blk W5 (w.heap.size + 4) 25 #[.slice ta L.length tc] := by rw [← hW5, ← z4]; exact Blk.new _ _ _
      rw [hw5]; exact this.alloc _)
    have HB6 := Lib.hid (show Blk w5 (w.heap.size + 5) 4 #[.bool back] from by rw [hw5, ← z5]; exact Blk.new _ _ _)
    replace HB1 := Lib.hid (HB1.out.kept k5)
    replace HB2 := Lib.hid (HB2.out.kept k5)
    replace HB3 := Lib.hid (HB3.out.kept k5)
    replace HB4 := Lib.hid (HB4.out.kept k5)
    replace HK4 := Lib.hid (HK4.out.trans k5)
    rw [z4]
    have HRES := Lib.hid (show Co.passL t x ty back (wayY back L) l = res by rw [← HRS.out, if_pos h7])
    clear hW5 hw5 k5 z1 z2 z3 z4 z5 c0 c4 d0 HW1 HW2 HW3 HW4
    go_wp2_with fail
    refine WpB.block ?_
    obtain ⟨T, hT⟩ : ∃ T : Array Value, T = #[.pointer (some ⟨B, 0, none⟩), vV y (.slice ta L.length tc), .bool back, .func (.func gT) #[] cb, .pointer (some ⟨w.heap.size, 0, none⟩), .pointer (some ⟨w.heap.size + 1, 0, none⟩), .pointer (some ⟨w.heap.size + 2, 0, none⟩), .pointer (some ⟨w.heap.size + 3, 0, none⟩), undef, undef, undef, undef, .pointer (some ⟨w.heap.size + 1, 0, none⟩), .int .i64 7, .bool false, .pointer (some ⟨w.heap.size + 1, 4, none⟩), .slice ta L.length tc, .bool back, .func (.func 73) #[] #[.pointer (some ⟨w.heap.size + 4, 0, none⟩), .pointer (some ⟨w.heap.size + 5, 0, none⟩)], undef, undef, undef, undef, undef, undef, undef, undef, undef, undef, undef, undef, undef, undef, undef, undef, undef, undef, undef, undef, undef, undef, undef] := ⟨_, rfl⟩
    obtain ⟨Ax, hAx⟩ : ∃ Ax : Ly → Act → World → Prop, Ax = fun z a' W => ∃ b, a' = { tmps := (T.setIfInBounds 19 (lyV z)).setIfInBounds 8 (.pointer (some ⟨b, 0, none⟩)), defers := [] } ∧ Blk W b lT #[.bool z.out, .string z.cls, .int .i64 z.lab] ∧ w5.heap.size + 2 ≤ b := ⟨_, rfl⟩
    obtain ⟨I, hI⟩ : ∃ I : Nat → World → Prop, I = fun i W => ∃ bsi li, Co.passL t x ty back ((wayY back L).take i) l = .ok li ∧ TrAt bsi [] B x li (.slice a t.length cp) t came W ∧ Moved bs bsi w5 W ∧ ∀ k ∈ bsi, k ∈ bs ∨ w5.heap.size + 2 ≤ k := ⟨_, rfl⟩
    obtain ⟨Ip, hIp⟩ : ∃ Ip : List PanicEntry → World → Prop, Ip = fun ch W => ∃ q bsi, ch = blameV q ∧ Co.passL t x ty back (wayY back L) l = .error q ∧ Moved bs bsi w5 W := ⟨_, rfl⟩
    have hMv : ∀ bsi W, Moved bs bsi w5 W → Kept w0 W ∧ Blk W w.heap.size 71 #[.pointer (some ⟨B, 0, none⟩)] ∧ Blk W (w.heap.size + 2) 4 #[.bool back] ∧ Blk W (w.heap.size + 3) 77 #[.func (.func gT) #[] cb] ∧ Blk W (w.heap.size + 4) 25 #[.slice ta L.length tc] ∧ Blk W (w.heap.size + 5) 4 #[.bool back] := fun bsi W hm => by
      have nb : ∀ g, w.heap.size ≤ g → ¬ g ∈ bs := fun g hg hb => by have := HBL.out g hb; omega
      exact ⟨(H0.out.1.trans HK4.out).only hm.1 rfl H0.out.2, HB1.out.only hm.1 (nb _ (by omega)), HB3.out.only hm.1 (nb _ (by omega)), HB4.out.only hm.1 (nb _ (by omega)), HB5.out.only hm.1 (nb _ (by omega)), HB6.out.only hm.1 (nb _ (by omega))⟩
    refine WpB.over (F := Fence.wide) (n := 3) rfl (by omega) rfl trivial (enters_of Tryd.func73 (by kernel_rfl) rfl) trivial ⟨_, Tryd.func40⟩
      (encs := fun y : Ly => #[lyV y]) (L := wayY back L) (U := fun k => k ∈ bs ∨ w5.heap.size + 2 ≤ k) (Inv := AlInv (w.heap.size + 4) (w.heap.size + 5) back ta tc L)
      (fun W1 _ _ => along1_P 2 (by omega) back _ _ ta tc L W1 (by have := HLL.out; omega)) ?hU (fun _ => rfl) I Ip ?hI ?hInv ?h0 Ax ?hAx ?hassign ?hbody ?hdone ?hpan
    case hU =>
      rintro k (hk | hk)
      · have := HBL.out k hk
        omega
      · omega
    case hI =>
      intro i A C hi ho
      rw [hI] at hi ⊢
      obtain ⟨bsi, li, h1, h2, h3, h4⟩ := hi
      have nd : ∀ k ∈ bsi, ¬ (k = w5.heap.size ∨ k = w5.heap.size + 1) := fun k hk e => by
        rcases h4 k hk with h | h
        · have := HBL.out k h
          omega
        · omega
      refine ⟨bsi, li, h1, h2.only ho nd, ⟨h3.1.trans' ho (fun k hk e => by omega), h3.2⟩, h4⟩
    case hInv =>
      intro i W hi
      rw [hI] at hi
      obtain ⟨bsi, li, h1, h2, h3, h4⟩ := hi
      obtain ⟨q1, q2, q3, q4, q5, q6⟩ := hMv _ _ h3
      exact ⟨q5, q6, lys_kept HCH.out q1⟩
    case h0 =>
      rw [hI]
      exact ⟨bs, l, rfl, HH.out.kept HK4.out, Moved.refl _ _, fun _ h => .inl h⟩
    case hAx =>
      intro z a' A C ha ho
      rw [hAx] at ha ⊢
      obtain ⟨b, h1, h2, h3⟩ := ha
      exact ⟨b, h1, h2.only ho (by omega), h3⟩
    case hassign =>
      intro lr z W K hz hK
      have HKK := Lib.hid (fun a' W' (k : Kept W W') (h : Ax z a' W') => hK a' W' k h)
      clear hK
      gi_wp2
      refine HKK.out _ _ ((Kept.refl _).alloc _) ?_
      rw [hAx]
      exact ⟨_, by rw [hT]; rfl, Blk.new _ _ _, hz⟩
    case hbody =>
      intro lr i z W hx hi
      have hzf : z.cls.size ≤ maxLen := by
        have hm := List.mem_of_getElem? hx
        unfold wayY at hm
        split at hm
        · exact lys_fine HCH.out z (List.mem_reverse.1 hm)
        · exact lys_fine HCH.out z hm
      rw [hI] at hi
      obtain ⟨_, li, hpi, _, _, _⟩ := hi
      have hll : li.length ≤ 100000 := by
        have := Co.passL_len _ _ _ hpi
        have h2 : ((wayY back L).take i).length ≤ L.length := by rw [List.length_take, wayY_len]; exact Nat.min_le_right _ _
        have := HLL.out.2
        omega
      have HP := Lib.hid (Co.passL_next hpi hx)
      have hfin : ∀ W' W3 bsi li2, (∀ k ∈ bsi, k ∈ bs ∨ w5.heap.size + 2 ≤ k) → Moved bs bsi w5 W' → w5.heap.size + 2 ≤ W'.heap.size → Co.stepL t x ty back li z = .ok li2 → TrPost bsi [] B x li2 (.slice a t.length cp) t came W' W3 → Only (fun k => k ∈ bs ∨ w5.heap.size + 2 ≤ k) W' W3 ∧ I (i + 1) W3 := fun W' W3 bsi li2 h4 h3 hz hst ⟨bs2, ht, hm⟩ => by
        refine ⟨hm.1.mono fun k _ hk => h4 k hk, ?_⟩
        rw [hI]
        exact ⟨bs2, li2, by rw [HP.out, hst], ht, h3.trans hm, fun k hk => (hm.2 k hk).elim (h4 k) fun e => .inr (by omega)⟩
      have hopen : ∀ W', I i W' → ∃ bsi, TrAt bsi [] B x li (.slice a t.length cp) t came W' ∧ Moved bs bsi w5 W' ∧ ∀ k ∈ bsi, k ∈ bs ∨ w5.heap.size + 2 ≤ k := fun W' h => by
        rw [hI] at h
        obtain ⟨bsi, l2, h1, h2, h3, h4⟩ := h
        rw [hpi] at h1
        injection h1 with h1
        subst h1
        exact ⟨bsi, h2, h3, h4⟩
      have HFIN := Lib.hid hfin
      have HOP := Lib.hid hopen
      have HPI := Lib.hid hpi
      clear hfin hopen hpi hx
      cases hty : ty z.cls with
      | none =>
        have HST := Lib.hid (show Co.stepL t x ty back li z = .ok li from by unfold Co.stepL; rw [hty])
        left
        intro a' W' hz hi' hax
        obtain ⟨bsi, h2, h3, h4⟩ := HOP.out W' hi'
        obtain ⟨q1, q2, q3, q4, q5, q6⟩ := hMv _ _ h3
        rw [hAx] at hax
        obtain ⟨b, rfl, hb, hbz⟩ := hax
        have c0 := q4.cell 0
        have c1 := hb.cell 1
        simp at c0 c1
        have HC := Lib.hid (HTY.out z.cls W' q1 hzf)
        rw [hty] at HC
        have HF := Lib.hid (fun W3 (k : Kept W' W3) => HFIN.out W' W3 bsi li h4 h3 hz HST.out (TrPost.of_kept h2 k))
        subst hT
        clear h2 h3 h4 q1 q2 q3 q4 q5 q6 hb hi' hI hIp hMv hAx hty
        gi_wp2
        refine ⟨trivial, (CallsIn.inRound lr (callsIn_wide.2 HC.out)).mono ?_⟩
        rintro e W3 ⟨rfl, k3⟩
        unfold optV
        simp only [Option.getD_none, Option.isSome_none]
        gi_wp2
        exact HF.out W3 k3
      | some s =>
        by_cases hob : z.out = back
        · have HST := Lib.hid (show Co.stepL t x ty back li z = .ok (Co.wrapL x li ⟨false, s, z.lab⟩) from by unfold Co.stepL; rw [hty]; exact if_pos hob)
          left
          intro a' W' hz hi' hax
          obtain ⟨bsi, h2, h3, h4⟩ := HOP.out W' hi'
          obtain ⟨q1, q2, q3, q4, q5, q6⟩ := hMv _ _ h3
          rw [hAx] at hax
          obtain ⟨b, rfl, hb, hbz⟩ := hax
          have c0 := q4.cell 0
          have c1 := hb.cell 1
          simp at c0 c1
          have HC := Lib.hid (HTY.out z.cls W' q1 hzf)
          rw [hty] at HC
          have HB := Lib.hid hb
          have HQ := Lib.hid (And.intro q2 q3)
          have HEF := Lib.hid (fun W3 (k : Kept W' W3) => leave_c s z.lab w0 W3 (h2.kept k) HE.out ⟨q1.trans k, fun j hj => (h4 j hj).elim (H0.out.2 j) (fun e => by have := HK4.out.size; have := H0.out.1.size; omega)⟩ (HSZ.out _ _ hty) hll)
          have HF := Lib.hid (fun W3 W4 li2 (k : Kept W' W3) (hst : Co.stepL t x ty back li z = .ok li2) (hp : TrPost bsi [] B x li2 (.slice a t.length cp) t came W3 W4) => HFIN.out W' W4 bsi li2 h4 h3 hz hst (let ⟨bs2, ht, hm⟩ := hp; ⟨bs2, ht, (Moved.kept k).trans hm⟩))
          have HPN := Lib.hid (fun W3 W4 q (k : Kept W' W3) (hst : Co.stepL t x ty back li z = .error q) (hp : ∃ bs2, Moved bsi bs2 W3 W4) => show Only (fun k => k ∈ bs ∨ w5.heap.size + 2 ≤ k) W' W4 ∧ Ip (blameV q) W4 from by
            obtain ⟨bs2, hm⟩ := hp
            have hm2 := (Moved.kept (bs := bsi) k).trans hm
            refine ⟨hm2.1.mono fun k _ hk => h4 k hk, ?_⟩
            rw [hIp]
            exact ⟨q, bs2, rfl, Co.passL_stop (i := i + 1) (by rw [HP.out, hst]), h3.trans hm2⟩)
          subst hT
          clear h2 h3 h4 q1 q2 q3 q4 q5 q6 hb hi' hI hIp hMv hAx hty
          gi_wp2
          refine ⟨trivial, (CallsIn.inRound lr (callsIn_wide.2 HC.out)).mono ?_⟩
          rintro e W3 ⟨rfl, k3⟩
          have HK3 := Lib.hid k3
          have c0 := (HQ.out.1.kept k3).cell 0
          have d0 := (HQ.out.2.kept k3).cell 0
          have e0 := (HB.out.kept k3).cell 0
          have e2 := (HB.out.kept k3).cell 2
          simp at c0 d0 e0 e2
          clear k3
          unfold optV
          simp only [Option.getD_some, Option.isSome_some]
          have hobb : (z.out != back) = false := by simp [hob]
          gi_wp2
          refine ⟨trivial, (CallsIn.inRound lr (callsIn_wide.2 (HEF.out W3 HK3.out))).mono ?_⟩
          rintro e W4 ⟨rfl, hp⟩
          have HR := Lib.hid (HF.out W3 W4 _ HK3.out HST.out hp)
          clear hp
          gi_wp2
          exact HR.out
        · have hobb : (z.out != back) = true := by simpa using hob
          cases hfb : Co.fitsB t x li s with
          | true =>
            have HST := Lib.hid (show Co.stepL t x ty back li z = .ok (Co.wrapL x li ⟨true, s, z.lab⟩) from by unfold Co.stepL; rw [hty]; simp only [if_neg hob, hfb, if_true])
            have HFB := Lib.hid hfb
            left
            clear hfb
            intro a' W' hz hi' hax
            obtain ⟨bsi, h2, h3, h4⟩ := HOP.out W' hi'
            obtain ⟨q1, q2, q3, q4, q5, q6⟩ := hMv _ _ h3
            rw [hAx] at hax
            obtain ⟨b, rfl, hb, hbz⟩ := hax
            have c0 := q4.cell 0
            have c1 := hb.cell 1
            simp at c0 c1
            have HC := Lib.hid (HTY.out z.cls W' q1 hzf)
            rw [hty] at HC
            have HB := Lib.hid hb
            have HQ := Lib.hid (And.intro q2 q3)
            have HEF := Lib.hid (fun W3 (k : Kept W' W3) => enter_c s z.lab w0 W3 (h2.kept k) HE.out ⟨q1.trans k, fun j hj => (h4 j hj).elim (H0.out.2 j) (fun e => by have := HK4.out.size; have := H0.out.1.size; omega)⟩ (HSZ.out _ _ hty) HLL.out.1 hll)
            have HF := Lib.hid (fun W3 W4 li2 (k : Kept W' W3) (hst : Co.stepL t x ty back li z = .ok li2) (hp : TrPost bsi [] B x li2 (.slice a t.length cp) t came W3 W4) => HFIN.out W' W4 bsi li2 h4 h3 hz hst (let ⟨bs2, ht, hm⟩ := hp; ⟨bs2, ht, (Moved.kept k).trans hm⟩))
            have HPN := Lib.hid (fun W3 W4 q (k : Kept W' W3) (hst : Co.stepL t x ty back li z = .error q) (hp : ∃ bs2, Moved bsi bs2 W3 W4) => show Only (fun k => k ∈ bs ∨ w5.heap.size + 2 ≤ k) W' W4 ∧ Ip (blameV q) W4 from by
              obtain ⟨bs2, hm⟩ := hp
              have hm2 := (Moved.kept (bs := bsi) k).trans hm
              refine ⟨hm2.1.mono fun k _ hk => h4 k hk, ?_⟩
              rw [hIp]
              exact ⟨q, bs2, rfl, Co.passL_stop (i := i + 1) (by rw [HP.out, hst]), h3.trans hm2⟩)
            subst hT
            clear h2 h3 h4 q1 q2 q3 q4 q5 q6 hb hi' hI hIp hMv hAx hty
            gi_wp2
            refine ⟨trivial, (CallsIn.inRound lr (callsIn_wide.2 HC.out)).mono ?_⟩
            rintro e W3 ⟨rfl, k3⟩
            have HK3 := Lib.hid k3
            have c0 := (HQ.out.1.kept k3).cell 0
            have d0 := (HQ.out.2.kept k3).cell 0
            have e0 := (HB.out.kept k3).cell 0
            have e2 := (HB.out.kept k3).cell 2
            simp at c0 d0 e0 e2
            clear k3
            unfold optV
            simp only [Option.getD_some, Option.isSome_some]
            obtain ⟨zo, hzo⟩ : ∃ zo, z.out = zo := ⟨_, rfl⟩
            rw [hzo] at e0 hob hobb
            clear hzo
            cases zo <;> cases back <;> first | exact absurd rfl hob | skip
            all_goals
              clear hob hobb
              gi_wp2
              refine ⟨trivial, (CallsIn.inRound lr (callsIn_wide.2 (HEF.out W3 HK3.out))).mono ?_⟩
              rintro e W4 (⟨_, rfl, hp⟩ | ⟨hb0, _⟩)
              · have HR := Lib.hid (HF.out W3 W4 _ HK3.out HST.out hp)
                clear hp
                gi_wp2
                exact HR.out
              · rw [HFB.out] at hb0
                cases hb0
          | false =>
            have HST := Lib.hid (show Co.stepL t x ty back li z = .error z.lab from by unfold Co.stepL; rw [hty]; simp only [if_neg hob, hfb]; rfl)
            have HFB := Lib.hid hfb
            right
            clear hfb
            intro a' W' hz hi' hax
            obtain ⟨bsi, h2, h3, h4⟩ := HOP.out W' hi'
            obtain ⟨q1, q2, q3, q4, q5, q6⟩ := hMv _ _ h3
            rw [hAx] at hax
            obtain ⟨b, rfl, hb, hbz⟩ := hax
            have c0 := q4.cell 0
            have c1 := hb.cell 1
            simp at c0 c1
            have HC := Lib.hid (HTY.out z.cls W' q1 hzf)
            rw [hty] at HC
            have HB := Lib.hid hb
            have HQ := Lib.hid (And.intro q2 q3)
            have HEF := Lib.hid (fun W3 (k : Kept W' W3) => enter_c s z.lab w0 W3 (h2.kept k) HE.out ⟨q1.trans k, fun j hj => (h4 j hj).elim (H0.out.2 j) (fun e => by have := HK4.out.size; have := H0.out.1.size; omega)⟩ (HSZ.out _ _ hty) HLL.out.1 hll)
            have HF := Lib.hid (fun W3 W4 li2 (k : Kept W' W3) (hst : Co.stepL t x ty back li z = .ok li2) (hp : TrPost bsi [] B x li2 (.slice a t.length cp) t came W3 W4) => HFIN.out W' W4 bsi li2 h4 h3 hz hst (let ⟨bs2, ht, hm⟩ := hp; ⟨bs2, ht, (Moved.kept k).trans hm⟩))
            have HPN := Lib.hid (fun W3 W4 q (k : Kept W' W3) (hst : Co.stepL t x ty back li z = .error q) (hp : ∃ bs2, Moved bsi bs2 W3 W4) => show Only (fun k => k ∈ bs ∨ w5.heap.size + 2 ≤ k) W' W4 ∧ Ip (blameV q) W4 from by
              obtain ⟨bs2, hm⟩ := hp
              have hm2 := (Moved.kept (bs := bsi) k).trans hm
              refine ⟨hm2.1.mono fun k _ hk => h4 k hk, ?_⟩
              rw [hIp]
              exact ⟨q, bs2, rfl, Co.passL_stop (i := i + 1) (by rw [HP.out, hst]), h3.trans hm2⟩)
            subst hT
            clear h2 h3 h4 q1 q2 q3 q4 q5 q6 hb hi' hI hIp hMv hAx hty
            gi_wp2
            refine ⟨trivial, (CallsIn.inRound lr (callsIn_wide.2 HC.out)).mono ?_⟩
            rintro e W3 ⟨rfl, k3⟩
            have HK3 := Lib.hid k3
            have c0 := (HQ.out.1.kept k3).cell 0
            have d0 := (HQ.out.2.kept k3).cell 0
            have e0 := (HB.out.kept k3).cell 0
            have e2 := (HB.out.kept k3).cell 2
            simp at c0 d0 e0 e2
            clear k3
            unfold optV
            simp only [Option.getD_some, Option.isSome_some]
            obtain ⟨zo, hzo⟩ : ∃ zo, z.out = zo := ⟨_, rfl⟩
            rw [hzo] at e0 hob hobb
            clear hzo
            cases zo <;> cases back <;> first | exact absurd rfl hob | skip
            all_goals
              clear hob hobb
              gi_wp2
              refine ⟨trivial, (CallsIn.inRound lr (callsIn_wide.2 (HEF.out W3 HK3.out))).mono ?_⟩
              rintro e W4 (⟨hb0, _⟩ | ⟨_, rfl, hp⟩)
              · rw [HFB.out] at hb0
                cases hb0
              · have HR := Lib.hid (HPN.out W3 W4 _ HK3.out HST.out hp)
                clear hp
                gi_wp2
                exact ⟨rfl, HR.out⟩
    case hdone =>
      intro D W hD hi hd
      rw [hI] at hi
      obtain ⟨bsi, li, h1, h2, h3, h4⟩ := hi
      rw [List.take_of_length_le (Nat.le_refl _), HRES.out] at h1
      subst h1
      have nd : ∀ k ∈ bsi, ¬ k = D := fun k hk e => by
        rcases h4 k hk with h | h
        · have := HBL.out k h
          omega
        · omega
      refine ⟨by simp, .inl ⟨_, _, rfl, run_takeDeferred hd, ?_⟩⟩
      refine ⟨_, results_none rfl _ _ _, rfl, bsi, h2.only ((Only.refl (· = D) W).putObj (.inl rfl) _) nd, ?_⟩
      refine (Moved.kept HK4.out).trans ⟨h3.1.trans' ((Only.refl (· = D) W).putObj (.inl rfl) _) (fun k hk e => by omega), h3.2⟩
    case hpan =>
      intro D ch W hD hi hd
      rw [hIp] at hi
      obtain ⟨q, bsi, rfl, h1, h3⟩ := hi
      rw [HRES.out] at h1
      subst h1
      refine ⟨by simp, .inl ⟨_, _, rfl, run_takeDeferred hd, ?_⟩⟩
      refine ⟨rfl, bsi, ?_⟩
      refine (Moved.kept HK4.out).trans ⟨h3.1.trans' ((Only.refl (· = D) W).putObj (.inl rfl) _) (fun k hk e => by omega), h3.2⟩
  · have h7b : (y.tag != 7) = true := by simpa using h7
    go_wp2_with fail
    refine ⟨_, results_none rfl _ _ _, ?_⟩
    rw [← HRS.out, if_neg h7]
    exact ⟨rfl, bs, HH.out.kept HK4.out, Moved.kept HK4.out⟩
end
end Go.Proofs.YtdceafncncgfbaaDoor
