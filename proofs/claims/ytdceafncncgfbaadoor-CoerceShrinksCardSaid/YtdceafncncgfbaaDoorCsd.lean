/- send: what becomes of a value on its way; the deferred function. -/
import Derived.Test.YtdceafncncgfbaaDoorCtp
import Derived.Recover
import Derived.Defers
set_option linter.unusedSimpArgs false
set_option linter.unusedVariables false
set_option maxRecDepth 100000
namespace Go.Proofs.YtdceafncncgfbaaDoor
open Go.ChangeShapes Go.WideShapes Go.ChangeAt Go.RowKit Go.Shelf
attribute [local go_sem] Oper.semAt_some

abbrev uT : TypeId := 27
abbrev uZ : Array Value := #[.int .i64 0, .int .i64 0, .int .u64 0, .string ⟨#[]⟩, .slice none 0 0]
def put5u (W : World) (g : Nat) (x0 x1 x2 x3 x4 : Value) : World := ((((W.setCell ⟨g, 0, none⟩ x0).setCell ⟨g, 1, none⟩ x1).setCell ⟨g, 2, none⟩ x2).setCell ⟨g, 3, none⟩ x3).setCell ⟨g, 4, none⟩ x4
theorem put5u_blk {W : World} {g : Nat} {t : TypeId} {a b c d e : Value} (h : Blk W g t #[a, b, c, d, e]) (x0 x1 x2 x3 x4 : Value) : Blk (put5u W g x0 x1 x2 x3 x4) g t #[x0, x1, x2, x3, x4] := by
  have := ((((h.put 0 x0).put 1 x1).put 2 x2).put 3 x3).put 4 x4
  simpa [put5u] using this
theorem put5u_only (W : World) (g : Nat) (x0 x1 x2 x3 x4 : Value) : Only (· = g) W (put5u W g x0 x1 x2 x3 x4) := (((((Only.refl _ W).put 0 _).put 1 _).put 2 _).put 3 _).put 4 _
theorem blk5u {W : World} {g : Nat} {t : TypeId} {x0 x1 x2 x3 x4 : Value} (h : Blk W g t #[x0, x1, x2, x3, x4]) : (W.cell? ⟨g, 0, none⟩ = some x0 ∧ W.cell? ⟨g, 1, none⟩ = some x1 ∧ W.cell? ⟨g, 2, none⟩ = some x2 ∧ W.cell? ⟨g, 3, none⟩ = some x3 ∧ W.cell? ⟨g, 4, none⟩ = some x4) ∧
    W.frozen? ⟨g, 0, none⟩ = false ∧ W.frozen? ⟨g, 1, none⟩ = false ∧ W.frozen? ⟨g, 2, none⟩ = false ∧ W.frozen? ⟨g, 3, none⟩ = false ∧ W.frozen? ⟨g, 4, none⟩ = false :=
  ⟨⟨h.cell 0, h.cell 1, h.cell 2, h.cell 3, h.cell 4⟩, h.frozen 0, h.frozen 1, h.frozen 2, h.frozen 3, h.frozen 4⟩

theorem scatch_none (g h : Nat) (w : World) :
    CallsD Tryd.prog 60 #[.pointer (some ⟨g, 0, none⟩), .pointer (some ⟨h, 0, none⟩)] .returning w fun e u' w' => e = .returned (.tuple #[]) ∧ u' = .returning ∧ w' = w := by
  have hta : ∀ w, (Instr.typeAssert .nilIface 20 100 true).run Tryd.prog w = .ok (.tuple #[.int .i64 0, .bool false]) w := fun _ => by kernel_rfl
  refine callsD_of_wpS Tryd.func60 rfl fun c₀ cs hu => ?_
  refine wpS_seq ?_
  refine wpS_region ?_
  simp [wpOpsS, go_sem, recoverD, hu, Tryd.ntmps60, Exit.thenS, hta]
  refine wpS_seq ?_
  refine wpS_region ?_
  simp [wpOpsS, go_sem, Exit.thenS]
  refine wpS_cond (t := false) (by simp [Act.eval, Array.replicate]) ?_
  refine wpS_of_wp ?_
  refine wp_skip ?_
  exact ⟨rfl, .returning, (by cases c₀; simp_all), .tuple #[], results_none rfl _ _ _, rfl, rfl, rfl⟩

set_option maxHeartbeats 4000000 in
theorem scatch_some (g h : Nat) (q : Int) (x0 x1 x2 x3 x4 y0 : Value) (w : World) (hg : Blk w g uT #[x0, x1, x2, x3, x4]) (hh : Blk w h 3 #[y0]) (hne : g ≠ h) :
    CallsD Tryd.prog 60 #[.pointer (some ⟨g, 0, none⟩), .pointer (some ⟨h, 0, none⟩)] (.panicking (blameV q)) w fun e u' w' => e = .returned (.tuple #[]) ∧ settle u' = .returning ∧
      Blk w' g uT uZ ∧ Blk w' h 3 #[.int .i64 q] ∧ Only (fun k => k = g ∨ k = h) w w' := by
  have hta : ∀ w, (Instr.typeAssert (.iface 100 (.int .i64 q)) 20 100 true).run Tryd.prog w = .ok (.tuple #[.int .i64 q, .bool true]) w := fun _ => by kernel_rfl
  refine callsD_of_wpS Tryd.func60 rfl fun c₀ cs hu => ?_
  refine wpS_seq ?_
  refine wpS_region ?_
  simp [wpOpsS, go_sem, recoverD, hu, Tryd.ntmps60, Exit.thenS, hta]
  refine wpS_seq ?_
  refine wpS_region ?_
  simp [wpOpsS, go_sem, Exit.thenS]
  refine wpS_cond (t := true) (by simp [Act.eval, Array.replicate]) ?_
  refine wpS_of_wp ?_
  rw [if_pos rfl]
  simp only [Nat.reduceAdd, Nat.reduceSub, Array.replicate_succ, Array.replicate_zero, List.push_toArray, List.append_toArray, List.nil_append, List.cons_append, List.setIfInBounds_toArray, List.set_cons_zero, List.set_cons_succ]
  have HB := Lib.hid (put5u_blk hg (.int .i64 0) (.int .i64 0) (.int .u64 0) (.string ⟨#[]⟩) (.slice none 0 0))
  obtain ⟨W1, hW1⟩ : ∃ W, put5u w g (.int .i64 0) (.int .i64 0) (.int .u64 0) (.string ⟨#[]⟩) (.slice none 0 0) = W := ⟨_, rfl⟩
  have o1 : Only (· = g) w W1 := by rw [← hW1]; exact put5u_only _ _ _ _ _ _ _
  have h1 := hh.only o1 (fun e => hne e.symm)
  have b1 : Blk W1 g uT uZ := by rw [← hW1]; exact HB.out
  obtain ⟨_, r0, r1, r2, r3, r4⟩ := blk5u hg
  obtain ⟨⟨q0, q1, q2, q3, q4⟩, _⟩ := blk5u hg
  have s0 := h1.cell 0
  have s1 := h1.frozen 0
  simp at s0
  have HW1 := Lib.hid (show ((((w.setCell ⟨g, 0, none⟩ (.int .i64 0)).setCell ⟨g, 1, none⟩ (.int .i64 0)).setCell ⟨g, 2, none⟩ (.int .u64 0)).setCell ⟨g, 3, none⟩ (.string ⟨#[]⟩)).setCell ⟨g, 4, none⟩ (.slice none 0 0) = W1 from hW1)
  have o2 : Only (· = h) W1 (W1.setCell ⟨h, 0, none⟩ (.int .i64 q)) := (Only.refl _ _).put 0 _
  have HF := Lib.hid (show Blk (W1.setCell ⟨h, 0, none⟩ (.int .i64 q)) g uT uZ ∧ Blk (W1.setCell ⟨h, 0, none⟩ (.int .i64 q)) h 3 #[.int .i64 q] ∧ Only (fun k => k = g ∨ k = h) w (W1.setCell ⟨h, 0, none⟩ (.int .i64 q)) from
    ⟨b1.only o2 hne, by simpa using h1.put 0 (.int .i64 q), (o1.mono fun k _ e => .inl e).trans (o2.mono fun k _ e => .inr e)⟩)
  clear hg hh HB o1 h1 b1 hW1 o2 hta
  go_wp2_with (first | rw [HW1.out])
  exact ⟨rfl, _, rfl, .tuple #[], results_none rfl _ _ _, rfl, rfl, HF.out⟩

/-- What merged makes of a chain that has grown. -/
def Co.sentP (merged : Bool) (l0 l : List Ly) : List Ly := if merged = true ∧ l0.length < l.length then Chn.norm ky l else l
theorem pick_mem : ∀ (F : List Bool) (l : List Ly) (y : Ly), y ∈ Chn.pick F l → y ∈ l
  | [], [], y, h => by simp [Chn.pick] at h
  | [], _ :: _, y, h => by simp [Chn.pick] at h
  | _ :: _, [], y, h => by simp [Chn.pick] at h
  | b :: F, x :: r, y, h => by
    unfold Chn.pick at h
    split at h
    · rcases List.mem_cons.1 h with h | h
      · simp [h]
      · exact List.mem_cons_of_mem _ (pick_mem F r y h)
    · exact List.mem_cons_of_mem _ (pick_mem F r y h)
theorem norm_mem {l : List Ly} {y : Ly} (h : y ∈ Chn.norm ky l) : y ∈ l := pick_mem _ _ _ h
def Co.sent (merged : Bool) (l0 : List Ly) : Except Int (List Ly) → Except Int (List Ly)
  | .ok l => .ok (Co.sentP merged l0 l)
  | .error q => .error q
def SendPost (x : Vw) (r : Except Int (List Ly)) (w : World) (e : Ending) (w' : World) : Prop := Kept w w' ∧ match r with
  | .ok l => ∃ ca cc, e = .returned (.tuple #[vV x (.slice ca l.length cc), .int .i64 0]) ∧ w'.ownsRow w.heap.size lT 3 (.slice ca l.length cc) l.length (l.flatMap lCells) ∧ ∀ y ∈ l, y.cls.size ≤ maxLen
  | .error q => e = .returned (.tuple #[.agg uZ, .int .i64 q])

theorem send_results {fn : Func} {p q : Tmp} (h : fn.results = #[.cell p uT, .cell q 3]) (tmps : Array Value) (W : World) {g g' : Nat} {a x0 x1 x2 x3 x4 : Value}
    (hp : tmps.getD p undef = .pointer (some ⟨g, 0, none⟩)) (hq : tmps.getD q undef = .pointer (some ⟨g', 0, none⟩))
    (hg : Blk W g uT #[x0, x1, x2, x3, x4]) (hg' : W.cell? ⟨g', 0, none⟩ = some a) :
    (results fn tmps).run Tryd.prog W = .ok (.tuple #[.agg #[x0, x1, x2, x3, x4], a]) W := by
  have hp' : tmps[p]?.getD undef = .pointer (some ⟨g, 0, none⟩) := by simpa using hp
  have hq' : tmps[q]?.getD undef = .pointer (some ⟨g', 0, none⟩) := by simpa using hq
  have e3 := run_loadVar_row (P := Tryd.prog) W g uT uT #[x0, x1, x2, x3, x4] (0, 0) _ hg Tryd.underlying27 (by rfl) (by kernel_rfl)
  have e4 : (loadVar 3 ⟨g', 0, none⟩).run Tryd.prog W = .ok a W := by
    simp [loadVar, go_sem, hg', Tryd.underlying3]
  simp only [results, h]
  simp [Sem.run_bind, Result.andThen, hp', hq', asAddr, e3, e4]

theorem leaves_ofS {P : Program} {fn : Func} {t t' : Array Value} {R : Ending → World → Prop} (h : results fn t = results fn t') : ∀ (ds : List Deferred) (u : FrameMode) (w : World), Leaves P fn t R ds u w → Leaves P fn t' R ds u w
  | [], .returning, w, ⟨v, h1, h2⟩ => ⟨v, by rw [← h]; exact h1, h2⟩
  | [], .panicking _, w, k => k
  | [], .run, _, k => k
  | d :: ds, u, w, ⟨a, fv, cap, f, args, b, c, k⟩ => ⟨a, fv, cap, f, args, b, c, k.mono fun e u' w' hk => by
      cases e with
      | returned v => exact leaves_ofS h ds _ _ hk
      | panicked c => exact leaves_ofS h ds _ _ hk
      | outgrown => exact hk⟩
theorem spanic {R : Ending → World → Prop} {d : Tmp} {v : Value} {c : List PanicEntry} {a : Act} {w : World} (hd : d ≠ 8 ∧ d ≠ 9) (h : bodyPostD Tryd.prog Tryd.f36 R (.panic c) (a.put (some d) v) w) : bodyPostD Tryd.prog Tryd.f36 R (.panic c) a w := by
  refine leaves_ofS ?_ _ _ _ h
  have hr : Tryd.f36.results = #[.cell 8 uT, .cell 9 3] := by rfl
  obtain ⟨h8, h9⟩ := hd
  simp [results, hr, Act.put, Array.getElem?_setIfInBounds, h8, h9]

set_option maxHeartbeats 8000000 in
theorem send_c (merged : Bool) (x : Vw) (va : Option Addr) (vc : Nat) (l : List Ly) (a : Option Addr) (cp : Nat) (t : List Tab.C) (gW : FuncId) (cb : Array Value) (res : Except Int (List Ly)) (w : World)
    (eg : ∀ args w, (callFunc gW args).run Tryd.prog w = .ok (.enter gW args) w)
    (hway : ∀ (B : Nat) (bs : List Nat) (W : World), TrAt bs [] B x l (.slice a t.length cp) t l.length W → At0 w bs W → (∀ k ∈ bs, k < W.heap.size) → Calls Tryd.prog gW (#[.pointer (some ⟨B, 0, none⟩)] ++ cb) W (PassPost bs B x (.slice a t.length cp) t l.length res W))
    (hv : LysAt w (.slice va l.length vc) l) (hl : l.length ≤ 1000) (hr : ∀ l', res = .ok l' → l'.length ≤ 1000) :
    Calls Tryd.prog 36 #[.slice a t.length cp, vV x (.slice va l.length vc), .bool merged, .func (.func gW) #[] cb] w (SendPost x (Co.sent merged l res) w) := by
  obtain ⟨i0, hi, hz0, hzz1, hzz2⟩ := info_parts info_layer
  have hmf : ∀ (fn : Fn) (first cap : Array Value) (w : World), (Instr.makeFunc fn first cap).run Tryd.prog w = .ok (.func fn first cap) w := fun _ _ _ _ => rfl
  obtain ⟨W1, hW1⟩ : ∃ W, w.alloc (.cells #[.int .i64 x.tag, .int .i64 x.n, .int .u64 x.bits, .string x.s, .slice va l.length vc] uT) = W := ⟨_, rfl⟩
  obtain ⟨W2, hW2⟩ : ∃ W, W1.alloc (.cells uZ uT) = W := ⟨_, rfl⟩
  obtain ⟨W3, hW3⟩ : ∃ W, W2.alloc (.cells #[.int .i64 0] 3) = W := ⟨_, rfl⟩
  obtain ⟨W4, hW4⟩ : ∃ W, W3.alloc (.cells #[.int .i64 x.tag, .int .i64 x.n, .int .u64 x.bits, .string x.s, .slice va l.length vc, .slice a t.length cp, .int .i64 l.length, .pointer none, .int .i64 0] tT) = W := ⟨_, rfl⟩
  have z1 : W1.heap.size = w.heap.size + 1 := by rw [← hW1]; simp
  have z2 : W2.heap.size = w.heap.size + 2 := by rw [← hW2]; simp [z1]
  have z3 : W3.heap.size = w.heap.size + 3 := by rw [← hW3]; simp [z2]
  have z4 : W4.heap.size = w.heap.size + 4 := by rw [← hW4]; simp [z3]
  have k1 : Kept w W1 := by rw [← hW1]; exact (Kept.refl _).alloc _
  have k2 : Kept W1 W2 := by rw [← hW2]; exact (Kept.refl _).alloc _
  have k3 : Kept W2 W3 := by rw [← hW3]; exact (Kept.refl _).alloc _
  have k4 : Kept W3 W4 := by rw [← hW4]; exact (Kept.refl _).alloc _
  have b1 : Blk W3 w.heap.size uT #[.int .i64 x.tag, .int .i64 x.n, .int .u64 x.bits, .string x.s, .slice va l.length vc] := by
    have : Blk W1 w.heap.size uT #[.int .i64 x.tag, .int .i64 x.n, .int .u64 x.bits, .string x.s, .slice va l.length vc] := by rw [← hW1]; exact Blk.new _ _ _
    exact (this.kept k2).kept k3
  have b2 : Blk W4 (w.heap.size + 1) uT uZ := by
    have : Blk W2 (w.heap.size + 1) uT uZ := by rw [← hW2, ← z1]; exact Blk.new _ _ _
    exact (this.kept k3).kept k4
  have b3 : Blk W4 (w.heap.size + 2) 3 #[.int .i64 0] := by
    have : Blk W3 (w.heap.size + 2) 3 #[.int .i64 0] := by rw [← hW3, ← z2]; exact Blk.new _ _ _
    exact this.kept k4
  have b4 : Blk W4 (w.heap.size + 3) tT (tC x (.slice va l.length vc) (.slice a t.length cp) l.length (.pointer none) (0 : Nat)) := by rw [← hW4, ← z3]; exact Blk.new _ _ _
  have HB1 := Lib.hid (b1.kept k4)
  have HB2 := Lib.hid b2
  have HB3 := Lib.hid b3
  have HB4 := Lib.hid b4
  have HK4 := Lib.hid (((k1.trans k2).trans k3).trans k4)
  have HWY := Lib.hid hway
  have HV := Lib.hid hv
  have HR := Lib.hid (And.intro hl hr)
  obtain ⟨⟨x0, x1, x2, x3, x4⟩, _⟩ := blk5u b1
  have x4' := (b1.kept k4).cell 4
  simp at x4'
  have q4 := b4.frozen 4
  have q44 := b4.cell 4
  simp at q44
  have HW1 := Lib.hid hW1
  have HW2 := Lib.hid hW2
  have HW3 := Lib.hid hW3
  have HW4 := Lib.hid hW4
  clear k1 k2 k3 k4 b1 b2 b3 b4 hway hv hl hr hW1 hW2 hW3 hW4
  go_enter_defers Tryd.func36, Tryd.ntmps36
  have hsrc := src_lys (lys_kept HV.out HK4.out)
  go_wp2_with (first | rw [HW1.out] | rw [HW2.out] | rw [HW3.out] | rw [HW4.out] | rw [z1] | rw [z2] | rw [z3] | (at_builtin; refine wpList_apk rfl (.const (.slice none 0 0)) (.tmp 21) 25 25 rfl 0 3 lT i0 _ 32 Tryd.underlying25 hi hz0 hzz1 hzz2 rfl rfl (World.ownsRow_nil _ _ _ _) rfl hsrc (by rw [Nat.zero_add]; unfold maxLen; have := HR.out.1; omega) (by rw [Nat.zero_add]; have := HR.out.1; omega) (Nat.zero_le _) ?_; intro v' w5 hown hgrow hlies; rw [Nat.zero_add] at hown; obtain ⟨va2, vc2, rfl⟩ := owns_slice_n hown; have HOW := Lib.hid hown; have HGR := Lib.hid hgrow; have HLI := Lib.hid hlies; clear hown hgrow hlies; have b5 := HB4.out.only (Only.grown (S := fun _ => False) (Only.refl _ _) HGR.out (fun k e => by cases e)) (fun h => h); have q4 := b5.frozen 4; have q44 := b5.cell 4; simp at q44))
  obtain ⟨w6, hw6⟩ : ∃ W, w5.setCell ⟨w.heap.size + 3, 4, none⟩ (.slice va2 l.length vc2) = W := ⟨_, rfl⟩
  rw [hw6]
  have k5 : Kept W4 w5 := Kept.grown (Kept.refl _) HGR.out (fun k e => by cases e)
  have o6 : Only (· = w.heap.size + 3) w5 w6 := by rw [← hw6]; exact (Only.refl _ _).put 4 _
  have hkw : Kept w w6 := (HK4.out.trans k5).only o6 rfl (fun k e => by omega)
  have hbne := ne_row_blk b5 (by decide) HOW.out
  obtain ⟨bs, hbs⟩ : ∃ bs : List Nat, bs = (w.heap.size + 3) :: ((Value.slice va2 l.length vc2).ownBlock).toList := ⟨_, rfl⟩
  have hbg : ∀ g, (Value.slice va2 l.length vc2).ownBlock = some g → g = W4.heap.size := fun g e => by
    rcases HLI.out with h | h
    · rw [e] at h; cases h
    · rw [e] at h; exact Option.some.inj h
  have hTr : TrAt bs [] (w.heap.size + 3) x l (.slice a t.length cp) t l.length w6 := by
    refine ⟨.slice va2 l.length vc2, .pointer none, 0, ?_, owns_onlyB HOW.out o6 (fun g hg e => hbne (by rw [hg, e])), fun g hg => by rw [hbs, hg]; simp, by rw [hbs]; simp, lys_fine HV.out, .inl ⟨rfl, rfl⟩⟩
    have := b5.put 4 (.slice va2 l.length vc2)
    rw [← hw6]
    simpa using this
  have hlt : ∀ k ∈ bs, k < w6.heap.size := fun k hk => by
    have h1 := k5.size
    have h2 := o6.size
    have h3 := HK4.out.size
    rw [hbs] at hk
    rcases List.mem_cons.1 hk with rfl | hk
    · omega
    · cases e : (Value.slice va2 l.length vc2).ownBlock with
      | none => rw [e] at hk; simp at hk
      | some g =>
        rw [e] at hk
        simp at hk
        subst hk
        rcases HOW.out.2 with ⟨e1, _⟩ | ⟨g', cap, cur, e1, _, hh, _⟩
        · rw [e1] at e; cases e
        · rw [e1] at e
          obtain rfl : g' = k := by simpa [Value.ownBlock] using e
          have := (Array.getElem?_eq_some_iff.1 hh).1
          omega
  have hge : ∀ k ∈ bs, w.heap.size + 3 ≤ k := fun k hk => by
    rw [hbs] at hk
    rcases List.mem_cons.1 hk with rfl | hk
    · omega
    · cases e : (Value.slice va2 l.length vc2).ownBlock with
      | none => rw [e] at hk; simp at hk
      | some g =>
        rw [e] at hk
        simp at hk
        subst hk
        have := hbg _ e
        omega
  have HCW := Lib.hid (HWY.out (w.heap.size + 3) bs w6 hTr ⟨hkw, fun k hk => by have := hge k hk; omega⟩ hlt)
  have HB26 := Lib.hid ((HB2.out.kept k5).only o6 (by omega))
  have HB36 := Lib.hid ((HB3.out.kept k5).only o6 (by omega))
  have HKW := Lib.hid hkw
  have HGE := Lib.hid hge
  clear hTr hlt hge hkw hbs hbg hbne o6 k5 hw6 b5 q4 q44 x0 x1 x2 x3 x4 x4' hsrc
  refine HCW.out.mono ?_
  intro e w7 hp
  cases res with
  | error q =>
    obtain ⟨rfl, bs', hm⟩ := hp
    have hnb : ∀ g, g < w.heap.size + 3 → ¬ g ∈ bs := fun g hg h => by have := HGE.out g h; omega
    have HC := Lib.hid (scatch_some (w.heap.size + 1) (w.heap.size + 2) q _ _ _ _ _ _ w7 (HB26.out.only hm.1 (hnb _ (by omega))) (HB36.out.only hm.1 (hnb _ (by omega))) (by omega))
    have HK7 := Lib.hid (HKW.out.only hm.1 rfl (fun k hk => by have := HGE.out k hk; omega))
    clear hm hnb
    go_wp2_with fail
    refine leaves_cons (f := 60) (args := #[.pointer (some ⟨w.heap.size + 1, 0, none⟩), .pointer (some ⟨w.heap.size + 2, 0, none⟩)]) (by simp) (by simp [go_sem]) ?_
    refine HC.out.mono ?_
    rintro r u' w8 ⟨rfl, hu, b1, b2, o3⟩
    show Leaves _ _ _ _ _ (settle u') w8
    rw [hu]
    exact ⟨_, send_results (by rfl) _ _ rfl rfl b1 (by simpa using b2.cell 0), HK7.out.only o3 rfl (fun k hk => by omega), rfl⟩
  | ok l' =>
    obtain ⟨rfl, bs', ⟨cv, sv, k, hw7⟩, hm⟩ := hp
    have hnb : ∀ g, g < w.heap.size + 3 → ¬ g ∈ bs := fun g hg h => by have := HGE.out g h; omega
    have HB27 := Lib.hid (HB26.out.only hm.1 (hnb _ (by omega)))
    have HB37 := Lib.hid (HB36.out.only hm.1 (hnb _ (by omega)))
    have HKW7 := Lib.hid (HKW.out.only hm.1 rfl (fun k hk => by have := HGE.out k hk; omega))
    have hge' : ∀ k ∈ bs', w.heap.size ≤ k := fun k hk => (hm.2 k hk).elim (fun h => by have := HGE.out k h; omega) (fun e => by have := HKW.out.size; omega)
    have HRW := Lib.hid (show w7.ownsRow w.heap.size lT 3 cv l'.length (l'.flatMap lCells) from by
      refine ⟨hw7.row.1, ?_⟩
      rcases hw7.row.2 with h | ⟨g, cap, cur, h, _, r⟩
      · exact .inl h
      · exact .inr ⟨g, cap, cur, h, hge' g (hw7.own g (by rw [h]; rfl)), r⟩)
    have HT7 := Lib.hid hw7
    have HLN := Lib.hid (HR.out.2 l' rfl)
    clear hw7 hm hnb hge' HCW HWY
    obtain ⟨ca, cc, rfl⟩ := owns_slice_n HRW.out
    have g4 := HT7.out.blk.cell 4
    have g6 := HT7.out.blk.cell 6
    simp at g4 g6
    cases merged with
    | false =>
      have HE := Lib.hid (show Co.sentP false l l' = l' from if_neg (by simp))
      go_wp2_with fail
      obtain ⟨D, hD⟩ : ∃ D, w7.drew = D := ⟨_, rfl⟩
      refine wp_region_held_drew (S := fun _ => True) (by kernel_rfl) trivial (fun hHeld0 => ?_)
      rw [hD]
      refine wpAnyH_take (i := 0) (v := ?_) rfl (by kernel_rfl) (by kernel_rfl) (by kernel_rfl) (fun _ _ _ h => spanic (by decide) h) (Or.inl ⟨by kernel_rfl, ?_⟩) (by assumption) ?_
      rotate_left
      · intro w hSw; (try dsimp only at hSw); go_simp; (try with_reducible rfl)
      (try simp only [Act.put, List.getElem_toArray, List.getElem_cons_zero, List.getElem_cons_succ, List.setIfInBounds_toArray, List.set_cons_zero, List.set_cons_succ])
      refine wpAnyH_take (i := 1) (v := ?_) rfl (by kernel_rfl) (by kernel_rfl) (by kernel_rfl) (fun _ _ _ h => spanic (by decide) h) (Or.inl ⟨by kernel_rfl, ?_⟩) (by assumption) ?_
      rotate_left
      · intro w hSw; (try dsimp only at hSw); go_simp; (try with_reducible rfl)
      (try simp only [Act.put, List.getElem_toArray, List.getElem_cons_zero, List.getElem_cons_succ, List.setIfInBounds_toArray, List.set_cons_zero, List.set_cons_succ])
      refine wpAnyH_take (i := 2) (v := undef) rfl (by kernel_rfl) (by kernel_rfl) (by kernel_rfl) (fun _ _ _ h => spanic (by decide) h) (Or.inr ⟨by kernel_rfl, rfl⟩) (by assumption) ?_
      (try simp only [Act.put, List.getElem_toArray, List.getElem_cons_zero, List.getElem_cons_succ, List.setIfInBounds_toArray, List.set_cons_zero, List.set_cons_succ])
      refine wpAnyH_take (i := 3) (v := undef) rfl (by kernel_rfl) (by kernel_rfl) (by kernel_rfl) (fun _ _ _ h => spanic (by decide) h) (Or.inr ⟨by kernel_rfl, rfl⟩) (by assumption) ?_
      (try simp only [Act.put, List.getElem_toArray, List.getElem_cons_zero, List.getElem_cons_succ, List.setIfInBounds_toArray, List.set_cons_zero, List.set_cons_succ])
      refine wpAnyH_take (i := 4) (v := undef) rfl (by kernel_rfl) (by kernel_rfl) (by kernel_rfl) (fun _ _ _ h => spanic (by decide) h) (Or.inr ⟨by kernel_rfl, rfl⟩) (by assumption) ?_
      (try simp only [Act.put, List.getElem_toArray, List.getElem_cons_zero, List.getElem_cons_succ, List.setIfInBounds_toArray, List.set_cons_zero, List.set_cons_succ])
      refine wpAnyH_take (i := 5) (v := undef) rfl (by kernel_rfl) (by kernel_rfl) (by kernel_rfl) (fun _ _ _ h => spanic (by decide) h) (Or.inr ⟨by kernel_rfl, rfl⟩) (by assumption) ?_
      (try simp only [Act.put, List.getElem_toArray, List.getElem_cons_zero, List.getElem_cons_succ, List.setIfInBounds_toArray, List.set_cons_zero, List.set_cons_succ])
      refine wpAnyH_take (i := 6) (v := undef) rfl (by kernel_rfl) (by kernel_rfl) (by kernel_rfl) (fun _ _ _ h => spanic (by decide) h) (Or.inr ⟨by kernel_rfl, rfl⟩) (by assumption) ?_
      (try simp only [Act.put, List.getElem_toArray, List.getElem_cons_zero, List.getElem_cons_succ, List.setIfInBounds_toArray, List.set_cons_zero, List.set_cons_succ])
      refine wpAnyH_take (i := 7) (v := undef) rfl (by kernel_rfl) (by kernel_rfl) (by kernel_rfl) (fun _ _ _ h => spanic (by decide) h) (Or.inr ⟨by kernel_rfl, rfl⟩) (by assumption) ?_
      (try simp only [Act.put, List.getElem_toArray, List.getElem_cons_zero, List.getElem_cons_succ, List.setIfInBounds_toArray, List.set_cons_zero, List.set_cons_succ])
      refine wpAnyH_take (i := 8) (v := undef) rfl (by kernel_rfl) (by kernel_rfl) (by kernel_rfl) (fun _ _ _ h => spanic (by decide) h) (Or.inr ⟨by kernel_rfl, rfl⟩) (by assumption) ?_
      (try simp only [Act.put, List.getElem_toArray, List.getElem_cons_zero, List.getElem_cons_succ, List.setIfInBounds_toArray, List.set_cons_zero, List.set_cons_succ])
      refine wpAnyH_take (i := 9) (v := undef) rfl (by kernel_rfl) (by kernel_rfl) (by kernel_rfl) (fun _ _ _ h => spanic (by decide) h) (Or.inr ⟨by kernel_rfl, rfl⟩) (by assumption) ?_
      (try simp only [Act.put, List.getElem_toArray, List.getElem_cons_zero, List.getElem_cons_succ, List.setIfInBounds_toArray, List.set_cons_zero, List.set_cons_succ])
      refine wpAnyH_take (i := 10) (v := undef) rfl (by kernel_rfl) (by kernel_rfl) (by kernel_rfl) (fun _ _ _ h => spanic (by decide) h) (Or.inr ⟨by kernel_rfl, rfl⟩) (by assumption) ?_
      (try simp only [Act.put, List.getElem_toArray, List.getElem_cons_zero, List.getElem_cons_succ, List.setIfInBounds_toArray, List.set_cons_zero, List.set_cons_succ])
      refine wpAnyH_take (i := 11) (v := undef) rfl (by kernel_rfl) (by kernel_rfl) (by kernel_rfl) (fun _ _ _ h => spanic (by decide) h) (Or.inr ⟨by kernel_rfl, rfl⟩) (by assumption) ?_
      (try simp only [Act.put, List.getElem_toArray, List.getElem_cons_zero, List.getElem_cons_succ, List.setIfInBounds_toArray, List.set_cons_zero, List.set_cons_succ])
      refine wpAnyH_take (i := 12) (v := undef) rfl (by kernel_rfl) (by kernel_rfl) (by kernel_rfl) (fun _ _ _ h => spanic (by decide) h) (Or.inr ⟨by kernel_rfl, rfl⟩) (by assumption) ?_
      (try simp only [Act.put, List.getElem_toArray, List.getElem_cons_zero, List.getElem_cons_succ, List.setIfInBounds_toArray, List.set_cons_zero, List.set_cons_succ])
      refine wpAnyH_take (i := 13) (v := ?_) rfl (by kernel_rfl) (by kernel_rfl) (by kernel_rfl) (fun _ _ _ h => spanic (by decide) h) (Or.inl ⟨by kernel_rfl, ?_⟩) (by assumption) ?_
      rotate_left
      · intro w hSw; (try dsimp only at hSw); go_simp; (try with_reducible rfl)
      (try simp only [Act.put, List.getElem_toArray, List.getElem_cons_zero, List.getElem_cons_succ, List.setIfInBounds_toArray, List.set_cons_zero, List.set_cons_succ])
      refine wpAnyH_done (by kernel_rfl) ?_ _
      clear hHeld0
      have HBX := Lib.hid (show Blk D (w.heap.size + 3) tT _ from by rw [← hD]; exact HT7.out.blk.kept (Kept.refl w7).drew)
      have HSX := Lib.hid (show Blk D (w.heap.size + 1) uT uZ from by rw [← hD]; exact HB27.out.kept (Kept.refl w7).drew)
      have HLX := Lib.hid (show Blk D (w.heap.size + 2) 3 #[.int .i64 0] from by rw [← hD]; exact HB37.out.kept (Kept.refl w7).drew)
      have HKX := Lib.hid (show Kept w D from by rw [← hD]; exact HKW7.out.drew)
      have HRX := Lib.hid (show D.ownsRow w.heap.size lT 3 (.slice ca l'.length cc) l'.length (l'.flatMap lCells) from by rw [← hD]; exact owns_keptL HRW.out (Kept.refl w7).drew)
      clear hD g4 g6
      obtain ⟨x0, x1, x2, x3, x4⟩ : D.cell? ⟨w.heap.size + 3, 0, none⟩ = some (.int .i64 x.tag) ∧ D.cell? ⟨w.heap.size + 3, 1, none⟩ = some (.int .i64 x.n) ∧ D.cell? ⟨w.heap.size + 3, 2, none⟩ = some (.int .u64 x.bits) ∧ D.cell? ⟨w.heap.size + 3, 3, none⟩ = some (.string x.s) ∧ D.cell? ⟨w.heap.size + 3, 4, none⟩ = some (.slice ca l'.length cc) := by
        refine ⟨?_, ?_, ?_, ?_, ?_⟩
        · have := HBX.out.cell 0; simpa using this
        · have := HBX.out.cell 1; simpa using this
        · have := HBX.out.cell 2; simpa using this
        · have := HBX.out.cell 3; simpa using this
        · have := HBX.out.cell 4; simpa using this
      obtain ⟨⟨c0, c1, c2, c3, c4⟩, r0, r1, r2, r3, r4⟩ := blk5u HSX.out
      obtain ⟨W9, hW9⟩ : ∃ W, put5u D (w.heap.size + 1) (.int .i64 x.tag) (.int .i64 x.n) (.int .u64 x.bits) (.string x.s) (.slice ca l'.length cc) = W := ⟨_, rfl⟩
      have o9 : Only (· = w.heap.size + 1) D W9 := by rw [← hW9]; exact put5u_only _ _ _ _ _ _ _
      have b9 : Blk W9 (w.heap.size + 1) uT #[.int .i64 x.tag, .int .i64 x.n, .int .u64 x.bits, .string x.s, .slice ca l'.length cc] := by rw [← hW9]; exact put5u_blk HSX.out _ _ _ _ _
      have l9 := HLX.out.only o9 (by omega)
      have y0 := l9.cell 0
      have y1 := l9.frozen 0
      simp at y0
      have o10 : Only (· = w.heap.size + 2) W9 (W9.setCell ⟨w.heap.size + 2, 0, none⟩ (.int .i64 0)) := (Only.refl _ _).put 0 _
      have HB9 := Lib.hid (b9.only o10 (by omega))
      have HL9 := Lib.hid (show (W9.setCell ⟨w.heap.size + 2, 0, none⟩ (.int .i64 0)).cell? ⟨w.heap.size + 2, 0, none⟩ = some (.int .i64 0) from by
        have := (l9.put 0 (.int .i64 0)).cell 0
        simpa using this)
      have hne1 := ne_row_blk HSX.out (by decide) HRX.out
      have hne2 := ne_row_blk HLX.out (by decide) HRX.out
      have HF9 := Lib.hid (And.intro ((HKX.out.only o9 rfl (fun k e => by omega)).only o10 rfl (fun k e => by omega)) (owns_onlyB (owns_onlyB HRX.out o9 (fun g hg e => hne1 (by rw [hg, e]))) o10 (fun g hg e => hne2 (by rw [hg, e]))))
      have HW9 := Lib.hid (show ((((D.setCell ⟨w.heap.size + 1, 0, none⟩ (.int .i64 x.tag)).setCell ⟨w.heap.size + 1, 1, none⟩ (.int .i64 x.n)).setCell ⟨w.heap.size + 1, 2, none⟩ (.int .u64 x.bits)).setCell ⟨w.heap.size + 1, 3, none⟩ (.string x.s)).setCell ⟨w.heap.size + 1, 4, none⟩ (.slice ca l'.length cc) = W9 from hW9)
      clear o9 b9 l9 o10 hW9 hne1 hne2
      go_wp2_with (first | rw [HW9.out])
      refine leaves_cons (f := 60) (args := #[.pointer (some ⟨w.heap.size + 1, 0, none⟩), .pointer (some ⟨w.heap.size + 2, 0, none⟩)]) (by simp) (by simp [go_sem]) ?_
      refine (scatch_none (w.heap.size + 1) (w.heap.size + 2) _).mono ?_
      rintro r u' w8 ⟨rfl, rfl, rfl⟩
      exact ⟨_, send_results (by rfl) _ _ rfl rfl HB9.out HL9.out, HF9.out.1, by
        show ∃ ca cc, _
        rw [HE.out]
        exact ⟨ca, cc, rfl, HF9.out.2, HT7.out.fine⟩⟩
    | true =>
      go_wp2_with fail
      have hl4 := ((HT7.out.blk.kept (Kept.refl w7).drew).cell 4)
      simp at hl4
      by_cases hgt : l.length < l'.length
      · have hgtI : (l.length : Int) < (l'.length : Int) := by omega
        have HE := Lib.hid (show Co.sentP true l l' = Chn.norm ky l' from if_pos ⟨rfl, hgt⟩)
        refine wp_region_held_drew (S := (fun W => W.cell? ⟨w.heap.size + 3, 4, none⟩ = some (.slice ca l'.length cc) ∧ W.cell? ⟨w.heap.size + 3, 6, none⟩ = some (.int .i64 (l.length : Int)))) (by kernel_rfl) ⟨g4, g6⟩ (fun hHeld0 => ?_)
        refine wpAnyH_take (i := 0) (v := ?_) rfl (by kernel_rfl) (by kernel_rfl) (by kernel_rfl) (fun _ _ _ h => spanic (by decide) h) (Or.inl ⟨by kernel_rfl, ?_⟩) (by assumption) ?_
        rotate_left
        · intro w hSw; (try dsimp only at hSw); go_simp; (try with_reducible rfl)
        (try simp only [Act.put, List.getElem_toArray, List.getElem_cons_zero, List.getElem_cons_succ, List.setIfInBounds_toArray, List.set_cons_zero, List.set_cons_succ])
        refine wpAnyH_take (i := 1) (v := ?_) rfl (by kernel_rfl) (by kernel_rfl) (by kernel_rfl) (fun _ _ _ h => spanic (by decide) h) (Or.inl ⟨by kernel_rfl, ?_⟩) (by assumption) ?_
        rotate_left
        · intro w hSw; (try dsimp only at hSw); go_simp; (try with_reducible rfl)
        (try simp only [Act.put, List.getElem_toArray, List.getElem_cons_zero, List.getElem_cons_succ, List.setIfInBounds_toArray, List.set_cons_zero, List.set_cons_succ])
        refine wpAnyH_take (i := 2) (v := ?_) rfl (by kernel_rfl) (by kernel_rfl) (by kernel_rfl) (fun _ _ _ h => spanic (by decide) h) (Or.inl ⟨by kernel_rfl, ?_⟩) (by assumption) ?_
        rotate_left
        · intro w hSw; (try dsimp only at hSw); go_simp; (try with_reducible rfl)
        (try simp only [Act.put, List.getElem_toArray, List.getElem_cons_zero, List.getElem_cons_succ, List.setIfInBounds_toArray, List.set_cons_zero, List.set_cons_succ])
        refine wpAnyH_take (i := 3) (v := ?_) rfl (by kernel_rfl) (by kernel_rfl) (by kernel_rfl) (fun _ _ _ h => spanic (by decide) h) (Or.inl ⟨by kernel_rfl, ?_⟩) (by assumption) ?_
        rotate_left
        · intro w hSw; (try dsimp only at hSw); go_simp; (try with_reducible rfl)
        (try simp only [Act.put, List.getElem_toArray, List.getElem_cons_zero, List.getElem_cons_succ, List.setIfInBounds_toArray, List.set_cons_zero, List.set_cons_succ])
        refine wpAnyH_take (i := 4) (v := ?_) rfl (by kernel_rfl) (by kernel_rfl) (by kernel_rfl) (fun _ _ _ h => spanic (by decide) h) (Or.inl ⟨by kernel_rfl, ?_⟩) (by assumption) ?_
        rotate_left
        · intro w hSw; (try dsimp only at hSw); go_simp; (try with_reducible rfl)
        (try simp only [Act.put, List.getElem_toArray, List.getElem_cons_zero, List.getElem_cons_succ, List.setIfInBounds_toArray, List.set_cons_zero, List.set_cons_succ])
        refine wpAnyH_take (i := 5) (v := ?_) rfl (by kernel_rfl) (by kernel_rfl) (by kernel_rfl) (fun _ _ _ h => spanic (by decide) h) (Or.inl ⟨by kernel_rfl, ?_⟩) (by assumption) ?_
        rotate_left
        · intro w hSw; (try dsimp only at hSw); go_simp; (try with_reducible rfl)
        (try simp only [Act.put, List.getElem_toArray, List.getElem_cons_zero, List.getElem_cons_succ, List.setIfInBounds_toArray, List.set_cons_zero, List.set_cons_succ])
        refine wpAnyH_take (i := 6) (v := ?_) rfl (by kernel_rfl) (by kernel_rfl) (by kernel_rfl) (fun _ _ _ h => spanic (by decide) h) (Or.inl ⟨by kernel_rfl, ?_⟩) (by assumption) ?_
        rotate_left
        · intro w hSw; (try dsimp only at hSw); go_simp; (try with_reducible rfl)
        (try simp only [Act.put, List.getElem_toArray, List.getElem_cons_zero, List.getElem_cons_succ, List.setIfInBounds_toArray, List.set_cons_zero, List.set_cons_succ])
        refine wpAnyH_take (i := 7) (v := ?_) rfl (by kernel_rfl) (by kernel_rfl) (by kernel_rfl) (fun _ _ _ h => spanic (by decide) h) (Or.inl ⟨by kernel_rfl, ?_⟩) (by assumption) ?_
        rotate_left
        · intro w hSw; (try dsimp only at hSw); go_simp; (try with_reducible rfl)
        (try simp only [Act.put, List.getElem_toArray, List.getElem_cons_zero, List.getElem_cons_succ, List.setIfInBounds_toArray, List.set_cons_zero, List.set_cons_succ])
        refine wpAnyH_take (i := 8) (v := ?_) rfl (by kernel_rfl) (by kernel_rfl) (by kernel_rfl) (fun _ _ _ h => spanic (by decide) h) (Or.inl ⟨by kernel_rfl, ?_⟩) (by assumption) ?_
        rotate_left
        · intro w hSw; (try dsimp only at hSw); go_simp; (try with_reducible rfl)
        (try simp only [Act.put, List.getElem_toArray, List.getElem_cons_zero, List.getElem_cons_succ, List.setIfInBounds_toArray, List.set_cons_zero, List.set_cons_succ])
        refine wpAnyH_take (i := 9) (v := ?_) rfl (by kernel_rfl) (by kernel_rfl) (by kernel_rfl) (fun _ _ _ h => spanic (by decide) h) (Or.inl ⟨by kernel_rfl, ?_⟩) (by assumption) ?_
        rotate_left
        · intro w hSw; (try dsimp only at hSw); go_simp; (try with_reducible rfl)
        (try simp only [Act.put, List.getElem_toArray, List.getElem_cons_zero, List.getElem_cons_succ, List.setIfInBounds_toArray, List.set_cons_zero, List.set_cons_succ])
        refine wpAnyH_take (i := 10) (v := ?_) rfl (by kernel_rfl) (by kernel_rfl) (by kernel_rfl) (fun _ _ _ h => spanic (by decide) h) (Or.inl ⟨by kernel_rfl, ?_⟩) (by assumption) ?_
        rotate_left
        · intro w hSw; (try dsimp only at hSw); go_simp; (try with_reducible rfl)
        (try simp only [Act.put, List.getElem_toArray, List.getElem_cons_zero, List.getElem_cons_succ, List.setIfInBounds_toArray, List.set_cons_zero, List.set_cons_succ])
        refine wpAnyH_take (i := 11) (v := ?_) rfl (by kernel_rfl) (by kernel_rfl) (by kernel_rfl) (fun _ _ _ h => spanic (by decide) h) (Or.inl ⟨by kernel_rfl, ?_⟩) (by assumption) ?_
        rotate_left
        · intro w hSw; (try dsimp only at hSw); go_simp; (try with_reducible rfl)
        (try simp only [Act.put, List.getElem_toArray, List.getElem_cons_zero, List.getElem_cons_succ, List.setIfInBounds_toArray, List.set_cons_zero, List.set_cons_succ])
        refine wpAnyH_take (i := 12) (v := ?_) rfl (by kernel_rfl) (by kernel_rfl) (by kernel_rfl) (fun _ _ _ h => spanic (by decide) h) (Or.inl ⟨by kernel_rfl, ?_⟩) (by assumption) ?_
        rotate_left
        · intro w hSw; (try dsimp only at hSw); go_simp; (try with_reducible rfl)
        (try simp only [Act.put, List.getElem_toArray, List.getElem_cons_zero, List.getElem_cons_succ, List.setIfInBounds_toArray, List.set_cons_zero, List.set_cons_succ])
        refine wpAnyH_take (i := 13) (v := ?_) rfl (by kernel_rfl) (by kernel_rfl) (by kernel_rfl) (fun _ _ _ h => spanic (by decide) h) (Or.inl ⟨by kernel_rfl, ?_⟩) (by assumption) ?_
        rotate_left
        · intro w hSw; (try dsimp only at hSw); go_simp; (try with_reducible rfl)
        (try simp only [Act.put, List.getElem_toArray, List.getElem_cons_zero, List.getElem_cons_succ, List.setIfInBounds_toArray, List.set_cons_zero, List.set_cons_succ])
        refine wpAnyH_done (by kernel_rfl) ?_ _
        clear hHeld0
        have HNM := Lib.hid (norm_c l' (.slice ca l'.length cc) w7.drew (owns_lys (owns_keptL HRW.out (Kept.refl w7).drew) HT7.out.fine) HLN.out)
        go_wp2_with fail
        refine HNM.out.mono ?_
        rintro e w10 ⟨na, nc, rfl, hrn, k10⟩
        have k10' : Kept w7 w10 := (Kept.refl w7).drew.trans k10
        have bT := HT7.out.blk.kept k10'
        have t4 := bT.cell 4
        have t4f := bT.frozen 4
        simp at t4
        obtain ⟨W10, hW10⟩ : ∃ W, w10.setCell ⟨w.heap.size + 3, 4, none⟩ (.slice na (Chn.norm ky l').length nc) = W := ⟨_, rfl⟩
        have o10' : Only (· = w.heap.size + 3) w10 W10 := by rw [← hW10]; exact (Only.refl _ _).put 4 _
        have HBX := Lib.hid (show Blk W10 (w.heap.size + 3) tT (tC x (.slice na (Chn.norm ky l').length nc) (.slice a t.length cp) l.length sv k) from by
          have := bT.put 4 (.slice na (Chn.norm ky l').length nc)
          rw [← hW10]
          simpa using this)
        have HSX := Lib.hid ((HB27.out.kept k10').only o10' (by omega))
        have HLX := Lib.hid ((HB37.out.kept k10').only o10' (by omega))
        have HKX := Lib.hid ((HKW7.out.trans k10').only o10' rfl (fun k e => by omega))
        have hnr := ne_row_blk bT (by decide) hrn
        have HRX := Lib.hid (show W10.ownsRow w.heap.size lT 3 (.slice na (Chn.norm ky l').length nc) (Chn.norm ky l').length ((Chn.norm ky l').flatMap lCells) from owns_baseL (owns_onlyB hrn o10' (fun g hg e => hnr (by rw [hg, e]))) (HKW7.out.size))
        have HFN := Lib.hid (show ∀ y ∈ Chn.norm ky l', y.cls.size ≤ maxLen from fun y hy => HT7.out.fine y (norm_mem hy))
        have HW10 := Lib.hid hW10
        obtain ⟨ca', cc', hca⟩ : ∃ ca' cc', Value.slice na (Chn.norm ky l').length nc = Value.slice ca' (Chn.norm ky l').length cc' := ⟨_, _, rfl⟩
        clear k10 k10' bT o10' hrn hnr hW10 hl4 g4 g6
        obtain ⟨x0, x1, x2, x3, x4⟩ : W10.cell? ⟨w.heap.size + 3, 0, none⟩ = some (.int .i64 x.tag) ∧ W10.cell? ⟨w.heap.size + 3, 1, none⟩ = some (.int .i64 x.n) ∧ W10.cell? ⟨w.heap.size + 3, 2, none⟩ = some (.int .u64 x.bits) ∧ W10.cell? ⟨w.heap.size + 3, 3, none⟩ = some (.string x.s) ∧ W10.cell? ⟨w.heap.size + 3, 4, none⟩ = some (.slice na (Chn.norm ky l').length nc) := by
          refine ⟨?_, ?_, ?_, ?_, ?_⟩
          · have := HBX.out.cell 0; simpa using this
          · have := HBX.out.cell 1; simpa using this
          · have := HBX.out.cell 2; simpa using this
          · have := HBX.out.cell 3; simpa using this
          · have := HBX.out.cell 4; simpa using this
        obtain ⟨⟨c0, c1, c2, c3, c4⟩, r0, r1, r2, r3, r4⟩ := blk5u HSX.out
        obtain ⟨W9, hW9⟩ : ∃ W, put5u W10 (w.heap.size + 1) (.int .i64 x.tag) (.int .i64 x.n) (.int .u64 x.bits) (.string x.s) (.slice na (Chn.norm ky l').length nc) = W := ⟨_, rfl⟩
        have o9 : Only (· = w.heap.size + 1) W10 W9 := by rw [← hW9]; exact put5u_only _ _ _ _ _ _ _
        have b9 : Blk W9 (w.heap.size + 1) uT #[.int .i64 x.tag, .int .i64 x.n, .int .u64 x.bits, .string x.s, .slice na (Chn.norm ky l').length nc] := by rw [← hW9]; exact put5u_blk HSX.out _ _ _ _ _
        have l9 := HLX.out.only o9 (by omega)
        have y0 := l9.cell 0
        have y1 := l9.frozen 0
        simp at y0
        have o10 : Only (· = w.heap.size + 2) W9 (W9.setCell ⟨w.heap.size + 2, 0, none⟩ (.int .i64 0)) := (Only.refl _ _).put 0 _
        have HB9 := Lib.hid (b9.only o10 (by omega))
        have HL9 := Lib.hid (show (W9.setCell ⟨w.heap.size + 2, 0, none⟩ (.int .i64 0)).cell? ⟨w.heap.size + 2, 0, none⟩ = some (.int .i64 0) from by
          have := (l9.put 0 (.int .i64 0)).cell 0
          simpa using this)
        have hne1 := ne_row_blk HSX.out (by decide) HRX.out
        have hne2 := ne_row_blk HLX.out (by decide) HRX.out
        have HF9 := Lib.hid (And.intro ((HKX.out.only o9 rfl (fun k e => by omega)).only o10 rfl (fun k e => by omega)) (owns_onlyB (owns_onlyB HRX.out o9 (fun g hg e => hne1 (by rw [hg, e]))) o10 (fun g hg e => hne2 (by rw [hg, e]))))
        have HW9 := Lib.hid (show ((((W10.setCell ⟨w.heap.size + 1, 0, none⟩ (.int .i64 x.tag)).setCell ⟨w.heap.size + 1, 1, none⟩ (.int .i64 x.n)).setCell ⟨w.heap.size + 1, 2, none⟩ (.int .u64 x.bits)).setCell ⟨w.heap.size + 1, 3, none⟩ (.string x.s)).setCell ⟨w.heap.size + 1, 4, none⟩ (.slice na (Chn.norm ky l').length nc) = W9 from hW9)
        clear o9 b9 l9 o10 hW9 hne1 hne2
        go_wp2_with (first | rw [HW10.out] | rw [HW9.out])
        refine leaves_cons (f := 60) (args := #[.pointer (some ⟨w.heap.size + 1, 0, none⟩), .pointer (some ⟨w.heap.size + 2, 0, none⟩)]) (by simp) (by simp [go_sem]) ?_
        refine (scatch_none (w.heap.size + 1) (w.heap.size + 2) _).mono ?_
        rintro r u' w8 ⟨rfl, rfl, rfl⟩
        exact ⟨_, send_results (by rfl) _ _ rfl rfl HB9.out HL9.out, HF9.out.1, by
          show ∃ ca cc, _
          rw [HE.out]
          exact ⟨na, nc, rfl, HF9.out.2, HFN.out⟩⟩
      · have hgtI : ¬ (l.length : Int) < (l'.length : Int) := by omega
        have HE := Lib.hid (show Co.sentP true l l' = l' from if_neg (fun h => hgt h.2))
        obtain ⟨D, hD⟩ : ∃ D, w7.drew = D := ⟨_, rfl⟩
        refine wp_region_held_drew (S := (fun W => W.cell? ⟨w.heap.size + 3, 4, none⟩ = some (.slice ca l'.length cc) ∧ W.cell? ⟨w.heap.size + 3, 6, none⟩ = some (.int .i64 (l.length : Int)))) (by kernel_rfl) ⟨g4, g6⟩ (fun hHeld0 => ?_)
        rw [hD] at hHeld0 ⊢
        refine wpAnyH_take (i := 0) (v := ?_) rfl (by kernel_rfl) (by kernel_rfl) (by kernel_rfl) (fun _ _ _ h => spanic (by decide) h) (Or.inl ⟨by kernel_rfl, ?_⟩) (by assumption) ?_
        rotate_left
        · intro w hSw; (try dsimp only at hSw); go_simp; (try with_reducible rfl)
        (try simp only [Act.put, List.getElem_toArray, List.getElem_cons_zero, List.getElem_cons_succ, List.setIfInBounds_toArray, List.set_cons_zero, List.set_cons_succ])
        refine wpAnyH_take (i := 1) (v := ?_) rfl (by kernel_rfl) (by kernel_rfl) (by kernel_rfl) (fun _ _ _ h => spanic (by decide) h) (Or.inl ⟨by kernel_rfl, ?_⟩) (by assumption) ?_
        rotate_left
        · intro w hSw; (try dsimp only at hSw); go_simp; (try with_reducible rfl)
        (try simp only [Act.put, List.getElem_toArray, List.getElem_cons_zero, List.getElem_cons_succ, List.setIfInBounds_toArray, List.set_cons_zero, List.set_cons_succ])
        refine wpAnyH_take (i := 2) (v := ?_) rfl (by kernel_rfl) (by kernel_rfl) (by kernel_rfl) (fun _ _ _ h => spanic (by decide) h) (Or.inl ⟨by kernel_rfl, ?_⟩) (by assumption) ?_
        rotate_left
        · intro w hSw; (try dsimp only at hSw); go_simp; (try with_reducible rfl)
        (try simp only [Act.put, List.getElem_toArray, List.getElem_cons_zero, List.getElem_cons_succ, List.setIfInBounds_toArray, List.set_cons_zero, List.set_cons_succ])
        refine wpAnyH_take (i := 3) (v := ?_) rfl (by kernel_rfl) (by kernel_rfl) (by kernel_rfl) (fun _ _ _ h => spanic (by decide) h) (Or.inl ⟨by kernel_rfl, ?_⟩) (by assumption) ?_
        rotate_left
        · intro w hSw; (try dsimp only at hSw); go_simp; (try with_reducible rfl)
        (try simp only [Act.put, List.getElem_toArray, List.getElem_cons_zero, List.getElem_cons_succ, List.setIfInBounds_toArray, List.set_cons_zero, List.set_cons_succ])
        refine wpAnyH_take (i := 4) (v := ?_) rfl (by kernel_rfl) (by kernel_rfl) (by kernel_rfl) (fun _ _ _ h => spanic (by decide) h) (Or.inl ⟨by kernel_rfl, ?_⟩) (by assumption) ?_
        rotate_left
        · intro w hSw; (try dsimp only at hSw); go_simp; (try with_reducible rfl)
        (try simp only [Act.put, List.getElem_toArray, List.getElem_cons_zero, List.getElem_cons_succ, List.setIfInBounds_toArray, List.set_cons_zero, List.set_cons_succ])
        refine wpAnyH_take (i := 5) (v := ?_) rfl (by kernel_rfl) (by kernel_rfl) (by kernel_rfl) (fun _ _ _ h => spanic (by decide) h) (Or.inl ⟨by kernel_rfl, ?_⟩) (by assumption) ?_
        rotate_left
        · intro w hSw; (try dsimp only at hSw); go_simp; (try with_reducible rfl)
        (try simp only [Act.put, List.getElem_toArray, List.getElem_cons_zero, List.getElem_cons_succ, List.setIfInBounds_toArray, List.set_cons_zero, List.set_cons_succ])
        refine wpAnyH_take (i := 6) (v := ?_) rfl (by kernel_rfl) (by kernel_rfl) (by kernel_rfl) (fun _ _ _ h => spanic (by decide) h) (Or.inl ⟨by kernel_rfl, ?_⟩) (by assumption) ?_
        rotate_left
        · intro w hSw; (try dsimp only at hSw); go_simp; (try with_reducible rfl)
        (try simp only [Act.put, List.getElem_toArray, List.getElem_cons_zero, List.getElem_cons_succ, List.setIfInBounds_toArray, List.set_cons_zero, List.set_cons_succ])
        refine wpAnyH_take (i := 7) (v := ?_) rfl (by kernel_rfl) (by kernel_rfl) (by kernel_rfl) (fun _ _ _ h => spanic (by decide) h) (Or.inl ⟨by kernel_rfl, ?_⟩) (by assumption) ?_
        rotate_left
        · intro w hSw; (try dsimp only at hSw); go_simp; (try with_reducible rfl)
        (try simp only [Act.put, List.getElem_toArray, List.getElem_cons_zero, List.getElem_cons_succ, List.setIfInBounds_toArray, List.set_cons_zero, List.set_cons_succ])
        refine wpAnyH_take (i := 8) (v := ?_) rfl (by kernel_rfl) (by kernel_rfl) (by kernel_rfl) (fun _ _ _ h => spanic (by decide) h) (Or.inl ⟨by kernel_rfl, ?_⟩) (by assumption) ?_
        rotate_left
        · intro w hSw; (try dsimp only at hSw); go_simp; (try with_reducible rfl)
        (try simp only [Act.put, List.getElem_toArray, List.getElem_cons_zero, List.getElem_cons_succ, List.setIfInBounds_toArray, List.set_cons_zero, List.set_cons_succ])
        refine wpAnyH_take (i := 9) (v := ?_) rfl (by kernel_rfl) (by kernel_rfl) (by kernel_rfl) (fun _ _ _ h => spanic (by decide) h) (Or.inl ⟨by kernel_rfl, ?_⟩) (by assumption) ?_
        rotate_left
        · intro w hSw; (try dsimp only at hSw); go_simp; (try with_reducible rfl)
        (try simp only [Act.put, List.getElem_toArray, List.getElem_cons_zero, List.getElem_cons_succ, List.setIfInBounds_toArray, List.set_cons_zero, List.set_cons_succ])
        refine wpAnyH_take (i := 10) (v := ?_) rfl (by kernel_rfl) (by kernel_rfl) (by kernel_rfl) (fun _ _ _ h => spanic (by decide) h) (Or.inl ⟨by kernel_rfl, ?_⟩) (by assumption) ?_
        rotate_left
        · intro w hSw; (try dsimp only at hSw); go_simp; (try with_reducible rfl)
        (try simp only [Act.put, List.getElem_toArray, List.getElem_cons_zero, List.getElem_cons_succ, List.setIfInBounds_toArray, List.set_cons_zero, List.set_cons_succ])
        refine wpAnyH_take (i := 11) (v := ?_) rfl (by kernel_rfl) (by kernel_rfl) (by kernel_rfl) (fun _ _ _ h => spanic (by decide) h) (Or.inl ⟨by kernel_rfl, ?_⟩) (by assumption) ?_
        rotate_left
        · intro w hSw; (try dsimp only at hSw); go_simp; (try with_reducible rfl)
        (try simp only [Act.put, List.getElem_toArray, List.getElem_cons_zero, List.getElem_cons_succ, List.setIfInBounds_toArray, List.set_cons_zero, List.set_cons_succ])
        refine wpAnyH_take (i := 12) (v := ?_) rfl (by kernel_rfl) (by kernel_rfl) (by kernel_rfl) (fun _ _ _ h => spanic (by decide) h) (Or.inl ⟨by kernel_rfl, ?_⟩) (by assumption) ?_
        rotate_left
        · intro w hSw; (try dsimp only at hSw); go_simp; (try with_reducible rfl)
        (try simp only [Act.put, List.getElem_toArray, List.getElem_cons_zero, List.getElem_cons_succ, List.setIfInBounds_toArray, List.set_cons_zero, List.set_cons_succ])
        refine wpAnyH_take (i := 13) (v := ?_) rfl (by kernel_rfl) (by kernel_rfl) (by kernel_rfl) (fun _ _ _ h => spanic (by decide) h) (Or.inl ⟨by kernel_rfl, ?_⟩) (by assumption) ?_
        rotate_left
        · intro w hSw; (try dsimp only at hSw); go_simp; (try with_reducible rfl)
        (try simp only [Act.put, List.getElem_toArray, List.getElem_cons_zero, List.getElem_cons_succ, List.setIfInBounds_toArray, List.set_cons_zero, List.set_cons_succ])
        refine wpAnyH_done (by kernel_rfl) ?_ _
        clear hHeld0 hl4 g4 g6
        have HBX := Lib.hid (show Blk D (w.heap.size + 3) tT _ from by rw [← hD]; exact HT7.out.blk.kept (Kept.refl w7).drew)
        have HSX := Lib.hid (show Blk D (w.heap.size + 1) uT uZ from by rw [← hD]; exact HB27.out.kept (Kept.refl w7).drew)
        have HLX := Lib.hid (show Blk D (w.heap.size + 2) 3 #[.int .i64 0] from by rw [← hD]; exact HB37.out.kept (Kept.refl w7).drew)
        have HKX := Lib.hid (show Kept w D from by rw [← hD]; exact HKW7.out.drew)
        have HRX := Lib.hid (show D.ownsRow w.heap.size lT 3 (.slice ca l'.length cc) l'.length (l'.flatMap lCells) from by rw [← hD]; exact owns_keptL HRW.out (Kept.refl w7).drew)
        clear hD
        obtain ⟨x0, x1, x2, x3, x4⟩ : D.cell? ⟨w.heap.size + 3, 0, none⟩ = some (.int .i64 x.tag) ∧ D.cell? ⟨w.heap.size + 3, 1, none⟩ = some (.int .i64 x.n) ∧ D.cell? ⟨w.heap.size + 3, 2, none⟩ = some (.int .u64 x.bits) ∧ D.cell? ⟨w.heap.size + 3, 3, none⟩ = some (.string x.s) ∧ D.cell? ⟨w.heap.size + 3, 4, none⟩ = some (.slice ca l'.length cc) := by
          refine ⟨?_, ?_, ?_, ?_, ?_⟩
          · have := HBX.out.cell 0; simpa using this
          · have := HBX.out.cell 1; simpa using this
          · have := HBX.out.cell 2; simpa using this
          · have := HBX.out.cell 3; simpa using this
          · have := HBX.out.cell 4; simpa using this
        obtain ⟨⟨c0, c1, c2, c3, c4⟩, r0, r1, r2, r3, r4⟩ := blk5u HSX.out
        obtain ⟨W9, hW9⟩ : ∃ W, put5u D (w.heap.size + 1) (.int .i64 x.tag) (.int .i64 x.n) (.int .u64 x.bits) (.string x.s) (.slice ca l'.length cc) = W := ⟨_, rfl⟩
        have o9 : Only (· = w.heap.size + 1) D W9 := by rw [← hW9]; exact put5u_only _ _ _ _ _ _ _
        have b9 : Blk W9 (w.heap.size + 1) uT #[.int .i64 x.tag, .int .i64 x.n, .int .u64 x.bits, .string x.s, .slice ca l'.length cc] := by rw [← hW9]; exact put5u_blk HSX.out _ _ _ _ _
        have l9 := HLX.out.only o9 (by omega)
        have y0 := l9.cell 0
        have y1 := l9.frozen 0
        simp at y0
        have o10 : Only (· = w.heap.size + 2) W9 (W9.setCell ⟨w.heap.size + 2, 0, none⟩ (.int .i64 0)) := (Only.refl _ _).put 0 _
        have HB9 := Lib.hid (b9.only o10 (by omega))
        have HL9 := Lib.hid (show (W9.setCell ⟨w.heap.size + 2, 0, none⟩ (.int .i64 0)).cell? ⟨w.heap.size + 2, 0, none⟩ = some (.int .i64 0) from by
          have := (l9.put 0 (.int .i64 0)).cell 0
          simpa using this)
        have hne1 := ne_row_blk HSX.out (by decide) HRX.out
        have hne2 := ne_row_blk HLX.out (by decide) HRX.out
        have HF9 := Lib.hid (And.intro ((HKX.out.only o9 rfl (fun k e => by omega)).only o10 rfl (fun k e => by omega)) (owns_onlyB (owns_onlyB HRX.out o9 (fun g hg e => hne1 (by rw [hg, e]))) o10 (fun g hg e => hne2 (by rw [hg, e]))))
        have HW9 := Lib.hid (show ((((D.setCell ⟨w.heap.size + 1, 0, none⟩ (.int .i64 x.tag)).setCell ⟨w.heap.size + 1, 1, none⟩ (.int .i64 x.n)).setCell ⟨w.heap.size + 1, 2, none⟩ (.int .u64 x.bits)).setCell ⟨w.heap.size + 1, 3, none⟩ (.string x.s)).setCell ⟨w.heap.size + 1, 4, none⟩ (.slice ca l'.length cc) = W9 from hW9)
        clear o9 b9 l9 o10 hW9 hne1 hne2
        go_wp2_with (first | rw [HW9.out])
        refine leaves_cons (f := 60) (args := #[.pointer (some ⟨w.heap.size + 1, 0, none⟩), .pointer (some ⟨w.heap.size + 2, 0, none⟩)]) (by simp) (by simp [go_sem]) ?_
        refine (scatch_none (w.heap.size + 1) (w.heap.size + 2) _).mono ?_
        rintro r u' w8 ⟨rfl, rfl, rfl⟩
        exact ⟨_, send_results (by rfl) _ _ rfl rfl HB9.out HL9.out, HF9.out.1, by
          show ∃ ca cc, _
          rw [HE.out]
          exact ⟨ca, cc, rfl, HF9.out.2, HT7.out.fine⟩⟩
end Go.Proofs.YtdceafncncgfbaaDoor
