/- The laws' copies of classes and tables: chaperonkit.CopyClass, CopyTable. -/
import Derived.Test.YthooiofaicdhgaaGreatDoorQMem
import Derived.Test.YthooiofaicdhgaaGreatDoorQMts
set_option linter.unusedSimpArgs false
set_option linter.unusedVariables false
set_option maxRecDepth 100000
namespace Go.Proofs.YthooiofaicdhgaaGreatDoor
open Go.ChangeShapes Go.WideShapes Go.ChangeAt Go.RowKit
/-- What holds in every later world in which only some blocks are other ones. -/
def PerB (W : World) (S : Nat → Prop) (R : World → Prop) : Prop := ∀ W', Only S W W' → R W'
theorem PerB.now {W : World} {S : Nat → Prop} {R : World → Prop} (h : PerB W S R) : R W := h W (Only.refl S W)
theorem PerB.step {W W2 : World} {S S2 : Nat → Prop} {R : World → Prop} (h : PerB W S R) (ho : Only S W W2) (hs : ∀ b, b < W.heap.size → S2 b → S b) : PerB W2 S2 R := fun W' h2 =>
  h W' ⟨h2.os.trans ho.os, h2.output.trans ho.output, Nat.le_trans ho.size h2.size, fun k hk hn => (h2.block k (Nat.lt_of_lt_of_le hk ho.size) fun e => hn (hs k hk e)).trans (ho.block k hk hn)⟩
/-- A row of variables of one's own stays while its block is not touched. -/
theorem own_only {S : Nat → Prop} {w w' : World} {base : Nat} {e : TypeId} {size : Nat} {v : Value} {n : Nat} {xs : List Value} (h : w.ownsRow base e size v n xs) (k : Only S w w') (hs : ∀ g, v.ownBlock = some g → ¬ S g) : w'.ownsRow base e size v n xs := by
  refine ⟨h.1, ?_⟩
  rcases h.2 with hn | ⟨g, cap, cur, rfl, hb, hgg, rest⟩
  · exact .inl hn
  · refine .inr ⟨g, cap, cur, rfl, hb, ?_, rest⟩
    have hl := (Array.getElem?_eq_some_iff.1 hgg).1
    rw [k.block g hl (hs g rfl)]
    exact hgg
theorem per_vars {W : World} {base : Nat} {S : Nat → Prop} {v : Value} {l : List Tab.V} (h : W.ownsRow base 50 2 v l.length (l.flatMap vCells)) (hl : ∀ x ∈ l, x.name.size ≤ maxLen ∧ x.typ.size ≤ maxLen)
    (hS : ∀ b, v.ownBlock = some b → ¬ S b) : PerB W S fun W' => Row 2 VarAt W' v l := fun W' ho => row_of_owns (own_only h ho hS) hl
theorem vars_sz {w : World} {v : Value} {l : List Tab.V} (h : Row 2 VarAt w v l) : ∀ x ∈ l, x.name.size ≤ maxLen ∧ x.typ.size ≤ maxLen := by
  intro x hx
  obtain ⟨a, c, _, _, _, q⟩ := h
  obtain ⟨i, hi, rfl⟩ := List.getElem_of_mem hx
  obtain ⟨b, o, _, r⟩ := q i _ (List.getElem?_eq_getElem hi)
  exact r.2.2
/-- An empty slice in a block of its own. -/
theorem own_empty (W : World) (e : TypeId) (k n : Nat) (hn : n = W.heap.size) : (W.alloc (.cells #[] e)).ownsRow n e k (.slice (some ⟨n, 0, none⟩) 0 0) 0 [] := by
  subst hn
  exact ⟨by simp, .inr ⟨W.heap.size, 0, #[], rfl, Nat.le_refl _, Blk.new W _ _, Nat.le_refl _, by decide, by simp, by simp⟩⟩
theorem own_ne {b o n c g : Nat} (h : ¬ b = g) : (Value.slice (some ⟨b, o, none⟩) n c).ownBlock ≠ some g := fun e => h (Option.some.inj e)
/-- Between methods: what the class' box, the result's box and the methods so far are. -/
def CopI (x : Tab.C) (w : World) (mv fv' lv q : Value) (W : World) : Prop :=
  ∃ (j : Nat) (ms : List (Tab.M × Value)), q = .int .i64 j ∧ j ≤ x.methods.length ∧ ms.map Prod.fst = x.methods.take j ∧ W.ownsRow (w.heap.size + 2) 53 3 lv j (ms.flatMap mCells) ∧
    Blk W w.heap.size 46 #[.string x.name, .string x.super, fv', mv] ∧ Blk W (w.heap.size + 1) 46 #[.string ⟨#[]⟩, .string ⟨#[]⟩, .slice none 0 0, .slice none 0 0] ∧
    PerB W (fun b => b < w.heap.size + 2 ∨ lv.ownBlock = some b) (fun W' => Row 2 VarAt W' fv' x.fields ∧ ∀ y ∈ ms, Row 2 VarAt W' y.2 y.1.params) ∧ Kept w W ∧ w.heap.size + 2 ≤ W.heap.size
theorem own_geC {w : World} {base k n : Nat} {e : TypeId} {v : Value} {xs : List Value} (h : w.ownsRow base e k v n xs) {g : Nat} (hg : v.ownBlock = some g) : base ≤ g ∧ g < w.heap.size := by
  rcases h.2 with ⟨rfl, _⟩ | ⟨g', cap, cur, rfl, hb, hgg, _⟩
  · cases hg
  · obtain rfl : g' = g := Option.some.inj hg
    exact ⟨hb, (Array.getElem?_eq_some_iff.1 hgg).1⟩
theorem cop_start {x : Tab.C} {w W3 w4 : World} {fv mv v' : Value} {fn : Nat} (hb1 : Blk W3 w.heap.size 46 #[.string x.name, .string x.super, fv, mv]) (hb2 : Blk W3 (w.heap.size + 1) 46 #[.string ⟨#[]⟩, .string ⟨#[]⟩, .slice none 0 0, .slice none 0 0])
    (hk : Kept w W3) (hz : w.heap.size + 3 = W3.heap.size) (hg : W3.grownBy w4 (some (w.heap.size + 1 + 1))) (hn : w4.ownsRow (w.heap.size + 1 + 1) 50 2 v' (0 + fn) ([] ++ x.fields.flatMap vCells)) (hfn : x.fields.length = fn) (hl : ∀ y ∈ x.fields, y.name.size ≤ maxLen ∧ y.typ.size ≤ maxLen) :
    CopI x w mv v' (.slice none 0 0) (.int .i64 (0 : Int)) (w4.setCell ⟨w.heap.size, 2, none⟩ v') := by
  rw [Nat.zero_add, List.nil_append, ← hfn] at hn
  have ho : Only (· = w.heap.size) w4 (w4.setCell ⟨w.heap.size, 2, none⟩ v') := (Only.refl _ w4).put 2 v'
  have e1 : (some (w.heap.size + 1 + 1) : Option Nat) ≠ some w.heap.size := fun e => by have := Option.some.inj e; omega
  have e2 : (some (w.heap.size + 1 + 1) : Option Nat) ≠ some (w.heap.size + 1) := fun e => by have := Option.some.inj e; omega
  refine ⟨0, [], rfl, Nat.zero_le _, rfl, World.ownsRow_nil _ _ _ _, (hb1.grownBy hg e1).put 2 v', (hb2.grownBy hg e2).only ho (by omega), ?_, ?_, ?_⟩
  · have h1 := own_only hn ho fun g hg e => by have := own_geC hn hg; omega
    intro W' hw
    exact ⟨per_vars h1 hl (fun b hb e => by have := own_geC h1 hb; rcases e with e | e; · omega
                                            · cases e) W' hw, fun y hy => by cases hy⟩
  · exact (hk.grown hg fun k e => by have := Option.some.inj e; omega).setCell (p := ⟨w.heap.size, 2, none⟩) (Nat.le_refl _) v'
  · have := hg.size
    simp
    omega
theorem sig_row {W : World} {base : Nat} {l : Value} {ms : List (Tab.M × Value)} (h : W.ownsRow base 53 3 l ms.length (ms.flatMap mCells)) (hr : ∀ y ∈ ms, Row 2 VarAt W y.2 y.1.params) (hs : ∀ y ∈ ms, y.1.name.size ≤ maxLen ∧ y.1.res.size ≤ maxLen) : Row 3 SigAt W l (ms.map Prod.fst) := by
  rcases h.2 with ⟨rfl, h0⟩ | ⟨g, cap, cur, rfl, hg1, hg2, hg3, hg4, hg5, hg6⟩
  · obtain rfl : ms = [] := List.eq_nil_of_length_eq_zero h0
    exact Row.nil
  · refine ⟨_, cap, by rw [List.length_map], by rw [List.length_map]; exact hg3, hg4, fun i m hx => ⟨g, 0, rfl, ?_⟩⟩
    rw [List.getElem?_map] at hx
    obtain ⟨y, hy, rfl⟩ := Option.map_eq_some_iff.1 hx
    have c0 := h.cells (g := g) rfl _ _ (flat_at mCells mCells_len ms i 0 y hy (by omega))
    have c1 := h.cells (g := g) rfl _ _ (flat_at mCells mCells_len ms i 1 y hy (by omega))
    have c2 := h.cells (g := g) rfl _ _ (flat_at mCells mCells_len ms i 2 y hy (by omega))
    rw [addr_plain] at c0 c1 c2
    have hm := List.mem_of_getElem? hy
    exact ⟨by simpa using c0, ⟨y.2, by simpa [Nat.add_assoc] using c1, hr y hm⟩, by simpa [Nat.add_assoc] using c2, (hs y hm).1, (hs y hm).2⟩
theorem cop_step {x : Tab.C} {w wr w6 w8 : World} {mv fv' l l' v6 : Value} {j : Nat} {ms : List (Tab.M × Value)} {m : Tab.M} {o1 o2 : Obj} (hx : x.methods[j]? = some m) (hms : ms.map Prod.fst = x.methods.take j) (hown : wr.ownsRow (w.heap.size + 2) 53 3 l j (ms.flatMap mCells))
    (hb : Blk wr w.heap.size 46 #[.string x.name, .string x.super, fv', mv]) (hb2 : Blk wr (w.heap.size + 1) 46 #[.string ⟨#[]⟩, .string ⟨#[]⟩, .slice none 0 0, .slice none 0 0])
    (hper : PerB wr (fun b => b < w.heap.size + 2 ∨ l.ownBlock = some b) (fun W' => Row 2 VarAt W' fv' x.fields ∧ ∀ y ∈ ms, Row 2 VarAt W' y.2 y.1.params)) (hk : Kept w wr) (hsz : w.heap.size + 2 ≤ wr.heap.size)
    (hg : ((wr.alloc o1).alloc o2).grownBy w6 (some (wr.heap.size + 1))) (hv6 : w6.ownsRow (wr.heap.size + 1) 50 2 v6 m.params.length (m.params.flatMap vCells)) (hl : ∀ y ∈ m.params, y.name.size ≤ maxLen ∧ y.typ.size ≤ maxLen)
    (hg8 : ((w6.setCell ⟨wr.heap.size, 1, none⟩ v6).alloc (.cells #[.string m.name, v6, .string m.res] 53)).grownBy w8 l.ownBlock) (hown8 : w8.ownsRow (w.heap.size + 2) 53 3 l' (j + 1) (ms.flatMap mCells ++ [.string m.name, v6, .string m.res]))
    (hlies : l'.ownBlock = l.ownBlock ∨ l'.ownBlock = some ((w6.setCell ⟨wr.heap.size, 1, none⟩ v6).alloc (.cells #[.string m.name, v6, .string m.res] 53)).heap.size) :
    CopI x w mv fv' l' (.int .i64 ((j + 1 : Nat) : Int)) w8 := by
  have hj := (List.getElem?_eq_some_iff.1 hx).1
  have k6 : Kept wr w6 := (((Kept.refl wr).alloc o1).alloc o2).grown hg fun k e => by have := Option.some.inj e; omega
  have k7 : Kept wr ((w6.setCell ⟨wr.heap.size, 1, none⟩ v6).alloc (.cells #[.string m.name, v6, .string m.res] 53)) := (k6.setCell (p := ⟨wr.heap.size, 1, none⟩) (Nat.le_refl _) v6).alloc _
  have s6 := hg.size
  have s8 := hg8.size
  simp only [World.size_alloc] at s6 s8
  have e7 : (w6.setCell ⟨wr.heap.size, 1, none⟩ v6).heap.size = w6.heap.size := by simp
  rw [e7] at s8
  have hol : ∀ g, l.ownBlock = some g → w.heap.size + 2 ≤ g ∧ g < wr.heap.size := fun g hg => own_geC hown hg
  have o8 : Only (fun b => l.ownBlock = some b) wr w8 := (Only.of_kept k7).grown hg8 fun k e => .inl e
  have hS : ∀ b, b < wr.heap.size → (b < w.heap.size + 2 ∨ l'.ownBlock = some b) → (b < w.heap.size + 2 ∨ l.ownBlock = some b) := fun b hb' e => by
    rcases e with e | e
    · exact .inl e
    · rcases hlies with h | h
      · rw [h] at e; exact .inr e
      · rw [h] at e
        have := Option.some.inj e
        simp at this
        omega
  have p1 := hper.step (o8.mono fun k _ h => Or.inr h) hS
  have h6' : Only (fun b => b ≤ wr.heap.size) w6 w8 := by
    refine (((Only.refl (fun b => b ≤ wr.heap.size) w6).setCell (p := ⟨wr.heap.size, 1, none⟩) (.inl (Nat.le_refl _)) v6).alloc (.cells #[.string m.name, v6, .string m.res] 53)).grown hg8 fun k e => .inl ?_
    have := hol k e
    omega
  have hv8 := own_only hv6 h6' fun g hg' e => by have := own_geC hv6 hg'; omega
  have p2 : PerB w8 (fun b => b < w.heap.size + 2 ∨ l'.ownBlock = some b) (fun W' => Row 2 VarAt W' v6 m.params) := by
    refine per_vars hv8 hl fun b hb' e => ?_
    have h1 := own_geC hv6 hb'
    rcases e with e | e
    · omega
    · rcases hlies with h | h
      · rw [h] at e
        have := hol b e
        omega
      · rw [h] at e
        have := Option.some.inj e
        simp at this
        omega
  have hBn : l.ownBlock ≠ some w.heap.size := fun e => by have := hol _ e; omega
  have hBn2 : l.ownBlock ≠ some (w.heap.size + 1) := fun e => by have := hol _ e; omega
  refine ⟨j + 1, ms ++ [(m, v6)], rfl, hj, ?_, ?_, (hb.kept k7).grownBy hg8 hBn, (hb2.kept k7).grownBy hg8 hBn2, ?_, ?_, ?_⟩
  · rw [List.map_append, hms, List.take_add_one, hx]
    rfl
  · rw [List.flatMap_append]
    simpa [mCells] using hown8
  · intro W' ho
    refine ⟨(p1 W' ho).1, fun y hy => ?_⟩
    rcases List.mem_append.1 hy with hy | hy
    · exact (p1 W' ho).2 y hy
    · obtain rfl := List.mem_singleton.1 hy
      exact p2 W' ho
  · exact (hk.trans k7).grown hg8 fun k e => by have := hol k e; omega
  · omega
theorem cop_q {x : Tab.C} {w W : World} {mv fv' l q q' : Value} (h : CopI x w mv fv' l q W) (e : q' = q) : CopI x w mv fv' l q' W := by rw [e]; exact h
theorem cop_k7 {wr w6 : World} {o1 o2 o3 : Obj} {v6 : Value} (hg : ((wr.alloc o1).alloc o2).grownBy w6 (some (wr.heap.size + 1))) : Kept wr ((w6.setCell ⟨wr.heap.size, 1, none⟩ v6).alloc o3) ∧ wr.heap.size + 3 ≤ ((w6.setCell ⟨wr.heap.size, 1, none⟩ v6).alloc o3).heap.size := by
  have s6 := hg.size
  simp only [World.size_alloc] at s6
  refine ⟨(((((Kept.refl wr).alloc o1).alloc o2).grown hg fun k e => by have := Option.some.inj e; omega).setCell (p := ⟨wr.heap.size, 1, none⟩) (Nat.le_refl _) v6).alloc _, ?_⟩
  simp
  omega
theorem src_sig (W : World) (n : Nat) (hn : n = W.heap.size) (a c : ByteArray) (pa : Option Addr) (pn pc : Nat) : Src Tryz.prog 3 44 (.slice (some ⟨n, 0, none⟩) 1 1) 1 [.string a, .slice pa pn pc, .string c] (W.alloc (.cells #[.string a, .slice pa pn pc, .string c] 53)) := by
  subst hn
  exact Src.ofSlice (P := Tryz.prog) (size := 3) (tx := 44) _ Tryz.underlying44 ⟨W.heap.size, 0, none⟩ 1 1 [.string a, .slice pa pn pc, .string c] rfl (cells_new3 _ _ _ _ _) (by simp [Value.oneCell'])
theorem cop_end {x : Tab.C} {w wr Wf : World} {fv' l : Value} {ms : List (Tab.M × Value)} (hms : ms.map Prod.fst = x.methods.take x.methods.length) (hown : wr.ownsRow (w.heap.size + 2) 53 3 l x.methods.length (ms.flatMap mCells))
    (hb2 : Blk wr (w.heap.size + 1) 46 #[.string ⟨#[]⟩, .string ⟨#[]⟩, .slice none 0 0, .slice none 0 0])
    (hper : PerB wr (fun b => b < w.heap.size + 2 ∨ l.ownBlock = some b) (fun W' => Row 2 VarAt W' fv' x.fields ∧ ∀ y ∈ ms, Row 2 VarAt W' y.2 y.1.params)) (hk : Kept w wr) (hmz : ∀ m ∈ x.methods, m.name.size ≤ maxLen ∧ m.res.size ≤ maxLen)
    (hW : Wf = ((((wr.setCell ⟨w.heap.size, 3, none⟩ l).setCell ⟨w.heap.size + 1, 0, none⟩ (.string x.name)).setCell ⟨w.heap.size + 1, 1, none⟩ (.string x.super)).setCell ⟨w.heap.size + 1, 2, none⟩ fv').setCell ⟨w.heap.size + 1, 3, none⟩ l) :
    Blk Wf (w.heap.size + 1) 46 #[.string x.name, .string x.super, fv', l] ∧ PerB Wf (· < w.heap.size) (fun W' => Row 2 VarAt W' fv' x.fields ∧ Row 3 SigAt W' l x.methods) ∧ Kept w Wf := by
  subst hW
  rw [List.take_length] at hms
  have hlen : ms.length = x.methods.length := by rw [← hms, List.length_map]
  have o1 : Only (· = w.heap.size) wr (wr.setCell ⟨w.heap.size, 3, none⟩ l) := (Only.refl _ wr).put 3 l
  have ho : Only (fun b => b < w.heap.size + 2) wr (((((wr.setCell ⟨w.heap.size, 3, none⟩ l).setCell ⟨w.heap.size + 1, 0, none⟩ (.string x.name)).setCell ⟨w.heap.size + 1, 1, none⟩ (.string x.super)).setCell ⟨w.heap.size + 1, 2, none⟩ fv').setCell ⟨w.heap.size + 1, 3, none⟩ l) :=
    (((((Only.refl (fun b => b < w.heap.size + 2) wr).setCell (p := ⟨w.heap.size, 3, none⟩) (.inl (by show w.heap.size < w.heap.size + 2; omega)) l).setCell (p := ⟨w.heap.size + 1, 0, none⟩) (.inl (by show w.heap.size + 1 < w.heap.size + 2; omega)) _).setCell (p := ⟨w.heap.size + 1, 1, none⟩) (.inl (by show w.heap.size + 1 < w.heap.size + 2; omega)) _).setCell (p := ⟨w.heap.size + 1, 2, none⟩) (.inl (by show w.heap.size + 1 < w.heap.size + 2; omega)) _).setCell (p := ⟨w.heap.size + 1, 3, none⟩) (.inl (by show w.heap.size + 1 < w.heap.size + 2; omega)) _
  refine ⟨((((hb2.only o1 (by omega)).put 0 _).put 1 _).put 2 _).put 3 _, ?_, ?_⟩
  · have h1 := own_only hown ho fun g hg e => by have := own_geC hown hg; omega
    have p1 := hper.step (S2 := (· < w.heap.size)) (ho.mono fun k _ h => Or.inl h) fun b _ e => .inl (by omega)
    intro W' hw
    obtain ⟨q1, q2⟩ := p1 W' hw
    refine ⟨q1, ?_⟩
    have h2 := own_only h1 hw fun g hg e => by have := own_geC h1 hg; omega
    rw [← hlen] at h2
    have := sig_row h2 q2 fun y hy => hmz _ (by rw [← hms]; exact List.mem_map.2 ⟨y, hy, rfl⟩)
    rw [hms] at this
    exact this
  · exact ((((hk.setCell (p := ⟨w.heap.size, 3, none⟩) (Nat.le_refl _) l).setCell (p := ⟨w.heap.size + 1, 0, none⟩) (Nat.le_succ _) _).setCell (p := ⟨w.heap.size + 1, 1, none⟩) (Nat.le_succ _) _).setCell (p := ⟨w.heap.size + 1, 2, none⟩) (Nat.le_succ _) _).setCell (p := ⟨w.heap.size + 1, 3, none⟩) (Nat.le_succ _) _
theorem sigs_sz {w : World} {v : Value} {l : List Tab.M} (h : Row 3 SigAt w v l) : ∀ m ∈ l, m.name.size ≤ maxLen ∧ m.res.size ≤ maxLen := by
  intro x hx
  obtain ⟨a, c, _, _, _, q⟩ := h
  obtain ⟨i, hi, rfl⟩ := List.getElem_of_mem hx
  obtain ⟨b, o, _, r⟩ := q i _ (List.getElem?_eq_getElem hi)
  exact r.2.2.2
set_option maxHeartbeats 4000000 in
theorem copyclass_c (x : Tab.C) (fv mv : Value) (w : World) (hf : Row 2 VarAt w fv x.fields) (hm : Row 3 SigAt w mv x.methods) (hfl : x.fields.length ≤ 1000) (hml : x.methods.length ≤ 1000) (hpl : ∀ m ∈ x.methods, m.params.length ≤ 1000) :
    Calls Tryz.prog 70 #[.agg #[.string x.name, .string x.super, fv, mv]] w fun e w' => ∃ fv' mv', e = .returned (.agg #[.string x.name, .string x.super, fv', mv']) ∧
      PerB w' (· < w.heap.size) (fun W' => Row 2 VarAt W' fv' x.fields ∧ Row 3 SigAt W' mv' x.methods) ∧ Kept w w' := by
  obtain ⟨i0, hi, hz0, hzz1, hzz2⟩ := info_parts info_var
  obtain ⟨i1, hi1, hz1, hzs1, hzs2⟩ := info_parts info_sig
  have HF := Lib.hid hf
  have HM := Lib.hid hm
  have HSZ := Lib.hid (vars_sz hf)
  obtain ⟨fa, fc, rfl, fh1, fh2, fh3⟩ := hf
  obtain ⟨ma, mc, rfl, mh1, mh2, mh3⟩ := hm
  clear fh3 mh3
  obtain ⟨fn, hfn⟩ : ∃ fn, x.fields.length = fn := ⟨_, rfl⟩
  obtain ⟨mn, hmn⟩ : ∃ mn, x.methods.length = mn := ⟨_, rfl⟩
  have HFN := Lib.hid hfn
  have HMN := Lib.hid hmn
  have k2 : Kept w ((w.alloc (.cells #[.string x.name, .string x.super, .slice fa fn fc, .slice ma mn mc] 46)).alloc (.cells #[.string ⟨#[]⟩, .string ⟨#[]⟩, .slice none 0 0, .slice none 0 0] 46)) := ((Kept.refl w).alloc _).alloc _
  have HB1 := Lib.hid (((Blk.new w 46 #[.string x.name, .string x.super, .slice fa fn fc, .slice ma mn mc]).alloc (.cells #[.string ⟨#[]⟩, .string ⟨#[]⟩, .slice none 0 0, .slice none 0 0] 46)).alloc (.cells #[] 50))
  have hB2 := (Blk.new (w.alloc (.cells #[.string x.name, .string x.super, .slice fa fn fc, .slice ma mn mc] 46)) 46 #[.string ⟨#[]⟩, .string ⟨#[]⟩, .slice none 0 0, .slice none 0 0]).alloc (.cells #[] 50)
  rw [World.size_alloc] at hB2
  have HB2 := Lib.hid hB2
  have HOW := Lib.hid (own_empty ((w.alloc (.cells #[.string x.name, .string x.super, .slice fa fn fc, .slice ma mn mc] 46)).alloc (.cells #[.string ⟨#[]⟩, .string ⟨#[]⟩, .slice none 0 0, .slice none 0 0] 46)) 50 2 (w.heap.size + 1 + 1) (by simp))
  have hSR := src_vars (vars_kept HF.out (k2.alloc (.cells #[] 50)))
  rw [hfn] at hSR hfl fh1 ⊢
  rw [hmn] at hml mh1 ⊢
  have HSR := Lib.hid hSR
  have HK3 := Lib.hid (k2.alloc (.cells #[] 50))
  have HZ3 := Lib.hid (show w.heap.size + 3 = (((w.alloc (.cells #[.string x.name, .string x.super, .slice fa fn fc, .slice ma mn mc] 46)).alloc (.cells #[.string ⟨#[]⟩, .string ⟨#[]⟩, .slice none 0 0, .slice none 0 0] 46)).alloc (.cells #[] 50)).heap.size by simp)
  obtain ⟨W3, hW3⟩ : ∃ W3, ((w.alloc (.cells #[.string x.name, .string x.super, .slice fa fn fc, .slice ma mn mc] 46)).alloc (.cells #[.string ⟨#[]⟩, .string ⟨#[]⟩, .slice none 0 0, .slice none 0 0] 46)).alloc (.cells #[] 50) = W3 := ⟨_, rfl⟩
  rw [hW3] at HB1 HB2 HOW HSR HK3 HZ3
  clear hB2 hSR k2 hfn hmn
  have d2 : W3.cell? ⟨w.heap.size, 2, none⟩ = some (.slice fa fn fc) := HB1.out.cell 2
  go_enter Tryz.func70, Tryz.ntmps70
  go_wp2_with (at_builtin; refine wpList_apk rfl (.tmp 6) (.tmp 8) 43 43 rfl (w.heap.size + 1 + 1) 2 50 i0 _ 32 Tryz.underlying43 hi hz0 hzz1 hzz2 rfl rfl HOW.out rfl HSR.out (by unfold maxLen; omega) (by omega) (by have := HZ3.out; omega) ?_; intro v' w4 hown' hgrow hlies; have HN := Lib.hid hown'; have HG := Lib.hid hgrow; have hb1 : w4.cell? ⟨w.heap.size, 2, none⟩ = some (.slice fa fn fc) := (HB1.out.grownBy hgrow (own_ne (by omega))).cell 2; have hf1 := (HB1.out.grownBy hgrow (own_ne (by omega))).frozen 2; obtain ⟨va', vn', vc', rfl⟩ := owns_slice hown'; clear hown' hgrow hlies)
  have HI := Lib.hid (cop_start HB1.out HB2.out HK3.out HZ3.out HG.out HN.out HFN.out HSZ.out)
  clear hb1 hf1 d2
  go_loopw [3, 4] (fun l q wr => CopI x w (.slice ma mn mc) (.slice va' vn' vc') l q wr) (fun l q wr => mn - (intOf q).toNat)
  case atStart => exact HI.out
  case round =>
    obtain ⟨j, ms, rfl, hj, hms, hown, hB, hB2, hper, hkp, hsz⟩ := hrel
    have HB := Lib.hid hB
    have HBR := Lib.hid hB2
    have HOWN := Lib.hid hown
    have HPER := Lib.hid hper
    have HKP := Lib.hid hkp
    have HMS := Lib.hid hms
    have HSW := Lib.hid hsz
    obtain ⟨la, ln, lc, rfl⟩ := owns_slice hown
    clear hown hper hkp hms hB hB2
    have b3 : wr.cell? ⟨w.heap.size, 3, none⟩ = some (.slice ma mn mc) := HB.out.cell 3
    by_cases hlt : j < mn
    · have hltI : (j : Int) < (mn : Int) := by omega
      have hx : x.methods[j]? = some (x.methods[j]'(by have := HMN.out; omega)) := List.getElem?_eq_getElem _
      generalize (x.methods[j]'(by have := HMN.out; omega)) = m at hx
      obtain ⟨ma', mc', e, _, _, q⟩ := HM.out
      obtain ⟨mb, mo, e', hs⟩ := q j m hx
      injection e with e1 e2 e3
      subst e1 e3
      subst e'
      obtain ⟨s0, ⟨pv, s1, hp⟩, s2, z1, z2⟩ := hs.kept HKP.out
      have HX := Lib.hid hx
      have HPS := Lib.hid (vars_sz hp)
      have HPL := Lib.hid (hpl m (List.mem_of_getElem? hx))
      obtain ⟨pa, pc, rfl, ph1, ph2, _⟩ := id hp
      obtain ⟨pn, hpn⟩ : ∃ pn, m.params.length = pn := ⟨_, rfl⟩
      have HPN := Lib.hid hpn
      rw [hpn] at s1 ph1 HPL
      have HBX := Lib.hid ((Blk.new wr 53 #[.string m.name, .slice pa pn pc, .string m.res]).alloc (.cells #[] 50))
      have HOW5 := Lib.hid (own_empty (wr.alloc (.cells #[.string m.name, .slice pa pn pc, .string m.res] 53)) 50 2 (wr.heap.size + 1) (by simp))
      have hSR := src_vars (vars_kept hp (((Kept.refl wr).alloc (.cells #[.string m.name, .slice pa pn pc, .string m.res] 53)).alloc (.cells #[] 50)))
      rw [hpn] at hSR
      have HSR5 := Lib.hid hSR
      have HZ5 := Lib.hid (show wr.heap.size + 2 = ((wr.alloc (.cells #[.string m.name, .slice pa pn pc, .string m.res] 53)).alloc (.cells #[] 50)).heap.size by simp)
      have d1 : ((wr.alloc (.cells #[.string m.name, .slice pa pn pc, .string m.res] 53)).alloc (.cells #[] 50)).cell? ⟨wr.heap.size, 1, none⟩ = some (.slice pa pn pc) := HBX.out.cell 1
      have hjm : j ≤ mc := by omega
      clear hSR hp hs q hx hpn
      go_wp2_with (first | (at_builtin; refine wpList_apk rfl (.tmp 23) (.tmp 25) 43 43 rfl (wr.heap.size + 1) 2 50 i0 _ 32 Tryz.underlying43 hi hz0 hzz1 hzz2 rfl rfl HOW5.out rfl HSR5.out (by have := HPL.out; unfold maxLen; omega) (by have := HPL.out; omega) (by have := HZ5.out; omega) ?_; intro v6 w6 hown' hgrow hlies; have HN6 := Lib.hid hown'; have HG6 := Lib.hid hgrow; have hb0 : w6.cell? ⟨wr.heap.size, 0, none⟩ = some (.string m.name) := (HBX.out.grownBy hgrow (own_ne (by omega))).cell 0; have hb1 : w6.cell? ⟨wr.heap.size, 1, none⟩ = some (.slice pa pn pc) := (HBX.out.grownBy hgrow (own_ne (by omega))).cell 1; have hb2 : w6.cell? ⟨wr.heap.size, 2, none⟩ = some (.string m.res) := (HBX.out.grownBy hgrow (own_ne (by omega))).cell 2; have hf1 := (HBX.out.grownBy hgrow (own_ne (by omega))).frozen 1; obtain ⟨va6, vn6, vc6, rfl⟩ := owns_slice hown'; clear hown' hgrow hlies) | (at_builtin; have hk7 := cop_k7 (o3 := .cells #[.string m.name, .slice va6 vn6 vc6, .string m.res] 53) (v6 := .slice va6 vn6 vc6) HG6.out; have HRX := Lib.hid (own_only HOWN.out (Only.of_kept (S := fun _ => False) hk7.1) (fun _ _ h => h)); have HSX := Lib.hid (src_sig (w6.setCell ⟨wr.heap.size, 1, none⟩ (.slice va6 vn6 vc6)) w6.heap.size (by simp) m.name m.res va6 vn6 vc6); have hk72 := hk7.2; refine wpList_apk rfl (.tmp 28) (.tmp 30) 44 44 rfl (w.heap.size + 2) 3 53 i1 _ 56 Tryz.underlying44 hi1 hz1 hzs1 hzs2 rfl rfl HRX.out rfl HSX.out (by unfold maxLen; omega) (by omega) (by have := HSW.out; omega) ?_; intro l8 w8 hown' hgrow hlies; have HN8 := Lib.hid (cop_step HX.out HMS.out HOWN.out HB.out HBR.out HPER.out HKP.out HSW.out HG6.out (by have := HN6.out; rw [Nat.zero_add, List.nil_append, ← HPN.out] at this; exact this) HPS.out hgrow hown' hlies); obtain ⟨va8, vn8, vc8, rfl⟩ := owns_slice hown'; clear hown' hgrow hlies hk7 hk72))
      go_roundw
      case rel => exact cop_q HN8.out (by go_num)
      case measure => simp [intOf]; omega
    · have hltI : ¬ (j : Int) < (mn : Int) := by omega
      have b0 : wr.cell? ⟨w.heap.size, 0, none⟩ = some (.string x.name) := HB.out.cell 0
      have b1 : wr.cell? ⟨w.heap.size, 1, none⟩ = some (.string x.super) := HB.out.cell 1
      have b2 : wr.cell? ⟨w.heap.size, 2, none⟩ = some (.slice va' vn' vc') := HB.out.cell 2
      have f3 := HB.out.frozen 3
      have r0 : wr.cell? ⟨w.heap.size + 1, 0, none⟩ = some (.string ⟨#[]⟩) := HBR.out.cell 0
      have r1 : wr.cell? ⟨w.heap.size + 1, 1, none⟩ = some (.string ⟨#[]⟩) := HBR.out.cell 1
      have r2 : wr.cell? ⟨w.heap.size + 1, 2, none⟩ = some (.slice none 0 0) := HBR.out.cell 2
      have r3 : wr.cell? ⟨w.heap.size + 1, 3, none⟩ = some (.slice none 0 0) := HBR.out.cell 3
      have g0 := HBR.out.frozen 0
      have g1 := HBR.out.frozen 1
      have g2 := HBR.out.frozen 2
      have g3 := HBR.out.frozen 3
      obtain rfl : j = mn := by have := HMN.out; omega
      clear hj
      go_wp2_with fail
      clear b0 b1 b2 b3 f3 r0 r1 r2 r3 g0 g1 g2 g3
      generalize hWf : (((((wr.setCell ⟨w.heap.size, 3, none⟩ (.slice la ln lc)).setCell ⟨w.heap.size + 1, 0, none⟩ (.string x.name)).setCell ⟨w.heap.size + 1, 1, none⟩ (.string x.super)).setCell ⟨w.heap.size + 1, 2, none⟩ (.slice va' vn' vc')).setCell ⟨w.heap.size + 1, 3, none⟩ (.slice la ln lc)) = Wf
      have hF := cop_end (by have := HMS.out; rw [← HMN.out] at this; exact this) (by have := HOWN.out; rw [← HMN.out] at this; exact this) HBR.out HPER.out HKP.out (sigs_sz HM.out) hWf.symm
      obtain ⟨hF1, hF2, hF3⟩ := hF
      have e0 : Wf.cell? ⟨w.heap.size + 1, 0, none⟩ = some (.string x.name) := hF1.cell 0
      have e1 : Wf.cell? ⟨w.heap.size + 1, 1, none⟩ = some (.string x.super) := hF1.cell 1
      have e2 : Wf.cell? ⟨w.heap.size + 1, 2, none⟩ = some (.slice va' vn' vc') := hF1.cell 2
      have e3 : Wf.cell? ⟨w.heap.size + 1, 3, none⟩ = some (.slice la ln lc) := hF1.cell 3
      exact bodyPost_ret (v := .agg #[.string x.name, .string x.super, .slice va' vn' vc', .slice la ln lc]) (by simp [results, Tryz.results70, go_sem, e0, e1, e2, e3]) rfl ⟨_, _, rfl, hF2, hF3⟩
theorem info_cpt : (Tryz.prog.info? 46).map (fun i => (i.zero, i.size, i.bytes)) = some (some (.agg #[.string ⟨#[]⟩, .string ⟨#[]⟩, .slice none 0 0, .slice none 0 0]), 4, 80) := by kernel_rfl
def clCells (y : Tab.C × Value × Value) : List Value := [.string y.1.name, .string y.1.super, y.2.1, y.2.2]
theorem clCells_len (y : Tab.C × Value × Value) : (clCells y).length = 4 := rfl
/-- The rows that the classes point to. -/
def RowsOf (cs : List (Tab.C × Value × Value)) (W : World) : Prop := ∀ y ∈ cs, Row 2 VarAt W y.2.1 y.1.fields ∧ Row 3 SigAt W y.2.2 y.1.methods
/-- A table of one's own: the first j classes. -/
def TbOwn (t : List Tab.C) (w : World) (j : Nat) (v : Value) (W : World) : Prop :=
  ∃ cs : List (Tab.C × Value × Value), cs.map (fun y => y.1) = t.take j ∧ W.ownsRow w.heap.size 46 4 v j (cs.flatMap clCells) ∧ PerB W (fun b => b < w.heap.size ∨ v.ownBlock = some b) (RowsOf cs) ∧ Kept w W
def CptI (t : List Tab.C) (w : World) (lv q : Value) (W : World) : Prop := ∃ j : Nat, q = .int .i64 j ∧ j ≤ t.length ∧ TbOwn t w j lv W
theorem cpt_q {t : List Tab.C} {w W : World} {l q q' : Value} (h : CptI t w l q W) (e : q' = q) : CptI t w l q' W := by rw [e]; exact h
theorem cells_new4 (w : World) (t : TypeId) (a b c d : Value) : ∀ (j : Nat) (u : Value), [a, b, c, d][j]? = some u → (w.alloc (.cells #[a, b, c, d] t)).cell? ((⟨w.heap.size, 0, none⟩ : Addr).add j) = some u := by
  intro j u hu
  rw [addr_plain, (Blk.new w t #[a, b, c, d]).cell, Nat.zero_add]
  simpa using hu
theorem src_cls (W : World) (a c : ByteArray) (fa ma : Option Addr) (fn fc mn mc : Nat) : Src Tryz.prog 4 22 (.slice (some ⟨W.heap.size, 0, none⟩) 1 1) 1 [.string a, .string c, .slice fa fn fc, .slice ma mn mc] (W.alloc (.cells #[.string a, .string c, .slice fa fn fc, .slice ma mn mc] 46)) :=
  Src.ofSlice (P := Tryz.prog) (size := 4) (tx := 22) _ Tryz.underlying22 ⟨W.heap.size, 0, none⟩ 1 1 [.string a, .string c, .slice fa fn fc, .slice ma mn mc] rfl (cells_new4 _ _ _ _ _ _) (by simp [Value.oneCell'])
/-- One class more. -/
theorem tb_step {t : List Tab.C} {w wr w1 w8 : World} {l l' fv mv : Value} {j : Nat} {c : Tab.C} {o : Obj} {cs : List (Tab.C × Value × Value)} (hx : t[j]? = some c) (hcs : cs.map (fun y => y.1) = t.take j) (hown : wr.ownsRow w.heap.size 46 4 l j (cs.flatMap clCells)) (hper : PerB wr (fun b => b < w.heap.size ∨ l.ownBlock = some b) (RowsOf cs)) (hk : Kept w wr) (hk1 : Kept wr w1) (hp : PerB w1 (· < wr.heap.size) (fun W' => Row 2 VarAt W' fv c.fields ∧ Row 3 SigAt W' mv c.methods)) (hw : w.heap.size ≤ wr.heap.size)
    (hown8 : w8.ownsRow w.heap.size 46 4 l' (j + 1) (cs.flatMap clCells ++ [.string c.name, .string c.super, fv, mv]))
    (hg8 : (w1.alloc o).grownBy w8 l.ownBlock) (hlies : l'.ownBlock = l.ownBlock ∨ l'.ownBlock = some (w1.alloc o).heap.size) : TbOwn t w (j + 1) l' w8 := by
  have hol : ∀ g, l.ownBlock = some g → w.heap.size ≤ g ∧ g < wr.heap.size := fun g hg => own_geC hown hg
  have k1 := hk1.size
  have s8 := hg8.size
  have e7 : (w1.alloc o).heap.size = w1.heap.size + 1 := by simp
  rw [e7] at s8 hlies
  have o8 : Only (fun b => l.ownBlock = some b) wr w8 := (Only.of_kept (hk1.alloc o)).grown hg8 fun k e => .inl e
  have o18 : Only (fun b => l.ownBlock = some b) w1 w8 := ((Only.refl _ w1).alloc o).grown hg8 fun k e => .inl e
  refine ⟨cs ++ [(c, fv, mv)], ?_, ?_, ?_, ?_⟩
  · rw [List.map_append, hcs, List.take_add_one, hx]
    rfl
  · rw [List.flatMap_append]
    simpa [clCells] using hown8
  · have p1 := hper.step (S2 := fun b => b < w.heap.size ∨ l'.ownBlock = some b) (o8.mono fun k _ h => Or.inr h) fun b hb e => by
      rcases e with e | e
      · exact .inl e
      · rcases hlies with h | h
        · rw [h] at e; exact .inr e
        · rw [h] at e
          have := Option.some.inj e
          omega
    have p2 := hp.step (S2 := fun b => b < w.heap.size ∨ l'.ownBlock = some b) (o18.mono fun k _ h => (hol k h).2) fun b hb e => by
      rcases e with e | e
      · show b < wr.heap.size
        omega
      · rcases hlies with h | h
        · rw [h] at e; exact (hol b e).2
        · rw [h] at e
          have := Option.some.inj e
          omega
    intro W' ho y hy
    rcases List.mem_append.1 hy with hy | hy
    · exact p1 W' ho y hy
    · obtain rfl := List.mem_singleton.1 hy
      exact p2 W' ho
  · exact (hk.trans (hk1.alloc o)).grown hg8 fun k e => (hol k e).1
set_option maxHeartbeats 4000000 in
theorem copytable_c (t : List Tab.C) (a : Option Addr) (cp : Nat) (w : World) (h : TabAt w (.slice a t.length cp) t) (hS : Small t) (ht : t.length ≤ 1000) :
    Calls Tryz.prog 17 #[.slice a t.length cp] w fun e w' => ∃ v, e = .returned v ∧ TbOwn t w t.length v w' := by
  obtain ⟨i1, hi1, hz1, hzs1, hzs2⟩ := info_parts info_cpt
  have HT := Lib.hid h
  clear h
  go_enter Tryz.func17, Tryz.ntmps17
  go_wp2_with fail
  go_loopw [3, 4] (fun l q wr => CptI t w l q wr) (fun l q wr => t.length - (intOf q).toNat)
  case atStart => exact ⟨0, rfl, Nat.zero_le _, [], rfl, World.ownsRow_nil _ _ _ _, (fun _ _ y hy => by cases hy), Kept.refl w⟩
  case round =>
    obtain ⟨j, rfl, hj, hI⟩ := hrel
    obtain ⟨cs, hcs, ho, hp, hk⟩ := hI
    obtain ⟨la, ln, lc, rfl⟩ := owns_slice ho
    have HI := Lib.hid (show TbOwn t w j (.slice la ln lc) wr from ⟨cs, hcs, ho, hp, hk⟩)
    have HOW := Lib.hid ho
    have HCS := Lib.hid hcs
    have HPE := Lib.hid hp
    have HKP := Lib.hid hk
    clear ho hp hk hcs
    by_cases hlt : j < t.length
    · have hltI : (j : Int) < (t.length : Int) := by omega
      obtain ⟨b, o, rfl, hcl⟩ := Row.cellsC (tab_kept HT.out HKP.out) hlt
      have hcp : j ≤ cp := by obtain ⟨_, c', e, h1, h2, _⟩ := HT.out; injection e with _ _ e3; subst e3; omega
      have hx : t[j]? = some (Tab.nth t j) := Tab.of_nth hlt
      have hmem : Tab.nth t j ∈ t := nth_mem hlt
      have HF1 := Lib.hid (hS.fields _ hmem)
      have HF2 := Lib.hid (hS.methods _ hmem)
      have HF3 := Lib.hid (hS.params _ hmem)
      generalize Tab.nth t j = c at hcl hx HF1 HF2 HF3
      have HX := Lib.hid hx
      obtain ⟨c0, c1, ⟨fu, c2, hf⟩, ⟨mu, c3, hm⟩, _⟩ := hcl
      have HC := Lib.hid (copyclass_c c fu mu wr hf hm HF1.out HF2.out HF3.out)
      obtain ⟨fa, fc, rfl, _⟩ := hf
      obtain ⟨ma, mc, rfl, _⟩ := hm
      clear hx hmem
      go_wp2_with fail
      refine HC.out.mono ?_
      rintro e w1 ⟨fv', mv', rfl, hper, k1⟩
      obtain ⟨fa', fc', rfl, _⟩ := id (hper.now).1
      obtain ⟨ma', mc', rfl, _⟩ := id (hper.now).2
      have HP := Lib.hid hper
      have HK1 := Lib.hid k1
      have HZ1 := Lib.hid k1.size
      clear hper k1 HC
      generalize c.fields.length = fn' at HP
      generalize c.methods.length = mn' at HP
      have HRX := Lib.hid (own_only HOW.out (Only.of_kept (S := fun _ => False) (HK1.out.alloc (.cells #[.string c.name, .string c.super, .slice fa' fn' fc', .slice ma' mn' mc'] 46))) (fun _ _ h => h))
      have HSX := Lib.hid (src_cls w1 c.name c.super fa' ma' fn' fc' mn' mc')
      have hw := HKP.out.size
      go_wp2_with (at_builtin; refine wpList_apk rfl (.tmp 11) (.tmp 17) 22 22 rfl w.heap.size 4 46 i1 _ 80 Tryz.underlying22 hi1 hz1 hzs1 hzs2 rfl rfl HRX.out rfl HSX.out (by unfold maxLen; omega) (by omega) (by have := HZ1.out; simp; omega) ?_; intro l8 w8 hown' hgrow hlies; have HN8 := Lib.hid (tb_step HX.out HCS.out HOW.out HPE.out HKP.out HK1.out HP.out HKP.out.size hown' hgrow hlies); obtain ⟨va8, vn8, vc8, rfl⟩ := owns_slice hown'; clear hown' hgrow hlies)
      go_roundw
      case rel => exact cpt_q ⟨j + 1, rfl, hlt, HN8.out⟩ (by go_num)
      case measure => simp [intOf]; omega
    · have hltI : ¬ (j : Int) < (t.length : Int) := by omega
      obtain rfl : j = t.length := by omega
      go_wp2_with fail
      go_ret
      exact ⟨_, rfl, HI.out⟩
set_option maxHeartbeats 2000000 in
theorem sameV_c (l : List Tab.V) (u v : Value) (w : World) (hu : Row 2 VarAt w u l) (hv : Row 2 VarAt w v l) :
    Calls Tryz.prog 133 #[u, v] w fun e w' => e = .returned (.bool true) ∧ Kept w w' := by
  obtain ⟨a, c, rfl, ha1, ha2, hat⟩ := hu
  obtain ⟨b, d, rfl, hb1, hb2, hbt⟩ := hv
  unfold maxLen at ha2 hb2
  have HAT := Lib.hid hat
  have HBT := Lib.hid hbt
  clear hat hbt
  go_enter Tryz.func133, Tryz.ntmps133
  go_wp2_with fail
  go_loopw [5, 6] (fun p q wr => ∃ j : Nat, p = .bool true ∧ j ≤ l.length ∧ q = .int .i64 j ∧ Kept w wr) (fun p q wr => l.length - (intOf q).toNat)
  case atStart => exact ⟨0, rfl, Nat.zero_le _, rfl, Kept.refl _⟩
  case round =>
    obtain ⟨j, rfl, hj, rfl, hkp⟩ := hrel
    by_cases hlt : j < l.length
    · have hltI : (j : Int) < (l.length : Int) := by omega
      have hx : l[j]? = some l[j] := List.getElem?_eq_getElem hlt
      obtain ⟨ab, ao, rfl, hax⟩ := HAT.out _ _ hx
      obtain ⟨bb, bo, rfl, hbx⟩ := HBT.out _ _ hx
      generalize l[j] = x at hx hax hbx
      obtain ⟨x0, x1, _⟩ := hax.kept hkp
      obtain ⟨y0, y1, _⟩ := hbx.kept hkp
      have HK := Lib.hid hkp
      clear hx hax hbx hkp
      go_wp2_with fail
      go_region
      all_goals
        go_wp2_with fail
        go_roundw
        case rel => exact ⟨j + 1, rfl, by omega, by go_num, HK.out.drew⟩
        case measure => simp [intOf]; omega
    · have hltI : ¬ (j : Int) < (l.length : Int) := by omega
      go_wp2_with fail
      go_ret
      exact ⟨rfl, hkp⟩
set_option maxHeartbeats 2000000 in
theorem sameS_c (m : Tab.M) (u v : Value) (w : World) (hu : Row 2 VarAt w u m.params) (hv : Row 2 VarAt w v m.params) :
    Calls Tryz.prog 134 #[.agg #[.string m.name, u, .string m.res], .agg #[.string m.name, v, .string m.res]] w fun e w' => e = .returned (.bool true) ∧ Kept w w' := by
  have HC := Lib.hid (fun (W : World) (k : Kept w W) => sameV_c m.params u v W (vars_kept hu k) (vars_kept hv k))
  obtain ⟨ua, uc, rfl, _⟩ := hu
  obtain ⟨va, vc, rfl, _⟩ := hv
  generalize m.params.length = n at HC ⊢
  generalize m.name = nm
  generalize m.res = rs
  have hb1 : (nm.toList == nm.toList) = true := beq_yes rfl
  have hb2 : (rs.toList == rs.toList) = true := beq_yes rfl
  go_enter Tryz.func134, Tryz.ntmps134
  go_wp2_with fail
  refine (HC.out _ (((Kept.refl w).alloc _).alloc _)).mono ?_
  rintro e w1 ⟨rfl, k1⟩
  have HK := Lib.hid ((((Kept.refl w).alloc _).alloc _).trans k1)
  clear k1
  go_wp2_with fail
  go_ret
  exact ⟨rfl, HK.out⟩
set_option maxHeartbeats 4000000 in
theorem sameC_c (c : Tab.C) (fu mu fv mv : Value) (w : World) (h1 : Row 2 VarAt w fu c.fields) (h2 : Row 3 SigAt w mu c.methods) (h3 : Row 2 VarAt w fv c.fields) (h4 : Row 3 SigAt w mv c.methods) :
    Calls Tryz.prog 83 #[.agg #[.string c.name, .string c.super, fu, mu], .agg #[.string c.name, .string c.super, fv, mv]] w fun e w' => e = .returned (.bool true) ∧ Kept w w' := by
  have HC := Lib.hid (fun (W : World) (k : Kept w W) => sameV_c c.fields fu fv W (vars_kept h1 k) (vars_kept h3 k))
  obtain ⟨fa, fc, rfl, _⟩ := h1
  obtain ⟨ga, gc, rfl, _⟩ := h3
  obtain ⟨ma, mc, rfl, m1, m2, m3⟩ := h2
  obtain ⟨na, nc, rfl, n1, n2, n3⟩ := h4
  have HM := Lib.hid m3
  have HN := Lib.hid n3
  clear m3 n3
  unfold maxLen at m2 n2
  generalize c.fields.length = fn at HC ⊢
  obtain ⟨l, hl⟩ : ∃ l, c.methods = l := ⟨_, rfl⟩
  rw [hl] at HM HN m1 n1 ⊢
  clear hl
  generalize c.name = nm
  generalize c.super = sp
  have hb1 : (nm.toList == nm.toList) = true := beq_yes rfl
  have hb2 : (sp.toList == sp.toList) = true := beq_yes rfl
  go_enter Tryz.func83, Tryz.ntmps83
  go_wp2_with fail
  refine (HC.out _ (((Kept.refl w).alloc _).alloc _)).mono ?_
  rintro e w1 ⟨rfl, k1⟩
  have HB1 := Lib.hid (((Blk.new w 46 #[.string nm, .string sp, .slice fa fn fc, .slice ma l.length mc]).alloc (.cells #[.string nm, .string sp, .slice ga fn gc, .slice na l.length nc] 46)).kept k1)
  have hB2 := (Blk.new (w.alloc (.cells #[.string nm, .string sp, .slice fa fn fc, .slice ma l.length mc] 46)) 46 #[.string nm, .string sp, .slice ga fn gc, .slice na l.length nc]).kept k1
  rw [World.size_alloc] at hB2
  have HB2 := Lib.hid hB2
  have HK1 := Lib.hid ((((Kept.refl w).alloc _).alloc _).trans k1)
  have a3 : w1.cell? ⟨w.heap.size, 3, none⟩ = some (.slice ma l.length mc) := HB1.out.cell 3
  have e3 : w1.cell? ⟨w.heap.size + 1, 3, none⟩ = some (.slice na l.length nc) := HB2.out.cell 3
  clear k1 hB2 HC
  go_wp2_with fail
  go_loopw [5, 6] (fun p q wr => ∃ j : Nat, p = .bool true ∧ j ≤ l.length ∧ q = .int .i64 j ∧ Kept w1 wr) (fun p q wr => l.length - (intOf q).toNat)
  case atStart => exact ⟨0, rfl, Nat.zero_le _, rfl, Kept.refl _⟩
  case round =>
    obtain ⟨j, rfl, hj, rfl, hkp⟩ := hrel
    clear a3 e3
    have HK := Lib.hid hkp
    have a3 : wr.cell? ⟨w.heap.size, 3, none⟩ = some (.slice ma l.length mc) := (HB1.out.kept hkp).cell 3
    have e3 : wr.cell? ⟨w.heap.size + 1, 3, none⟩ = some (.slice na l.length nc) := (HB2.out.kept hkp).cell 3
    by_cases hlt : j < l.length
    · have hltI : (j : Int) < (l.length : Int) := by omega
      have hx : l[j]? = some l[j] := List.getElem?_eq_getElem hlt
      obtain ⟨ab, ao, rfl, hax⟩ := HM.out _ _ hx
      obtain ⟨bb, bo, rfl, hbx⟩ := HN.out _ _ hx
      generalize l[j] = m at hx hax hbx
      obtain ⟨x0, ⟨pu, x1, hpu⟩, x2, _⟩ := hax.kept (HK1.out.trans hkp)
      obtain ⟨y0, ⟨pv, y1, hpv⟩, y2, _⟩ := hbx.kept (HK1.out.trans hkp)
      have HC := Lib.hid (sameS_c m pu pv wr.drew (vars_kept hpu (Kept.refl wr).drew) (vars_kept hpv (Kept.refl wr).drew))
      obtain ⟨ua, uc, rfl, _⟩ := hpu
      obtain ⟨va, vc, rfl, _⟩ := hpv
      generalize m.params.length = pn at HC x1 y1
      clear hx hax hbx hkp
      go_wp2_with fail
      go_region_with (go_at_call 134; refine HC.out.mono ?_; rintro e w20 ⟨rfl, k20⟩; have HK20 := Lib.hid (HK.out.drew.trans k20); clear k20)
      all_goals
        go_wp2_with fail
        go_roundw
        case rel => exact ⟨j + 1, rfl, by omega, by go_num, HK20.out⟩
        case measure => simp [intOf]; omega
    · have hltI : ¬ (j : Int) < (l.length : Int) := by omega
      clear hkp
      go_wp2_with fail
      go_ret
      exact ⟨rfl, HK1.out.trans HK.out⟩
set_option maxHeartbeats 4000000 in
theorem sameT_c (t : List Tab.C) (u v : Value) (w : World) (hu : TabAt w u t) (hv : TabAt w v t) :
    Calls Tryz.prog 28 #[u, v] w fun e w' => e = .returned (.bool true) ∧ Kept w w' := by
  obtain ⟨ua, uc, rfl, m1, m2, m3⟩ := hu
  obtain ⟨va, vc, rfl, n1, n2, n3⟩ := hv
  have HM := Lib.hid m3
  have HN := Lib.hid n3
  clear m3 n3
  unfold maxLen at m2 n2
  go_enter Tryz.func28, Tryz.ntmps28
  go_wp2_with fail
  go_loopw [5, 6] (fun p q wr => ∃ j : Nat, p = .bool true ∧ j ≤ t.length ∧ q = .int .i64 j ∧ Kept w wr) (fun p q wr => t.length - (intOf q).toNat)
  case atStart => exact ⟨0, rfl, Nat.zero_le _, rfl, Kept.refl _⟩
  case round =>
    obtain ⟨j, rfl, hj, rfl, hkp⟩ := hrel
    have HK := Lib.hid hkp
    by_cases hlt : j < t.length
    · have hltI : (j : Int) < (t.length : Int) := by omega
      have hx : t[j]? = some t[j] := List.getElem?_eq_getElem hlt
      obtain ⟨ab, ao, rfl, hax⟩ := HM.out _ _ hx
      obtain ⟨bb, bo, rfl, hbx⟩ := HN.out _ _ hx
      generalize t[j] = c at hx hax hbx
      obtain ⟨x0, x1, ⟨fu, x2, hfu⟩, ⟨mu, x3, hmu⟩, _⟩ := hax.kept hkp
      obtain ⟨y0, y1, ⟨fv, y2, hfv⟩, ⟨mv, y3, hmv⟩, _⟩ := hbx.kept hkp
      have HC := Lib.hid (sameC_c c fu mu fv mv wr.drew (vars_kept hfu (Kept.refl wr).drew) (hmu.mono fun _ _ _ r => r.kept (Kept.refl wr).drew) (vars_kept hfv (Kept.refl wr).drew) (hmv.mono fun _ _ _ r => r.kept (Kept.refl wr).drew))
      obtain ⟨fua, fuc, rfl, _⟩ := hfu
      obtain ⟨fva, fvc, rfl, _⟩ := hfv
      obtain ⟨mua, muc, rfl, _⟩ := hmu
      obtain ⟨mva, mvc, rfl, _⟩ := hmv
      generalize c.fields.length = fn at HC x2 y2
      generalize c.methods.length = mn at HC x3 y3
      clear hx hax hbx hkp
      go_wp2_with fail
      go_region_with (go_at_call 83; refine HC.out.mono ?_; rintro e w20 ⟨rfl, k20⟩; have HK20 := Lib.hid (HK.out.drew.trans k20); clear k20)
      all_goals
        go_wp2_with fail
        go_roundw
        case rel => exact ⟨j + 1, rfl, by omega, by go_num, HK20.out⟩
        case measure => simp [intOf]; omega
    · have hltI : ¬ (j : Int) < (t.length : Int) := by omega
      clear hkp
      go_wp2_with fail
      go_ret
      exact ⟨rfl, HK.out⟩
theorem cls_row {W : World} {base : Nat} {l : Value} {cs : List (Tab.C × Value × Value)} (h : W.ownsRow base 46 4 l cs.length (cs.flatMap clCells)) (hr : RowsOf cs W) (hs : ∀ y ∈ cs, y.1.name.size ≤ maxLen ∧ y.1.super.size ≤ maxLen) : TabAt W l (cs.map fun y => y.1) := by
  rcases h.2 with ⟨rfl, h0⟩ | ⟨g, cap, cur, rfl, hg1, hg2, hg3, hg4, hg5, hg6⟩
  · obtain rfl : cs = [] := List.eq_nil_of_length_eq_zero h0
    exact Row.nil
  · refine ⟨_, cap, by rw [List.length_map], by rw [List.length_map]; exact hg3, hg4, fun i m hx => ⟨g, 0, rfl, ?_⟩⟩
    rw [List.getElem?_map] at hx
    obtain ⟨y, hy, rfl⟩ := Option.map_eq_some_iff.1 hx
    have c0 := h.cells (g := g) rfl _ _ (flat_at clCells clCells_len cs i 0 y hy (by omega))
    have c1 := h.cells (g := g) rfl _ _ (flat_at clCells clCells_len cs i 1 y hy (by omega))
    have c2 := h.cells (g := g) rfl _ _ (flat_at clCells clCells_len cs i 2 y hy (by omega))
    have c3 := h.cells (g := g) rfl _ _ (flat_at clCells clCells_len cs i 3 y hy (by omega))
    rw [addr_plain] at c0 c1 c2 c3
    have hm := List.mem_of_getElem? hy
    exact ⟨by simpa using c0, by simpa [Nat.add_assoc] using c1, ⟨y.2.1, by simpa [Nat.add_assoc] using c2, (hr y hm).1⟩, ⟨y.2.2, by simpa [Nat.add_assoc] using c3, (hr y hm).2⟩, (hs y hm).1, (hs y hm).2⟩
/-- A table of one's own is a table in memory, and stays one while nothing but what was there before is touched. -/
theorem TbOwn.tab {t : List Tab.C} {w W : World} {v : Value} (h : TbOwn t w t.length v W) (hs : ∀ c ∈ t, c.name.size ≤ maxLen ∧ c.super.size ≤ maxLen) : PerB W (· < w.heap.size) fun W' => TabAt W' v t := by
  obtain ⟨cs, hcs, hown, hper, hk⟩ := h
  rw [List.take_length] at hcs
  have hlen : cs.length = t.length := by rw [← hcs, List.length_map]
  intro W' hw
  have h2 := own_only hown hw fun g hg e => by have := own_geC hown hg; omega
  rw [← hlen] at h2
  have := cls_row h2 (hper W' (hw.mono fun k _ h => Or.inl h)) fun y hy => hs _ (by rw [← hcs]; exact List.mem_map.2 ⟨y, hy, rfl⟩)
  rw [hcs] at this
  exact this
theorem tab_sz {w : World} {v : Value} {t : List Tab.C} (h : TabAt w v t) : ∀ c ∈ t, c.name.size ≤ maxLen ∧ c.super.size ≤ maxLen := by
  intro x hx
  obtain ⟨a, c, _, _, _, q⟩ := h
  obtain ⟨i, hi, rfl⟩ := List.getElem_of_mem hx
  obtain ⟨b, o, _, r⟩ := q i _ (List.getElem?_eq_getElem hi)
  exact r.2.2.2.2
end Go.Proofs.YthooiofaicdhgaaGreatDoor
