/- slices.IndexFunc and slices.DeleteFunc at members, with a view's hides: what is not shown goes. -/
import Derived.Test.YtdceafncncgfbaaDoorCtr
import Derived.Laws.CopyRow
set_option linter.unusedSimpArgs false
set_option linter.unusedVariables false
set_option maxRecDepth 100000
namespace Go.Proofs.YtdceafncncgfbaaDoor
open Go.ChangeShapes Go.WideShapes Go.ChangeAt Go.RowKit Go.Shelf

/-- The first that is not in S. -/
def firstOut (S : List Mbr) : List Mbr → Option Nat
  | [] => none
  | p :: r => if p ∈ S then (firstOut S r).map (· + 1) else some 0
theorem firstOut_none {S : List Mbr} : ∀ {l : List Mbr}, firstOut S l = none → ∀ p ∈ l, p ∈ S
  | [], _, p, h => by simp at h
  | x :: r, h, p, hp => by
    unfold firstOut at h
    split at h
    · rename_i hx
      rcases List.mem_cons.1 hp with rfl | hp
      · exact hx
      · exact firstOut_none (by simpa using h) p hp
    · cases h
theorem firstOut_some {S : List Mbr} : ∀ {l : List Mbr} {i : Nat}, firstOut S l = some i → (∀ p ∈ l.take i, p ∈ S) ∧ ∃ p, l[i]? = some p ∧ p ∉ S
  | [], _, h => by cases h
  | x :: r, i, h => by
    unfold firstOut at h
    split at h
    · rename_i hx
      obtain ⟨j, hj, rfl⟩ := Option.map_eq_some_iff.1 h
      obtain ⟨h1, p, h2, h3⟩ := firstOut_some hj
      refine ⟨fun q hq => ?_, p, by simpa using h2, h3⟩
      rw [List.take_succ_cons] at hq
      rcases List.mem_cons.1 hq with rfl | hq
      · exact hx
      · exact h1 q hq
    · rename_i hx
      injection h with h
      subst h
      exact ⟨by simp, x, by simp, hx⟩
theorem firstOut_ext {S : List Mbr} : ∀ (l : List Mbr) (j : Nat), (∀ p ∈ l.take j, p ∈ S) → ∀ p, l[j]? = some p → p ∉ S → firstOut S l = some j
  | [], j, _, p, h, _ => by simp at h
  | x :: r, 0, _, p, h, hn => by
    simp at h; subst h
    unfold firstOut
    rw [if_neg hn]
  | x :: r, j + 1, ht, p, h, hn => by
    unfold firstOut
    rw [if_pos (ht x (by simp)), firstOut_ext r j (fun q hq => ht q (by simp [hq])) p (by simpa using h) hn]
    rfl
theorem firstOut_all {S : List Mbr} : ∀ (l : List Mbr), (∀ p ∈ l, p ∈ S) → firstOut S l = none
  | [], _ => rfl
  | x :: r, h => by
    unfold firstOut
    rw [if_pos (h x (by simp)), firstOut_all r fun p hp => h p (by simp [hp])]
    rfl
def outV (o : Option Nat) : Int := match o with | some i => i | none => -1

abbrev hidV (g : Nat) : Value := .func (.func 34) #[.pointer (some ⟨g, 0, none⟩)] #[]
theorem eg_hides : ∀ args w, (callFunc 34 args).run Tryd.prog w = .ok (.enter 34 args) w := enters_of Tryd.func34 (by kernel_rfl) rfl

set_option maxHeartbeats 4000000 in
theorem indexf_c (g b n : Nat) (v0 v2 : Value) (S l : List Mbr) (ra : Option Addr) (rc base : Nat) (w : World) (hg : Blk w g 91 #[v0, .map (some b), v2]) (hs : SetM b n S w) (hrow : w.ownsRow base tM 2 (.slice ra l.length rc) l.length (l.flatMap bCells)) (hf : ∀ p ∈ l, FineM p) (hl : l.length ≤ 2002000) :
    Calls Tryd.prog 59 #[.slice ra l.length rc, hidV g] w fun e w' => e = .returned (.int .i64 (outV (firstOut S l))) ∧ Kept w w' := by
  have HD := Lib.hid (fun W p (k : Kept w W) (hp : FineM p) => hides_c g b n v0 v2 S p W (hg.kept k) (hs.kept k) hp)
  have HR := Lib.hid hrow
  have HF := Lib.hid hf
  have eg := eg_hides
  clear hg hs hrow hf
  go_enter Tryd.func59, Tryd.ntmps59
  go_wp2_with fail
  go_loopw [8] (fun q wr => ∃ j : Nat, q = .int .i64 j ∧ j ≤ l.length ∧ Kept w wr ∧ ∀ p ∈ l.take j, p ∈ S) (fun q wr => l.length - (intOf q).toNat)
  case atStart => exact ⟨0, rfl, Nat.zero_le _, Kept.refl _, by simp⟩
  case round =>
    obtain ⟨j, rfl, hj, hk, hS⟩ := hrel
    by_cases hlt : j < l.length
    · have hltI : (j : Int) < (l.length : Int) := by omega
      have hx : l[j]? = some l[j] := List.getElem?_eq_getElem hlt
      have hfx := HF.out _ (List.getElem_mem hlt)
      generalize l[j] = x at hx hfx
      obtain ⟨xs, xn⟩ := x
      obtain ⟨g', rfl, _⟩ := row_cells HR.out (by omega)
      obtain ⟨c0, c1⟩ := mbr_at (owns_keptL HR.out hk) hx
      have HC := Lib.hid (HD.out wr (xs, xn) hk hfx)
      have HK := Lib.hid hk
      have HX := Lib.hid hx
      have HS := Lib.hid hS
      clear hk hx hfx hS
      by_cases hm : (xs, xn) ∈ S
      · rw [decide_eq_true hm] at HC
        have HM := Lib.hid (show ∀ p ∈ l.take (j + 1), p ∈ S from fun p hp => by
          rw [List.take_add_one, HX.out] at hp
          rcases List.mem_append.1 hp with h | h
          · exact HS.out p h
          · simp at h; subst h; exact hm)
        go_wp2_with fail
        refine HC.out.mono ?_
        rintro e w2 ⟨rfl, k2⟩
        have HK2 := Lib.hid (HK.out.trans k2)
        clear k2
        go_wp2_with fail
        go_roundw
        case rel => exact ⟨j + 1, by go_num, by omega, HK2.out, HM.out⟩
        case measure => simp [intOf]; omega
      · rw [decide_eq_false hm] at HC
        have HE := Lib.hid (firstOut_ext l j HS.out _ HX.out hm)
        go_wp2_with fail
        refine HC.out.mono ?_
        rintro e w2 ⟨rfl, k2⟩
        have HK2 := Lib.hid (HK.out.trans k2)
        clear k2
        go_wp2_with fail
        go_ret
        exact ⟨by rw [HE.out]; rfl, HK2.out⟩
    · have hltI : ¬ (j : Int) < (l.length : Int) := by omega
      obtain rfl : j = l.length := by omega
      rw [List.take_length] at hS
      have HE := Lib.hid (firstOut_all l hS)
      have HK := Lib.hid hk
      clear hS hk
      go_wp2_with fail
      go_ret
      exact ⟨by rw [HE.out]; rfl, HK.out⟩

def elAt (cur : Array Value) (k : Nat) (p : Mbr) : Prop := cur[k * 2]? = some (.string p.1) ∧ cur[k * 2 + 1]? = some (.int .i64 p.2)
/-- On the way: the first i are those of the first j that are in S; from j on all is as it was. -/
structure DfI (S l : List Mbr) (g cap j i : Nat) (cur : Array Value) (W : World) : Prop where
  blk : Blk W g tM cur
  siz : cur.size = cap * 2
  i_eq : i = ((l.take j).filter fun p => decide (p ∈ S)).length
  lo : ∀ k p, ((l.take j).filter fun p => decide (p ∈ S))[k]? = some p → elAt cur k p
  hi : ∀ k p, j ≤ k → l[k]? = some p → elAt cur k p
  lt : i < j
theorem DfI.kept {S l : List Mbr} {g cap j i : Nat} {cur : Array Value} {W W' : World} (h : DfI S l g cap j i cur W) (k : Kept W W') : DfI S l g cap j i cur W' := ⟨h.blk.kept k, h.siz, h.i_eq, h.lo, h.hi, h.lt⟩
theorem take_filter {S l : List Mbr} {j : Nat} {p : Mbr} (h : l[j]? = some p) : (l.take (j + 1)).filter (fun p => decide (p ∈ S)) = (l.take j).filter (fun p => decide (p ∈ S)) ++ if p ∈ S then [p] else [] := by
  rw [List.take_add_one, h, List.filter_append]
  congr 1
  by_cases hp : p ∈ S
  · simp [hp]
  · simp [hp]
theorem DfI.skip {S l : List Mbr} {g cap j i : Nat} {cur : Array Value} {W : World} (h : DfI S l g cap j i cur W) {p : Mbr} (hp : l[j]? = some p) (hn : p ∉ S) : DfI S l g cap (j + 1) i cur W := by
  have e : (l.take (j + 1)).filter (fun p => decide (p ∈ S)) = (l.take j).filter (fun p => decide (p ∈ S)) := by rw [take_filter hp, if_neg hn, List.append_nil]
  exact ⟨h.blk, h.siz, by rw [e]; exact h.i_eq, by rw [e]; exact h.lo, fun k q hk => h.hi k q (by omega), by have := h.lt; omega⟩
theorem DfI.keep {S l : List Mbr} {g cap j i : Nat} {cur : Array Value} {W : World} (h : DfI S l g cap j i cur W) {p : Mbr} (hp : l[j]? = some p) (hm : p ∈ S) (hj : j < cap) :
    DfI S l g cap (j + 1) (i + 1) ((cur.setIfInBounds (i * 2) (.string p.1)).setIfInBounds (i * 2 + 1) (.int .i64 p.2)) ((W.setCell ⟨g, i * 2, none⟩ (.string p.1)).setCell ⟨g, i * 2 + 1, none⟩ (.int .i64 p.2)) := by
  have e : (l.take (j + 1)).filter (fun p => decide (p ∈ S)) = (l.take j).filter (fun p => decide (p ∈ S)) ++ [p] := by rw [take_filter hp, if_pos hm]
  have hs := h.siz
  have hlt := h.lt
  have far : ∀ k q, k ≠ i → elAt cur k q → elAt ((cur.setIfInBounds (i * 2) (.string p.1)).setIfInBounds (i * 2 + 1) (.int .i64 p.2)) k q := fun k q hk hq => by
    refine ⟨?_, ?_⟩
    · rw [Array.getElem?_setIfInBounds_ne (by omega), Array.getElem?_setIfInBounds_ne (by omega)]; exact hq.1
    · rw [Array.getElem?_setIfInBounds_ne (by omega), Array.getElem?_setIfInBounds_ne (by omega)]; exact hq.2
  refine ⟨(h.blk.put _ _).put _ _, by simp [hs], by rw [e, List.length_append, ← h.i_eq]; rfl, fun k q hq => ?_, fun k q hk hq => far k q (by omega) (h.hi k q (by omega) hq), by omega⟩
  rw [e] at hq
  by_cases hk : k < ((l.take j).filter fun p => decide (p ∈ S)).length
  · rw [List.getElem?_append_left hk] at hq
    exact far k q (by have := h.i_eq; omega) (h.lo k q hq)
  · rw [List.getElem?_append_right (by omega)] at hq
    have hk0 : k = i := by
      have := h.i_eq
      have := (List.getElem?_eq_some_iff.1 hq).1
      simp at this
      omega
    subst hk0
    rw [← h.i_eq, Nat.sub_self] at hq
    simp at hq
    subst hq
    refine ⟨?_, ?_⟩
    · rw [Array.getElem?_setIfInBounds_ne (by omega), Array.getElem?_setIfInBounds_self_of_lt (by omega)]
    · rw [Array.getElem?_setIfInBounds_self_of_lt (by simp; omega)]

/-- Members that can be read. -/
def MbsAt (W : World) (a : Option Addr) (l : List Mbr) : Prop := ∀ k p, l[k]? = some p → ∃ g, a = some ⟨g, 0, none⟩ ∧ W.cell? ⟨g, k * 2, none⟩ = some (.string p.1) ∧ W.cell? ⟨g, k * 2 + 1, none⟩ = some (.int .i64 p.2)
theorem MbsAt.kept {W W' : World} {a : Option Addr} {l : List Mbr} (h : MbsAt W a l) (k : Kept W W') : MbsAt W' a l := fun i p hp => by
  obtain ⟨g, e, c0, c1⟩ := h i p hp
  exact ⟨g, e, k.cell c0, k.cell c1⟩
theorem MbsAt.of_row {W : World} {base n c : Nat} {a : Option Addr} {l : List Mbr} (h : W.ownsRow base tM 2 (.slice a n c) l.length (l.flatMap bCells)) : MbsAt W a l := fun k p hp => by
  rcases h.2 with ⟨e, e2⟩ | ⟨g, cap, cur, e, _⟩
  · rw [List.eq_nil_of_length_eq_zero e2] at hp; simp at hp
  · injection e with e
    subst e
    obtain ⟨c0, c1⟩ := mbr_at h hp
    exact ⟨g, rfl, c0, c1⟩
theorem member_elem : Tryd.prog.elem 29 = tM := by kernel_rfl
theorem zero_mbr (W : World) : (zeroValue tM).run Tryd.prog W = .ok (.agg #[.string ⟨#[]⟩, .int .i64 0]) W := by kernel_rfl

theorem zc2_len (n : Nat) : (Builtin.zeroCells #[Value.string ⟨#[]⟩, .int .i64 0] n).toList.length = n * 2 := by simp [Builtin.zeroCells]
theorem zc2_one (n : Nat) : ∀ v ∈ (Builtin.zeroCells #[Value.string ⟨#[]⟩, .int .i64 0] n).toList, v.oneCell' = true := by
  intro v hv
  simp only [Builtin.zeroCells] at hv
  obtain ⟨i, hi, rfl⟩ := List.mem_iff_getElem.1 hv
  simp
  have : i % 2 = 0 ∨ i % 2 = 1 := by omega
  rcases this with h | h <;> rw [h] <;> rfl
theorem clear_run {W : World} {g i m c : Nat} {cur : Array Value} (ty : TypeId) (hb : Blk W g tM cur) (hsz : (i + m) * 2 ≤ cur.size) (hm : 0 < m) :
    ∃ W', (Builtin.clear_ #[29] ty #[.slice (some ⟨g, i * 2, none⟩) m c]).run Tryd.prog W = .ok (.tuple #[]) W' ∧ (∃ cur', Blk W' g tM cur' ∧ ∀ k, k < i * 2 → cur'[k]? = cur[k]?) ∧ Only (· = g) W W' := by
  have hst := run_storeCells_at Tryd.prog g (i * 2) tM (Builtin.zeroCells #[Value.string ⟨#[]⟩, .int .i64 0] m).toList 0 cur W hb (by rw [zc2_len]; omega) (zc2_one m)
  obtain ⟨lst, hlst⟩ : ∃ lst, (Builtin.zeroCells #[Value.string ⟨#[]⟩, .int .i64 0] m).toList = lst := ⟨_, rfl⟩
  rw [hlst] at hst
  obtain ⟨Z, hZ⟩ : ∃ Z, W.setRow g (cur.toList.take (i * 2 + 0) ++ lst ++ cur.toList.drop (i * 2 + 0 + lst.length)).toArray = Z := ⟨_, rfl⟩
  rw [hZ] at hst
  obtain ⟨m', rfl⟩ : ∃ m', m = m' + 1 := ⟨m - 1, by omega⟩
  refine ⟨Z, by simp [Builtin.clear_, run_underlying Tryd.underlying29, zero_mbr, Value.cells, hlst, hst], ⟨_, by rw [← hZ]; exact setRow_heap W g cur _ tM _ hb, fun k hk => ?_⟩, ?_⟩
  · simp only [Nat.add_zero, List.getElem?_toArray, List.append_assoc]
    rw [List.getElem?_append_left (by simp; omega), List.getElem?_take_of_lt hk]
    simp
  · rw [← hZ]
    exact ⟨rfl, rfl, by simp, fun k hk hn => setRow_other W g k _ hn⟩

theorem slice_from {W : World} {g n cap i : Nat} (hi : i < n) (hc : n ≤ cap) : (Instr.slice 29 (.slice (some ⟨g, 0, none⟩) n cap) (some (.int .i64 (i : Int))) none none).run Tryd.prog W = .ok (.slice (some ⟨g, i * 2, none⟩) (n - i) (cap - i)) W := by
  have hu : Tryd.prog.underlying 29 = some (.slice (Tryd.prog.elem 29)) := by kernel_rfl
  have hs : ∀ W, (sizeOf (Tryd.prog.elem 29)).run Tryd.prog W = .ok 2 W := fun W => by rw [member_elem]; kernel_rfl
  rw [run_slice_l (t := 29) (a := some ⟨g, 0, none⟩) (len := n) (cap := cap) W hu .i64 (i : Int) (by omega) (by omega), hs]
  show Result.ok (sliced (some ⟨g, 0, none⟩) ((i : Int)).toNat n cap 2) W = _
  rw [Int.toNat_natCast]
  unfold sliced
  rw [if_neg (by omega)]
  simp [addr_plain]
theorem slice_to {W : World} {g n cap i : Nat} (hi : i < n) (hc : n ≤ cap) : (Instr.slice 29 (.slice (some ⟨g, 0, none⟩) n cap) none (some (.int .i64 (i : Int))) none).run Tryd.prog W = .ok (.slice (some ⟨g, 0, none⟩) i cap) W := by
  have hu : Tryd.prog.underlying 29 = some (.slice (Tryd.prog.elem 29)) := by kernel_rfl
  have hs : ∀ W, (sizeOf (Tryd.prog.elem 29)).run Tryd.prog W = .ok 2 W := fun W => by rw [member_elem]; kernel_rfl
  rw [run_slice_h (t := 29) (a := some ⟨g, 0, none⟩) (len := n) (cap := cap) W hu .i64 (i : Int) (by omega) (by omega), hs]
  show Result.ok (sliced (some ⟨g, 0, none⟩) 0 ((i : Int)).toNat cap 2) W = _
  rw [Int.toNat_natCast]
  unfold sliced
  rw [if_neg (by omega)]
  simp [addr_plain]

def DelPost (l : List Mbr) (w : World) (own : Option Nat) (e : Ending) (w' : World) : Prop := ∃ a c, e = .returned (.slice a l.length c) ∧ MbsAt w' a l ∧ (∀ q, (Value.slice a l.length c).ownBlock = some q → own = some q) ∧ Only (fun k => own = some k) w w'

set_option maxHeartbeats 8000000 in
theorem deletef_c (g b n : Nat) (v0 v2 : Value) (S l : List Mbr) (ra : Option Addr) (rc base : Nat) (w : World) (hg : Blk w g 91 #[v0, .map (some b), v2]) (hs : SetM b n S w) (hrow : w.ownsRow base tM 2 (.slice ra l.length rc) l.length (l.flatMap bCells)) (hf : ∀ p ∈ l, FineM p) (hl : l.length ≤ 2002000) :
    Calls Tryd.prog 33 #[.slice ra l.length rc, hidV g] w (DelPost (l.filter fun p => decide (p ∈ S)) w (Value.slice ra l.length rc).ownBlock) := by
  have HI := Lib.hid (indexf_c g b n v0 v2 S l ra rc base w hg hs hrow hf hl)
  have HF := Lib.hid hf
  have eg := eg_hides
  cases ho : firstOut S l with
  | none =>
    have HA := Lib.hid (show (l.filter fun p => decide (p ∈ S)) = l from List.filter_eq_self.2 fun p hp => decide_eq_true (firstOut_none ho p hp))
    have HM := Lib.hid (MbsAt.of_row hrow)
    rw [ho] at HI
    simp only [outV] at HI
    clear hg hs hrow hf ho
    rw [HA.out]
    go_enter Tryd.func33, Tryd.ntmps33
    go_wp2_with fail
    refine HI.out.mono ?_
    rintro e w1 ⟨rfl, k1⟩
    have HK1 := Lib.hid k1
    clear k1
    go_wp2_with fail
    go_ret
    exact ⟨ra, rc, rfl, HM.out.kept HK1.out, fun q h => h, Only.of_kept HK1.out⟩
  | some i0 =>
    obtain ⟨h1, p0, h2, h3⟩ := firstOut_some ho
    rw [ho] at HI
    simp only [outV] at HI
    have hi0 : i0 < l.length := (List.getElem?_eq_some_iff.1 h2).1
    rcases hrow.2 with ⟨e, e2⟩ | ⟨gr, cap, cur, e, hbase, hblk, hnc, hcm, hsz, htk⟩
    · omega
    injection e with e1 e3 e4
    subst e1 e4
    have hgne : g ≠ gr := fun e => blk_ne hg hblk (by decide) e
    have hbne : b ≠ gr := fun e => blk_ne_map hblk hs e.symm
    have hst : DfI S l gr rc (i0 + 1) i0 cur w := by
      have e : (l.take (i0 + 1)).filter (fun p => decide (p ∈ S)) = l.take i0 := by
        rw [take_filter h2, if_neg h3, List.append_nil]
        exact List.filter_eq_self.2 fun p hp => decide_eq_true (h1 p hp)
      have hel : ∀ k p, l[k]? = some p → elAt cur k p := fun k p hp => by
        obtain ⟨c0, c1⟩ := mbr_at hrow hp
        have hb : Blk w gr tM cur := hblk
        rw [hb.cell] at c0 c1
        exact ⟨c0, c1⟩
      refine ⟨hblk, hsz, by rw [e]; simp; omega, fun k p hp => ?_, fun k p _ hp => hel k p hp, by omega⟩
      rw [e] at hp
      rw [List.getElem?_take] at hp
      split at hp
      · exact hel k p hp
      · cases hp
    have HST := Lib.hid hst
    have HD := Lib.hid (fun W p (k : Only (· = gr) w W) (hp : FineM p) => hides_c g b n v0 v2 S p W (hg.only k hgne) (hs.only k hbne) hp)
    have HNC := Lib.hid hnc
    have HIL := Lib.hid hi0
    clear hg hs hrow hf ho h1 h2 h3 hbase hblk hcm hsz htk hst hbne hgne
    go_enter Tryd.func33, Tryd.ntmps33
    go_wp2_with fail
    refine HI.out.mono ?_
    rintro e w1 ⟨rfl, k1⟩
    have HK1 := Lib.hid k1
    have hne : ((i0 : Int) == -1) = false := by simp
    clear k1
    go_wp2_with fail
    go_loopw [5, 6, 7] (fun s5 s6 s7 wr => ∃ (i j : Nat) (cr : Array Value), s5 = .int .i64 i ∧ s6 = .int .i64 j ∧ j ≤ l.length ∧ DfI S l gr rc j i cr wr ∧ Only (· = gr) w wr) (fun s5 s6 s7 wr => l.length - (intOf s6).toNat)
    case atStart => exact ⟨i0, i0 + 1, cur, rfl, by go_num, by omega, HST.out.kept HK1.out, Only.of_kept HK1.out⟩
    case round =>
      obtain ⟨i, j, cr, rfl, rfl, hj, hI, hO⟩ := hrel
      have hij := hI.lt
      by_cases hlt : j < l.length
      · have hltI : (j : Int) < (l.length : Int) := by omega
        have hx : l[j]? = some l[j] := List.getElem?_eq_getElem hlt
        have hfx := HF.out _ (List.getElem_mem hlt)
        generalize l[j] = x at hx hfx
        obtain ⟨xs, xn⟩ := x
        obtain ⟨e0, e1⟩ := hI.hi j _ (Nat.le_refl _) hx
        have c0 := hI.blk.cell (j * 2)
        have c1 := hI.blk.cell (j * 2 + 1)
        rw [e0] at c0
        rw [e1] at c1
        obtain ⟨W2, hW2⟩ : ∃ W, wr.alloc (.cells #[.string xs, .int .i64 xn] tM) = W := ⟨_, rfl⟩
        have k2 : Kept wr W2 := by rw [← hW2]; exact (Kept.refl _).alloc _
        have b2 : Blk W2 wr.heap.size tM #[.string xs, .int .i64 xn] := by rw [← hW2]; exact Blk.new _ _ _
        have hC := HD.out W2 (xs, xn) (hO.trans (Only.of_kept k2)) hfx
        have y0 := b2.cell 0
        have y1 := b2.cell 1
        simp at y0 y1
        have HI2 := Lib.hid (hI.kept k2)
        have HO2 := Lib.hid (hO.trans (Only.of_kept k2))
        have HB2 := Lib.hid b2
        have HX := Lib.hid hx
        have HW2 := Lib.hid hW2
        have hgl := hI.blk.lt
        clear hI hO hx hfx e0 e1 k2 b2 hW2
        by_cases hm : (xs, xn) ∈ S
        · rw [decide_eq_true hm] at hC
          go_wp2_with (first | rw [HW2.out])
          refine hC.mono ?_
          rintro e w3 ⟨rfl, k3⟩
          have hI3 := HI2.out.kept k3
          have b3 := HB2.out.kept k3
          have y0 := b3.cell 0
          have y1 := b3.cell 1
          simp at y0 y1
          have hsz := hI3.siz
          have hin : i < rc := by have := HNC.out; omega
          have d0 : ∃ u, w3.cell? ⟨gr, i * 2, none⟩ = some u := by rw [hI3.blk.cell]; exact ⟨_, Array.getElem?_eq_getElem (by omega)⟩
          have d1 : ∃ u, w3.cell? ⟨gr, i * 2 + 1, none⟩ = some u := by rw [hI3.blk.cell]; exact ⟨_, Array.getElem?_eq_getElem (by omega)⟩
          obtain ⟨u0, d0⟩ := d0
          obtain ⟨u1, d1⟩ := d1
          have f0 := hI3.blk.frozen (i * 2)
          have f1 := hI3.blk.frozen (i * 2 + 1)
          have hiI : (i : Int) < (l.length : Int) := by omega
          have HN := Lib.hid (hI3.keep HX.out hm (by have := HNC.out; omega))
          have HO3 := Lib.hid ((((HO2.out.trans (Only.of_kept k3)).put (i * 2) (.string xs)).put (i * 2 + 1) (.int .i64 xn)))
          clear hI3 b3 k3
          go_wp2_with fail
          go_roundw
          case rel => exact ⟨i + 1, j + 1, _, by go_num, by go_num, by omega, HN.out, HO3.out⟩
          case measure => simp [intOf]; omega
        · rw [decide_eq_false hm] at hC
          go_wp2_with (first | rw [HW2.out])
          refine hC.mono ?_
          rintro e w3 ⟨rfl, k3⟩
          have HN := Lib.hid ((HI2.out.kept k3).skip HX.out hm)
          have HO3 := Lib.hid (HO2.out.trans (Only.of_kept k3))
          clear k3
          go_wp2_with fail
          go_roundw
          case rel => exact ⟨i, j + 1, _, rfl, by go_num, by omega, HN.out, HO3.out⟩
          case measure => simp [intOf]; omega
      · have hltI : ¬ (j : Int) < (l.length : Int) := by omega
        obtain rfl : j = l.length := by omega
        have hs1 := fun W => slice_from (W := W) (g := gr) (n := l.length) (cap := rc) (i := i) hij HNC.out
        have hs2 := fun W => slice_to (W := W) (g := gr) (n := l.length) (cap := rc) (i := i) hij HNC.out
        have hcl := fun ty => clear_run (c := rc - i) (i := i) (m := l.length - i) ty hI.blk (by have := hI.siz; have := HNC.out; omega) (by omega)
        obtain ⟨Z, hz, ⟨cz, hbz, hcz⟩, hoz⟩ := hcl 0
        have HI := Lib.hid hI
        have HO := Lib.hid hO
        have HZ := Lib.hid (And.intro hbz (And.intro hcz hoz))
        clear hI hO hcl hbz hcz hoz
        go_wp2_with fail
        go_ret
        have hlo := HI.out.lo
        have hie := HI.out.i_eq
        rw [List.take_length] at hlo hie
        refine ⟨some ⟨gr, 0, none⟩, rc, by rw [← hie]; rfl, fun k p hp => ⟨gr, rfl, ?_⟩, fun q hq => by simpa [Value.ownBlock] using hq, (HO.out.mono fun k _ e => by rw [e]; rfl).trans (HZ.out.2.2.mono fun k _ e => by rw [e]; rfl)⟩
        have hk : k < i := by
          have := (List.getElem?_eq_some_iff.1 hp).1
          omega
        obtain ⟨e0, e1⟩ := hlo k p hp
        rw [HZ.out.1.cell, HZ.out.1.cell, HZ.out.2.1 _ (by omega), HZ.out.2.1 _ (by omega)]
        exact ⟨e0, e1⟩
end Go.Proofs.YtdceafncncgfbaaDoor
