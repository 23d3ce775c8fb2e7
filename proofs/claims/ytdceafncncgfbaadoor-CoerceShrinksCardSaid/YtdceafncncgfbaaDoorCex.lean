/- Leave, Enter, Cast, Inward, Outward. -/
import Derived.Test.YtdceafncncgfbaaDoorCsd
set_option linter.unusedSimpArgs false
set_option linter.unusedVariables false
set_option maxRecDepth 100000
namespace Go.Proofs.YtdceafncncgfbaaDoor
open Go.ChangeShapes Go.WideShapes Go.ChangeAt Go.RowKit Go.Shelf

namespace Co
def leaveR (x : Vw) (l : List Ly) (a : ByteArray) (lab : Int) : Except Int (List Ly) := .ok (wrapL x l ⟨false, a, lab⟩)
def enterR (t : List Tab.C) (x : Vw) (l : List Ly) (b : ByteArray) (lab : Int) : Except Int (List Ly) := if fitsB t x l b = true then .ok (wrapL x l ⟨true, b, lab⟩) else .error lab
def castR (t : List Tab.C) (x : Vw) (l : List Ly) (s u : ByteArray) (lab : Int) : Except Int (List Ly) := enterR t x (wrapL x l ⟨false, s, wrap64 (-lab)⟩) u lab
def goR (t : List Tab.C) (x : Vw) (ty : ByteArray → Option ByteArray) (back : Bool) (y : Vw) (L l : List Ly) : Except Int (List Ly) := if y.tag = 7 then passL t x ty back (wayY back L) l else .ok l
theorem leaveR_len {x : Vw} {l l' : List Ly} {a : ByteArray} {lab : Int} (h : leaveR x l a lab = .ok l') : l'.length ≤ l.length + 1 := by
  injection h with h; rw [← h]; exact wrapL_len _ _ _
theorem enterR_len {t : List Tab.C} {x : Vw} {l l' : List Ly} {a : ByteArray} {lab : Int} (h : enterR t x l a lab = .ok l') : l'.length ≤ l.length + 1 := by
  unfold enterR at h
  split at h
  · injection h with h; rw [← h]; exact wrapL_len _ _ _
  · cases h
theorem castR_len {t : List Tab.C} {x : Vw} {l l' : List Ly} {s u : ByteArray} {lab : Int} (h : castR t x l s u lab = .ok l') : l'.length ≤ l.length + 2 := by
  have := enterR_len h
  have := wrapL_len x l ⟨false, s, wrap64 (-lab)⟩
  omega
theorem goR_len {t : List Tab.C} {x y : Vw} {ty : ByteArray → Option ByteArray} {back : Bool} {L l l' : List Ly} (h : goR t x ty back y L l = .ok l') : l'.length ≤ l.length + L.length := by
  unfold goR at h
  split at h
  · have := passL_len _ _ _ h
    rwa [wayY_len] at this
  · injection h with h; subst h; omega
end Co

section
variable {bs : List Nat} {B : Nat} {x : Vw} {l : List Ly} {a : Option Addr} {cp : Nat} {t : List Tab.C} {came : Int}

theorem leave1_c (ba bl : Nat) (s : ByteArray) (lab : Int) (w0 w : World) (c1 : w.cell? ⟨ba, 0, none⟩ = some (.string s)) (c2 : w.cell? ⟨bl, 0, none⟩ = some (.int .i64 lab)) (h : TrAt bs [] B x l (.slice a t.length cp) t came w) (E : Env w0 a cp t) (h0 : At0 w0 bs w) (hb : s.size ≤ maxLen) (hl : l.length ≤ 100000) :
    Calls Tryd.prog 37 #[.pointer (some ⟨B, 0, none⟩), .pointer (some ⟨ba, 0, none⟩), .pointer (some ⟨bl, 0, none⟩)] w (PassPost bs B x (.slice a t.length cp) t came (Co.leaveR x l s lab) w) := by
  have HL := Lib.hid (leave_c s lab w0 w h E h0 hb hl)
  clear h E h0 hb hl
  unfold Co.leaveR PassPost
  go_enter Tryd.func37, Tryd.ntmps37
  go_wp2_with fail
  refine HL.out.mono ?_
  rintro e w1 ⟨rfl, hp⟩
  go_wp2_with fail
  go_end0
  exact ⟨rfl, hp⟩

theorem enter1_c (ba bl : Nat) (s : ByteArray) (lab : Int) (w0 w : World) (c1 : w.cell? ⟨ba, 0, none⟩ = some (.string s)) (c2 : w.cell? ⟨bl, 0, none⟩ = some (.int .i64 lab)) (h : TrAt bs [] B x l (.slice a t.length cp) t came w) (E : Env w0 a cp t) (h0 : At0 w0 bs w) (hb : s.size ≤ maxLen) (hs : x.s.size ≤ maxLen) (hl : l.length ≤ 100000) :
    Calls Tryd.prog 54 #[.pointer (some ⟨B, 0, none⟩), .pointer (some ⟨ba, 0, none⟩), .pointer (some ⟨bl, 0, none⟩)] w (PassPost bs B x (.slice a t.length cp) t came (Co.enterR t x l s lab) w) := by
  have HL := Lib.hid (enter_c s lab w0 w h E h0 hb hs hl)
  clear h E h0 hb hl hs
  obtain ⟨r, hr⟩ : ∃ r, Co.enterR t x l s lab = r := ⟨_, rfl⟩
  rw [hr]
  have HE := Lib.hid hr
  clear hr
  go_enter Tryd.func54, Tryd.ntmps54
  go_wp2_with fail
  refine HL.out.mono ?_
  rintro e w1 (⟨hf, rfl, hp⟩ | ⟨hf, rfl, hp⟩)
  · have HR := Lib.hid (show PassPost bs B x (.slice a t.length cp) t came r w (.returned (.tuple #[])) w1 from by rw [← HE.out, Co.enterR, if_pos hf]; exact ⟨rfl, hp⟩)
    clear hf hp
    go_wp2_with fail
    go_end0
    exact HR.out
  · have HR := Lib.hid (show PassPost bs B x (.slice a t.length cp) t came r w (.panicked (blameV lab)) w1 from by rw [← HE.out, Co.enterR, if_neg (by simp [hf])]; exact ⟨rfl, hp⟩)
    clear hf hp
    go_wp2_with fail
    exact ⟨rfl, HR.out⟩

set_option maxHeartbeats 4000000 in
theorem cast1_c (ba bl bu : Nat) (s u : ByteArray) (lab : Int) (w0 w : World) (c1 : w.cell? ⟨ba, 0, none⟩ = some (.string s)) (c2 : w.cell? ⟨bl, 0, none⟩ = some (.int .i64 lab)) (c3 : w.cell? ⟨bu, 0, none⟩ = some (.string u)) (hq : ba ∉ bs ∧ bl ∉ bs ∧ bu ∉ bs) (h : TrAt bs [] B x l (.slice a t.length cp) t came w) (E : Env w0 a cp t) (h0 : At0 w0 bs w) (hb : s.size ≤ maxLen) (hu : u.size ≤ maxLen) (hs : x.s.size ≤ maxLen) (hl : l.length ≤ 90000) :
    Calls Tryd.prog 48 #[.pointer (some ⟨B, 0, none⟩), .pointer (some ⟨ba, 0, none⟩), .pointer (some ⟨bl, 0, none⟩), .pointer (some ⟨bu, 0, none⟩)] w (PassPost bs B x (.slice a t.length cp) t came (Co.castR t x l s u lab) w) := by
  have HL := Lib.hid (leave_c s (wrap64 (-lab)) w0 w h E h0 hb (by omega))
  have HEN := Lib.hid (fun bs' W (ht : TrAt bs' [] B x (Co.wrapL x l ⟨false, s, wrap64 (-lab)⟩) (.slice a t.length cp) t came W) (h1 : At0 w0 bs' W) => enter_c u lab w0 W ht E h1 hu hs (by have := Co.wrapL_len x l ⟨false, s, wrap64 (-lab)⟩; omega))
  have H0 := Lib.hid (And.intro h0 hq)
  clear h E h0 hb hl hs hu hq
  obtain ⟨r, hr⟩ : ∃ r, Co.castR t x l s u lab = r := ⟨_, rfl⟩
  rw [hr]
  have HE := Lib.hid hr
  clear hr
  have HC := Lib.hid (And.intro c2 c3)
  go_enter Tryd.func48, Tryd.ntmps48
  go_wp2_with fail
  refine HL.out.mono ?_
  rintro e w1 ⟨rfl, bs', ht, hm⟩
  have d2 := hm.1.cellN HC.out.1 H0.out.2.2.1
  have d3 := hm.1.cellN HC.out.2 H0.out.2.2.2
  have HN := Lib.hid (HEN.out bs' w1 ht (H0.out.1.moved hm))
  have HM := Lib.hid hm
  clear ht hm c1 c2 c3
  go_wp2_with fail
  refine HN.out.mono ?_
  rintro e w2 (⟨hf, rfl, bs2, ht, hm⟩ | ⟨hf, rfl, bs2, hm⟩)
  · have HR := Lib.hid (show PassPost bs B x (.slice a t.length cp) t came r w (.returned (.tuple #[])) w2 from by rw [← HE.out, Co.castR, Co.enterR, if_pos hf]; exact ⟨rfl, bs2, ht, HM.out.trans hm⟩)
    clear hf ht hm
    go_wp2_with fail
    go_end0
    exact HR.out
  · have HR := Lib.hid (show PassPost bs B x (.slice a t.length cp) t came r w (.panicked (blameV lab)) w2 from by rw [← HE.out, Co.castR, Co.enterR, if_neg (by simp [hf])]; exact ⟨rfl, bs2, HM.out.trans hm⟩)
    clear hf hm
    go_wp2_with fail
    exact ⟨rfl, HR.out⟩
end

/-! ### The types that a table's members have -/
theorem foldOr_mem {α β : Type} (f : α → Option β) : ∀ (l : List α) (a : Option β) (r : β), l.foldl (fun a i => (f i).or a) a = some r → a = some r ∨ ∃ i ∈ l, f i = some r
  | [], a, r, h => .inl h
  | i :: l, a, r, h => by
    rcases foldOr_mem f l _ r h with h | ⟨j, hj, h⟩
    · have h : (f i).or a = some r := h
      cases e : f i with
      | none => rw [e] at h; exact .inl h
      | some z => rw [e] at h; exact .inr ⟨i, by simp, by rw [e]; exact h⟩
    · exact .inr ⟨j, by simp [hj], h⟩
theorem field_size {w : World} {v : Value} {t : List Tab.C} {s nm r : ByteArray} (h : TabAt w v t) (hf : Tab.field t s nm = some r) : r.size ≤ maxLen := by
  obtain ⟨a, c, rfl, _, _, hat⟩ := h
  rcases foldOr_mem _ _ _ _ hf with h | ⟨i, hi, hfi⟩
  · cases h
  · obtain ⟨b, o, _, hc⟩ := hat i _ (Tab.of_nth (Tab.line_lt hi))
    obtain ⟨v, _, a', c', _, _, _, hfs⟩ := hc.2.2.1
    unfold Tab.fieldOf at hfi
    obtain ⟨k, _, hk⟩ := Option.bind_eq_some_iff.1 hfi
    obtain ⟨y, hy, rfl⟩ := Option.map_eq_some_iff.1 hk
    obtain ⟨b', o', _, hv⟩ := hfs k y hy
    exact hv.2.2.2
theorem method_size {w : World} {v : Value} {t : List Tab.C} {s nm own : ByteArray} {m : Tab.M} (h : TabAt w v t) (hf : Tab.method t s nm = some (m, own)) : m.res.size ≤ maxLen ∧ ∀ y ∈ m.params, y.typ.size ≤ maxLen := by
  obtain ⟨a, c, rfl, _, _, hat⟩ := h
  obtain ⟨i, hi, hfi⟩ := List.exists_of_findSome?_eq_some hf
  obtain ⟨m', hm, e⟩ := Option.map_eq_some_iff.1 hfi
  injection e with e1 e2
  subst e1
  obtain ⟨b, o, _, hc⟩ := hat i _ (Tab.of_nth (Tab.line_lt hi))
  obtain ⟨v, _, a', c', _, _, _, hms⟩ := hc.2.2.2.1
  unfold Tab.methodOf at hm
  obtain ⟨k, _, hk⟩ := Option.bind_eq_some_iff.1 hm
  obtain ⟨b', o', _, hv⟩ := hms k m' hk
  obtain ⟨pv, _, a2, c2, _, _, _, hps⟩ := hv.2.1
  refine ⟨hv.2.2.2.2, fun y hy => ?_⟩
  obtain ⟨j, hj⟩ := List.getElem?_of_mem hy
  obtain ⟨b2, o2, _, hvv⟩ := hps j y hj
  exact hvv.2.2.2
theorem taken_size {w : World} {v : Value} {t : List Tab.C} {c nm r : ByteArray} {p : Int} (h : TabAt w v t) (hf : Co.takenP t c nm p = some r) : r.size ≤ maxLen := by
  unfold Co.takenP at hf
  split at hf
  · rename_i s hs
    injection hf with hf
    subst hf
    exact field_size h hs
  · obtain ⟨⟨m, own⟩, hm, hp⟩ := Option.bind_eq_some_iff.1 hf
    unfold Co.parOf at hp
    split at hp
    · obtain ⟨y, hy, rfl⟩ := Option.map_eq_some_iff.1 hp
      exact (method_size h hm).2 y (List.mem_of_getElem? hy)
    · cases hp
theorem given_size {w : World} {v : Value} {t : List Tab.C} {c nm r : ByteArray} (h : TabAt w v t) (hf : Co.givenP t c nm = some r) : r.size ≤ maxLen := by
  unfold Co.givenP at hf
  split at hf
  · rename_i s hs
    injection hf with hf
    subst hf
    exact field_size h hs
  · obtain ⟨⟨m, own⟩, hm, rfl⟩ := Option.map_eq_some_iff.1 hf
    exact (method_size h hm).1

section
variable {bs : List Nat} {B : Nat} {x : Vw} {l : List Ly} {a : Option Addr} {cp : Nat} {t : List Tab.C} {came : Int}

theorem inward1_c (bv bt bm bp : Nat) (y : Vw) (ta : Option Addr) (tc : Nat) (L : List Ly) (nm : ByteArray) (p : Int) (w0 w : World)
    (hv : Blk w0 bv uT #[.int .i64 y.tag, .int .i64 y.n, .int .u64 y.bits, .string y.s, .slice ta L.length tc]) (c1 : w0.cell? ⟨bt, 0, none⟩ = some (.slice a t.length cp)) (c2 : w0.cell? ⟨bm, 0, none⟩ = some (.string nm)) (c3 : w0.cell? ⟨bp, 0, none⟩ = some (.int .i64 p)) (hp : -9223372036854775808 ≤ p ∧ p ≤ 9223372036854775807)
    (h : TrAt bs [] B x l (.slice a t.length cp) t came w) (E : Env w0 a cp t) (h0 : At0 w0 bs w) (hbl : ∀ k ∈ bs, k < w.heap.size) (hL : LysAt w0 (.slice ta L.length tc) L) (hs : x.s.size ≤ maxLen) (hl : l.length + L.length ≤ 100000) :
    Calls Tryd.prog 39 #[.pointer (some ⟨B, 0, none⟩), .pointer (some ⟨bv, 0, none⟩), .pointer (some ⟨bt, 0, none⟩), .pointer (some ⟨bm, 0, none⟩), .pointer (some ⟨bp, 0, none⟩)] w (PassPost bs B x (.slice a t.length cp) t came (Co.goR t x (fun c => Co.takenP t c nm p) true y L l) w) := by
  have HP := Lib.hid (pass_c (bs := bs) (B := B) (x := x) (l := l) (came := came) true y ta tc L 41 #[.pointer (some ⟨bt, 0, none⟩), .pointer (some ⟨bm, 0, none⟩), .pointer (some ⟨bp, 0, none⟩)] (fun c => Co.takenP t c nm p) w0 w
    (enters_of Tryd.func41 (by kernel_rfl) rfl) (fun c W k _ => taken1_c bt bm bp a cp t c nm p W (k.cell c1) (k.cell c2) (k.cell c3) (tab_kept E.tab k) E.small hp) (fun c s hs => taken_size E.tab hs) h E h0 hbl hL hs hl)
  obtain ⟨⟨x0, x1, x2, x3, x4⟩, _⟩ := blk5u (hv.kept h0.1)
  clear h E h0 hbl hL hs hl hv c1 c2 c3
  obtain ⟨r, hr⟩ : ∃ r, Co.goR t x (fun c => Co.takenP t c nm p) true y L l = r := ⟨_, rfl⟩
  rw [hr]
  unfold Co.goR at hr
  rw [hr] at HP
  clear hr
  go_enter Tryd.func39, Tryd.ntmps39
  go_wp2_with fail
  refine HP.out.mono ?_
  intro e w1 hpp
  cases r with
  | ok l' =>
    obtain ⟨rfl, hpp⟩ := hpp
    have HR := Lib.hid hpp
    clear hpp
    go_wp2_with fail
    go_end0
    exact ⟨rfl, HR.out⟩
  | error q =>
    obtain ⟨rfl, hpp⟩ := hpp
    have HR := Lib.hid hpp
    clear hpp
    go_wp2_with fail
    exact ⟨rfl, rfl, HR.out⟩

theorem outward1_c (bv bt bm : Nat) (y : Vw) (ta : Option Addr) (tc : Nat) (L : List Ly) (nm : ByteArray) (w0 w : World)
    (hv : Blk w0 bv uT #[.int .i64 y.tag, .int .i64 y.n, .int .u64 y.bits, .string y.s, .slice ta L.length tc]) (c1 : w0.cell? ⟨bt, 0, none⟩ = some (.slice a t.length cp)) (c2 : w0.cell? ⟨bm, 0, none⟩ = some (.string nm))
    (h : TrAt bs [] B x l (.slice a t.length cp) t came w) (E : Env w0 a cp t) (h0 : At0 w0 bs w) (hbl : ∀ k ∈ bs, k < w.heap.size) (hL : LysAt w0 (.slice ta L.length tc) L) (hs : x.s.size ≤ maxLen) (hl : l.length + L.length ≤ 100000) :
    Calls Tryd.prog 45 #[.pointer (some ⟨B, 0, none⟩), .pointer (some ⟨bv, 0, none⟩), .pointer (some ⟨bt, 0, none⟩), .pointer (some ⟨bm, 0, none⟩)] w (PassPost bs B x (.slice a t.length cp) t came (Co.goR t x (fun c => Co.givenP t c nm) false y L l) w) := by
  have HP := Lib.hid (pass_c (bs := bs) (B := B) (x := x) (l := l) (came := came) false y ta tc L 46 #[.pointer (some ⟨bt, 0, none⟩), .pointer (some ⟨bm, 0, none⟩)] (fun c => Co.givenP t c nm) w0 w
    (enters_of Tryd.func46 (by kernel_rfl) rfl) (fun c W k _ => given1_c bt bm a cp t c nm W (k.cell c1) (k.cell c2) (tab_kept E.tab k) E.small) (fun c s hs => given_size E.tab hs) h E h0 hbl hL hs hl)
  obtain ⟨⟨x0, x1, x2, x3, x4⟩, _⟩ := blk5u (hv.kept h0.1)
  clear h E h0 hbl hL hs hl hv c1 c2
  obtain ⟨r, hr⟩ : ∃ r, Co.goR t x (fun c => Co.givenP t c nm) false y L l = r := ⟨_, rfl⟩
  rw [hr]
  unfold Co.goR at hr
  rw [hr] at HP
  clear hr
  go_enter Tryd.func45, Tryd.ntmps45
  go_wp2_with fail
  refine HP.out.mono ?_
  intro e w1 hpp
  cases r with
  | ok l' =>
    obtain ⟨rfl, hpp⟩ := hpp
    have HR := Lib.hid hpp
    clear hpp
    go_wp2_with fail
    go_end0
    exact ⟨rfl, HR.out⟩
  | error q =>
    obtain ⟨rfl, hpp⟩ := hpp
    have HR := Lib.hid hpp
    clear hpp
    go_wp2_with fail
    exact ⟨rfl, rfl, HR.out⟩
end
end Go.Proofs.YtdceafncncgfbaaDoor
