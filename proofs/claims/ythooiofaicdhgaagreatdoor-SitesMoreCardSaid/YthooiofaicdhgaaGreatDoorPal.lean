/- The contracts of precision's small calls: always, have, has, all. The contract of precise.zip: whether one class has another one's members, and the pairs of types that this asks for. The contract of precise.classesOf: the members of all classes of a valid table. -/
import Derived.Test.YthooiofaicdhgaaGreatDoorPmp
import Derived.Test.YthooiofaicdhgaaGreatDoorNam
import Derived.Test.YthooiofaicdhgaaGreatDoorCsr
import Derived.Test.YthooiofaicdhgaaGreatDoorPmo
import Derived.Test.YthooiofaicdhgaaGreatDoorPcn
import Derived.Deep.QuietTactic
import Derived.BigQuiet
import Derived.Test.YthooiofaicdhgaaGreatDoorVla
set_option linter.unusedSimpArgs false
set_option linter.unusedVariables false
set_option maxRecDepth 100000
namespace Go.Proofs.YthooiofaicdhgaaGreatDoor
open Go.ChangeShapes Go.WideShapes Go.ChangeAt Go.RowKit Go.Shelf
open Go.Maps (Keyed)

def PrAt (w : World) (b o : Nat) (p : Tab.P2) : Prop := w.cell? ⟨b, o, none⟩ = some (.string p.1) ∧ w.cell? ⟨b, o + 1, none⟩ = some (.string p.2) ∧ Fine p
abbrev PrsAt (w : World) (v : Value) (l : List Tab.P2) : Prop := Row 2 PrAt w v l
theorem prs_kept {w w' : World} {v : Value} {l : List Tab.P2} (h : PrsAt w v l) (k : Kept w w') : PrsAt w' v l := h.mono fun _ _ _ r => ⟨k.cell r.1, k.cell r.2.1, r.2.2⟩
theorem Row.fine {w : World} {v : Value} {l : List Tab.P2} (h : PrsAt w v l) : ∀ p ∈ l, Fine p := by
  obtain ⟨_, _, _, _, _, q⟩ := h
  intro p hp
  obtain ⟨i, hi, rfl⟩ := List.getElem_of_mem hp
  obtain ⟨_, _, _, r⟩ := q i _ (List.getElem?_eq_getElem hi)
  exact r.2.2

/-- What a relation's map holds. -/
def NdV (v : Value) : Prop := ∃ h a n c k, v = .agg #[.bool h, .slice a n c, .int .i64 k]
theorem zero_needs (W : World) : (zeroValue 230).run Tryz.prog W = .ok (.agg #[.bool false, .slice none 0 0, .int .i64 0]) W := by kernel_rfl
theorem zero_members (W : World) : (zeroValue 187).run Tryz.prog W = .ok (.slice none 0 0) W := by kernel_rfl

/-- The classes of a table, in memory. -/
def ClM (t : List Tab.C) (ls : ByteArray → List (Tab.Mb ByteArray)) (b : Nat) (W : World) : Prop :=
  ∃ n f, MapF Tryz.prog 9 b n f W ∧ ∀ s, (f s).isSome = Tab.isC t s ∧ ∀ v, f s = some v → ∃ a c, v = .slice a (ls s).length c ∧ MbsAt W v (ls s)
theorem ClM.kept {t : List Tab.C} {ls : ByteArray → List (Tab.Mb ByteArray)} {b : Nat} {W W' : World} (h : ClM t ls b W) (k : Kept W W') : ClM t ls b W' := by
  obtain ⟨n, f, h1, h2⟩ := h
  refine ⟨n, f, h1.only (S := fun _ => False) (Only.of_kept k) (fun h => h), fun s => ⟨(h2 s).1, fun v hv => ?_⟩⟩
  obtain ⟨a, c, e, hm⟩ := (h2 s).2 v hv
  exact ⟨a, c, e, mbs_kept hm k⟩
theorem ClM.look {t : List Tab.C} {ls : ByteArray → List (Tab.Mb ByteArray)} {b : Nat} {W : World} (h : ClM t ls b W) {s : ByteArray} (hs : s.size ≤ maxLen) :
    ∃ v, (Instr.lookup 113 (.map (some b)) (.string s) true).run Tryz.prog W = .ok (.tuple #[v, .bool (Tab.isC t s)]) W := by
  obtain ⟨n, f, h1, h2⟩ := h
  have hr := MapF.look h1 (t := 113) (e := 187) (Maps.string_keyed Tryz.underlying9) Tryz.underlying113 (zero_members W) s (WideMaps.keyOf_string_mk Tryz.underlying9 hs)
  rw [(h2 s).1] at hr
  exact ⟨_, hr⟩
theorem ClM.look1 {t : List Tab.C} {ls : ByteArray → List (Tab.Mb ByteArray)} (hc : Tab.Cl t ls) {b : Nat} {W : World} (h : ClM t ls b W) {s : ByteArray} (hs : s.size ≤ maxLen) :
    ∃ a c, (Instr.lookup 113 (.map (some b)) (.string s) false).run Tryz.prog W = .ok (.slice a (ls s).length c) W ∧ MbsAt W (.slice a (ls s).length c) (ls s) := by
  obtain ⟨n, f, h1, h2⟩ := h
  have hr := MapF.look1 h1 (t := 113) (e := 187) (Maps.string_keyed Tryz.underlying9) Tryz.underlying113 (zero_members W) s (WideMaps.keyOf_string_mk Tryz.underlying9 hs)
  cases e : f s with
  | none =>
    have hi := (h2 s).1
    rw [e] at hi hr
    have hl := hc.none s hi.symm
    rw [hl]
    exact ⟨none, 0, hr, Row.nil⟩
  | some v =>
    rw [e] at hr
    obtain ⟨a, c, rfl, hm⟩ := (h2 s).2 v e
    exact ⟨a, c, hr, hm⟩

theorem always_c (s u : ByteArray) (w : World) :
    Calls Tryz.prog 157 #[.agg #[.string s, .string u]] w fun e w' => e = .returned (.bool (Tab.alw (s, u))) ∧ Kept w w' := by
  have ha : Tab.alw (s, u) = (decide (s = u) || decide (u = ⟨#[63]⟩)) := rfl
  rw [ha]
  by_cases h : s = u
  · have hq := beq_yes h
    rw [decide_eq_true h]
    clear h ha
    go_enter Tryz.func157, Tryz.ntmps157
    go_wp2
    go_ret
    exact ⟨rfl, (Kept.refl _).alloc _⟩
  · have hq := beq_no h
    rw [decide_eq_false h]
    clear h ha
    by_cases h2 : u = ⟨#[63]⟩
    · have hq2 := lit_yes (l := [63]) h2
      rw [decide_eq_true h2]
      clear h2
      go_enter Tryz.func157, Tryz.ntmps157
      go_wp2
      go_ret
      exact ⟨rfl, (Kept.refl _).alloc _⟩
    · have hq2 := lit_no (l := [63]) h2
      rw [decide_eq_false h2]
      clear h2
      go_enter Tryz.func157, Tryz.ntmps157
      go_wp2
      go_ret
      exact ⟨rfl, (Kept.refl _).alloc _⟩

theorem have_c (t : List Tab.C) (ls : ByteArray → List (Tab.Mb ByteArray)) (b : Nat) (s u : ByteArray) (w : World) (hM : ClM t ls b w) (hs : s.size ≤ maxLen) (hu : u.size ≤ maxLen) :
    Calls Tryz.prog 158 #[.map (some b), .agg #[.string s, .string u]] w fun e w' => e = .returned (.bool (Tab.both t (s, u))) ∧ Kept w w' := by
  have hb : Tab.both t (s, u) = (Tab.isC t s && Tab.isC t u) := rfl
  rw [hb]
  obtain ⟨v1, hl1⟩ := (hM.kept ((Kept.refl w).alloc (.cells #[.string s, .string u] 117))).look hs
  obtain ⟨v2, hl2⟩ := (hM.kept ((Kept.refl w).alloc (.cells #[.string s, .string u] 117))).look hu
  clear hM hb
  generalize Tab.isC t s = x at *
  generalize Tab.isC t u = y at *
  cases x <;> cases y <;> (
    go_enter Tryz.func158, Tryz.ntmps158
    go_wp2
    go_ret
    exact ⟨rfl, (Kept.refl _).alloc _⟩)

theorem hasP_c (b n : Nat) (D : List Tab.P2) (g : Tab.P2 → Value) (s u : ByteArray) (w : World) (hM : MapP b n D g w) (hp : Fine (s, u)) (hg : ∀ q ∈ D, NdV (g q)) :
    Calls Tryz.prog 161 #[.map (some b), .agg #[.string s, .string u]] w fun e w' => e = .returned (.bool (Tab.inP D (s, u))) ∧ Kept w w' := by
  have hl := (hM.kept ((Kept.refl w).alloc (.cells #[.string s, .string u] 117))).look (t := 190) (e := 230) Tryz.underlying190 (zero_needs _) hp
  have hv : ∃ h a n c k, (if Tab.inP D (s, u) = true then g (s, u) else .agg #[.bool false, .slice none 0 0, .int .i64 0]) = (.agg #[.bool h, .slice a n c, .int .i64 k] : Value) := by
    cases e : Tab.inP D (s, u) with
    | true =>
      obtain ⟨h, a, n, c, k, e'⟩ := hg _ (Tab.inP_iff.1 e)
      exact ⟨h, a, n, c, k, by simpa using e'⟩
    | false => exact ⟨false, none, 0, 0, 0, by simp⟩
  obtain ⟨h, a, m, c, k, e⟩ := hv
  rw [e] at hl
  have hl' : (Instr.lookup 190 (.map (some b)) (.agg #[.string s, .string u]) true).run Tryz.prog (w.alloc (.cells #[.string s, .string u] 117)) = .ok (.tuple #[.agg #[.bool h, .slice a m c, .int .i64 k], .bool (Tab.inP D (s, u))]) (w.alloc (.cells #[.string s, .string u] 117)) := hl
  clear hl e hM hg hp
  generalize Tab.inP D (s, u) = r at *
  go_enter Tryz.func161, Tryz.ntmps161
  go_wp2
  go_ret
  exact ⟨rfl, ((Kept.refl _).alloc _).alloc _⟩

theorem Row.emp {w : World} {a : Option Addr} : PrsAt w (.slice a 0 0) [] := ⟨a, 0, rfl, Nat.le_refl _, Nat.zero_le _, fun i x hx => by simp at hx⟩
theorem Row.tail {w : World} {b o c : Nat} {p : Tab.P2} {l : List Tab.P2} (h : PrsAt w (.slice (some ⟨b, o, none⟩) (l.length + 1) c) (p :: l)) : PrsAt w (.slice (some ⟨b, o + 2, none⟩) l.length (c - 1)) l := by
  obtain ⟨a', c', e, h1, h2, h3⟩ := h
  injection e with e1 _ e2
  subst e1 e2
  refine ⟨_, _, rfl, by simp at h1; omega, by omega, fun i x hx => ?_⟩
  obtain ⟨b', o', e, r⟩ := h3 (i + 1) x (by simpa using hx)
  injection e with e
  injection e with e1 e2
  subst e1 e2
  refine ⟨b, o + 2, rfl, ?_⟩
  have : o + 2 + i * 2 = o + (i + 1) * 2 := by omega
  rw [this]; exact r

set_option maxHeartbeats 4000000 in
theorem all_c (g : FuncId) (rv : Value) (f : Tab.P2 → Bool) (w0 : World) (hg : ∀ args w, (callFunc g args).run Tryz.prog w = .ok (.enter g args) w)
    (hf : ∀ s u W, Fine (s, u) → Kept w0 W → Calls Tryz.prog g #[rv, .agg #[.string s, .string u]] W fun e w' => e = .returned (.bool (f (s, u))) ∧ Kept W w') :
    ∀ (l : List Tab.P2) (a : Option Addr) (c : Nat) (W : World), PrsAt W (.slice a l.length c) l → Kept w0 W →
      Calls Tryz.prog 196 #[.slice a l.length c, .func (.func g) #[rv] #[]] W fun e w' => e = .returned (.bool (l.all f)) ∧ Kept W w'
  | [], a, c, W, h, k => by
    clear hf
    go_enter Tryz.func196, Tryz.ntmps196
    go_wp2
    go_ret
    exact ⟨rfl, Kept.refl _⟩
  | (s, u) :: l, a, c, W, h, k => by
    have IH := Lib.hid (all_c g rv f w0 hg hf l)
    obtain ⟨b, o, rfl, h0, h1, hF⟩ : ∃ b o, a = some ⟨b, o, none⟩ ∧ PrAt W b o (s, u) := by
      obtain ⟨a', c', e, _, _, q⟩ := h
      injection e with e1 _ _
      obtain ⟨b, o, e, r⟩ := q 0 (s, u) rfl
      refine ⟨b, o, e1.trans e, ?_⟩
      simpa using r
    have hc1 : l.length + 1 ≤ c ∧ c ≤ maxLen := by
      obtain ⟨a', c', e, q1, q2, _⟩ := h
      injection e with _ _ e2
      subst e2
      exact ⟨by simpa using q1, q2⟩
    have HC := Lib.hid (hf s u W hF k)
    have HT := Lib.hid (Row.tail h)
    have HK := Lib.hid k
    obtain ⟨n, hn⟩ : ∃ n, n = l.length := ⟨_, rfl⟩
    have hlen : ((s, u) :: l).length = n + 1 := by rw [hn]; rfl
    rw [hlen]
    rw [← hn] at hc1
    have hcI : (n : Int) + 1 ≤ c := by omega
    have hcM : (c : Int) ≤ 9223372036854775807 := by have := hc1.2; unfold maxLen at this; omega
    have HN := Lib.hid hn
    rw [show ((s, u) :: l).all f = (f (s, u) && l.all f) from rfl]
    have hr := hg
    clear h hF k hn hlen hf hg
    cases hfv : f (s, u) with
    | false =>
      rw [hfv] at HC
      go_enter Tryz.func196, Tryz.ntmps196
      go_wp2_with fail
      refine HC.out.mono ?_
      rintro e w1 ⟨rfl, k1⟩
      have HK1 := Lib.hid k1
      clear k1
      go_wp2_with fail
      go_ret
      exact ⟨rfl, HK1.out⟩
    | true =>
      rw [hfv] at HC
      go_enter Tryz.func196, Tryz.ntmps196
      go_wp2_with fail
      refine HC.out.mono ?_
      rintro e w1 ⟨rfl, k1⟩
      have HK1 := Lib.hid k1
      clear k1
      go_wp2_with fail
      case inl =>
        obtain rfl : n = 0 := by omega
        obtain rfl : l = [] := List.eq_nil_of_length_eq_zero HN.out.symm
        refine (IH.out (some ⟨b, o, none⟩) 0 _ Row.emp (HK.out.trans HK1.out)).mono ?_
        rintro e w2 ⟨rfl, k2⟩
        have HK2 := Lib.hid (HK1.out.trans k2)
        clear k2
        go_wp2_with fail
        go_ret
        exact ⟨rfl, HK2.out⟩
      case inr =>
        have e := HN.out
        subst e
        refine (IH.out (some ⟨b, o + 2, none⟩) (c - 1) _ (prs_kept HT.out HK1.out) (HK.out.trans HK1.out)).mono ?_
        rintro e w2 ⟨rfl, k2⟩
        have HK2 := Lib.hid (HK1.out.trans k2)
        clear k2
        go_wp2_with fail
        go_ret
        exact ⟨rfl, HK2.out⟩
end Go.Proofs.YthooiofaicdhgaaGreatDoor

namespace Go.Proofs.YthooiofaicdhgaaGreatDoor.Tab

theorem zipP_snoc (L U : List (Mb ByteArray)) {j : Nat} {m : Mb ByteArray} (hm : U[j]? = some m) : zipP L (U.take (j + 1)) = zipP L (U.take j) ++ zip1 L m := by
  unfold zipP; rw [List.take_add_one, hm]; simp
theorem zipT_snoc {l u : List ByteArray} {i : Nat} {a b : ByteArray} (ha : l[i]? = some a) (hb : u[i]? = some b) : zipT (l.take (i + 1)) (u.take (i + 1)) = zipT (l.take i) (u.take i) ++ (if alw (a, b) then [] else [(a, b)]) := by
  unfold zipT
  have hl : i < l.length := (List.getElem?_eq_some_iff.1 ha).1
  have hu : i < u.length := (List.getElem?_eq_some_iff.1 hb).1
  rw [List.take_add_one, List.take_add_one, ha, hb]
  simp only [Option.toList_some]
  rw [List.zip_append (by simp; omega), List.filter_append]
  congr 1
  cases h : alw (a, b) <;> simp [h]
theorem zipT_len (l u : List ByteArray) : (zipT l u).length ≤ u.length := by
  unfold zipT
  refine Nat.le_trans (List.length_filter_le _ _) ?_
  rw [List.length_zip]; omega
theorem zipT_pre {l u : List ByteArray} (i : Nat) : (zipT (l.take i) (u.take i)).length ≤ (zipT l u).length := by
  have e : (l.take i).zip (u.take i) = (l.zip u).take i := by rw [List.zip_eq_zipWith, List.zip_eq_zipWith, List.take_zipWith]
  unfold zipT
  rw [e]
  exact ((List.take_sublist _ _).filter _).length_le
theorem zip1_at {L : List (Mb ByteArray)} (hA : Asc L) {x m : Mb ByteArray} {k : Nat} (hx : L[k]? = some x) (hn : x.name = m.name) (ha : x.ar = m.ar) : zip1 L m = zipT x.types m.types := by
  unfold zip1
  rw [find_alike hA (List.mem_of_getElem? hx) (alike_iff.2 ⟨hn, ha⟩)]
theorem zipP_le (L U : List (Mb ByteArray)) {j : Nat} {m : Mb ByteArray} (hm : U[j]? = some m) {x : Mb ByteArray} (h1 : zip1 L m = zipT x.types m.types) (i : Nat) : (zipP L (U.take j) ++ zipT (x.types.take i) (m.types.take i)).length ≤ (zipP L U).length := by
  have hlt : j < U.length := (List.getElem?_eq_some_iff.1 hm).1
  have e : zipP L U = zipP L (U.take (j + 1)) ++ zipP L (U.drop (j + 1)) := by
    conv => lhs; rw [← List.take_append_drop (j + 1) U]
    unfold zipP
    rw [List.flatMap_append]
  rw [e, zipP_snoc L U hm, h1, List.length_append, List.length_append, List.length_append]
  have := zipT_pre (l := x.types) (u := m.types) i
  omega

end Go.Proofs.YthooiofaicdhgaaGreatDoor.Tab

namespace Go.Proofs.YthooiofaicdhgaaGreatDoor
open Go.ChangeShapes Go.WideShapes Go.ChangeAt Go.RowKit Go.Shelf

def qCells (p : Tab.P2) : List Value := [.string p.1, .string p.2]
theorem qCells_len (p : Tab.P2) : (qCells p).length = 2 := rfl
theorem info_pr : (Tryz.prog.info? 117).map (fun i => (i.zero, i.size, i.bytes)) = some (some (.agg #[.string ⟨#[]⟩, .string ⟨#[]⟩]), 2, 32) := by kernel_rfl
theorem src_pr (w : World) (s u : ByteArray) : Src Tryz.prog 2 226 (.slice (some ⟨w.heap.size, 0, none⟩) 1 1) 1 (qCells (s, u)) (w.alloc (.cells #[.string s, .string u] 117)) := by
  refine Src.ofSlice _ Tryz.underlying226 ⟨w.heap.size, 0, none⟩ 1 1 (qCells (s, u)) rfl ?_ ?_
  · intro j v hv
    rw [addr_plain, (Blk.new w _ _).cell, Nat.zero_add]
    simpa [qCells] using hv
  · intro v hv
    simp [qCells] at hv
    rcases hv with rfl | rfl <;> rfl

theorem prs_of_row {W : World} {n₁ : Nat} {v : Value} {l : List Tab.P2} (h : W.ownsRow n₁ 117 2 v l.length (l.flatMap qCells)) (hF : ∀ p ∈ l, Fine p) : PrsAt W v l := by
  rcases h.2 with ⟨h0, h1⟩ | ⟨g, cap, cur, hv, h1, h2, h3, h4, h5, h6⟩
  · rw [h0]
    have : l = [] := List.eq_nil_of_length_eq_zero h1
    rw [this]
    exact Row.nil
  · subst hv
    refine ⟨_, cap, rfl, h3, h4, fun i p hp => ⟨g, 0, rfl, ?_⟩⟩
    have c0 := h.cells (g := g) rfl _ _ (flat_at qCells qCells_len l i 0 p hp (by omega))
    have c1 := h.cells (g := g) rfl _ _ (flat_at qCells qCells_len l i 1 p hp (by omega))
    rw [addr_plain] at c0 c1
    refine ⟨by simpa using c0, ?_, hF p (List.mem_of_getElem? hp)⟩
    have : 0 + i * 2 + 1 = i * 2 + 1 := by omega
    rw [this]; simpa using c1

theorem mbs_fine {w : World} {v v' : Value} {L U : List (Tab.Mb ByteArray)} (h : MbsAt w v L) (h' : MbsAt w v' U) (hA : Tab.Asc L) : ∀ p ∈ Tab.zipP L U, Fine p := by
  intro p hp
  obtain ⟨m, hm, x, hx, _, hq⟩ := (Tab.mem_zipP hA).1 hp
  obtain ⟨⟨i, h1, h2⟩, _⟩ := Tab.mem_zipT.1 hq
  have go : ∀ {v : Value} {L : List (Tab.Mb ByteArray)}, MbsAt w v L → ∀ x ∈ L, ∀ s ∈ x.types, s.size ≤ maxLen := by
    intro v L h x hx s hs
    obtain ⟨_, _, _, _, _, q⟩ := h
    obtain ⟨k, hk, rfl⟩ := List.getElem_of_mem hx
    obtain ⟨_, _, _, _, _, ⟨_, _, r⟩, _⟩ := q k _ (List.getElem?_eq_getElem hk)
    obtain ⟨_, _, _, _, _, q⟩ := r
    obtain ⟨n, hn, rfl⟩ := List.getElem_of_mem hs
    obtain ⟨_, _, _, r⟩ := q n _ (List.getElem?_eq_getElem hn)
    exact r.2
  exact ⟨go h x hx _ (List.mem_of_getElem? h1), go h' m hm _ (List.mem_of_getElem? h2)⟩

def ZipOut (L U : List (Tab.Mb ByteArray)) (w : World) (e : Ending) (w' : World) : Prop := ∃ a c, e = .returned (.tuple #[.slice a (Tab.zipR L U).length c, .bool (Tab.hasB L U)]) ∧ (∀ w'', Only (fun k => k < w.heap.size) w' w'' → PrsAt w'' (.slice a (Tab.zipR L U).length c) (Tab.zipR L U)) ∧ Kept w w'
theorem zip_no {L U : List (Tab.Mb ByteArray)} {w w' : World} (h : Tab.hasB L U = false) (k : Kept w w') : ZipOut L U w (.returned (.tuple #[.slice none 0 0, .bool false])) w' := by
  have e : Tab.zipR L U = [] := by unfold Tab.zipR; rw [h]; rfl
  refine ⟨none, 0, by rw [h, e]; rfl, fun w'' _ => ?_, k⟩
  rw [e]
  exact Row.nil
theorem zip_yes {L U : List (Tab.Mb ByteArray)} {w w' : World} {v : Value} (h : Tab.hasB L U = true) (hr : RR 117 2 qCells w.heap.size w (Tab.zipP L U) v w') (hF : ∀ p ∈ Tab.zipP L U, Fine p) : ZipOut L U w (.returned (.tuple #[v, .bool true])) w' := by
  have e : Tab.zipR L U = Tab.zipP L U := by unfold Tab.zipR; rw [h, if_pos rfl]
  have hr1 := hr.1
  obtain ⟨a, c, rfl⟩ := owns_slice_n hr1
  refine ⟨a, c, by rw [h, e], fun w'' hw => ?_, hr.kept (Kept.refl _) (Nat.le_refl _)⟩
  rw [e]
  exact prs_of_row (owns_only hr1 hw (fun g hg h => by omega)) hF

set_option maxHeartbeats 8000000 in
theorem zip_c (L U : List (Tab.Mb ByteArray)) (a a' : Option Addr) (c c' : Nat) (w : World) (h : MbsAt w (.slice a L.length c) L) (h' : MbsAt w (.slice a' U.length c') U) (hL : Tab.Asc L) (hU : Tab.Asc U)
    (tL : ∀ x ∈ L, Tab.TLp x) (tU : ∀ x ∈ U, Tab.TLp x) (hB : (Tab.zipP L U).length ≤ 1000000000) :
    Calls Tryz.prog 195 #[.slice a L.length c, .slice a' U.length c'] w fun e w' => ZipOut L U w e w' := by
  obtain ⟨i0, hi, hz0, hzz1, hzz2⟩ := info_parts info_pr
  have HF := Lib.hid (mbs_fine h h' hL)
  have HL := Lib.hid h
  obtain ⟨x1, x2, e, hlc, hcm, hat'⟩ := h'
  injection e with e1 _ e2
  subst e1 e2
  unfold maxLen at hcm
  have HAT := Lib.hid hat'
  have hLm : L.length ≤ 9223372036854775807 := by
    obtain ⟨_, _, e, q1, q2, _⟩ := h
    unfold maxLen at q2
    omega
  have HTL := Lib.hid tL
  have HTU := Lib.hid tU
  have HBB := Lib.hid hB
  clear hat' h tL tU hB
  go_enter Tryz.func195, Tryz.ntmps195
  go_wp2_with fail
  go_loopw [6, 7, 15] (fun l q i wr => ∃ k j : Nat, k ≤ L.length ∧ j ≤ U.length ∧ q = .int .i64 k ∧ i = .int .i64 j ∧ RR 117 2 qCells w.heap.size w (Tab.zipP L (U.take j)) l wr ∧ Hid (Tab.Ahead L k U j) ∧ Hid ((U.take j).all (Tab.has1 L) = true)) (fun l q i wr => U.length - (intOf i).toNat)
  case atStart => exact ⟨0, 0, Nat.zero_le _, Nat.zero_le _, rfl, rfl, RR.start _ _ _ _ _, Lib.hid (Tab.Ahead.start _ _ _), Lib.hid (by simp)⟩
  case round =>
    obtain ⟨k, j, hk, hj, rfl, rfl, hR, HAH, HALL⟩ := hrel
    obtain ⟨wo, rfl⟩ : ∃ wo, wo = wr := ⟨_, rfl⟩
    have HR := Lib.hid hR
    have hkp := hR.kept (Kept.refl _) (Nat.le_refl _)
    have HKP := Lib.hid hkp
    obtain ⟨la, ln, lc, rfl⟩ := owns_slice hR.1
    clear hR
    by_cases hlt : j < U.length
    · have hx : U[j]? = some U[j] := List.getElem?_eq_getElem hlt
      obtain ⟨b, o, rfl, hm⟩ := HAT.out j _ hx
      generalize U[j] = m at hx hm
      obtain ⟨m0, m1, ⟨mv, m2, hmv⟩, hms⟩ := hm
      have m0 := hkp.cell m0
      have m1 := hkp.cell m1
      have m2 := hkp.cell m2
      have HX := Lib.hid hx
      have HMV := Lib.hid hmv
      have hltI : (j : Int) < (U.length : Int) := by omega
      obtain ⟨va, vn, vc, rfl⟩ : ∃ va vn vc, mv = .slice va vn vc := by
        obtain ⟨va, vc, e, _⟩ := hmv
        exact ⟨_, _, _, e⟩
      have HB := Lib.hid (Blk.new wo 222 #[.string m.name, .int .i64 m.ar, .slice va vn vc])
      have HKM := Lib.hid ((Kept.refl wo).alloc (.cells #[.string m.name, .int .i64 m.ar, .slice va vn vc] 222))
      have HNX := Lib.hid (Tab.Ahead.next hU HAH.out hx)
      have HAT2 := Lib.hid (HAH.out.at hx)
      obtain ⟨sk, hsk⟩ : ∃ sk, sk = Tab.seek L k m.name := ⟨_, rfl⟩
      have HSK := Lib.hid hsk
      have HSL := Lib.hid (show sk ≤ L.length by rw [hsk]; exact Tab.seek_le hk)
      clear hx hkp hmv hms hsk
      go_wp2_with fail
      go_loopw [7] (fun q wr => ∃ k' : Nat, k' ≤ L.length ∧ q = .int .i64 k' ∧ Kept (wo.alloc (.cells #[.string m.name, .int .i64 m.ar, .slice va vn vc] 222)) wr ∧ Hid (Tab.seek L k' m.name = sk)) (fun q wr => L.length - (intOf q).toNat)
      case atStart => exact ⟨k, hk, rfl, Kept.refl _, Lib.hid HSK.out.symm⟩
      case round =>
        obtain ⟨k', hk', rfl, hkr, HS⟩ := hrel
        have hBk := HB.out.kept hkr
        have z0 := hBk.cell 0
        have z1 := hBk.cell 1
        have z2 := hBk.cell 2
        simp only [List.getElem?_toArray, List.getElem?_cons_zero, List.getElem?_cons_succ] at z0 z1 z2
        have HKR := Lib.hid hkr
        have HKA := Lib.hid ((HKP.out.trans HKM.out).trans hkr)
        by_cases hl2 : k' < L.length
        · have hl2I : (k' : Int) < (L.length : Int) := by omega
          have hx : L[k']? = some L[k'] := List.getElem?_eq_getElem hl2
          obtain ⟨b2, o2, rfl, hm⟩ : ∃ b2 o2, a = some ⟨b2, o2, none⟩ ∧ MbBAt w b2 (o2 + k' * 3) L[k'] := by
            obtain ⟨y1, y2, e, _, _, q⟩ := HL.out
            injection e with e1 _ _
            subst e1
            exact q _ _ hx
          generalize L[k'] = x at hx hm
          obtain ⟨n0, n1, ⟨nv, n2, hnv⟩, _⟩ := hm
          have N2 := Lib.hid n2
          have n0 := HKA.out.cell n0
          have n1 := HKA.out.cell n1
          have n2 := HKA.out.cell n2
          cases hb : Tab.lt x.name m.name with
          | true =>
            have HN := Lib.hid ((Tab.seek_next hx hb).symm.trans HS.out)
            have hb' : Op.bytesLess x.name.toList m.name.toList = true := hb
            clear hx hb hkr hBk n1 n2 hnv m0 m1 m2 z1 z2
            go_wp2_with fail
            go_quiet (fail)
            go_wp2_with fail
            go_roundw
            case rel => exact ⟨k' + 1, by omega, by go_num, HKR.out.drewN _, HN⟩
            case measure => simp [intOf]; omega
          | false =>
            have hb' : Op.bytesLess x.name.toList m.name.toList = false := hb
            have e : sk = k' := HS.out.symm.trans (Tab.seek_here hx hb)
            subst e
            have HNV := Lib.hid hnv
            obtain ⟨wa, wn, wc, rfl⟩ : ∃ va vn vc, nv = .slice va vn vc := by
              obtain ⟨va, vc, e, _⟩ := hnv
              exact ⟨_, _, _, e⟩
            have HHX := Lib.hid hx
            have hne : ((sk : Int) == (L.length : Int)) = false := by simp; omega
            by_cases hn : x.name = m.name
            · by_cases har : x.ar = m.ar
              · have HAA := Lib.hid (And.intro hn har)
                have hq := beq_yes hn
                have hd : (x.ar == m.ar) = true := by simp [har]
                rw [har] at n1
                have HQZ := Lib.hid (Tab.zip1_at hL hx hn har)
                have HTT := Lib.hid (Tab.tl_same (HTL.out x (List.mem_of_getElem? hx)) (HTU.out m (List.mem_of_getElem? HX.out)) har)
                have HALN := Lib.hid (Tab.all_next HALL.out HX.out ((Tab.has1_at hL hx hn).trans (decide_eq_true har)))
                have HKD := Lib.hid (HKM.out.trans hkr)
                clear hx hb hkr hBk m0 m1 m2 hnv hn har
                go_wp2_with fail
                go_quiet (fail)
                go_wp2_with fail
                go_quiet (fail)
                go_wp2_with fail
                obtain ⟨wp, rfl⟩ : ∃ wp, wp = wr := ⟨_, rfl⟩
                go_loopw [6, 62] (fun l q wq => ∃ i : Nat, i ≤ m.types.length ∧ q = .int .i64 i ∧ RR 117 2 qCells w.heap.size w (Tab.zipP L (U.take j) ++ Tab.zipT (x.types.take i) (m.types.take i)) l wq) (fun l q wq => m.types.length - (intOf q).toNat)
                case atStart =>
                  refine ⟨0, Nat.zero_le _, rfl, ?_⟩
                  rw [show Tab.zipP L (U.take j) ++ Tab.zipT (x.types.take 0) (m.types.take 0) = Tab.zipP L (U.take j) by simp [Tab.zipT]]
                  exact HR.out.keep (HKD.out.drewN _)
                case round =>
                  obtain ⟨i, hi', rfl, hI⟩ := hrel
                  have HI := Lib.hid hI
                  have hki := hI.kept (Kept.refl _) (Nat.le_refl _)
                  have HKI := Lib.hid hki
                  have hzz := hki.size
                  obtain ⟨la, ln, lc, rfl⟩ := owns_slice hI.1
                  clear hI
                  obtain ⟨g3, y1, e3, hml, hmc, hmq⟩ := HMV.out
                  injection e3 with e3 e4 e5
                  subst e3 e4 e5
                  have hmlI : m.types.length ≤ 9223372036854775807 := by unfold maxLen at hmc; omega
                  by_cases hil : i < m.types.length
                  · have hilI : (i : Int) < (m.types.length : Int) := by omega
                    have hb : m.types[i]? = some m.types[i] := List.getElem?_eq_getElem hil
                    have ha : x.types[i]? = some (x.types[i]'(by rw [HTT.out]; exact hil)) := List.getElem?_eq_getElem _
                    generalize m.types[i] = tb at hb
                    generalize x.types[i]'(by rw [HTT.out]; exact hil) = ta at ha
                    obtain ⟨b3, o3, rfl, hs3⟩ := hmq i tb hb
                    obtain ⟨g4, y2, e6, hxl, hxc, hxq⟩ := HNV.out
                    injection e6 with e6 e7 e8
                    subst e6 e7 e8
                    obtain ⟨b4, o4, rfl, hs4⟩ := hxq i ta ha
                    have p3 := hki.cell hs3.1
                    have p4 := hki.cell hs4.1
                    have n2 := hki.cell N2.out
                    rw [Nat.mul_one] at p3 p4
                    have hxlI : (i : Int) < (x.types.length : Int) := by rw [HTT.out]; omega
                    have hskI : (sk : Int) < (L.length : Int) := hl2I
                    have HSN := Lib.hid (Tab.zipT_snoc ha hb)
                    have HLE := Lib.hid (Nat.le_trans (Tab.zipP_le L U HX.out HQZ.out i) HBB.out)
                    have HBp := Lib.hid (Blk.new wr 117 #[.string ta, .string tb])
                    have HKp := Lib.hid ((Kept.refl wr).alloc (.cells #[.string ta, .string tb] 117))
                    have HA := Lib.hid (always_c ta tb)
                    clear hki ha hb hs3 hs4 hmq hxq n0 n1 z0 z1 z2
                    cases hal : Tab.alw (ta, tb) with
                    | true =>
                      rw [hal] at HA
                      rw [hal] at HSN
                      go_wp2_with fail
                      refine (HA.out _).mono ?_
                      rintro e w1 ⟨rfl, k1⟩
                      have HNX2 := Lib.hid (HI.out.keep (HKp.out.trans k1))
                      clear k1
                      go_wp2_with fail
                      go_roundw
                      case rel =>
                        refine ⟨i + 1, by omega, by go_num, ?_⟩
                        rw [HSN.out]
                        simpa using HNX2.out
                      case measure => simp [intOf]; omega
                    | false =>
                      rw [hal] at HA
                      rw [hal] at HSN
                      go_wp2_with fail
                      refine (HA.out _).mono ?_
                      rintro e w1 ⟨rfl, k1⟩
                      have hB1 := HBp.out.kept k1
                      have r0 := hB1.cell 0
                      have r1 := hB1.cell 1
                      simp only [List.getElem?_toArray, List.getElem?_cons_zero, List.getElem?_cons_succ] at r0 r1
                      have HRX := Lib.hid ((HI.out.keep (HKp.out.trans k1)).keep ((Kept.refl w1).alloc (.cells #[.string ta, .string tb] 117)))
                      have HSX := Lib.hid (src_pr w1 ta tb)
                      have hz1 := (HKp.out.trans k1).size
                      clear k1 hB1 p3 p4 n2
                      go_wp2_with (at_builtin; refine wpList_apk rfl (.tmp 80) (.tmp 82) 226 226 rfl w.heap.size 2 117 i0 _ 32 Tryz.underlying226 hi hz0 hzz1 hzz2 rfl rfl HRX.out.1 rfl HSX.out (by have := HLE.out; unfold maxLen; omega) (by have := HLE.out; omega) (by simp; omega) ?_; intro v' w2 hown' hgrow hlies; have HNX2 := Lib.hid (HRX.out.next (x := (ta, tb)) (Kept.refl _) hown' hgrow hlies); obtain ⟨va', vn', vc', rfl⟩ := owns_slice hown'; clear hown' hgrow hlies)
                      go_roundw
                      case rel =>
                        refine ⟨i + 1, by omega, by go_num, ?_⟩
                        rw [HSN.out]
                        simpa using HNX2.out
                      case measure => simp [intOf]; omega
                  · have hilI : ¬ (i : Int) < (m.types.length : Int) := by omega
                    obtain rfl : i = m.types.length := by omega
                    have HIE := Lib.hid (show RR 117 2 qCells w.heap.size w (Tab.zipP L (U.take (j + 1))) (.slice la ln lc) wr by
                      rw [Tab.zipP_snoc L U HX.out, HQZ.out]
                      have := HI.out
                      rw [List.take_length, List.take_of_length_le (l := x.types) (by rw [HTT.out]; exact Nat.le_refl _)] at this
                      exact this)
                    clear hmq
                    go_wp2_with fail
                    go_roundw
                    case rel => exact ⟨sk, j + 1, HSL.out, by omega, rfl, by go_num, HIE.out, Lib.hid (by rw [HSK.out]; exact HNX.out), HALN⟩
                    case measure => simp [intOf]; omega
              · have hq := beq_yes hn
                have hd : (x.ar == m.ar) = false := by simp [har]
                have HQ := Lib.hid (show Tab.hasB L U = false from Tab.all_no HX.out ((Tab.has1_at hL hx hn).trans (decide_eq_false har)))
                clear hx hb hkr hBk n2 hnv m0 m1 m2 z2 hn har
                go_wp2_with fail
                go_quiet (fail)
                go_wp2_with fail
                go_quiet (fail)
                go_wp2_with fail
                go_ret2
                exact zip_no HQ.out ((HKA.out.drewN _).drewN _)
            · have hq := beq_no hn
              have HQ := Lib.hid (show Tab.hasB L U = false from Tab.all_no HX.out (Tab.has1_no hL hk HAT2.out (by rw [← HSK.out, Tab.hit_at hx]; exact decide_eq_false hn)))
              clear hx hb hkr hBk n2 hnv m0 m1 m2 z2 n1 z1
              go_wp2_with fail
              go_quiet (fail)
              go_wp2_with fail
              go_quiet (fail)
              go_wp2_with fail
              go_ret2
              exact zip_no HQ.out ((HKA.out.drewN _).drewN _)
        · have hl2I : ¬ (k' : Int) < (L.length : Int) := by omega
          obtain rfl : k' = L.length := by omega
          have e : sk = L.length := HS.out.symm.trans Tab.seek_end
          have HQ := Lib.hid (show Tab.hasB L U = false from Tab.all_no HX.out (Tab.has1_no hL hk HAT2.out (by rw [← HSK.out, e, Tab.hit_end])))
          clear hkr hBk m0 m1 m2 z2 z1
          go_wp2_with fail
          go_quiet (fail)
          go_wp2_with fail
          go_quiet (fail)
          go_wp2_with fail
          go_ret2
          exact zip_no HQ.out ((HKA.out.drewN _).drewN _)
    · have hltI : ¬ (j : Int) < (U.length : Int) := by omega
      obtain rfl : j = U.length := by omega
      have HQ := Lib.hid (show Tab.hasB L U = true from Tab.all_yes HALL.out)
      have HRE := Lib.hid (show RR 117 2 qCells w.heap.size w (Tab.zipP L U) (.slice la ln lc) wo by
        have := HR.out
        rwa [List.take_length] at this)
      clear hkp
      go_wp2_with fail
      go_ret2
      exact zip_yes HQ.out HRE.out HF.out

end Go.Proofs.YthooiofaicdhgaaGreatDoor

namespace Go.Proofs.YthooiofaicdhgaaGreatDoor
open Go.ChangeShapes Go.WideShapes Go.ChangeAt Go.RowKit Go.Shelf
open Go.Maps (Keyed)

theorem asc_ofP {L : List (Tab.Mb ByteArray)} (hs : L.Pairwise fun x y => Tab.lt y.name x.name = false) (hn : (L.map Tab.Mb.name).Nodup) : Tab.Asc L := by
  unfold Tab.Asc
  rw [List.pairwise_iff_getElem] at hs ⊢
  rw [List.nodup_iff_pairwise_ne, List.pairwise_iff_getElem] at hn
  intro i k hi hk hik
  have h1 := hs i k hi hk hik
  cases h : Tab.lt L[i].name L[k].name with
  | true => rfl
  | false =>
    have := hn i k (by simpa using hi) (by simpa using hk) hik
    simp only [List.getElem_map] at this
    exact absurd (Tab.lt_total h h1) this

/-- A class' members, in memory, whatever becomes of the map's block. -/
def ClE (t : List Tab.C) (mb : Nat) (W : World) (s : ByteArray) (v : Value) (L : List (Tab.Mb ByteArray)) : Prop :=
  ∃ a c, v = .slice a L.length c ∧ (∀ w'', Only (· = mb) W w'' → MbsAt w'' v L) ∧ L.Perm (Tab.mbs t s) ∧ L.Pairwise fun x y => Tab.lt y.name x.name = false
/-- The classes so far. -/
def ClI (t : List Tab.C) (w : World) (j : Nat) (f : ByteArray → Option Value) (wr : World) : Prop :=
  MapF Tryz.prog 9 w.heap.size j f wr ∧ Kept w wr ∧ ∀ s, (f s).isSome = (Tab.ix Tab.C.name (t.take j) s).isSome ∧ ∀ v, f s = some v → ∃ L, ClE t w.heap.size wr s v L
theorem ClE.step {t : List Tab.C} {mb : Nat} {W W' : World} {s : ByteArray} {v : Value} {L : List (Tab.Mb ByteArray)} (h : ClE t mb W s v L) (ho : Only (· = mb) W W') : ClE t mb W' s v L := by
  obtain ⟨a, c, e, h1, h2⟩ := h
  exact ⟨a, c, e, fun w'' hw => h1 w'' (ho.trans hw), h2⟩

def ClN (t : List Tab.C) (w : World) (j : Nat) (W' : World) : Prop := ∃ f, ClI t w j f W'
theorem cls_next {t : List Tab.C} (hv : Tab.Valid t) {j : Nat} (hj : j < t.length) {w wr w6 W' : World} {f : ByteArray → Option Value} (hk : Kept w wr) (h : ClI t w j f wr) {L : List (Tab.Mb ByteArray)} {la : Option Addr} {lc : Nat} (hpm : L.Perm (Tab.mbs t (Tab.nth t j).name))
    (hpw : L.Pairwise fun x y => Tab.lt y.name x.name = false) (hat : ∀ w'', Only (fun k => k < wr.drew.heap.size) w6 w'' → MbsAt w'' (.slice la L.length lc) L) (k6 : Kept wr w6)
    (hm' : MapF Tryz.prog 9 w.heap.size (j + 1) (fun x => if x = (Tab.nth t j).name then some (.slice la L.length lc) else f x) W') (hg' : w6.grownBy W' (some w.heap.size)) : ClN t w (j + 1) W' := by
  have ho6 : Only (· = w.heap.size) w6 W' := (Only.refl _ w6).grown hg' fun k e => by cases e; exact .inl rfl
  have ho : Only (· = w.heap.size) wr W' := (Only.of_kept k6).trans ho6
  have hlt : w.heap.size < wr.heap.size := h.1.lt
  refine ⟨_, hm', hk.onlyS ho (fun k e => by rw [e]; exact Nat.le_refl _), fun s => ?_⟩
  have hix : Tab.ix Tab.C.name (t.take (j + 1)) s = if s = (Tab.nth t j).name then some (t.take j).length else Tab.ix Tab.C.name (t.take j) s := by
    rw [List.take_add_one, Tab.of_nth hj]
    exact Tab.ixC_snoc (Tab.ix_none (hv.fresh hj)) s
  rw [hix]
  by_cases e : s = (Tab.nth t j).name
  · subst e
    refine ⟨by simp, fun v hv' => ⟨L, la, lc, ?_, fun w'' hw => ?_, hpm, hpw⟩⟩
    · simpa using hv'.symm
    · have e : v = .slice la L.length lc := by simpa using hv'.symm
      rw [e]
      exact hat w'' ((ho6.trans hw).mono fun k _ e => by rw [e]; exact hlt)
  · have := h.2.2 s
    simp only [e, if_false]
    refine ⟨this.1, fun v hv' => ?_⟩
    obtain ⟨L', hL'⟩ := this.2 v hv'
    exact ⟨L', hL'.step ho⟩

def ClsOut (t : List Tab.C) (w : World) (e : Ending) (w' : World) : Prop := ∃ mb ls, e = .returned (.map (some mb)) ∧ Tab.Cl t ls ∧ ClM t ls mb w' ∧ Kept w w'
theorem cls_end {t : List Tab.C} (hv : Tab.Valid t) {w wr : World} (h : ClN t w t.length wr) : ClsOut t w (.returned (.map (some w.heap.size))) wr := by
  obtain ⟨f, h1, h2, h3⟩ := h
  have hs : ∀ s, (f s).isSome = Tab.isC t s := fun s => by
    have := (h3 s).1
    rwa [List.take_length] at this
  have hL : ∀ s, ∃ L, (∀ v, f s = some v → ClE t w.heap.size wr s v L) ∧ (f s = none → L = []) := fun s => by
    cases e : f s with
    | none => exact ⟨[], fun v h => (by cases h), fun _ => rfl⟩
    | some v =>
      obtain ⟨L, hL⟩ := (h3 s).2 v e
      exact ⟨L, fun v' h => (by cases h; exact hL), fun h => (by cases h)⟩
  obtain ⟨ls, hls⟩ := Classical.skolem.1 hL
  clear hL
  refine ⟨w.heap.size, ls, rfl, ⟨?_, ?_, ?_, ?_⟩, ⟨t.length, f, h1, fun s => ⟨hs s, fun v hv' => ?_⟩⟩, h2⟩
  · intro s hn
    refine (hls s).2 ?_
    have := hs s
    rw [hn] at this
    simpa using this
  · intro s hc
    have := hs s
    rw [hc] at this
    obtain ⟨v, hv'⟩ := Option.isSome_iff_exists.1 this
    obtain ⟨_, _, _, _, hp, _⟩ := (hls s).1 v hv'
    exact hp
  · intro s
    cases e : f s with
    | none =>
      show Tab.Asc (ls s)
      rw [(hls s).2 e]
      exact List.Pairwise.nil
    | some v =>
      obtain ⟨_, _, _, _, hp, hw⟩ := (hls s).1 v e
      have hc : Tab.isC t s = true := by rw [← hs s, e]; rfl
      obtain ⟨i, hi, rfl⟩ := Tab.isC_at hc
      refine asc_ofP hw ?_
      refine ((hp.map Tab.Mb.name).nodup_iff).2 ?_
      rw [Tab.mbs_names]
      exact (hv.good hi).names
  · intro s x hx
    cases e : f s with
    | none =>
      have hx : x ∈ ls s := hx
      rw [(hls s).2 e] at hx
      cases hx
    | some v =>
      obtain ⟨_, _, _, _, hp, _⟩ := (hls s).1 v e
      exact Tab.mbs_tl t s x (hp.mem_iff.1 hx)
  · obtain ⟨a, c, e, hm, _⟩ := (hls s).1 v hv'
    exact ⟨a, c, e, hm wr (Only.refl _ _)⟩

set_option maxHeartbeats 8000000 in
theorem classesOf_c (t : List Tab.C) (a : Option Addr) (c : Nat) (w : World) (hT : TabAt w (.slice a t.length c) t) (hS : Small t) (hv : Tab.Valid t) (ht : t.length ≤ 1000) :
    Calls Tryz.prog 108 #[.slice a t.length c] w fun e w' => ClsOut t w e w' := by
  have h0 := MapF.made w Tryz.prog 9
  have hmm := @run_makeMap Tryz.prog
  have HT := Lib.hid hT
  have HV := Lib.hid hv
  have HCN := Lib.hid (show ClN t w 0 (w.alloc (.map #[] 0)) from ⟨_, h0, (Kept.refl w).alloc _, fun s => ⟨by simp [Tab.ix], fun v h => by cases h⟩⟩)
  clear h0 hT
  go_enter Tryz.func108, Tryz.ntmps108
  go_wp2_with fail
  clear hmm
  go_loopw [8] (fun q wr => ∃ j : Nat, j ≤ t.length ∧ q = .int .i64 j ∧ ClN t w j wr) (fun q wr => t.length - (intOf q).toNat)
  case atStart => exact ⟨0, Nat.zero_le _, rfl, HCN.out⟩
  case round =>
    obtain ⟨j, hj, rfl, f, hCI⟩ := hrel
    have HKP := Lib.hid hCI.2.1
    have hmp := hCI.1
    have HCI := Lib.hid hCI
    clear hCI
    by_cases hlt : j < t.length
    · have hltI : (j : Int) < (t.length : Int) := by omega
      obtain ⟨b, o, rfl, hcl⟩ := Row.cellsC (tab_kept HT.out HKP.out) hlt
      obtain ⟨q0, _, _, _, q1, _⟩ := hcl
      have HMC := Lib.hid (fun W (kw : Kept w W) => membersOf_c (some ⟨b, o, none⟩) c t (Tab.nth t j).name W (tab_kept HT.out kw) hS)
      go_wp2_with fail
      refine wp_region_any (by kernel_rfl) ?_
      change wpAny _ _ _ _ _ _ _ (World.drew _)
      refine wpAny_take (i := 0) (v := ?_) rfl (by kernel_rfl) (by kernel_rfl) (by kernel_rfl) (fun _ _ _ h => h) (Or.inl ⟨by rfl, ?_⟩) ?_
      rotate_left
      · intro w; go_simp; try with_reducible rfl
      refine wpAny_take (i := 1) (v := ?_) rfl (by kernel_rfl) (by kernel_rfl) (by kernel_rfl) (fun _ _ _ h => h) (Or.inl ⟨by rfl, ?_⟩) ?_
      rotate_left
      · intro w; go_simp; try with_reducible rfl
      refine wpAny_take (i := 2) (v := ?_) rfl (by kernel_rfl) (by kernel_rfl) (by kernel_rfl) (fun _ _ _ h => h) (Or.inl ⟨by rfl, ?_⟩) ?_
      rotate_left
      · intro w; go_simp; try with_reducible rfl
      refine wpAny_take (i := 3) (v := ?_) rfl (by kernel_rfl) (by kernel_rfl) (by kernel_rfl) (fun _ _ _ h => h) (Or.inl ⟨by rfl, ?_⟩) ?_
      rotate_left
      · intro w; go_simp; try with_reducible rfl
      refine wpAny_take (i := 4) (v := ?_) rfl (by kernel_rfl) (by kernel_rfl) (by kernel_rfl) (fun _ _ _ h => h) (Or.inl ⟨by rfl, ?_⟩) ?_
      rotate_left
      · intro w; go_simp; try with_reducible rfl
      refine wpAny_take (i := 6) (v := ?_) rfl (by kernel_rfl) (by kernel_rfl) (by kernel_rfl) (fun _ _ _ h => h) (Or.inl ⟨by rfl, ?_⟩) ?_
      rotate_left
      · intro w; go_simp; try with_reducible rfl
      refine wpAny_take (i := 7) (v := ?_) rfl (by kernel_rfl) (by kernel_rfl) (by kernel_rfl) (fun _ _ _ h => h) (Or.inl ⟨by rfl, ?_⟩) ?_
      rotate_left
      · intro w; go_simp; try with_reducible rfl
      refine wpAny_take (i := 8) (v := ?_) rfl (by kernel_rfl) (by kernel_rfl) (by kernel_rfl) (fun _ _ _ h => h) (Or.inl ⟨by rfl, ?_⟩) ?_
      rotate_left
      · intro w; go_simp; try with_reducible rfl
      refine wpAny_take (i := 9) (v := ?_) rfl (by kernel_rfl) (by kernel_rfl) (by kernel_rfl) (fun _ _ _ h => h) (Or.inl ⟨by rfl, ?_⟩) ?_
      rotate_left
      · intro w; go_simp; try with_reducible rfl
      refine wpAny_take (i := 10) (v := ?_) rfl (by kernel_rfl) (by kernel_rfl) (by kernel_rfl) (fun _ _ _ h => h) (Or.inl ⟨by rfl, ?_⟩) ?_
      rotate_left
      · intro w; go_simp; try with_reducible rfl
      refine wpAny_ready (rs := [5, 11]) (by kernel_rfl) (by simp) ?_
      refine AllReady.cons rfl (fun K hK => ?_) ?_
      · go_simp
        refine hK _ _ ?_; clear hK K
        refine wpAny_ready (rs := [11]) (by kernel_rfl) (by simp) ?_
        refine AllReady.cons rfl (fun K hK => ?_) ?_
        · go_simp
          refine hK _ _ ?_; clear hK K
          refine wpAny_ready (rs := [12]) (by kernel_rfl) (by simp) ?_
          refine AllReady.cons rfl (fun K hK => ?_) ?_
          · go_simp
            go_wp2_with fail
            refine (HMC.out wr.drew HKP.out.drew).mono ?_
            rintro e w6 ⟨⟨L, la, lc, rfl, hpm, hpw, hat⟩, k6⟩
            have q6 := k6.cell q0
            have HMP := Lib.hid (show MapF Tryz.prog 9 w.heap.size j f w6 from hmp.only (S := fun _ => False) (Only.of_kept ((Kept.refl wr).drew.trans k6)) (fun h => h))
            obtain ⟨W', hup, hm', hg'⟩ := HMP.out.store (t := 113) (e := 187) (Maps.string_keyed Tryz.underlying9) Tryz.underlying113 (by unfold maxLen; omega) (Tab.nth t j).name (.slice la L.length lc) (WideMaps.keyOf_string_mk Tryz.underlying9 q1)
            have HE := Lib.hid (cls_next hv hlt HKP.out HCI.out hpm hpw (hat := hat) ((Kept.refl wr).drew.trans k6) hm' hg')
            clear hat hm' hg' hpm hpw
            dsimp only
            refine hK _ _ ?_; clear hK K
            refine wpAny_ready (rs := [13]) (by kernel_rfl) (by simp) ?_
            refine AllReady.cons rfl (fun K hK => ?_) ?_
            · go_simp
              refine hK _ _ ?_; clear hK K
              refine wpAny_done (by kernel_rfl) ?_ _
              go_simp
              go_wp2_with fail
              go_roundw
              case rel => exact ⟨j + 1, by omega, by go_num, HE.out⟩
              case measure => simp [intOf]; omega
            exact AllReady.nil
          exact AllReady.nil
        exact AllReady.nil
      refine AllReady.cons rfl (fun K hK => ?_) ?_
      · go_simp
        refine hK _ _ ?_; clear hK K
        refine wpAny_ready (rs := [5, 12]) (by kernel_rfl) (by simp) ?_
        refine AllReady.cons rfl (fun K hK => ?_) ?_
        · go_simp
          refine hK _ _ ?_; clear hK K
          refine wpAny_ready (rs := [12]) (by kernel_rfl) (by simp) ?_
          refine AllReady.cons rfl (fun K hK => ?_) ?_
          · go_simp
            go_wp2_with fail
            refine (HMC.out wr.drew HKP.out.drew).mono ?_
            rintro e w6 ⟨⟨L, la, lc, rfl, hpm, hpw, hat⟩, k6⟩
            have q6 := k6.cell q0
            have HMP := Lib.hid (show MapF Tryz.prog 9 w.heap.size j f w6 from hmp.only (S := fun _ => False) (Only.of_kept ((Kept.refl wr).drew.trans k6)) (fun h => h))
            obtain ⟨W', hup, hm', hg'⟩ := HMP.out.store (t := 113) (e := 187) (Maps.string_keyed Tryz.underlying9) Tryz.underlying113 (by unfold maxLen; omega) (Tab.nth t j).name (.slice la L.length lc) (WideMaps.keyOf_string_mk Tryz.underlying9 q1)
            have HE := Lib.hid (cls_next hv hlt HKP.out HCI.out hpm hpw (hat := hat) ((Kept.refl wr).drew.trans k6) hm' hg')
            clear hat hm' hg' hpm hpw
            dsimp only
            refine hK _ _ ?_; clear hK K
            refine wpAny_ready (rs := [13]) (by kernel_rfl) (by simp) ?_
            refine AllReady.cons rfl (fun K hK => ?_) ?_
            · go_simp
              refine hK _ _ ?_; clear hK K
              refine wpAny_done (by kernel_rfl) ?_ _
              go_simp
              go_wp2_with fail
              go_roundw
              case rel => exact ⟨j + 1, by omega, by go_num, HE.out⟩
              case measure => simp [intOf]; omega
            exact AllReady.nil
          exact AllReady.nil
        refine AllReady.cons rfl (fun K hK => ?_) ?_
        · go_simp
          go_wp2_with fail
          refine (HMC.out wr.drew HKP.out.drew).mono ?_
          rintro e w6 ⟨⟨L, la, lc, rfl, hpm, hpw, hat⟩, k6⟩
          have q6 := k6.cell q0
          have HMP := Lib.hid (show MapF Tryz.prog 9 w.heap.size j f w6 from hmp.only (S := fun _ => False) (Only.of_kept ((Kept.refl wr).drew.trans k6)) (fun h => h))
          obtain ⟨W', hup, hm', hg'⟩ := HMP.out.store (t := 113) (e := 187) (Maps.string_keyed Tryz.underlying9) Tryz.underlying113 (by unfold maxLen; omega) (Tab.nth t j).name (.slice la L.length lc) (WideMaps.keyOf_string_mk Tryz.underlying9 q1)
          have HE := Lib.hid (cls_next hv hlt HKP.out HCI.out hpm hpw (hat := hat) ((Kept.refl wr).drew.trans k6) hm' hg')
          clear hat hm' hg' hpm hpw
          dsimp only
          refine hK _ _ ?_; clear hK K
          refine wpAny_ready (rs := [5]) (by kernel_rfl) (by simp) ?_
          refine AllReady.cons rfl (fun K hK => ?_) ?_
          · go_simp
            refine hK _ _ ?_; clear hK K
            refine wpAny_ready (rs := [13]) (by kernel_rfl) (by simp) ?_
            refine AllReady.cons rfl (fun K hK => ?_) ?_
            · go_simp
              refine hK _ _ ?_; clear hK K
              refine wpAny_done (by kernel_rfl) ?_ _
              go_simp
              go_wp2_with fail
              go_roundw
              case rel => exact ⟨j + 1, by omega, by go_num, HE.out⟩
              case measure => simp [intOf]; omega
            exact AllReady.nil
          exact AllReady.nil
        exact AllReady.nil
      exact AllReady.nil
    · have hltI : ¬ (j : Int) < (t.length : Int) := by omega
      obtain rfl : j = t.length := by omega
      have HE := Lib.hid (cls_end hv ⟨f, HCI.out⟩)
      clear hmp
      go_wp2_with fail
      go_ret
      exact HE.out

end Go.Proofs.YthooiofaicdhgaaGreatDoor
