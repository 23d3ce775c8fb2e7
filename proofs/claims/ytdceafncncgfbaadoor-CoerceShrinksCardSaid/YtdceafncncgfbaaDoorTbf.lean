/- Tables of classes in memory, and the contracts of table's searches by name. -/
import Derived.Test.YtdceafncncgfbaaDoorRow
import Derived.Test.YtdceafncncgfbaaDoorKey
import Derived.Test.YtdceafncncgfbaaDoorTck
set_option linter.unusedSimpArgs false
set_option linter.unusedVariables false
set_option maxRecDepth 100000
namespace Go.Proofs.YtdceafncncgfbaaDoor
open Go.ChangeShapes Go.WideShapes Go.ChangeAt Go.RowKit

def VarAt (w : World) (b o : Nat) (x : Tab.V) : Prop :=
  w.cell? ⟨b, o, none⟩ = some (.string x.name) ∧ w.cell? ⟨b, o + 1, none⟩ = some (.string x.typ) ∧ x.name.size ≤ maxLen ∧ x.typ.size ≤ maxLen
def SigAt (w : World) (b o : Nat) (x : Tab.M) : Prop :=
  w.cell? ⟨b, o, none⟩ = some (.string x.name) ∧ (∃ v, w.cell? ⟨b, o + 1, none⟩ = some v ∧ Row 2 VarAt w v x.params) ∧ w.cell? ⟨b, o + 2, none⟩ = some (.string x.res) ∧ x.name.size ≤ maxLen ∧ x.res.size ≤ maxLen
def ClsAt (w : World) (b o : Nat) (x : Tab.C) : Prop :=
  w.cell? ⟨b, o, none⟩ = some (.string x.name) ∧ w.cell? ⟨b, o + 1, none⟩ = some (.string x.super) ∧ (∃ v, w.cell? ⟨b, o + 2, none⟩ = some v ∧ Row 2 VarAt w v x.fields) ∧ (∃ v, w.cell? ⟨b, o + 3, none⟩ = some v ∧ Row 3 SigAt w v x.methods) ∧ x.name.size ≤ maxLen ∧ x.super.size ≤ maxLen
abbrev TabAt (w : World) (v : Value) (t : List Tab.C) : Prop := Row 4 ClsAt w v t

theorem VarAt.kept {w w' : World} {b o : Nat} {x : Tab.V} (h : VarAt w b o x) (k : Kept w w') : VarAt w' b o x := ⟨k.cell h.1, k.cell h.2.1, h.2.2⟩
theorem vars_kept {w w' : World} {v : Value} {l : List Tab.V} (h : Row 2 VarAt w v l) (k : Kept w w') : Row 2 VarAt w' v l := h.mono fun _ _ _ r => r.kept k
theorem SigAt.kept {w w' : World} {b o : Nat} {x : Tab.M} (h : SigAt w b o x) (k : Kept w w') : SigAt w' b o x := by
  obtain ⟨h1, ⟨v, h2, h3⟩, h4, h5⟩ := h
  exact ⟨k.cell h1, ⟨v, k.cell h2, vars_kept h3 k⟩, k.cell h4, h5⟩
theorem sigs_kept {w w' : World} {v : Value} {l : List Tab.M} (h : Row 3 SigAt w v l) (k : Kept w w') : Row 3 SigAt w' v l := h.mono fun _ _ _ r => r.kept k
theorem ClsAt.kept {w w' : World} {b o : Nat} {x : Tab.C} (h : ClsAt w b o x) (k : Kept w w') : ClsAt w' b o x := by
  obtain ⟨h1, h2, ⟨v, h3, h4⟩, ⟨u, h5, h6⟩, h7⟩ := h
  exact ⟨k.cell h1, k.cell h2, ⟨v, k.cell h3, vars_kept h4 k⟩, ⟨u, k.cell h5, sigs_kept h6 k⟩, h7⟩
theorem tab_kept {w w' : World} {v : Value} {l : List Tab.C} (h : TabAt w v l) (k : Kept w w') : TabAt w' v l := h.mono fun _ _ _ r => r.kept k

theorem beq_yes {x s : ByteArray} (h : x = s) : (x.toList == s.toList) = true := by rw [h]; exact beq_self_eq_true _

theorem nmC_c (b o : Nat) (x : Tab.C) (w : World) (h : ClsAt w b o x) :
    Calls Tryd.prog 94 #[.pointer (some ⟨b, o, none⟩)] w fun e w' => e = .returned (.string x.name) ∧ w' = w := by
  obtain ⟨h1, h2, _⟩ := h
  go_enter Tryd.func94, Tryd.ntmps94
  go_wp2
  go_ret
  exact ⟨rfl, rfl⟩

theorem nmS_c (b o : Nat) (x : Tab.M) (w : World) (h : SigAt w b o x) :
    Calls Tryd.prog 88 #[.pointer (some ⟨b, o, none⟩)] w fun e w' => e = .returned (.string x.name) ∧ w' = w := by
  obtain ⟨h1, h2, _⟩ := h
  go_enter Tryd.func88, Tryd.ntmps88
  go_wp2
  go_ret
  exact ⟨rfl, rfl⟩

theorem nmV_c (b o : Nat) (x : Tab.V) (w : World) (h : VarAt w b o x) :
    Calls Tryd.prog 86 #[.pointer (some ⟨b, o, none⟩)] w fun e w' => e = .returned (.string x.name) ∧ w' = w := by
  obtain ⟨h1, h2, _⟩ := h
  go_enter Tryd.func86, Tryd.ntmps86
  go_wp2
  go_ret
  exact ⟨rfl, rfl⟩

/-- What a search answers. -/
def FindPost {α : Type} (nm : α → ByteArray) (l : List α) (s : ByteArray) (w : World) (e : Ending) (w' : World) : Prop :=
  e = .returned (.tuple #[.int .i64 (Tab.num (Tab.ix nm l s)), .bool (Tab.ix nm l s).isSome]) ∧ w' = w

theorem take_not {α : Type} {nm : α → ByteArray} {l : List α} {s : ByteArray} {k : Nat} {x : α} (h : ∀ y ∈ l.take k, ¬ nm y = s) (hx : l[k]? = some x) (hn : ¬ nm x = s) : ∀ y ∈ l.take (k + 1), ¬ nm y = s := by
  intro y hy
  rw [List.take_add_one, hx] at hy
  rcases List.mem_append.1 hy with h1 | h1
  · exact h y h1
  · simp at h1; rw [h1]; exact hn

set_option maxHeartbeats 2000000 in
theorem findC_c (l : List Tab.C) (v : Value) (s : ByteArray) (w : World) (h : Row 4 ClsAt w v l) :
    Calls Tryd.prog 93 #[v, .string s, .func (.func 94) #[] #[]] w (FindPost Tab.C.name l s w) := by
  obtain ⟨a, c, rfl, hlc, hcm, hat⟩ := h
  unfold maxLen at hcm
  go_enter Tryd.func93, Tryd.ntmps93
  go_wp2
  go_loopw [11] (fun i wr => ∃ k : Nat, k ≤ l.length ∧ i = .int .i64 k ∧ wr = w ∧ ∀ y ∈ l.take k, ¬ y.name = s) (fun i wr => l.length - (intOf i).toNat)
  case atStart => exact ⟨0, by omega, rfl, by first | trivial | rfl, by simp⟩
  case round =>
    obtain ⟨k, hk, rfl, rfl, hno⟩ := hrel
    by_cases hlt : k < l.length
    · have hx : l[k]? = some l[k] := List.getElem?_eq_getElem hlt
      obtain ⟨b, o, rfl, hr⟩ := hat k _ hx
      generalize l[k] = x at hx hr
      have hltI : (k : Int) < (l.length : Int) := by omega
      have HC := Lib.hid (nmC_c b _ x _ hr)
      by_cases hn : x.name = s
      · have HF := Lib.hid (Tab.ix_some hx hn hno)
        have hb := beq_yes hn
        clear hn hno hx hat hr
        go_wp2_with fail
        refine HC.out.mono ?_
        rintro e w1 ⟨rfl, rfl⟩
        go_wp2_with fail
        go_ret2
        exact ⟨by rw [HF.out]; rfl, rfl⟩
      · have HF := Lib.hid (take_not hno hx hn)
        have hb := beq_no hn
        clear hn hno hx hat hr
        go_wp2_with fail
        refine HC.out.mono ?_
        rintro e w1 ⟨rfl, rfl⟩
        go_wp2_with fail
        go_roundw
        case rel => exact ⟨k + 1, by omega, by go_num, by first | trivial | rfl, HF.out⟩
        case measure => simp [intOf]; omega
    · have hltI : ¬ (k : Int) < (l.length : Int) := by omega
      have hkl : k = l.length := by omega
      have HF := Lib.hid (Tab.ix_none (l := l) (by simpa [hkl] using hno))
      clear hno hat
      go_wp2_with fail
      go_ret2
      exact ⟨by rw [HF.out]; rfl, rfl⟩

set_option maxHeartbeats 2000000 in
theorem findS_c (l : List Tab.M) (v : Value) (s : ByteArray) (w : World) (h : Row 3 SigAt w v l) :
    Calls Tryd.prog 87 #[v, .string s, .func (.func 88) #[] #[]] w (FindPost Tab.M.name l s w) := by
  obtain ⟨a, c, rfl, hlc, hcm, hat⟩ := h
  unfold maxLen at hcm
  go_enter Tryd.func87, Tryd.ntmps87
  go_wp2
  go_loopw [11] (fun i wr => ∃ k : Nat, k ≤ l.length ∧ i = .int .i64 k ∧ wr = w ∧ ∀ y ∈ l.take k, ¬ y.name = s) (fun i wr => l.length - (intOf i).toNat)
  case atStart => exact ⟨0, by omega, rfl, by first | trivial | rfl, by simp⟩
  case round =>
    obtain ⟨k, hk, rfl, rfl, hno⟩ := hrel
    by_cases hlt : k < l.length
    · have hx : l[k]? = some l[k] := List.getElem?_eq_getElem hlt
      obtain ⟨b, o, rfl, hr⟩ := hat k _ hx
      generalize l[k] = x at hx hr
      have hltI : (k : Int) < (l.length : Int) := by omega
      have HC := Lib.hid (nmS_c b _ x _ hr)
      by_cases hn : x.name = s
      · have HF := Lib.hid (Tab.ix_some hx hn hno)
        have hb := beq_yes hn
        clear hn hno hx hat hr
        go_wp2_with fail
        refine HC.out.mono ?_
        rintro e w1 ⟨rfl, rfl⟩
        go_wp2_with fail
        go_ret2
        exact ⟨by rw [HF.out]; rfl, rfl⟩
      · have HF := Lib.hid (take_not hno hx hn)
        have hb := beq_no hn
        clear hn hno hx hat hr
        go_wp2_with fail
        refine HC.out.mono ?_
        rintro e w1 ⟨rfl, rfl⟩
        go_wp2_with fail
        go_roundw
        case rel => exact ⟨k + 1, by omega, by go_num, by first | trivial | rfl, HF.out⟩
        case measure => simp [intOf]; omega
    · have hltI : ¬ (k : Int) < (l.length : Int) := by omega
      have hkl : k = l.length := by omega
      have HF := Lib.hid (Tab.ix_none (l := l) (by simpa [hkl] using hno))
      clear hno hat
      go_wp2_with fail
      go_ret2
      exact ⟨by rw [HF.out]; rfl, rfl⟩

set_option maxHeartbeats 2000000 in
theorem findV_c (l : List Tab.V) (v : Value) (s : ByteArray) (w : World) (h : Row 2 VarAt w v l) :
    Calls Tryd.prog 85 #[v, .string s, .func (.func 86) #[] #[]] w (FindPost Tab.V.name l s w) := by
  obtain ⟨a, c, rfl, hlc, hcm, hat⟩ := h
  unfold maxLen at hcm
  go_enter Tryd.func85, Tryd.ntmps85
  go_wp2
  go_loopw [11] (fun i wr => ∃ k : Nat, k ≤ l.length ∧ i = .int .i64 k ∧ wr = w ∧ ∀ y ∈ l.take k, ¬ y.name = s) (fun i wr => l.length - (intOf i).toNat)
  case atStart => exact ⟨0, by omega, rfl, by first | trivial | rfl, by simp⟩
  case round =>
    obtain ⟨k, hk, rfl, rfl, hno⟩ := hrel
    by_cases hlt : k < l.length
    · have hx : l[k]? = some l[k] := List.getElem?_eq_getElem hlt
      obtain ⟨b, o, rfl, hr⟩ := hat k _ hx
      generalize l[k] = x at hx hr
      have hltI : (k : Int) < (l.length : Int) := by omega
      have HC := Lib.hid (nmV_c b _ x _ hr)
      by_cases hn : x.name = s
      · have HF := Lib.hid (Tab.ix_some hx hn hno)
        have hb := beq_yes hn
        clear hn hno hx hat hr
        go_wp2_with fail
        refine HC.out.mono ?_
        rintro e w1 ⟨rfl, rfl⟩
        go_wp2_with fail
        go_ret2
        exact ⟨by rw [HF.out]; rfl, rfl⟩
      · have HF := Lib.hid (take_not hno hx hn)
        have hb := beq_no hn
        clear hn hno hx hat hr
        go_wp2_with fail
        refine HC.out.mono ?_
        rintro e w1 ⟨rfl, rfl⟩
        go_wp2_with fail
        go_roundw
        case rel => exact ⟨k + 1, by omega, by go_num, by first | trivial | rfl, HF.out⟩
        case measure => simp [intOf]; omega
    · have hltI : ¬ (k : Int) < (l.length : Int) := by omega
      have hkl : k = l.length := by omega
      have HF := Lib.hid (Tab.ix_none (l := l) (by simpa [hkl] using hno))
      clear hno hat
      go_wp2_with fail
      go_ret2
      exact ⟨by rw [HF.out]; rfl, rfl⟩

theorem tfind_c (l : List Tab.C) (v : Value) (s : ByteArray) (w : World) (h : Row 4 ClsAt w v l) :
    Calls Tryd.prog 84 #[v, .string s] w (FindPost Tab.C.name l s w) := by
  have HC := Lib.hid (findC_c l v s w h)
  unfold FindPost at HC ⊢
  generalize Tab.num (Tab.ix Tab.C.name l s) = n at HC ⊢
  generalize (Tab.ix Tab.C.name l s).isSome = y at HC ⊢
  obtain ⟨a, c, rfl, _⟩ := h
  go_enter Tryd.func84, Tryd.ntmps84
  go_wp2_with fail
  refine HC.out.mono ?_
  rintro e w1 ⟨rfl, rfl⟩
  go_wp2_with fail
  go_ret2
  exact ⟨rfl, rfl⟩

theorem tfindSig_c (l : List Tab.M) (v : Value) (s : ByteArray) (w : World) (h : Row 3 SigAt w v l) :
    Calls Tryd.prog 75 #[v, .string s] w (FindPost Tab.M.name l s w) := by
  have HC := Lib.hid (findS_c l v s w h)
  unfold FindPost at HC ⊢
  generalize Tab.num (Tab.ix Tab.M.name l s) = n at HC ⊢
  generalize (Tab.ix Tab.M.name l s).isSome = y at HC ⊢
  obtain ⟨a, c, rfl, _⟩ := h
  go_enter Tryd.func75, Tryd.ntmps75
  go_wp2_with fail
  refine HC.out.mono ?_
  rintro e w1 ⟨rfl, rfl⟩
  go_wp2_with fail
  go_ret2
  exact ⟨rfl, rfl⟩

theorem tfindVar_c (l : List Tab.V) (v : Value) (s : ByteArray) (w : World) (h : Row 2 VarAt w v l) :
    Calls Tryd.prog 74 #[v, .string s] w (FindPost Tab.V.name l s w) := by
  have HC := Lib.hid (findV_c l v s w h)
  unfold FindPost at HC ⊢
  generalize Tab.num (Tab.ix Tab.V.name l s) = n at HC ⊢
  generalize (Tab.ix Tab.V.name l s).isSome = y at HC ⊢
  obtain ⟨a, c, rfl, _⟩ := h
  go_enter Tryd.func74, Tryd.ntmps74
  go_wp2_with fail
  refine HC.out.mono ?_
  rintro e w1 ⟨rfl, rfl⟩
  go_wp2_with fail
  go_ret2
  exact ⟨rfl, rfl⟩

end Go.Proofs.YtdceafncncgfbaaDoor
