/- Contracts of ints' operations, in the code and in the document's answers. Each stands in whatever world; what was in the world stays as it was. -/
import Derived.Test.YtcaailiijmjdlaaGreatDoorMpl
import Derived.Deep.QuietTactic
import Derived.BigQuiet
import Derived.StringKeys
import Derived.Laws.EntriesVeiled
set_option linter.unusedSimpArgs false
set_option linter.unusedVariables false
set_option maxRecDepth 100000
namespace Go.Proofs.YtcaailiijmjdlaaGreatDoor
open Go.ChangeShapes Go.WideShapes Go.ChangeAt Go.RowKit

def opv (f : Nat) (d : Bool) : DataW Value := .held (.agg #[.func (.func f) #[] #[], .bool d])
/-- The map of operations, as the literal fills it. -/
def opsD : DataW Value := (((((DataW.map []).put (.string [43]) (opv 116 false)).put (.string [45]) (opv 117 false)).put (.string [42]) (opv 118 false)).put (.string [47]) (opv 119 true)).put (.string [37]) (opv 120 true)

theorem operations_c (w : World) : Calls Tryz.prog 72 #[] w fun e w' => e = .returned (.map (some w.heap.size)) ∧ w'.ownsMap Tryz.prog 9 selfElem w.heap.size 5 opsD ∧ Kept w w' := by
  have hmm := @run_makeMap Tryz.prog
  have law := Maps.string_keyed (P := Tryz.prog) Tryz.underlying9
  have h0 := World.ownsMap_made w Tryz.prog 9 selfElem
  go_enter Tryz.func72, Tryz.ntmps72
  go_wp2_with (first | (refine wpList_insert_own _ rfl _ _ _ 93 rfl 9 91 law Tryz.underlying93 w.heap.size 0 _ rfl h0 (by unfold maxLen; omega) _ _ _ rfl rfl (WideMaps.keyOf_string_mk Tryz.underlying9 (by unfold maxLen; decide)) ?_; intro w1 h1 g1) | (refine wpList_insert_own _ rfl _ _ _ 93 rfl 9 91 law Tryz.underlying93 w.heap.size 1 _ rfl h1 (by unfold maxLen; omega) _ _ _ rfl rfl (WideMaps.keyOf_string_mk Tryz.underlying9 (by unfold maxLen; decide)) ?_; intro w2 h2 g2) | (refine wpList_insert_own _ rfl _ _ _ 93 rfl 9 91 law Tryz.underlying93 w.heap.size 2 _ rfl h2 (by unfold maxLen; omega) _ _ _ rfl rfl (WideMaps.keyOf_string_mk Tryz.underlying9 (by unfold maxLen; decide)) ?_; intro w3 h3 g3) | (refine wpList_insert_own _ rfl _ _ _ 93 rfl 9 91 law Tryz.underlying93 w.heap.size 3 _ rfl h3 (by unfold maxLen; omega) _ _ _ rfl rfl (WideMaps.keyOf_string_mk Tryz.underlying9 (by unfold maxLen; decide)) ?_; intro w4 h4 g4) | (refine wpList_insert_own _ rfl _ _ _ 93 rfl 9 91 law Tryz.underlying93 w.heap.size 4 _ rfl h4 (by unfold maxLen; omega) _ _ _ rfl rfl (WideMaps.keyOf_string_mk Tryz.underlying9 (by unfold maxLen; decide)) ?_; intro w5 h5 g5))
  go_ret
  have hb1 := (((Below.refl w.heap.size w).alloc (Nat.le_refl _) (.map #[] 0)).grown g1 (by simp) (fun k e => by cases e; exact Nat.le_refl _))
  have hb2 := hb1.grown g2 hb1.size (fun k e => by cases e; exact Nat.le_refl _)
  have hb3 := hb2.grown g3 hb2.size (fun k e => by cases e; exact Nat.le_refl _)
  have hb4 := hb3.grown g4 hb3.size (fun k e => by cases e; exact Nat.le_refl _)
  have hb5 := hb4.grown g5 hb4.size (fun k e => by cases e; exact Nat.le_refl _)
  exact ⟨rfl, h5, Kept.of_below hb5⟩

theorem add_c (a b : Int) (w : World) : Calls Tryz.prog 116 #[.int .i64 a, .int .i64 b] w fun e w' => e = .returned (.int .i64 (wrap64 (a + b))) ∧ w = w' := by
  go_enter Tryz.func116, Tryz.ntmps116
  go_wp2
  go_ret
  exact ⟨rfl, rfl⟩

theorem sub_c (a b : Int) (w : World) : Calls Tryz.prog 117 #[.int .i64 a, .int .i64 b] w fun e w' => e = .returned (.int .i64 (wrap64 (a - b))) ∧ w = w' := by
  go_enter Tryz.func117, Tryz.ntmps117
  go_wp2
  go_ret
  exact ⟨rfl, rfl⟩

theorem mul_c (a b : Int) (w : World) : Calls Tryz.prog 118 #[.int .i64 a, .int .i64 b] w fun e w' => e = .returned (.int .i64 (wrap64 (a * b))) ∧ w = w' := by
  go_enter Tryz.func118, Tryz.ntmps118
  go_wp2
  go_ret
  exact ⟨rfl, rfl⟩

theorem quo_c (a b : Int) (hb : b ≠ 0) (w : World) : Calls Tryz.prog 119 #[.int .i64 a, .int .i64 b] w fun e w' => e = .returned (.int .i64 (wrap64 (a.tdiv b))) ∧ w = w' := by
  go_enter Tryz.func119, Tryz.ntmps119
  go_wp2
  go_ret
  exact ⟨rfl, rfl⟩

theorem rem_c (a b : Int) (hb : b ≠ 0) (w : World) : Calls Tryz.prog 120 #[.int .i64 a, .int .i64 b] w fun e w' => e = .returned (.int .i64 (a.tmod b)) ∧ w = w' := by
  go_enter Tryz.func120, Tryz.ntmps120
  go_wp2
  go_ret
  exact ⟨rfl, rfl⟩

def zop : Value := .agg #[.nilFunc, .bool false]
theorem zop_run (w : World) : (zeroValue 91).run Tryz.prog w = .ok zop w := by kernel_rfl

theorem look (k : List UInt8) (f : Nat) (d : Bool) (h : DataW.atKey opsD (.string k) (.held zop) = opv f d) {v : Value} {ps : List MemPlace} (hv : selfElem v = some (opsD.atKey (.string k) (.held zop), ps)) : v = .agg #[.func (.func f) #[] #[], .bool d] := by
  rw [h] at hv
  exact selfElem_inv hv

theorem doR_add (a b : Int) (w : World) : Calls Tryz.prog 40 #[.string ⟨#[43]⟩, .int .i64 a, .int .i64 b] w fun e w' => e = .returned (.tuple #[.int .i64 (wrap64 (a + b)), .int .i64 0]) ∧ Kept w w' := by
  have law := Maps.string_keyed (P := Tryz.prog) Tryz.underlying9
  have hl := @look [43] 116 false (by kernel_rfl)
  have hh : Maps.has opsD (.string [43]) = true := by kernel_rfl
  go_enter Tryz.func40, Tryz.ntmps40
  go_wp2_with (first | (go_at_call 72; refine (operations_c _).mono ?_; rintro e w1 ⟨rfl, ho, hk⟩) | (at_lookup; refine wpList_lookup_own_ok _ rfl _ _ 93 rfl 9 91 law Tryz.underlying93 selfElem (zop_run _) (.held zop) [] rfl w.heap.size 5 opsD rfl ho _ (.string [43]) rfl (WideMaps.keyOf_string_mk Tryz.underlying9 (by unfold maxLen; decide)) ?_; intro v ps hv; obtain rfl := hl hv; clear hv) | (go_at_call 116; refine (add_c _ _ _).mono ?_; rintro e w' ⟨rfl, rfl⟩))
  go_ret2
  exact ⟨rfl, hk.trans (Kept.of_below ((Below.refl _ w1).alloc (Nat.le_refl _) _))⟩

theorem doR_sub (a b : Int) (w : World) : Calls Tryz.prog 40 #[.string ⟨#[45]⟩, .int .i64 a, .int .i64 b] w fun e w' => e = .returned (.tuple #[.int .i64 (wrap64 (a - b)), .int .i64 0]) ∧ Kept w w' := by
  have law := Maps.string_keyed (P := Tryz.prog) Tryz.underlying9
  have hl := @look [45] 117 false (by kernel_rfl)
  have hh : Maps.has opsD (.string [45]) = true := by kernel_rfl
  go_enter Tryz.func40, Tryz.ntmps40
  go_wp2_with (first | (go_at_call 72; refine (operations_c _).mono ?_; rintro e w1 ⟨rfl, ho, hk⟩) | (at_lookup; refine wpList_lookup_own_ok _ rfl _ _ 93 rfl 9 91 law Tryz.underlying93 selfElem (zop_run _) (.held zop) [] rfl w.heap.size 5 opsD rfl ho _ (.string [45]) rfl (WideMaps.keyOf_string_mk Tryz.underlying9 (by unfold maxLen; decide)) ?_; intro v ps hv; obtain rfl := hl hv; clear hv) | (go_at_call 117; refine (sub_c _ _ _).mono ?_; rintro e w' ⟨rfl, rfl⟩))
  go_ret2
  exact ⟨rfl, hk.trans (Kept.of_below ((Below.refl _ w1).alloc (Nat.le_refl _) _))⟩

theorem doR_mul (a b : Int) (w : World) : Calls Tryz.prog 40 #[.string ⟨#[42]⟩, .int .i64 a, .int .i64 b] w fun e w' => e = .returned (.tuple #[.int .i64 (wrap64 (a * b)), .int .i64 0]) ∧ Kept w w' := by
  have law := Maps.string_keyed (P := Tryz.prog) Tryz.underlying9
  have hl := @look [42] 118 false (by kernel_rfl)
  have hh : Maps.has opsD (.string [42]) = true := by kernel_rfl
  go_enter Tryz.func40, Tryz.ntmps40
  go_wp2_with (first | (go_at_call 72; refine (operations_c _).mono ?_; rintro e w1 ⟨rfl, ho, hk⟩) | (at_lookup; refine wpList_lookup_own_ok _ rfl _ _ 93 rfl 9 91 law Tryz.underlying93 selfElem (zop_run _) (.held zop) [] rfl w.heap.size 5 opsD rfl ho _ (.string [42]) rfl (WideMaps.keyOf_string_mk Tryz.underlying9 (by unfold maxLen; decide)) ?_; intro v ps hv; obtain rfl := hl hv; clear hv) | (go_at_call 118; refine (mul_c _ _ _).mono ?_; rintro e w' ⟨rfl, rfl⟩))
  go_ret2
  exact ⟨rfl, hk.trans (Kept.of_below ((Below.refl _ w1).alloc (Nat.le_refl _) _))⟩

theorem doR_quo (a b : Int) (hb : b ≠ 0) (w : World) : Calls Tryz.prog 40 #[.string ⟨#[47]⟩, .int .i64 a, .int .i64 b] w fun e w' => e = .returned (.tuple #[.int .i64 (wrap64 (a.tdiv b)), .int .i64 0]) ∧ Kept w w' := by
  have law := Maps.string_keyed (P := Tryz.prog) Tryz.underlying9
  have hl := @look [47] 119 true (by kernel_rfl)
  have hh : Maps.has opsD (.string [47]) = true := by kernel_rfl
  have hz : (b == 0) = false := by simpa using hb
  have HB := Lib.hid hb
  clear hb
  go_enter Tryz.func40, Tryz.ntmps40
  go_wp2_with (first | (go_at_call 72; refine (operations_c _).mono ?_; rintro e w1 ⟨rfl, ho, hk⟩) | (at_lookup; refine wpList_lookup_own_ok _ rfl _ _ 93 rfl 9 91 law Tryz.underlying93 selfElem (zop_run _) (.held zop) [] rfl w.heap.size 5 opsD rfl ho _ (.string [47]) rfl (WideMaps.keyOf_string_mk Tryz.underlying9 (by unfold maxLen; decide)) ?_; intro v ps hv; obtain rfl := hl hv; clear hv) | (go_at_call 119; refine (quo_c _ _ HB.out _).mono ?_; rintro e w' ⟨rfl, rfl⟩))
  go_ret2
  exact ⟨rfl, hk.trans (Kept.of_below ((Below.refl _ w1).alloc (Nat.le_refl _) _))⟩

theorem doR_rem (a b : Int) (hb : b ≠ 0) (w : World) : Calls Tryz.prog 40 #[.string ⟨#[37]⟩, .int .i64 a, .int .i64 b] w fun e w' => e = .returned (.tuple #[.int .i64 (a.tmod b), .int .i64 0]) ∧ Kept w w' := by
  have law := Maps.string_keyed (P := Tryz.prog) Tryz.underlying9
  have hl := @look [37] 120 true (by kernel_rfl)
  have hh : Maps.has opsD (.string [37]) = true := by kernel_rfl
  have hz : (b == 0) = false := by simpa using hb
  have HB := Lib.hid hb
  clear hb
  go_enter Tryz.func40, Tryz.ntmps40
  go_wp2_with (first | (go_at_call 72; refine (operations_c _).mono ?_; rintro e w1 ⟨rfl, ho, hk⟩) | (at_lookup; refine wpList_lookup_own_ok _ rfl _ _ 93 rfl 9 91 law Tryz.underlying93 selfElem (zop_run _) (.held zop) [] rfl w.heap.size 5 opsD rfl ho _ (.string [37]) rfl (WideMaps.keyOf_string_mk Tryz.underlying9 (by unfold maxLen; decide)) ?_; intro v ps hv; obtain rfl := hl hv; clear hv) | (go_at_call 120; refine (rem_c _ _ HB.out _).mono ?_; rintro e w' ⟨rfl, rfl⟩))
  go_ret2
  exact ⟨rfl, hk.trans (Kept.of_below ((Below.refl _ w1).alloc (Nat.le_refl _) _))⟩

theorem doR_quo0 (a : Int) (w : World) : Calls Tryz.prog 40 #[.string ⟨#[47]⟩, .int .i64 a, .int .i64 0] w fun e w' => e = .returned (.tuple #[.int .i64 0, .int .i64 3]) ∧ Kept w w' := by
  have law := Maps.string_keyed (P := Tryz.prog) Tryz.underlying9
  have hl := @look [47] 119 true (by kernel_rfl)
  have hh : Maps.has opsD (.string [47]) = true := by kernel_rfl
  go_enter Tryz.func40, Tryz.ntmps40
  go_wp2_with (first | (go_at_call 72; refine (operations_c _).mono ?_; rintro e w1 ⟨rfl, ho, hk⟩) | (at_lookup; refine wpList_lookup_own_ok _ rfl _ _ 93 rfl 9 91 law Tryz.underlying93 selfElem (zop_run _) (.held zop) [] rfl w.heap.size 5 opsD rfl ho _ (.string [47]) rfl (WideMaps.keyOf_string_mk Tryz.underlying9 (by unfold maxLen; decide)) ?_; intro v ps hv; obtain rfl := hl hv; clear hv))
  go_ret2
  exact ⟨rfl, hk.trans (Kept.of_below ((Below.refl _ w1).alloc (Nat.le_refl _) _))⟩

theorem doR_rem0 (a : Int) (w : World) : Calls Tryz.prog 40 #[.string ⟨#[37]⟩, .int .i64 a, .int .i64 0] w fun e w' => e = .returned (.tuple #[.int .i64 0, .int .i64 3]) ∧ Kept w w' := by
  have law := Maps.string_keyed (P := Tryz.prog) Tryz.underlying9
  have hl := @look [37] 120 true (by kernel_rfl)
  have hh : Maps.has opsD (.string [37]) = true := by kernel_rfl
  go_enter Tryz.func40, Tryz.ntmps40
  go_wp2_with (first | (go_at_call 72; refine (operations_c _).mono ?_; rintro e w1 ⟨rfl, ho, hk⟩) | (at_lookup; refine wpList_lookup_own_ok _ rfl _ _ 93 rfl 9 91 law Tryz.underlying93 selfElem (zop_run _) (.held zop) [] rfl w.heap.size 5 opsD rfl ho _ (.string [37]) rfl (WideMaps.keyOf_string_mk Tryz.underlying9 (by unfold maxLen; decide)) ?_; intro v ps hv; obtain rfl := hl hv; clear hv))
  go_ret2
  exact ⟨rfl, hk.trans (Kept.of_below ((Below.refl _ w1).alloc (Nat.le_refl _) _))⟩

theorem doR_none (s : ByteArray) (a b : Int) (w : World) (hs : s.size ≤ maxLen) (h : Maps.has opsD (.string s.data.toList) = false) (h2 : DataW.atKey opsD (.string s.data.toList) (.held zop) = .held zop) : Calls Tryz.prog 40 #[.string s, .int .i64 a, .int .i64 b] w fun e w' => e = .returned (.tuple #[.int .i64 0, .int .i64 2]) ∧ Kept w w' := by
  have law := Maps.string_keyed (P := Tryz.prog) Tryz.underlying9
  have hl : ∀ {v : Value} {ps : List MemPlace}, selfElem v = some (opsD.atKey (.string s.data.toList) (.held zop), ps) → v = .agg #[.nilFunc, .bool false] := fun hv => by rw [h2] at hv; exact selfElem_inv hv
  have HS := Lib.hid hs
  clear hs h2
  go_enter Tryz.func40, Tryz.ntmps40
  go_wp2_with (first | (go_at_call 72; refine (operations_c _).mono ?_; rintro e w1 ⟨rfl, ho, hk⟩) | (at_lookup; refine wpList_lookup_own_ok _ rfl _ _ 93 rfl 9 91 law Tryz.underlying93 selfElem (zop_run _) (.held zop) [] rfl w.heap.size 5 opsD rfl ho _ (.string s.data.toList) rfl (WideMaps.keyOf_string_mk Tryz.underlying9 HS.out) ?_; intro v ps hv; obtain rfl := hl hv; clear hv))
  go_ret2
  exact ⟨rfl, hk.trans (Kept.of_below ((Below.refl _ w1).alloc (Nat.le_refl _) _))⟩
theorem ops_none {l : List UInt8} (h1 : (l == [43]) = false) (h2 : (l == [45]) = false) (h3 : (l == [42]) = false) (h4 : (l == [47]) = false) (h5 : (l == [37]) = false) : Maps.has opsD (.string l) = false ∧ DataW.atKey opsD (.string l) (.held zop) = .held zop := by
  have e : opsD = .map [(.string [37], opv 120 true), (.string [42], opv 118 false), (.string [43], opv 116 false), (.string [45], opv 117 false), (.string [47], opv 119 true)] := by kernel_rfl
  have k : ∀ x : List UInt8, (l == x) = false → Lit.sameKey (.string x) (.string l) = false := by
    intro x hx
    have hx' : l ≠ x := by simpa using hx
    simp [Lit.sameKey, Ne.symm hx']
  rw [e]
  simp [Maps.has, DataW.atKey, List.find?, k _ h1, k _ h2, k _ h3, k _ h4, k _ h5]

end Go.Proofs.YtcaailiijmjdlaaGreatDoor
