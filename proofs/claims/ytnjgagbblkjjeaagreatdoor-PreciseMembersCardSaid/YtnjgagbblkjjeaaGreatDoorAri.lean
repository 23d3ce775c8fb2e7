/- The laws' helpers: Pick, longVars, LongTable. The contract of table.Method. The contract of table.Field. The contract of slices.Backward at a row of methods: whatever body a loop over it has, in a loop's round too. The contract of table.Arity. -/
import Derived.Test.YtnjgagbblkjjeaaGreatDoorTbf
import Derived.Test.YtnjgagbblkjjeaaGreatDoorBlk
import Derived.Test.YtnjgagbblkjjeaaGreatDoorFie
import Derived.Test.YtnjgagbblkjjeaaGreatDoorCpy
import Derived.Test.YtnjgagbblkjjeaaGreatDoorKey
set_option linter.unusedSimpArgs false
set_option linter.unusedVariables false
set_option maxRecDepth 100000
namespace Go.Proofs.YtnjgagbblkjjeaaGreatDoor
open Go.ChangeShapes Go.WideShapes Go.ChangeAt Go.RowKit

/-- some bool -/
def IsB (e : Ending) : Prop := ∃ b, e = .returned (.bool b)

theorem isb (b : Bool) : IsB (Ending.returned (.bool b)) := ⟨b, rfl⟩

theorem pick_c (x : Int) (n : Nat) (w : World) (h0 : 0 < n) (hn : n ≤ 1000) (h1 : -9223372036854775808 ≤ x) (h2 : x ≤ 9223372036854775807) :
    Calls Tryz.prog 33 #[.int .i64 x, .int .i64 n] w fun e w' => (∃ k : Nat, k < n ∧ e = .returned (.int .i64 k)) ∧ w' = w := by
  have hnI : ¬ (n : Int) ≤ 0 := by omega
  have hne : ¬ (n : Int) = 0 := by omega
  have hm1 : -(n : Int) < x.tmod n := by
    rcases Int.natAbs_eq x with h | h
    · rw [h, show ((x.natAbs : Int)).tmod (n : Int) = ((x.natAbs % n : Nat) : Int) from (Int.ofNat_tmod _ _).symm]; omega
    · rw [h, Int.neg_tmod, show ((x.natAbs : Int)).tmod (n : Int) = ((x.natAbs % n : Nat) : Int) from (Int.ofNat_tmod _ _).symm]
      have := Nat.mod_lt x.natAbs h0; omega
  have hm2 : x.tmod n < (n : Int) := by
    rcases Int.natAbs_eq x with h | h
    · rw [h, show ((x.natAbs : Int)).tmod (n : Int) = ((x.natAbs % n : Nat) : Int) from (Int.ofNat_tmod _ _).symm]
      have := Nat.mod_lt x.natAbs h0; omega
    · rw [h, Int.neg_tmod, show ((x.natAbs : Int)).tmod (n : Int) = ((x.natAbs % n : Nat) : Int) from (Int.ofNat_tmod _ _).symm]; omega
  generalize hr : x.tmod n = r at hm1 hm2
  by_cases hneg : r < 0
  · have HK := Lib.hid (show ∃ k : Nat, k < n ∧ r + n = (k : Int) from ⟨(r + n).toNat, by omega, by omega⟩)
    go_enter Tryz.func33, Tryz.ntmps33
    go_wp2_with fail
    go_ret
    obtain ⟨k, hk, e⟩ := HK.out
    exact ⟨⟨k, hk, by rw [← e]; first | rfl | (congr 2; go_num)⟩, rfl⟩
  · have HK := Lib.hid (show ∃ k : Nat, k < n ∧ r = (k : Int) from ⟨r.toNat, by omega, by omega⟩)
    go_enter Tryz.func33, Tryz.ntmps33
    go_wp2_with fail
    go_ret
    obtain ⟨k, hk, e⟩ := HK.out
    exact ⟨⟨k, hk, by rw [← e]; rfl⟩, rfl⟩

theorem longvars_c (l : List Tab.V) (v : Value) (w : World) (h : Row 2 VarAt w v l) :
    Calls Tryz.prog 52 #[v] w fun e w' => IsB e ∧ w' = w := by
  obtain ⟨a, c, rfl, h1, h2, hat⟩ := h
  unfold maxLen at h2
  have HAT := Lib.hid hat
  clear hat
  go_enter Tryz.func52, Tryz.ntmps52
  go_wp2_with fail
  go_loopw [3] (fun q wr => ∃ j : Nat, j ≤ l.length ∧ q = .int .i64 j ∧ wr = w) (fun q wr => l.length - (intOf q).toNat)
  case atStart => exact ⟨0, Nat.zero_le _, rfl, by first | trivial | rfl⟩
  case round =>
    obtain ⟨j, hj, rfl, rfl⟩ := hrel
    by_cases hlt : j < l.length
    · have hltI : (j : Int) < (l.length : Int) := by omega
      have hx : l[j]? = some l[j] := List.getElem?_eq_getElem hlt
      obtain ⟨b, o, rfl, x0, x1, hs⟩ := HAT.out _ _ hx
      generalize l[j] = x at hx x0 x1 hs
      by_cases q1 : 30 < x.name.size
      · have q1I : (30 : Int) < (x.name.size : Int) := by omega
        clear hx
        go_wp2_with fail
        go_ret
        exact ⟨isb _, rfl⟩
      · have q1I : ¬ (30 : Int) < (x.name.size : Int) := by omega
        by_cases q2 : 30 < x.typ.size
        · have q2I : (30 : Int) < (x.typ.size : Int) := by omega
          clear hx
          go_wp2_with fail
          go_ret
          exact ⟨isb _, rfl⟩
        · have q2I : ¬ (30 : Int) < (x.typ.size : Int) := by omega
          clear hx
          go_wp2_with fail
          go_roundw
          case rel => exact ⟨j + 1, by omega, by go_num, by first | trivial | rfl⟩
          case measure => simp [intOf]; omega
    · have hltI : ¬ (j : Int) < (l.length : Int) := by omega
      go_wp2_with fail
      go_ret
      exact ⟨isb _, rfl⟩

/-- what a class that isn't long has -/
def ShortM (m : Tab.M) : Prop := m.params.length ≤ 10

def ShortC (c : Tab.C) : Prop := c.fields.length ≤ 7 ∧ c.methods.length ≤ 7 ∧ ∀ m ∈ c.methods, ShortM m

/-- what LongTable tells -/
def LongPost (t : List Tab.C) (e : Ending) : Prop := ∃ b, e = .returned (.bool b) ∧ (b = false → t.length ≤ 9 ∧ ∀ c ∈ t, ShortC c)

theorem long_yes (t : List Tab.C) : LongPost t (.returned (.bool true)) := ⟨true, rfl, fun h => by cases h⟩

theorem all_more {α : Type} {P : α → Prop} {l : List α} {k : Nat} {x : α} (h : ∀ y ∈ l.take k, P y) (hx : l[k]? = some x) (hp : P x) : ∀ y ∈ l.take (k + 1), P y := by
  intro y hy
  rw [List.take_add_one, hx] at hy
  rcases List.mem_append.1 hy with hy | hy
  · exact h y hy
  · simp at hy; rw [hy]; exact hp

set_option maxHeartbeats 4000000 in
theorem long_c (t : List Tab.C) (v : Value) (w : World) (h : TabAt w v t) :
    Calls Tryz.prog 12 #[v] w fun e w' => LongPost t e ∧ Kept w w' := by
  obtain ⟨a, cp, rfl, h1, h2, hat⟩ := h
  unfold maxLen at h2
  have HAT := Lib.hid hat
  clear hat
  go_enter Tryz.func12, Tryz.ntmps12
  go_wp2_with fail
  go_loopw [3] (fun q wr => ∃ i : Nat, i ≤ t.length ∧ i ≤ 10 ∧ q = .int .i64 i ∧ Kept w wr ∧ ∀ c ∈ t.take i, ShortC c) (fun q wr => t.length - (intOf q).toNat)
  case atStart => exact ⟨0, Nat.zero_le _, by omega, rfl, Kept.refl _, by simp⟩
  case round =>
    obtain ⟨i, hi, hi10, rfl, hkp, hs⟩ := hrel
    have HS := Lib.hid hs
    have HK := Lib.hid hkp
    clear hs
    by_cases hlt : i < t.length
    · have hltI : (i : Int) < (t.length : Int) := by omega
      by_cases ht : i < 10
      · have htI : (i : Int) < 10 := by omega
        have hx : t[i]? = some t[i] := List.getElem?_eq_getElem hlt
        have HX := Lib.hid hx
        obtain ⟨b, o, rfl, hcl⟩ := HAT.out _ _ hx
        generalize t[i] = c at hx HX hcl
        obtain ⟨c0, c1, ⟨fu, c2, hf⟩, ⟨mu, c3, hm⟩, hs1, hs2⟩ := hcl.kept hkp
        have HF := Lib.hid hf
        obtain ⟨fa, fc, rfl, hf1, hf2, _⟩ := hf
        obtain ⟨ma, mc, rfl, hm1, hm2, hmat⟩ := hm
        unfold maxLen at hf2 hm2 hs1 hs2
        have HMAT := Lib.hid hmat
        have HB := Lib.hid (Blk.new wr 46 #[.string c.name, .string c.super, .slice fa c.fields.length fc, .slice ma c.methods.length mc])
        have HKA := Lib.hid (hkp.alloc (.cells #[.string c.name, .string c.super, .slice fa c.fields.length fc, .slice ma c.methods.length mc] 46))
        have HL := Lib.hid (fun w1 (k1 : Kept wr w1) => longvars_c c.fields (.slice fa c.fields.length fc) w1 (vars_kept HF.out k1))
        clear hx hcl hkp hmat
        by_cases q1 : 30 < c.name.size
        · have q1I : (30 : Int) < (c.name.size : Int) := by omega
          go_wp2_with fail
          go_ret
          exact ⟨long_yes _, HKA.out⟩
        · have q1I : ¬ (30 : Int) < (c.name.size : Int) := by omega
          by_cases q2 : 30 < c.super.size
          · have q2I : (30 : Int) < (c.super.size : Int) := by omega
            go_wp2_with fail
            go_ret
            exact ⟨long_yes _, HKA.out⟩
          · have q2I : ¬ (30 : Int) < (c.super.size : Int) := by omega
            by_cases q3 : 7 < c.fields.length
            · have q3I : (7 : Int) < (c.fields.length : Int) := by omega
              go_wp2_with fail
              go_ret
              exact ⟨long_yes _, HKA.out⟩
            · have q3I : ¬ (7 : Int) < (c.fields.length : Int) := by omega
              by_cases q4 : 7 < c.methods.length
              · have q4I : (7 : Int) < (c.methods.length : Int) := by omega
                go_wp2_with fail
                go_ret
                exact ⟨long_yes _, HKA.out⟩
              · have q4I : ¬ (7 : Int) < (c.methods.length : Int) := by omega
                have HL1 := Lib.hid (HL.out _ ((Kept.refl wr).alloc (.cells #[.string c.name, .string c.super, .slice fa c.fields.length fc, .slice ma c.methods.length mc] 46)))
                go_wp2_with fail
                refine HL1.out.mono ?_
                rintro e w3 ⟨⟨bv, rfl⟩, rfl⟩
                cases bv with
                | true =>
                  go_wp2_with fail
                  go_ret
                  exact ⟨long_yes _, HKA.out⟩
                | false =>
                  go_wp2_with fail
                  clear c0 c1 c2 c3
                  obtain ⟨wo, rfl⟩ : ∃ wo, wo = wr := ⟨_, rfl⟩
                  go_loopw [5] (fun q wr => ∃ k : Nat, k ≤ c.methods.length ∧ q = .int .i64 k ∧ Kept w wr ∧ Kept wo wr ∧ Blk wr wo.heap.size 46 #[.string c.name, .string c.super, .slice fa c.fields.length fc, .slice ma c.methods.length mc] ∧ ∀ m ∈ c.methods.take k, ShortM m) (fun q wr => c.methods.length - (intOf q).toNat)
                  case atStart => exact ⟨0, Nat.zero_le _, rfl, HKA.out, (Kept.refl wo).alloc _, HB.out, by simp⟩
                  case round =>
                    obtain ⟨k, hk, rfl, hkw, hkr, hbs, hms⟩ := hrel
                    have HMS := Lib.hid hms
                    have HKW := Lib.hid hkw
                    have HKR := Lib.hid hkr
                    have HBS := Lib.hid hbs
                    have d3 := hbs.cell 3
                    simp at d3
                    clear hms
                    by_cases hml : k < c.methods.length
                    · have hmlI : (k : Int) < (c.methods.length : Int) := by omega
                      have hy : c.methods[k]? = some c.methods[k] := List.getElem?_eq_getElem hml
                      have HY := Lib.hid hy
                      obtain ⟨b2, o2, rfl, hsg⟩ := HMAT.out _ _ hy
                      generalize c.methods[k] = m at hy HY hsg
                      obtain ⟨m0, ⟨pu, m1, hp⟩, m2, ms1, ms2⟩ := hsg.kept hkr
                      have HP := Lib.hid hp
                      obtain ⟨pa, pc, rfl, hp1, hp2, _⟩ := hp
                      unfold maxLen at hp2 ms1 ms2
                      have HKM := Lib.hid (hkw.alloc (.cells #[.string m.name, .slice pa m.params.length pc, .string m.res] 53))
                      have HKN := Lib.hid (hkr.alloc (.cells #[.string m.name, .slice pa m.params.length pc, .string m.res] 53))
                      have HBM := Lib.hid (hbs.alloc (.cells #[.string m.name, .slice pa m.params.length pc, .string m.res] 53))
                      have HLM := Lib.hid (longvars_c m.params (.slice pa m.params.length pc) _ (vars_kept HP.out ((Kept.refl wr).alloc (.cells #[.string m.name, .slice pa m.params.length pc, .string m.res] 53))))
                      clear hy hsg hkw hkr hbs
                      by_cases r1 : 30 < m.name.size
                      · have r1I : (30 : Int) < (m.name.size : Int) := by omega
                        go_wp2_with fail
                        go_ret
                        exact ⟨long_yes _, HKM.out⟩
                      · have r1I : ¬ (30 : Int) < (m.name.size : Int) := by omega
                        by_cases r2 : 30 < m.res.size
                        · have r2I : (30 : Int) < (m.res.size : Int) := by omega
                          go_wp2_with fail
                          go_ret
                          exact ⟨long_yes _, HKM.out⟩
                        · have r2I : ¬ (30 : Int) < (m.res.size : Int) := by omega
                          by_cases r3 : 10 < m.params.length
                          · have r3I : (10 : Int) < (m.params.length : Int) := by omega
                            go_wp2_with fail
                            go_ret
                            exact ⟨long_yes _, HKM.out⟩
                          · have r3I : ¬ (10 : Int) < (m.params.length : Int) := by omega
                            go_wp2_with fail
                            refine HLM.out.mono ?_
                            rintro e w4 ⟨⟨bm, rfl⟩, rfl⟩
                            cases bm with
                            | true =>
                              go_wp2_with fail
                              go_ret
                              exact ⟨long_yes _, HKM.out⟩
                            | false =>
                              have HMO := Lib.hid (all_more HMS.out HY.out (show ShortM m by unfold ShortM; omega))
                              go_wp2_with fail
                              go_roundw
                              case rel => exact ⟨k + 1, by omega, by go_num, HKM.out, HKN.out, HBM.out, HMO.out⟩
                              case measure => simp [intOf]; omega
                    · have hmlI : ¬ (k : Int) < (c.methods.length : Int) := by omega
                      obtain rfl : k = c.methods.length := by omega
                      have HMO := Lib.hid (all_more HS.out HX.out (show ShortC c from ⟨by omega, by omega, by have := HMS.out; rwa [List.take_length] at this⟩))
                      go_wp2_with fail
                      go_roundw
                      case rel => exact ⟨i + 1, by omega, by omega, by go_num, HKW.out, HMO.out⟩
                      case measure => simp [intOf]; omega
      · have htI : ¬ (i : Int) < 10 := by omega
        have h9 : (9 : Int) < (t.length : Int) := by omega
        go_wp2_with fail
        go_ret
        exact ⟨long_yes _, HK.out⟩
    · have hltI : ¬ (i : Int) < (t.length : Int) := by omega
      obtain rfl : i = t.length := by omega
      by_cases h9 : 9 < t.length
      · have h9I : (9 : Int) < (t.length : Int) := by omega
        go_wp2_with fail
        go_ret
        exact ⟨long_yes _, HK.out⟩
      · have h9I : ¬ (9 : Int) < (t.length : Int) := by omega
        have HE := Lib.hid (show LongPost t (.returned (.bool false)) from ⟨false, rfl, fun _ => ⟨by omega, by have := HS.out; rwa [List.take_length] at this⟩⟩)
        go_wp2_with fail
        go_ret
        exact ⟨HE.out, HK.out⟩

end Go.Proofs.YtnjgagbblkjjeaaGreatDoor

namespace Go.Proofs.YtnjgagbblkjjeaaGreatDoor
open Go.ChangeShapes Go.WideShapes Go.ChangeAt Go.RowKit Go.Shelf
attribute [local go_sem] Oper.semAt_some

abbrev zSig : Array Value := #[.string ⟨#[]⟩, .slice none 0 0, .string ⟨#[]⟩]

/-- Within the loop: the name, the results' cells. -/
def MetC (nm : ByteArray) (w : World) (m : Array Value) (s : Value) (b : Value) (W : World) : Prop :=
  Blk W w.heap.size 9 #[.string nm] ∧ Blk W (w.heap.size + 1) 53 m ∧ Blk W (w.heap.size + 1 + 1) 9 #[s] ∧ Blk W (w.heap.size + 1 + 1 + 1) 4 #[b] ∧ Kept w W
def MetI (t : List Tab.C) (nm : ByteArray) (w : World) (pre : List Nat) (W : World) : Prop :=
  MetC nm w zSig (.string ⟨#[]⟩) (.bool false) W ∧ ∀ i ∈ pre, Tab.methodOf nm (Tab.nth t i) = none
def MetX (t : List Tab.C) (nm : ByteArray) (w : World) (c : Code) (pre : List Nat) (W : World) : Prop :=
  c = .ret ∧ ∃ pre0 i m p, pre = pre0 ++ [i] ∧ (∀ i ∈ pre0, Tab.methodOf nm (Tab.nth t i) = none) ∧ Tab.methodOf nm (Tab.nth t i) = some m ∧
    MetC nm w #[.string m.name, p, .string m.res] (.string (Tab.nth t i).name) (.bool true) W ∧ W.ownsRow (w.heap.size + 9) 50 2 p m.params.length (m.params.flatMap vCells)

theorem metC_only {nm : ByteArray} {w A B : World} {m : Array Value} {s b : Value} {S : Nat → Prop} (h : MetC nm w m s b A) (ho : Only S A B) (hs : ∀ k, S k → w.heap.size + 4 ≤ k) : MetC nm w m s b B :=
  ⟨h.1.only ho (fun e => by have := hs _ e; omega), h.2.1.only ho (fun e => by have := hs _ e; omega), h.2.2.1.only ho (fun e => by have := hs _ e; omega), h.2.2.2.1.only ho (fun e => by have := hs _ e; omega), h.2.2.2.2.onlyS ho (fun k e => by have := hs k e; omega)⟩
theorem met_keep {nm : ByteArray} {w A B : World} {m : Array Value} {s b : Value} (h : MetC nm w m s b A) (k : Kept A B) : MetC nm w m s b B := metC_only h (S := fun _ => False) (Only.of_kept k) (fun _ h => h.elim)
theorem met_facts {nm : ByteArray} {w W : World} {s b : Value} (h : MetC nm w zSig s b W) :
    (W.cell? ⟨w.heap.size + 1, 0, none⟩ = some (.string ⟨#[]⟩) ∧ W.cell? ⟨w.heap.size + 1, 1, none⟩ = some (.slice none 0 0) ∧ W.cell? ⟨w.heap.size + 1, 2, none⟩ = some (.string ⟨#[]⟩)) ∧ W.cell? ⟨w.heap.size + 1 + 1, 0, none⟩ = some s ∧ W.cell? ⟨w.heap.size + 1 + 1 + 1, 0, none⟩ = some b ∧
    W.frozen? ⟨w.heap.size + 1, 0, none⟩ = false ∧ W.frozen? ⟨w.heap.size + 1, 1, none⟩ = false ∧ W.frozen? ⟨w.heap.size + 1, 2, none⟩ = false ∧ W.frozen? ⟨w.heap.size + 1 + 1, 0, none⟩ = false ∧ W.frozen? ⟨w.heap.size + 1 + 1 + 1, 0, none⟩ = false :=
  ⟨⟨h.2.1.cell 0, h.2.1.cell 1, h.2.1.cell 2⟩, h.2.2.1.cell 0, h.2.2.2.1.cell 0, h.2.1.frozen 0, h.2.1.frozen 1, h.2.1.frozen 2, h.2.2.1.frozen 0, h.2.2.2.1.frozen 0⟩

theorem met_none {t : List Tab.C} {nm : ByteArray} {w W : World} {U : Nat → Prop} {pre : List Nat} {i : Nat} (h : MetI t nm w pre W) (hx : Tab.ix Tab.M.name (Tab.nth t i).methods nm = none) :
    Only U W W.drew ∧ MetI t nm w (pre ++ [i]) W.drew := by
  refine ⟨(Only.refl _ W).drew, ⟨h.1.1, h.1.2.1, h.1.2.2.1, h.1.2.2.2.1, h.1.2.2.2.2.drew⟩, fun j hj => ?_⟩
  rcases List.mem_append.1 hj with hj | hj
  · exact h.2 j hj
  · simp at hj
    subst hj
    unfold Tab.methodOf
    rw [hx]; rfl

/-- The results' cells, written. -/
def metW (w w2 : World) (m : Tab.M) (p : Value) (s : ByteArray) : World :=
  ((((w2.setCell ⟨w.heap.size + 1, 0, none⟩ (.string m.name)).setCell ⟨w.heap.size + 1, 1, none⟩ p).setCell ⟨w.heap.size + 1, 2, none⟩ (.string m.res)).setCell ⟨w.heap.size + 1 + 1, 0, none⟩ (.string s)).setCell ⟨w.heap.size + 1 + 1 + 1, 0, none⟩ (.bool true)

theorem met_some {t : List Tab.C} {nm : ByteArray} {w W W2 w2 : World} {X : Nat → Prop} {pre : List Nat} {i k : Nat} {m : Tab.M} {p : Value} (h : MetI t nm w pre W) (hx : Tab.ix Tab.M.name (Tab.nth t i).methods nm = some k) (hy : (Tab.nth t i).methods[k]? = some m)
    (hr : w2.ownsRow W2.heap.size 50 2 p m.params.length (m.params.flatMap vCells)) (hk : Kept W2 w2) (hk0 : Kept W W2) (hsz : w.heap.size + 9 ≤ W2.heap.size) :
    Only (fun k => (k = w.heap.size + 1 ∨ k = w.heap.size + 1 + 1 ∨ k = w.heap.size + 1 + 1 + 1) ∨ X k) W (metW w w2 m p (Tab.nth t i).name) ∧ MetX t nm w .ret (pre ++ [i]) (metW w w2 m p (Tab.nth t i).name) := by
  have hC := met_keep (h.1) (hk0.trans hk)
  have hO : Only (fun k => k = w.heap.size + 1 ∨ k = w.heap.size + 1 + 1 ∨ k = w.heap.size + 1 + 1 + 1) w2 (metW w w2 m p (Tab.nth t i).name) :=
    (((((Only.refl _ w2).setCell (p := ⟨w.heap.size + 1, 0, none⟩) (.inl (.inl rfl)) _).setCell (p := ⟨w.heap.size + 1, 1, none⟩) (.inl (.inl rfl)) _).setCell (p := ⟨w.heap.size + 1, 2, none⟩) (.inl (.inl rfl)) _).setCell (p := ⟨w.heap.size + 1 + 1, 0, none⟩) (.inl (.inr (.inl rfl))) _).setCell (p := ⟨w.heap.size + 1 + 1 + 1, 0, none⟩) (.inl (.inr (.inr rfl))) _
  refine ⟨(((Only.of_kept (hk0.trans hk)).trans hO)).mono fun k _ h => .inl h, rfl, pre, i, m, p, rfl, h.2, ?_, ⟨hC.1.only hO (by omega), ?_, ?_, ?_, hC.2.2.2.2.onlyS hO (fun k h => by omega)⟩, owns_base (owns_only hr hO (fun g hg => by omega)) hsz⟩
  · unfold Tab.methodOf
    rw [hx]
    exact hy
  · have h1 := ((hC.2.1.put 0 (.string m.name)).put 1 p).put 2 (.string m.res)
    exact (h1.only ((Only.refl (· = w.heap.size + 1 + 1) _).put 0 _) (by omega)).only ((Only.refl (· = w.heap.size + 1 + 1 + 1) _).put 0 _) (by omega)
  · have h2 := hC.2.2.1.only ((((Only.refl (· = w.heap.size + 1) w2).put 0 (.string m.name)).put 1 p).put 2 (.string m.res)) (by omega)
    exact (h2.put 0 _).only ((Only.refl (· = w.heap.size + 1 + 1 + 1) _).put 0 _) (by omega)
  · have h3 := hC.2.2.2.1.only ((((Only.refl (· = w.heap.size + 1) w2).put 0 (.string m.name)).put 1 p).put 2 (.string m.res)) (by omega)
    exact (h3.only ((Only.refl (· = w.heap.size + 1 + 1) _).put 0 (.string (Tab.nth t i).name)) (by omega)).put 0 _

/-- What Method answers: a copy. -/
def MethodPost (t : List Tab.C) (s nm : ByteArray) (w : World) (e : Ending) (w' : World) : Prop :=
  Kept w w' ∧ ((Tab.method t s nm = none ∧ e = .returned (.tuple #[.agg zSig, .string ⟨#[]⟩, .bool false])) ∨
    ∃ m own p, Tab.method t s nm = some (m, own) ∧ e = .returned (.tuple #[.agg #[.string m.name, p, .string m.res], .string own, .bool true]) ∧ w'.ownsRow w.heap.size 50 2 p m.params.length (m.params.flatMap vCells))

theorem method_no {t : List Tab.C} {s nm : ByteArray} (h : ∀ i ∈ Tab.line t s, Tab.methodOf nm (Tab.nth t i) = none) : Tab.method t s nm = none := by
  unfold Tab.method
  rw [List.findSome?_eq_none_iff]
  intro i hi
  rw [h i hi]; rfl
theorem method_yes {t : List Tab.C} {s nm : ByteArray} {pre : List Nat} {i : Nat} {m : Tab.M} (hp : (pre ++ [i]) <+: Tab.line t s) (h : ∀ i ∈ pre, Tab.methodOf nm (Tab.nth t i) = none) (hm : Tab.methodOf nm (Tab.nth t i) = some m) : Tab.method t s nm = some (m, (Tab.nth t i).name) := by
  obtain ⟨r, hr⟩ := hp
  unfold Tab.method
  rw [← hr, List.append_assoc, List.findSome?_append, List.findSome?_eq_none_iff.2 (fun j hj => by rw [h j hj]; rfl)]
  simp [hm]

/-- The results' cells, cleared. -/
def metZ (w W : World) : World :=
  ((((W.setCell ⟨w.heap.size + 1, 0, none⟩ (.string ⟨#[]⟩)).setCell ⟨w.heap.size + 1, 1, none⟩ (.slice none 0 0)).setCell ⟨w.heap.size + 1, 2, none⟩ (.string ⟨#[]⟩)).setCell ⟨w.heap.size + 1 + 1, 0, none⟩ (.string ⟨#[]⟩)).setCell ⟨w.heap.size + 1 + 1 + 1, 0, none⟩ (.bool false)
theorem met_zero {nm : ByteArray} {w W : World} (hC : MetC nm w zSig (.string ⟨#[]⟩) (.bool false) W) : Only (fun k => k = w.heap.size + 1 ∨ k = w.heap.size + 1 + 1 ∨ k = w.heap.size + 1 + 1 + 1) W (metZ w W) ∧ MetC nm w zSig (.string ⟨#[]⟩) (.bool false) (metZ w W) := by
  have hO : Only (fun k => k = w.heap.size + 1 ∨ k = w.heap.size + 1 + 1 ∨ k = w.heap.size + 1 + 1 + 1) W (metZ w W) :=
    (((((Only.refl _ W).setCell (p := ⟨w.heap.size + 1, 0, none⟩) (.inl (.inl rfl)) _).setCell (p := ⟨w.heap.size + 1, 1, none⟩) (.inl (.inl rfl)) _).setCell (p := ⟨w.heap.size + 1, 2, none⟩) (.inl (.inl rfl)) _).setCell (p := ⟨w.heap.size + 1 + 1, 0, none⟩) (.inl (.inr (.inl rfl))) _).setCell (p := ⟨w.heap.size + 1 + 1 + 1, 0, none⟩) (.inl (.inr (.inr rfl))) _
  refine ⟨hO, hC.1.only hO (by omega), ?_, ?_, ?_, hC.2.2.2.2.onlyS hO (fun k h => by omega)⟩
  · have h1 := ((hC.2.1.put 0 (.string ⟨#[]⟩)).put 1 (.slice none 0 0)).put 2 (.string ⟨#[]⟩)
    exact (h1.only ((Only.refl (· = w.heap.size + 1 + 1) _).put 0 _) (by omega)).only ((Only.refl (· = w.heap.size + 1 + 1 + 1) _).put 0 _) (by omega)
  · have h2 := hC.2.2.1.only ((((Only.refl (· = w.heap.size + 1) W).put 0 (.string ⟨#[]⟩)).put 1 (.slice none 0 0)).put 2 (.string ⟨#[]⟩)) (by omega)
    exact (h2.put 0 _).only ((Only.refl (· = w.heap.size + 1 + 1 + 1) _).put 0 _) (by omega)
  · have h3 := hC.2.2.2.1.only ((((Only.refl (· = w.heap.size + 1) W).put 0 (.string ⟨#[]⟩)).put 1 (.slice none 0 0)).put 2 (.string ⟨#[]⟩)) (by omega)
    exact (h3.only ((Only.refl (· = w.heap.size + 1 + 1) _).put 0 (.string ⟨#[]⟩)) (by omega)).put 0 _

set_option maxHeartbeats 4000000 in
theorem method_c (a : Option Addr) (c : Nat) (t : List Tab.C) (s nm : ByteArray) (w : World) (hT : TabAt w (.slice a t.length c) t) (hS : Small t) :
    Calls Tryz.prog 47 #[.slice a t.length c, .string s, .string nm] w (MethodPost t s nm w) := by
  have ht := hS.len
  refine (callsIn_wide (n := 3)).1 (callsIn_of_wp_marks Tryz.func47 rfl trivial (wpIn_wide.2 ?_) rfl)
  simp only [Tryz.ntmps47, List.size_toArray, List.length_cons, List.length_nil, Nat.reduceAdd, Nat.reduceSub, Array.replicate_succ, Array.replicate_zero, List.push_toArray, List.append_toArray, List.nil_append, List.cons_append]
  have HT := Lib.hid hT
  clear hT
  go_wp2_with fail
  obtain ⟨W1, hW1⟩ : ∃ W1, (((w.alloc (.cells #[.string nm] 9)).alloc (.cells zSig 53)).alloc (.cells #[.string ⟨#[]⟩] 9)).alloc (.cells #[.bool false] 4) = W1 := ⟨_, rfl⟩
  have hI1 : MetI t nm w [] W1 := by
    rw [← hW1]
    have h2 := Blk.new (w.alloc (.cells #[.string nm] 9)) 53 zSig
    have h3 := Blk.new ((w.alloc (.cells #[.string nm] 9)).alloc (.cells zSig 53)) 9 #[.string ⟨#[]⟩]
    have h4 := Blk.new (((w.alloc (.cells #[.string nm] 9)).alloc (.cells zSig 53)).alloc (.cells #[.string ⟨#[]⟩] 9)) 4 #[.bool false]
    simp only [World.size_alloc] at h2 h3 h4
    exact ⟨⟨(((Blk.new w _ _).alloc _).alloc _).alloc _, (h2.alloc _).alloc _, h3.alloc _, h4, ((((Kept.refl w).alloc _).alloc _).alloc _).alloc _⟩, by simp⟩
  have HS1 := Lib.hid (show W1.heap.size = w.heap.size + 4 by rw [← hW1]; simp)
  have HI1 := Lib.hid hI1
  rw [hW1]
  clear hW1 hI1
  refine (line_lineC a c t s _).mono ?_
  rintro e w3 ⟨rfl, hw3⟩
  have HK3 := Lib.hid (show Kept W1 w3 by rw [hw3]; exact ((Kept.refl W1).alloc _).alloc _)
  have HS3 := Lib.hid (show w3.heap.size = W1.heap.size + 2 by rw [hw3]; simp)
  have HB1 := Lib.hid (show Blk w3 W1.heap.size 22 #[.slice a t.length c] by rw [hw3]; exact (Blk.new _ _ _).alloc _)
  have HB2 := Lib.hid (show Blk w3 (W1.heap.size + 1) 9 #[.string s] by
    rw [hw3]
    have := Blk.new (W1.alloc (.cells #[.slice a t.length c] 22)) 9 #[.string s]
    simpa using this)
  clear hw3
  go_wp2_with fail
  have e1 : w.heap.size + 4 ≤ W1.heap.size := by have := HS1.out; omega
  have e3 : W1.heap.size + 2 ≤ w3.heap.size := by have := HS3.out; omega
  have hI3 : MetI t nm w [] w3 := ⟨met_keep HI1.out.1 HK3.out, HI1.out.2⟩
  refine wpIn_wide.1 (wpIn_range_line (w0 := w) (bt := W1.heap.size) (bn := W1.heap.size + 1) a c t s (fun k => k = w.heap.size + 1 ∨ k = w.heap.size + 1 + 1 ∨ k = w.heap.size + 1 + 1 + 1) rfl HT.out ht hI3.1.2.2.2.2 HB1.out HB2.out (by omega) (by omega) (by omega) (fun k e => by omega) rfl
    (MetI t nm w) (MetX t nm w) (fun pre A B h o => ⟨metC_only h.1 o (fun k h => by omega), h.2⟩) ?hIx hI3
    (fun i => { tmps := #[.slice a t.length c, .string s, .string nm, undef, undef, .pointer (some ⟨w.heap.size, 0, none⟩), .pointer (some ⟨w.heap.size + 1, 0, none⟩), .pointer (some ⟨w.heap.size + 1 + 1, 0, none⟩), .pointer (some ⟨w.heap.size + 1 + 1 + 1, 0, none⟩), elC a i, undef, undef, .slice a t.length c, .string s, .func (.func 137) #[] #[.pointer (some ⟨W1.heap.size, 0, none⟩), .pointer (some ⟨W1.heap.size + 1, 0, none⟩)], elC a i, undef, undef, undef, undef, undef, undef, undef, undef, undef, undef, undef, undef, undef, undef, undef, undef, undef, undef, undef, undef, undef, undef], defers := [] }) ?assign ?body ?done ?stop)
  case hIx =>
    rintro c pre A B ⟨rfl, pre0, i, m, p, h1, h2, h3, h4, h5⟩ o
    have := HS1.out
    have := HS3.out
    exact ⟨rfl, pre0, i, m, p, h1, h2, h3, metC_only h4 o (fun k h => by omega), owns_only h5 o (fun g hg h => by omega)⟩
  case assign =>
    intro l i W K hK
    gi_wp2
    exact hK
  case body =>
    rintro l pre i b o W hl _ hIW hsize hpre hi' rfl hcl
    have HSZ := Lib.hid (show w.heap.size + 9 ≤ W.heap.size by have := HS1.out; have := HS3.out; omega)
    have HI := Lib.hid hIW
    have HCW := Lib.hid hcl
    have hcl' := hcl.kept hIW.1.2.2.2.2
    have HCL := Lib.hid (show ClsAt W.drew b (o + i * 4) (Tab.nth t i) from hcl'.kept (Kept.refl W).drew)
    obtain ⟨hcn, _, _, ⟨u, hc0, hu⟩, _⟩ := hcl'
    have hn0 := hIW.1.1.cell 0
    simp at hn0
    have HF := Lib.hid (tfindSig_c (Tab.nth t i).methods u nm W.drew (sigs_kept hu (Kept.refl W).drew))
    unfold FindPost at HF
    have HU := Lib.hid (sigs_kept hu (Kept.refl W).drew)
    obtain ⟨ua, un, uc, rfl⟩ : ∃ a n c, u = .slice a n c := by obtain ⟨a, c, e, _⟩ := hu; exact ⟨_, _, _, e⟩
    simp only [elC, evC, Option.map_some]
    have hPM := hS.params _ (nth_mem hi')
    have HPM := Lib.hid hPM
    clear hcl hpre hIW hI3 HI1 hu e1 e3 hsize hl hPM
    cases hix : Tab.ix Tab.M.name (Tab.nth t i).methods nm with
    | none =>
      have HX := Lib.hid hix
      rw [hix] at HF
      clear hix
      simp only [Tab.num, Option.isSome_none] at HF
      gi_wp2
      refine wpIn_region_of_any (by kernel_rfl) (by kernel_rfl) (by rintro ⟨_, _, h⟩; exact h) ?_
      · change wpAny _ _ _ _ _ _ _ (World.drew _)
        refine wpAny_take (i := 0) (v := ?_) rfl (by kernel_rfl) (by kernel_rfl) (by kernel_rfl) (fun _ _ _ h => h) (Or.inl ⟨by rfl, ?_⟩) ?_
        rotate_left
        · intro w; go_simp; try with_reducible rfl
        refine wpAny_take (i := 1) (v := ?_) rfl (by kernel_rfl) (by kernel_rfl) (by kernel_rfl) (fun _ _ _ h => h) (Or.inl ⟨by rfl, ?_⟩) ?_
        rotate_left
        · intro w; go_simp; try with_reducible rfl
        refine wpAny_take (i := 2) (v := ?_) rfl (by kernel_rfl) (by kernel_rfl) (by kernel_rfl) (fun _ _ _ h => h) (Or.inl ⟨by rfl, ?_⟩) ?_
        rotate_left
        · intro w; go_simp; try with_reducible rfl
        refine wpAny_ready (rs := [3, 4]) (by kernel_rfl) (by simp) ?_
        refine AllReady.cons rfl (fun K hK => ?_) ?_
        · go_simp
          refine hK _ _ ?_; clear hK K
          refine wpAny_ready (rs := [4]) (by kernel_rfl) (by simp) ?_
          refine AllReady.cons rfl (fun K hK => ?_) ?_
          · go_simp
            refine hK _ _ ?_; clear hK K
            refine wpAny_ready (rs := [5]) (by kernel_rfl) (by simp) ?_
            refine AllReady.cons rfl (fun K hK => ?_) ?_
            · go_simp
              go_wp2_with fail
              refine HF.out.mono ?_
              rintro e w2 ⟨rfl, rfl⟩
              dsimp only
              refine hK _ _ ?_; clear hK K
              refine wpAny_take (i := 6) (v := ?_) rfl (by kernel_rfl) (by kernel_rfl) (by kernel_rfl) (fun _ _ _ h => h) (Or.inl ⟨by rfl, ?_⟩) ?_
              rotate_left
              · intro w; go_simp; try with_reducible rfl
              refine wpAny_take (i := 7) (v := ?_) rfl (by kernel_rfl) (by kernel_rfl) (by kernel_rfl) (fun _ _ _ h => h) (Or.inl ⟨by rfl, ?_⟩) ?_
              rotate_left
              · intro w; go_simp; try with_reducible rfl
              refine wpAny_take (i := 8) (v := ?_) rfl (by kernel_rfl) (by kernel_rfl) (by kernel_rfl) (fun _ _ _ h => h) (Or.inl ⟨by rfl, ?_⟩) ?_
              rotate_left
              · intro w; go_simp; try with_reducible rfl
              refine wpAny_take (i := 9) (v := ?_) rfl (by kernel_rfl) (by kernel_rfl) (by kernel_rfl) (fun _ _ _ h => h) (Or.inl ⟨by rfl, ?_⟩) ?_
              rotate_left
              · intro w; go_simp; try with_reducible rfl
              refine wpAny_take (i := 10) (v := ?_) rfl (by kernel_rfl) (by kernel_rfl) (by kernel_rfl) (fun _ _ _ h => h) (Or.inl ⟨by rfl, ?_⟩) ?_
              rotate_left
              · intro w; go_simp; try with_reducible rfl
              refine wpAny_done (by kernel_rfl) ?_ _
              gi_wp2
              exact met_none HI.out HX.out
            exact AllReady.nil
          exact AllReady.nil
        refine AllReady.cons rfl (fun K hK => ?_) ?_
        · go_simp
          refine hK _ _ ?_; clear hK K
          refine wpAny_ready (rs := [3]) (by kernel_rfl) (by simp) ?_
          refine AllReady.cons rfl (fun K hK => ?_) ?_
          · go_simp
            refine hK _ _ ?_; clear hK K
            refine wpAny_ready (rs := [5]) (by kernel_rfl) (by simp) ?_
            refine AllReady.cons rfl (fun K hK => ?_) ?_
            · go_simp
              go_wp2_with fail
              refine HF.out.mono ?_
              rintro e w2 ⟨rfl, rfl⟩
              dsimp only
              refine hK _ _ ?_; clear hK K
              refine wpAny_take (i := 6) (v := ?_) rfl (by kernel_rfl) (by kernel_rfl) (by kernel_rfl) (fun _ _ _ h => h) (Or.inl ⟨by rfl, ?_⟩) ?_
              rotate_left
              · intro w; go_simp; try with_reducible rfl
              refine wpAny_take (i := 7) (v := ?_) rfl (by kernel_rfl) (by kernel_rfl) (by kernel_rfl) (fun _ _ _ h => h) (Or.inl ⟨by rfl, ?_⟩) ?_
              rotate_left
              · intro w; go_simp; try with_reducible rfl
              refine wpAny_take (i := 8) (v := ?_) rfl (by kernel_rfl) (by kernel_rfl) (by kernel_rfl) (fun _ _ _ h => h) (Or.inl ⟨by rfl, ?_⟩) ?_
              rotate_left
              · intro w; go_simp; try with_reducible rfl
              refine wpAny_take (i := 9) (v := ?_) rfl (by kernel_rfl) (by kernel_rfl) (by kernel_rfl) (fun _ _ _ h => h) (Or.inl ⟨by rfl, ?_⟩) ?_
              rotate_left
              · intro w; go_simp; try with_reducible rfl
              refine wpAny_take (i := 10) (v := ?_) rfl (by kernel_rfl) (by kernel_rfl) (by kernel_rfl) (fun _ _ _ h => h) (Or.inl ⟨by rfl, ?_⟩) ?_
              rotate_left
              · intro w; go_simp; try with_reducible rfl
              refine wpAny_done (by kernel_rfl) ?_ _
              gi_wp2
              exact met_none HI.out HX.out
            exact AllReady.nil
          exact AllReady.nil
        exact AllReady.nil
    | some k =>
      have HX := Lib.hid hix
      obtain ⟨hk, _⟩ := Tab.ix_lt hix
      have hy : (Tab.nth t i).methods[k]? = some (Tab.nth t i).methods[k] := List.getElem?_eq_getElem hk
      obtain ⟨ua', uc', e, _, _, hat⟩ := HU.out
      obtain ⟨ub, uo, e2, hva⟩ := hat _ _ hy
      have hpl := HPM.out _ (List.mem_of_getElem? hy)
      generalize (Tab.nth t i).methods[k] = m at hy hva hpl
      injection e with e4 e5 e6
      subst e4 e5 e6 e2
      have HY := Lib.hid hy
      have HC := Lib.hid (copied_c ub (uo + k * 3) m W.drew.drew (hva.kept (Kept.refl W.drew).drew) hpl)
      have hkI : (k : Int) < ((Tab.nth t i).methods.length : Int) := by omega
      rw [hix] at HF
      clear hix hy hat hva HU hpl
      simp only [Tab.num, Option.isSome_some] at HF
      gi_wp2
      refine wpIn_region_of_any (by kernel_rfl) (by kernel_rfl) (by rintro ⟨_, _, h⟩; exact h) ?_
      · change wpAny _ _ _ _ _ _ _ (World.drew _)
        refine wpAny_take (i := 0) (v := ?_) rfl (by kernel_rfl) (by kernel_rfl) (by kernel_rfl) (fun _ _ _ h => h) (Or.inl ⟨by rfl, ?_⟩) ?_
        rotate_left
        · intro w; go_simp; try with_reducible rfl
        refine wpAny_take (i := 1) (v := ?_) rfl (by kernel_rfl) (by kernel_rfl) (by kernel_rfl) (fun _ _ _ h => h) (Or.inl ⟨by rfl, ?_⟩) ?_
        rotate_left
        · intro w; go_simp; try with_reducible rfl
        refine wpAny_take (i := 2) (v := ?_) rfl (by kernel_rfl) (by kernel_rfl) (by kernel_rfl) (fun _ _ _ h => h) (Or.inl ⟨by rfl, ?_⟩) ?_
        rotate_left
        · intro w; go_simp; try with_reducible rfl
        refine wpAny_ready (rs := [3, 4]) (by kernel_rfl) (by simp) ?_
        refine AllReady.cons rfl (fun K hK => ?_) ?_
        · go_simp
          refine hK _ _ ?_; clear hK K
          refine wpAny_ready (rs := [4]) (by kernel_rfl) (by simp) ?_
          refine AllReady.cons rfl (fun K hK => ?_) ?_
          · go_simp
            refine hK _ _ ?_; clear hK K
            refine wpAny_ready (rs := [5]) (by kernel_rfl) (by simp) ?_
            refine AllReady.cons rfl (fun K hK => ?_) ?_
            · go_simp
              go_wp2_with fail
              refine HF.out.mono ?_
              rintro e w2 ⟨rfl, rfl⟩
              dsimp only
              refine hK _ _ ?_; clear hK K
              refine wpAny_take (i := 6) (v := ?_) rfl (by kernel_rfl) (by kernel_rfl) (by kernel_rfl) (fun _ _ _ h => h) (Or.inl ⟨by rfl, ?_⟩) ?_
              rotate_left
              · intro w; go_simp; try with_reducible rfl
              refine wpAny_take (i := 7) (v := ?_) rfl (by kernel_rfl) (by kernel_rfl) (by kernel_rfl) (fun _ _ _ h => h) (Or.inl ⟨by rfl, ?_⟩) ?_
              rotate_left
              · intro w; go_simp; try with_reducible rfl
              refine wpAny_take (i := 8) (v := ?_) rfl (by kernel_rfl) (by kernel_rfl) (by kernel_rfl) (fun _ _ _ h => h) (Or.inl ⟨by rfl, ?_⟩) ?_
              rotate_left
              · intro w; go_simp; try with_reducible rfl
              refine wpAny_take (i := 9) (v := ?_) rfl (by kernel_rfl) (by kernel_rfl) (by kernel_rfl) (fun _ _ _ h => h) (Or.inl ⟨by rfl, ?_⟩) ?_
              rotate_left
              · intro w; go_simp; try with_reducible rfl
              refine wpAny_take (i := 10) (v := ?_) rfl (by kernel_rfl) (by kernel_rfl) (by kernel_rfl) (fun _ _ _ h => h) (Or.inl ⟨by rfl, ?_⟩) ?_
              rotate_left
              · intro w; go_simp; try with_reducible rfl
              refine wpAny_done (by kernel_rfl) ?_ _
              gi_wp2
              refine wpIn_region_of_any (by kernel_rfl) (by kernel_rfl) (by rintro ⟨_, _, h⟩; exact h) ?_
              change wpAny _ _ _ _ _ _ _ (World.drew _)
              refine wpAny_take (i := 0) (v := ?_) rfl (by kernel_rfl) (by kernel_rfl) (by kernel_rfl) (fun _ _ _ h => h) (Or.inl ⟨by rfl, ?_⟩) ?_
              rotate_left
              · intro w; go_simp; try with_reducible rfl
              refine wpAny_take (i := 1) (v := ?_) rfl (by kernel_rfl) (by kernel_rfl) (by kernel_rfl) (fun _ _ _ h => h) (Or.inl ⟨by rfl, ?_⟩) ?_
              rotate_left
              · intro w; go_simp; try with_reducible rfl
              refine wpAny_take (i := 2) (v := ?_) rfl (by kernel_rfl) (by kernel_rfl) (by kernel_rfl) (fun _ _ _ h => h) (Or.inl ⟨by rfl, ?_⟩) ?_
              rotate_left
              · intro w; go_simp; try with_reducible rfl
              refine wpAny_take (i := 4) (v := ?_) rfl (by kernel_rfl) (by kernel_rfl) (by kernel_rfl) (fun _ _ _ h => h) (Or.inl ⟨by rfl, ?_⟩) ?_
              rotate_left
              · intro w; go_simp; try with_reducible rfl
              refine wpAny_take (i := 7) (v := ?_) rfl (by kernel_rfl) (by kernel_rfl) (by kernel_rfl) (fun _ _ _ h => h) (Or.inl ⟨by rfl, ?_⟩) ?_
              rotate_left
              · intro w; go_simp; try with_reducible rfl
              refine wpAny_take (i := 8) (v := ?_) rfl (by kernel_rfl) (by kernel_rfl) (by kernel_rfl) (fun _ _ _ h => h) (Or.inl ⟨by rfl, ?_⟩) ?_
              rotate_left
              · intro w; go_simp; try with_reducible rfl
              refine wpAny_take (i := 9) (v := ?_) rfl (by kernel_rfl) (by kernel_rfl) (by kernel_rfl) (fun _ _ _ h => h) (Or.inl ⟨by rfl, ?_⟩) ?_
              rotate_left
              · intro w; go_simp; try with_reducible rfl
              refine wpAny_ready (rs := [3, 10]) (by kernel_rfl) (by simp) ?_
              refine AllReady.cons rfl (fun K hK => ?_) ?_
              · go_simp
                refine hK _ _ ?_; clear hK K
                refine wpAny_take (i := 5) (v := ?_) rfl (by kernel_rfl) (by kernel_rfl) (by kernel_rfl) (fun _ _ _ h => h) (Or.inl ⟨by rfl, ?_⟩) ?_
                rotate_left
                · intro w; go_simp; try with_reducible rfl
                refine wpAny_ready (rs := [6, 10]) (by kernel_rfl) (by simp) ?_
                refine AllReady.cons rfl (fun K hK => ?_) ?_
                · go_simp
                  go_wp2_with fail
                  refine HC.out.mono ?_
                  rintro e w2 ⟨v2, rfl, p2, rfl, hrow2, hk2⟩
                  obtain ⟨⟨hq0, hq1, hq2⟩, hq3, hq4, hg0, hg1, hg2, hg3, hg4⟩ := met_facts (met_keep HI.out.1 (((Kept.refl W).drew.drew).trans hk2))
                  have hn2 := (HCL.out.kept ((Kept.refl W.drew).drew.trans hk2)).1
                  have HR2 := Lib.hid hrow2
                  have HK2 := Lib.hid hk2
                  obtain ⟨pa, pn, pc, rfl⟩ := owns_slice hrow2
                  have hn3 := (HCW.out.kept ((((HI.out.1.2.2.2.2.trans (((Kept.refl W).drew.drew).trans hk2)).setCell (p := ⟨w.heap.size + 1, 0, none⟩) (by simp) (.string m.name)).setCell (p := ⟨w.heap.size + 1, 1, none⟩) (by simp) (.slice pa pn pc)).setCell (p := ⟨w.heap.size + 1, 2, none⟩) (by simp) (.string m.res))).1
                  clear hrow2 hk2 HC
                  dsimp only
                  refine hK _ _ ?_; clear hK K
                  refine wpAny_ready (rs := [10, 11]) (by kernel_rfl) (by simp) ?_
                  refine AllReady.cons rfl (fun K hK => ?_) ?_
                  · go_simp
                    refine hK _ _ ?_; clear hK K
                    refine wpAny_ready (rs := [11]) (by kernel_rfl) (by simp) ?_
                    refine AllReady.cons rfl (fun K hK => ?_) ?_
                    · go_simp
                      refine hK _ _ ?_; clear hK K
                      refine wpAny_ready (rs := [12]) (by kernel_rfl) (by simp) ?_
                      refine AllReady.cons rfl (fun K hK => ?_) ?_
                      · go_simp
                        refine hK _ _ ?_; clear hK K
                        refine wpAny_ready (rs := [13]) (by kernel_rfl) (by simp) ?_
                        refine AllReady.cons rfl (fun K hK => ?_) ?_
                        · go_simp
                          refine hK _ _ ?_; clear hK K
                          refine wpAny_done (by kernel_rfl) ?_ _
                          gi_wp2
                          exact met_some HI.out HX.out HY.out HR2.out HK2.out ((Kept.refl W).drew.drew) HSZ.out
                        exact AllReady.nil
                      exact AllReady.nil
                    exact AllReady.nil
                  refine AllReady.cons rfl (fun K hK => ?_) ?_
                  · go_simp
                    refine hK _ _ ?_; clear hK K
                    refine wpAny_ready (rs := [10]) (by kernel_rfl) (by simp) ?_
                    refine AllReady.cons rfl (fun K hK => ?_) ?_
                    · go_simp
                      refine hK _ _ ?_; clear hK K
                      refine wpAny_ready (rs := [12]) (by kernel_rfl) (by simp) ?_
                      refine AllReady.cons rfl (fun K hK => ?_) ?_
                      · go_simp
                        refine hK _ _ ?_; clear hK K
                        refine wpAny_ready (rs := [13]) (by kernel_rfl) (by simp) ?_
                        refine AllReady.cons rfl (fun K hK => ?_) ?_
                        · go_simp
                          refine hK _ _ ?_; clear hK K
                          refine wpAny_done (by kernel_rfl) ?_ _
                          gi_wp2
                          exact met_some HI.out HX.out HY.out HR2.out HK2.out ((Kept.refl W).drew.drew) HSZ.out
                        exact AllReady.nil
                      exact AllReady.nil
                    exact AllReady.nil
                  exact AllReady.nil
                refine AllReady.cons rfl (fun K hK => ?_) ?_
                · go_simp
                  refine hK _ _ ?_; clear hK K
                  refine wpAny_ready (rs := [6]) (by kernel_rfl) (by simp) ?_
                  refine AllReady.cons rfl (fun K hK => ?_) ?_
                  · go_simp
                    go_wp2_with fail
                    refine HC.out.mono ?_
                    rintro e w2 ⟨v2, rfl, p2, rfl, hrow2, hk2⟩
                    obtain ⟨⟨hq0, hq1, hq2⟩, hq3, hq4, hg0, hg1, hg2, hg3, hg4⟩ := met_facts (met_keep HI.out.1 (((Kept.refl W).drew.drew).trans hk2))
                    have hn2 := (HCL.out.kept ((Kept.refl W.drew).drew.trans hk2)).1
                    have HR2 := Lib.hid hrow2
                    have HK2 := Lib.hid hk2
                    obtain ⟨pa, pn, pc, rfl⟩ := owns_slice hrow2
                    have hn3 := (HCW.out.kept ((((HI.out.1.2.2.2.2.trans (((Kept.refl W).drew.drew).trans hk2)).setCell (p := ⟨w.heap.size + 1, 0, none⟩) (by simp) (.string m.name)).setCell (p := ⟨w.heap.size + 1, 1, none⟩) (by simp) (.slice pa pn pc)).setCell (p := ⟨w.heap.size + 1, 2, none⟩) (by simp) (.string m.res))).1
                    clear hrow2 hk2 HC
                    dsimp only
                    refine hK _ _ ?_; clear hK K
                    refine wpAny_ready (rs := [11]) (by kernel_rfl) (by simp) ?_
                    refine AllReady.cons rfl (fun K hK => ?_) ?_
                    · go_simp
                      refine hK _ _ ?_; clear hK K
                      refine wpAny_ready (rs := [12]) (by kernel_rfl) (by simp) ?_
                      refine AllReady.cons rfl (fun K hK => ?_) ?_
                      · go_simp
                        refine hK _ _ ?_; clear hK K
                        refine wpAny_ready (rs := [13]) (by kernel_rfl) (by simp) ?_
                        refine AllReady.cons rfl (fun K hK => ?_) ?_
                        · go_simp
                          refine hK _ _ ?_; clear hK K
                          refine wpAny_done (by kernel_rfl) ?_ _
                          gi_wp2
                          exact met_some HI.out HX.out HY.out HR2.out HK2.out ((Kept.refl W).drew.drew) HSZ.out
                        exact AllReady.nil
                      exact AllReady.nil
                    exact AllReady.nil
                  exact AllReady.nil
                exact AllReady.nil
              refine AllReady.cons rfl (fun K hK => ?_) ?_
              · go_simp
                refine hK _ _ ?_; clear hK K
                refine wpAny_ready (rs := [3]) (by kernel_rfl) (by simp) ?_
                refine AllReady.cons rfl (fun K hK => ?_) ?_
                · go_simp
                  refine hK _ _ ?_; clear hK K
                  refine wpAny_take (i := 5) (v := ?_) rfl (by kernel_rfl) (by kernel_rfl) (by kernel_rfl) (fun _ _ _ h => h) (Or.inl ⟨by rfl, ?_⟩) ?_
                  rotate_left
                  · intro w; go_simp; try with_reducible rfl
                  refine wpAny_ready (rs := [6]) (by kernel_rfl) (by simp) ?_
                  refine AllReady.cons rfl (fun K hK => ?_) ?_
                  · go_simp
                    go_wp2_with fail
                    refine HC.out.mono ?_
                    rintro e w2 ⟨v2, rfl, p2, rfl, hrow2, hk2⟩
                    obtain ⟨⟨hq0, hq1, hq2⟩, hq3, hq4, hg0, hg1, hg2, hg3, hg4⟩ := met_facts (met_keep HI.out.1 (((Kept.refl W).drew.drew).trans hk2))
                    have hn2 := (HCL.out.kept ((Kept.refl W.drew).drew.trans hk2)).1
                    have HR2 := Lib.hid hrow2
                    have HK2 := Lib.hid hk2
                    obtain ⟨pa, pn, pc, rfl⟩ := owns_slice hrow2
                    have hn3 := (HCW.out.kept ((((HI.out.1.2.2.2.2.trans (((Kept.refl W).drew.drew).trans hk2)).setCell (p := ⟨w.heap.size + 1, 0, none⟩) (by simp) (.string m.name)).setCell (p := ⟨w.heap.size + 1, 1, none⟩) (by simp) (.slice pa pn pc)).setCell (p := ⟨w.heap.size + 1, 2, none⟩) (by simp) (.string m.res))).1
                    clear hrow2 hk2 HC
                    dsimp only
                    refine hK _ _ ?_; clear hK K
                    refine wpAny_ready (rs := [11]) (by kernel_rfl) (by simp) ?_
                    refine AllReady.cons rfl (fun K hK => ?_) ?_
                    · go_simp
                      refine hK _ _ ?_; clear hK K
                      refine wpAny_ready (rs := [12]) (by kernel_rfl) (by simp) ?_
                      refine AllReady.cons rfl (fun K hK => ?_) ?_
                      · go_simp
                        refine hK _ _ ?_; clear hK K
                        refine wpAny_ready (rs := [13]) (by kernel_rfl) (by simp) ?_
                        refine AllReady.cons rfl (fun K hK => ?_) ?_
                        · go_simp
                          refine hK _ _ ?_; clear hK K
                          refine wpAny_done (by kernel_rfl) ?_ _
                          gi_wp2
                          exact met_some HI.out HX.out HY.out HR2.out HK2.out ((Kept.refl W).drew.drew) HSZ.out
                        exact AllReady.nil
                      exact AllReady.nil
                    exact AllReady.nil
                  exact AllReady.nil
                exact AllReady.nil
              exact AllReady.nil
            exact AllReady.nil
          exact AllReady.nil
        refine AllReady.cons rfl (fun K hK => ?_) ?_
        · go_simp
          refine hK _ _ ?_; clear hK K
          refine wpAny_ready (rs := [3]) (by kernel_rfl) (by simp) ?_
          refine AllReady.cons rfl (fun K hK => ?_) ?_
          · go_simp
            refine hK _ _ ?_; clear hK K
            refine wpAny_ready (rs := [5]) (by kernel_rfl) (by simp) ?_
            refine AllReady.cons rfl (fun K hK => ?_) ?_
            · go_simp
              go_wp2_with fail
              refine HF.out.mono ?_
              rintro e w2 ⟨rfl, rfl⟩
              dsimp only
              refine hK _ _ ?_; clear hK K
              refine wpAny_take (i := 6) (v := ?_) rfl (by kernel_rfl) (by kernel_rfl) (by kernel_rfl) (fun _ _ _ h => h) (Or.inl ⟨by rfl, ?_⟩) ?_
              rotate_left
              · intro w; go_simp; try with_reducible rfl
              refine wpAny_take (i := 7) (v := ?_) rfl (by kernel_rfl) (by kernel_rfl) (by kernel_rfl) (fun _ _ _ h => h) (Or.inl ⟨by rfl, ?_⟩) ?_
              rotate_left
              · intro w; go_simp; try with_reducible rfl
              refine wpAny_take (i := 8) (v := ?_) rfl (by kernel_rfl) (by kernel_rfl) (by kernel_rfl) (fun _ _ _ h => h) (Or.inl ⟨by rfl, ?_⟩) ?_
              rotate_left
              · intro w; go_simp; try with_reducible rfl
              refine wpAny_take (i := 9) (v := ?_) rfl (by kernel_rfl) (by kernel_rfl) (by kernel_rfl) (fun _ _ _ h => h) (Or.inl ⟨by rfl, ?_⟩) ?_
              rotate_left
              · intro w; go_simp; try with_reducible rfl
              refine wpAny_take (i := 10) (v := ?_) rfl (by kernel_rfl) (by kernel_rfl) (by kernel_rfl) (fun _ _ _ h => h) (Or.inl ⟨by rfl, ?_⟩) ?_
              rotate_left
              · intro w; go_simp; try with_reducible rfl
              refine wpAny_done (by kernel_rfl) ?_ _
              gi_wp2
              refine wpIn_region_of_any (by kernel_rfl) (by kernel_rfl) (by rintro ⟨_, _, h⟩; exact h) ?_
              change wpAny _ _ _ _ _ _ _ (World.drew _)
              refine wpAny_take (i := 0) (v := ?_) rfl (by kernel_rfl) (by kernel_rfl) (by kernel_rfl) (fun _ _ _ h => h) (Or.inl ⟨by rfl, ?_⟩) ?_
              rotate_left
              · intro w; go_simp; try with_reducible rfl
              refine wpAny_take (i := 1) (v := ?_) rfl (by kernel_rfl) (by kernel_rfl) (by kernel_rfl) (fun _ _ _ h => h) (Or.inl ⟨by rfl, ?_⟩) ?_
              rotate_left
              · intro w; go_simp; try with_reducible rfl
              refine wpAny_take (i := 2) (v := ?_) rfl (by kernel_rfl) (by kernel_rfl) (by kernel_rfl) (fun _ _ _ h => h) (Or.inl ⟨by rfl, ?_⟩) ?_
              rotate_left
              · intro w; go_simp; try with_reducible rfl
              refine wpAny_take (i := 4) (v := ?_) rfl (by kernel_rfl) (by kernel_rfl) (by kernel_rfl) (fun _ _ _ h => h) (Or.inl ⟨by rfl, ?_⟩) ?_
              rotate_left
              · intro w; go_simp; try with_reducible rfl
              refine wpAny_take (i := 7) (v := ?_) rfl (by kernel_rfl) (by kernel_rfl) (by kernel_rfl) (fun _ _ _ h => h) (Or.inl ⟨by rfl, ?_⟩) ?_
              rotate_left
              · intro w; go_simp; try with_reducible rfl
              refine wpAny_take (i := 8) (v := ?_) rfl (by kernel_rfl) (by kernel_rfl) (by kernel_rfl) (fun _ _ _ h => h) (Or.inl ⟨by rfl, ?_⟩) ?_
              rotate_left
              · intro w; go_simp; try with_reducible rfl
              refine wpAny_take (i := 9) (v := ?_) rfl (by kernel_rfl) (by kernel_rfl) (by kernel_rfl) (fun _ _ _ h => h) (Or.inl ⟨by rfl, ?_⟩) ?_
              rotate_left
              · intro w; go_simp; try with_reducible rfl
              refine wpAny_ready (rs := [3, 10]) (by kernel_rfl) (by simp) ?_
              refine AllReady.cons rfl (fun K hK => ?_) ?_
              · go_simp
                refine hK _ _ ?_; clear hK K
                refine wpAny_take (i := 5) (v := ?_) rfl (by kernel_rfl) (by kernel_rfl) (by kernel_rfl) (fun _ _ _ h => h) (Or.inl ⟨by rfl, ?_⟩) ?_
                rotate_left
                · intro w; go_simp; try with_reducible rfl
                refine wpAny_ready (rs := [6, 10]) (by kernel_rfl) (by simp) ?_
                refine AllReady.cons rfl (fun K hK => ?_) ?_
                · go_simp
                  go_wp2_with fail
                  refine HC.out.mono ?_
                  rintro e w2 ⟨v2, rfl, p2, rfl, hrow2, hk2⟩
                  obtain ⟨⟨hq0, hq1, hq2⟩, hq3, hq4, hg0, hg1, hg2, hg3, hg4⟩ := met_facts (met_keep HI.out.1 (((Kept.refl W).drew.drew).trans hk2))
                  have hn2 := (HCL.out.kept ((Kept.refl W.drew).drew.trans hk2)).1
                  have HR2 := Lib.hid hrow2
                  have HK2 := Lib.hid hk2
                  obtain ⟨pa, pn, pc, rfl⟩ := owns_slice hrow2
                  have hn3 := (HCW.out.kept ((((HI.out.1.2.2.2.2.trans (((Kept.refl W).drew.drew).trans hk2)).setCell (p := ⟨w.heap.size + 1, 0, none⟩) (by simp) (.string m.name)).setCell (p := ⟨w.heap.size + 1, 1, none⟩) (by simp) (.slice pa pn pc)).setCell (p := ⟨w.heap.size + 1, 2, none⟩) (by simp) (.string m.res))).1
                  clear hrow2 hk2 HC
                  dsimp only
                  refine hK _ _ ?_; clear hK K
                  refine wpAny_ready (rs := [10, 11]) (by kernel_rfl) (by simp) ?_
                  refine AllReady.cons rfl (fun K hK => ?_) ?_
                  · go_simp
                    refine hK _ _ ?_; clear hK K
                    refine wpAny_ready (rs := [11]) (by kernel_rfl) (by simp) ?_
                    refine AllReady.cons rfl (fun K hK => ?_) ?_
                    · go_simp
                      refine hK _ _ ?_; clear hK K
                      refine wpAny_ready (rs := [12]) (by kernel_rfl) (by simp) ?_
                      refine AllReady.cons rfl (fun K hK => ?_) ?_
                      · go_simp
                        refine hK _ _ ?_; clear hK K
                        refine wpAny_ready (rs := [13]) (by kernel_rfl) (by simp) ?_
                        refine AllReady.cons rfl (fun K hK => ?_) ?_
                        · go_simp
                          refine hK _ _ ?_; clear hK K
                          refine wpAny_done (by kernel_rfl) ?_ _
                          gi_wp2
                          exact met_some HI.out HX.out HY.out HR2.out HK2.out ((Kept.refl W).drew.drew) HSZ.out
                        exact AllReady.nil
                      exact AllReady.nil
                    exact AllReady.nil
                  refine AllReady.cons rfl (fun K hK => ?_) ?_
                  · go_simp
                    refine hK _ _ ?_; clear hK K
                    refine wpAny_ready (rs := [10]) (by kernel_rfl) (by simp) ?_
                    refine AllReady.cons rfl (fun K hK => ?_) ?_
                    · go_simp
                      refine hK _ _ ?_; clear hK K
                      refine wpAny_ready (rs := [12]) (by kernel_rfl) (by simp) ?_
                      refine AllReady.cons rfl (fun K hK => ?_) ?_
                      · go_simp
                        refine hK _ _ ?_; clear hK K
                        refine wpAny_ready (rs := [13]) (by kernel_rfl) (by simp) ?_
                        refine AllReady.cons rfl (fun K hK => ?_) ?_
                        · go_simp
                          refine hK _ _ ?_; clear hK K
                          refine wpAny_done (by kernel_rfl) ?_ _
                          gi_wp2
                          exact met_some HI.out HX.out HY.out HR2.out HK2.out ((Kept.refl W).drew.drew) HSZ.out
                        exact AllReady.nil
                      exact AllReady.nil
                    exact AllReady.nil
                  exact AllReady.nil
                refine AllReady.cons rfl (fun K hK => ?_) ?_
                · go_simp
                  refine hK _ _ ?_; clear hK K
                  refine wpAny_ready (rs := [6]) (by kernel_rfl) (by simp) ?_
                  refine AllReady.cons rfl (fun K hK => ?_) ?_
                  · go_simp
                    go_wp2_with fail
                    refine HC.out.mono ?_
                    rintro e w2 ⟨v2, rfl, p2, rfl, hrow2, hk2⟩
                    obtain ⟨⟨hq0, hq1, hq2⟩, hq3, hq4, hg0, hg1, hg2, hg3, hg4⟩ := met_facts (met_keep HI.out.1 (((Kept.refl W).drew.drew).trans hk2))
                    have hn2 := (HCL.out.kept ((Kept.refl W.drew).drew.trans hk2)).1
                    have HR2 := Lib.hid hrow2
                    have HK2 := Lib.hid hk2
                    obtain ⟨pa, pn, pc, rfl⟩ := owns_slice hrow2
                    have hn3 := (HCW.out.kept ((((HI.out.1.2.2.2.2.trans (((Kept.refl W).drew.drew).trans hk2)).setCell (p := ⟨w.heap.size + 1, 0, none⟩) (by simp) (.string m.name)).setCell (p := ⟨w.heap.size + 1, 1, none⟩) (by simp) (.slice pa pn pc)).setCell (p := ⟨w.heap.size + 1, 2, none⟩) (by simp) (.string m.res))).1
                    clear hrow2 hk2 HC
                    dsimp only
                    refine hK _ _ ?_; clear hK K
                    refine wpAny_ready (rs := [11]) (by kernel_rfl) (by simp) ?_
                    refine AllReady.cons rfl (fun K hK => ?_) ?_
                    · go_simp
                      refine hK _ _ ?_; clear hK K
                      refine wpAny_ready (rs := [12]) (by kernel_rfl) (by simp) ?_
                      refine AllReady.cons rfl (fun K hK => ?_) ?_
                      · go_simp
                        refine hK _ _ ?_; clear hK K
                        refine wpAny_ready (rs := [13]) (by kernel_rfl) (by simp) ?_
                        refine AllReady.cons rfl (fun K hK => ?_) ?_
                        · go_simp
                          refine hK _ _ ?_; clear hK K
                          refine wpAny_done (by kernel_rfl) ?_ _
                          gi_wp2
                          exact met_some HI.out HX.out HY.out HR2.out HK2.out ((Kept.refl W).drew.drew) HSZ.out
                        exact AllReady.nil
                      exact AllReady.nil
                    exact AllReady.nil
                  exact AllReady.nil
                exact AllReady.nil
              refine AllReady.cons rfl (fun K hK => ?_) ?_
              · go_simp
                refine hK _ _ ?_; clear hK K
                refine wpAny_ready (rs := [3]) (by kernel_rfl) (by simp) ?_
                refine AllReady.cons rfl (fun K hK => ?_) ?_
                · go_simp
                  refine hK _ _ ?_; clear hK K
                  refine wpAny_take (i := 5) (v := ?_) rfl (by kernel_rfl) (by kernel_rfl) (by kernel_rfl) (fun _ _ _ h => h) (Or.inl ⟨by rfl, ?_⟩) ?_
                  rotate_left
                  · intro w; go_simp; try with_reducible rfl
                  refine wpAny_ready (rs := [6]) (by kernel_rfl) (by simp) ?_
                  refine AllReady.cons rfl (fun K hK => ?_) ?_
                  · go_simp
                    go_wp2_with fail
                    refine HC.out.mono ?_
                    rintro e w2 ⟨v2, rfl, p2, rfl, hrow2, hk2⟩
                    obtain ⟨⟨hq0, hq1, hq2⟩, hq3, hq4, hg0, hg1, hg2, hg3, hg4⟩ := met_facts (met_keep HI.out.1 (((Kept.refl W).drew.drew).trans hk2))
                    have hn2 := (HCL.out.kept ((Kept.refl W.drew).drew.trans hk2)).1
                    have HR2 := Lib.hid hrow2
                    have HK2 := Lib.hid hk2
                    obtain ⟨pa, pn, pc, rfl⟩ := owns_slice hrow2
                    have hn3 := (HCW.out.kept ((((HI.out.1.2.2.2.2.trans (((Kept.refl W).drew.drew).trans hk2)).setCell (p := ⟨w.heap.size + 1, 0, none⟩) (by simp) (.string m.name)).setCell (p := ⟨w.heap.size + 1, 1, none⟩) (by simp) (.slice pa pn pc)).setCell (p := ⟨w.heap.size + 1, 2, none⟩) (by simp) (.string m.res))).1
                    clear hrow2 hk2 HC
                    dsimp only
                    refine hK _ _ ?_; clear hK K
                    refine wpAny_ready (rs := [11]) (by kernel_rfl) (by simp) ?_
                    refine AllReady.cons rfl (fun K hK => ?_) ?_
                    · go_simp
                      refine hK _ _ ?_; clear hK K
                      refine wpAny_ready (rs := [12]) (by kernel_rfl) (by simp) ?_
                      refine AllReady.cons rfl (fun K hK => ?_) ?_
                      · go_simp
                        refine hK _ _ ?_; clear hK K
                        refine wpAny_ready (rs := [13]) (by kernel_rfl) (by simp) ?_
                        refine AllReady.cons rfl (fun K hK => ?_) ?_
                        · go_simp
                          refine hK _ _ ?_; clear hK K
                          refine wpAny_done (by kernel_rfl) ?_ _
                          gi_wp2
                          exact met_some HI.out HX.out HY.out HR2.out HK2.out ((Kept.refl W).drew.drew) HSZ.out
                        exact AllReady.nil
                      exact AllReady.nil
                    exact AllReady.nil
                  exact AllReady.nil
                exact AllReady.nil
              exact AllReady.nil
            exact AllReady.nil
          exact AllReady.nil
        exact AllReady.nil
  case done =>
    rintro D W hD hIW hd
    have HI := Lib.hid hIW
    have hDn : w.heap.size + 6 ≤ D := by have := HS1.out; have := HS3.out; omega
    obtain ⟨⟨hq0, hq1, hq2⟩, hq3, hq4, hg0, hg1, hg2, hg3, hg4⟩ := met_facts hIW.1
    have hF := met_zero HI.out.1
    have hd' : (metZ w W).heap[D]? = some (.deferred (some [])) := hF.1.same hd (by omega)
    have hR := metC_only hF.2 (Only.putObj (Only.refl (· = D) (metZ w W)) (.inl rfl) (.deferred none)) (fun k h => by omega)
    have HD := Lib.hid hDn
    have HR := Lib.hid hR
    have HE := Lib.hid hd'
    clear hIW hD hI3 HI1 e1 e3 hd' hR hF hDn hd
    go_wp2
    clear hq0 hq1 hq2 hq3 hq4 hg0 hg1 hg2 hg3 hg4
    change bodyPostM _ _ _ _ _ _ _ (metZ w W)
    obtain ⟨⟨hq0, hq1, hq2⟩, hq3, hq4, _⟩ := met_facts HR.out
    generalize metZ w W = Wf at *
    refine ⟨by simp, .inl ⟨_, _, rfl, run_takeDeferred HE.out, ?_⟩⟩
    exact ⟨_, by simp [results, Tryz.results47, go_sem, hq0, hq1, hq2, hq3, hq4], HR.out.2.2.2.2, .inl ⟨method_no HI.out.2, rfl⟩⟩
  case stop =>
    rintro D c pre W hD hpre ⟨rfl, pre0, i, m, p, rfl, h1, h2, h3, h4⟩ hd
    have hDn : w.heap.size + 6 ≤ D ∧ D < w.heap.size + 9 := by have := HS1.out; have := HS3.out; omega
    have hR := metC_only h3 (Only.putObj (Only.refl (· = D) W) (.inl rfl) (.deferred none)) (fun k h => by omega)
    have hO := owns_only h4 (Only.putObj (Only.refl (· = D) W) (.inl rfl) (.deferred none)) (fun g hg h => by omega)
    have HM := Lib.hid (method_yes hpre h1 h2)
    have q0 := hR.2.1.cell 0
    have q1 := hR.2.1.cell 1
    have q2 := hR.2.1.cell 2
    have q3 := hR.2.2.1.cell 0
    have q4 := hR.2.2.2.1.cell 0
    simp only [List.getElem?_toArray, List.getElem?_cons_zero, List.getElem?_cons_succ] at q0 q1 q2 q3 q4
    have HR := Lib.hid hR
    have HO := Lib.hid hO
    clear hR hO h1 h2 h3 h4 hpre hI3 HI1 e1 e3 hD hDn
    gi_wp2
    refine ⟨by simp, .inl ⟨_, _, rfl, run_takeDeferred hd, ?_⟩⟩
    exact ⟨_, by simp [results, Tryz.results47, go_sem, q0, q1, q2, q3, q4], HR.out.2.2.2.2, .inr ⟨m, _, p, HM.out, rfl, owns_base HO.out (by omega)⟩⟩

end Go.Proofs.YtnjgagbblkjjeaaGreatDoor

namespace Go.Proofs.YtnjgagbblkjjeaaGreatDoor
open Go.ChangeShapes Go.WideShapes Go.ChangeAt Go.RowKit Go.Shelf
attribute [local go_sem] Oper.semAt_some

def fldAcc (t : List Tab.C) (nm : ByteArray) (pre : List Nat) : Option ByteArray := pre.foldl (fun a i => (Tab.fieldOf nm (Tab.nth t i)).or a) none
theorem fldAcc_snoc (t : List Tab.C) (nm : ByteArray) (pre : List Nat) (i : Nat) : fldAcc t nm (pre ++ [i]) = (Tab.fieldOf nm (Tab.nth t i)).or (fldAcc t nm pre) := by unfold fldAcc; simp

/-- Within the loop: the name, and what was found so far. -/
def FldI (t : List Tab.C) (nm : ByteArray) (w : World) (pre : List Nat) (W : World) : Prop :=
  Blk W w.heap.size 9 #[.string nm] ∧ Blk W (w.heap.size + 1) 9 #[.string ((fldAcc t nm pre).getD ⟨#[]⟩)] ∧ Blk W (w.heap.size + 1 + 1) 4 #[.bool (fldAcc t nm pre).isSome] ∧ Kept w W

theorem fld_none {t : List Tab.C} {nm : ByteArray} {w W : World} {U : Nat → Prop} {pre : List Nat} {i : Nat} (h : FldI t nm w pre W) (hx : Tab.ix Tab.V.name (Tab.nth t i).fields nm = none) :
    Only U W W.drew ∧ FldI t nm w (pre ++ [i]) W.drew := by
  have e : fldAcc t nm (pre ++ [i]) = fldAcc t nm pre := by
    rw [fldAcc_snoc]
    unfold Tab.fieldOf
    rw [hx]; rfl
  refine ⟨(Only.refl _ W).drew, ?_⟩
  unfold FldI at h ⊢
  rw [e]
  exact ⟨h.1, h.2.1, h.2.2.1, h.2.2.2.drew⟩

theorem fld_some {t : List Tab.C} {nm : ByteArray} {w W : World} {X : Nat → Prop} {pre : List Nat} {i k : Nat} {x : Tab.V} (h : FldI t nm w pre W) (hx : Tab.ix Tab.V.name (Tab.nth t i).fields nm = some k) (hy : (Tab.nth t i).fields[k]? = some x) :
    Only (fun k => (k = w.heap.size + 1 ∨ k = w.heap.size + 1 + 1) ∨ X k) W ((W.drew.setCell ⟨w.heap.size + 1, 0, none⟩ (.string x.typ)).setCell ⟨w.heap.size + 1 + 1, 0, none⟩ (.bool true)) ∧
      FldI t nm w (pre ++ [i]) ((W.drew.setCell ⟨w.heap.size + 1, 0, none⟩ (.string x.typ)).setCell ⟨w.heap.size + 1 + 1, 0, none⟩ (.bool true)) := by
  have e : fldAcc t nm (pre ++ [i]) = some x.typ := by
    rw [fldAcc_snoc]
    unfold Tab.fieldOf
    rw [hx]
    simp [hy]
  have hO : Only (fun k => k = w.heap.size + 1 ∨ k = w.heap.size + 1 + 1) W ((W.drew.setCell ⟨w.heap.size + 1, 0, none⟩ (.string x.typ)).setCell ⟨w.heap.size + 1 + 1, 0, none⟩ (.bool true)) :=
    (((Only.refl _ W).drew).setCell (p := ⟨w.heap.size + 1, 0, none⟩) (.inl (.inl rfl)) _).setCell (p := ⟨w.heap.size + 1 + 1, 0, none⟩) (.inl (.inr rfl)) _
  refine ⟨hO.mono fun k _ h => .inl h, ?_⟩
  unfold FldI at h ⊢
  rw [e]
  refine ⟨h.1.only hO (by omega), ?_, ?_, h.2.2.2.onlyS hO (fun k h => by omega)⟩
  · have h1 : Blk (W.drew.setCell ⟨w.heap.size + 1, 0, none⟩ (.string x.typ)) (w.heap.size + 1) 9 #[.string x.typ] := (show Blk W.drew _ _ _ from h.2.1).put 0 _
    exact h1.only ((Only.refl (· = w.heap.size + 1 + 1) _).put 0 _) (by omega)
  · have h2 : Blk (W.drew.setCell ⟨w.heap.size + 1, 0, none⟩ (.string x.typ)) (w.heap.size + 1 + 1) 4 _ := (show Blk W.drew _ _ _ from h.2.2.1).only ((Only.refl (· = w.heap.size + 1) _).put 0 _) (by omega)
    exact h2.put 0 _

theorem fldI_only {t : List Tab.C} {nm : ByteArray} {w A B : World} {pre : List Nat} {S : Nat → Prop} (h : FldI t nm w pre A) (ho : Only S A B) (hs : ∀ k, S k → w.heap.size + 3 ≤ k) : FldI t nm w pre B :=
  ⟨h.1.only ho (fun e => by have := hs _ e; omega), h.2.1.only ho (fun e => by have := hs _ e; omega), h.2.2.1.only ho (fun e => by have := hs _ e; omega), h.2.2.2.onlyS ho (fun k e => by have := hs k e; omega)⟩

set_option maxHeartbeats 2000000 in
theorem field_c (a : Option Addr) (c : Nat) (t : List Tab.C) (s nm : ByteArray) (w : World) (hT : TabAt w (.slice a t.length c) t) (ht : t.length ≤ 1000) :
    Calls Tryz.prog 46 #[.slice a t.length c, .string s, .string nm] w fun e w' => e = .returned (.tuple #[.string ((Tab.field t s nm).getD ⟨#[]⟩), .bool (Tab.field t s nm).isSome]) ∧ Kept w w' := by
  refine (callsIn_wide (n := 3)).1 (callsIn_of_wp_marks Tryz.func46 rfl trivial (wpIn_wide.2 ?_) rfl)
  simp only [Tryz.ntmps46, List.size_toArray, List.length_cons, List.length_nil, Nat.reduceAdd, Nat.reduceSub, Array.replicate_succ, Array.replicate_zero, List.push_toArray, List.append_toArray, List.nil_append, List.cons_append]
  have HT := Lib.hid hT
  clear hT
  go_wp2_with fail
  obtain ⟨W1, hW1⟩ : ∃ W1, ((w.alloc (.cells #[.string nm] 9)).alloc (.cells #[.string ⟨#[]⟩] 9)).alloc (.cells #[.bool false] 4) = W1 := ⟨_, rfl⟩
  have hI1 : FldI t nm w [] W1 := by
    rw [← hW1]
    have h2 := Blk.new (w.alloc (.cells #[.string nm] 9)) 9 #[.string ⟨#[]⟩]
    have h3 := Blk.new ((w.alloc (.cells #[.string nm] 9)).alloc (.cells #[.string ⟨#[]⟩] 9)) 4 #[.bool false]
    simp only [World.size_alloc] at h2 h3
    exact ⟨((Blk.new w _ _).alloc _).alloc _, h2.alloc _, h3, (((Kept.refl w).alloc _).alloc _).alloc _⟩
  have hs1 : W1.heap.size = w.heap.size + 3 := by rw [← hW1]; simp
  have HS1 := Lib.hid hs1
  have HI1 := Lib.hid hI1
  rw [hW1]
  clear hW1 hs1 hI1
  refine (line_lineC a c t s _).mono ?_
  rintro e w3 ⟨rfl, hw3⟩
  have HK3 := Lib.hid (show Kept W1 w3 by rw [hw3]; exact ((Kept.refl W1).alloc _).alloc _)
  have HS3 := Lib.hid (show w3.heap.size = W1.heap.size + 2 by rw [hw3]; simp)
  have HB1 := Lib.hid (show Blk w3 W1.heap.size 22 #[.slice a t.length c] by rw [hw3]; exact (Blk.new _ _ _).alloc _)
  have HB2 := Lib.hid (show Blk w3 (W1.heap.size + 1) 9 #[.string s] by
    rw [hw3]
    have := Blk.new (W1.alloc (.cells #[.slice a t.length c] 22)) 9 #[.string s]
    simpa using this)
  clear hw3
  go_wp2_with fail
  have e1 : w.heap.size + 3 ≤ W1.heap.size := by have := HS1.out; omega
  have e3 : W1.heap.size + 2 ≤ w3.heap.size := by have := HS3.out; omega
  have hI3 : FldI t nm w [] w3 := fldI_only HI1.out (S := fun _ => False) (Only.of_kept HK3.out) (fun k h => h.elim)
  refine wpIn_wide.1 (wpIn_range_line (w0 := w) (bt := W1.heap.size) (bn := W1.heap.size + 1) a c t s (fun k => k = w.heap.size + 1 ∨ k = w.heap.size + 1 + 1) rfl HT.out ht hI3.2.2.2 HB1.out HB2.out (by omega) (by omega) (by omega) (fun k e => by omega) rfl
    (FldI t nm w) (fun _ _ _ => False) (fun pre A B h o => fldI_only h o (fun k h => by omega)) (fun _ _ _ _ h _ => h) hI3
    (fun i => { tmps := #[.slice a t.length c, .string s, .string nm, undef, undef, .pointer (some ⟨w.heap.size, 0, none⟩), .string ⟨#[]⟩, .bool false, .pointer (some ⟨w.heap.size + 1, 0, none⟩), .pointer (some ⟨w.heap.size + 1 + 1, 0, none⟩), elC a i, undef, undef, .slice a t.length c, .string s, .func (.func 137) #[] #[.pointer (some ⟨W1.heap.size, 0, none⟩), .pointer (some ⟨W1.heap.size + 1, 0, none⟩)], elC a i, undef, undef, undef, undef, undef, undef, undef, undef, undef, undef, undef, undef, undef, undef, undef, undef, undef, undef, undef, undef], defers := [] }) ?assign ?body ?done ?stop)
  case assign =>
    intro l i W K hK
    gi_wp2
    exact hK
  case body =>
    rintro l pre i b o W hl _ hIW hsize hpre hi' rfl hcl
    have HI := Lib.hid hIW
    obtain ⟨_, _, ⟨u, hc0, hu⟩, _⟩ := hcl.kept hIW.2.2.2
    have hn0 := hIW.1.cell 0
    have hn1 := hIW.2.1.cell 0
    have hn2 := hIW.2.2.1.cell 0
    have hf1 := hIW.2.1.frozen 0
    have hf2 := hIW.2.2.1.frozen 0
    simp at hn0 hn1 hn2
    have HF := Lib.hid (tfindVar_c (Tab.nth t i).fields u nm W.drew (vars_kept hu (Kept.refl W).drew))
    unfold FindPost at HF
    have HU := Lib.hid hu
    obtain ⟨ua, un, uc, rfl⟩ : ∃ a n c, u = .slice a n c := by obtain ⟨a, c, e, _⟩ := hu; exact ⟨_, _, _, e⟩
    simp only [elC, evC, Option.map_some]
    clear hcl hpre hIW hI3 HI1 hu e1 e3 hsize hl
    cases hix : Tab.ix Tab.V.name (Tab.nth t i).fields nm with
    | none =>
      have HX := Lib.hid hix
      rw [hix] at HF
      clear hix
      simp only [Tab.num, Option.isSome_none] at HF
      gi_wp2
      refine wpIn_region_of_any (by kernel_rfl) (by kernel_rfl) (by rintro ⟨_, _, h⟩; exact h) ?_
      · change wpAny _ _ _ _ _ _ _ (World.drew _)
        refine wpAny_take (i := 0) (v := ?_) rfl (by kernel_rfl) (by kernel_rfl) (by kernel_rfl) (fun _ _ _ h => h) (Or.inl ⟨by rfl, ?_⟩) ?_
        rotate_left
        · intro w; go_simp; try with_reducible rfl
        refine wpAny_take (i := 1) (v := ?_) rfl (by kernel_rfl) (by kernel_rfl) (by kernel_rfl) (fun _ _ _ h => h) (Or.inl ⟨by rfl, ?_⟩) ?_
        rotate_left
        · intro w; go_simp; try with_reducible rfl
        refine wpAny_take (i := 2) (v := ?_) rfl (by kernel_rfl) (by kernel_rfl) (by kernel_rfl) (fun _ _ _ h => h) (Or.inl ⟨by rfl, ?_⟩) ?_
        rotate_left
        · intro w; go_simp; try with_reducible rfl
        refine wpAny_ready (rs := [3, 4]) (by kernel_rfl) (by simp) ?_
        refine AllReady.cons rfl (fun K hK => ?_) ?_
        · go_simp
          refine hK _ _ ?_; clear hK K
          refine wpAny_ready (rs := [4]) (by kernel_rfl) (by simp) ?_
          refine AllReady.cons rfl (fun K hK => ?_) ?_
          · go_simp
            refine hK _ _ ?_; clear hK K
            refine wpAny_ready (rs := [5]) (by kernel_rfl) (by simp) ?_
            refine AllReady.cons rfl (fun K hK => ?_) ?_
            · go_simp
              go_wp2_with fail
              refine HF.out.mono ?_
              rintro e w2 ⟨rfl, rfl⟩
              dsimp only
              refine hK _ _ ?_; clear hK K
              refine wpAny_take (i := 6) (v := ?_) rfl (by kernel_rfl) (by kernel_rfl) (by kernel_rfl) (fun _ _ _ h => h) (Or.inl ⟨by rfl, ?_⟩) ?_
              rotate_left
              · intro w; go_simp; try with_reducible rfl
              refine wpAny_take (i := 7) (v := ?_) rfl (by kernel_rfl) (by kernel_rfl) (by kernel_rfl) (fun _ _ _ h => h) (Or.inl ⟨by rfl, ?_⟩) ?_
              rotate_left
              · intro w; go_simp; try with_reducible rfl
              refine wpAny_take (i := 8) (v := ?_) rfl (by kernel_rfl) (by kernel_rfl) (by kernel_rfl) (fun _ _ _ h => h) (Or.inl ⟨by rfl, ?_⟩) ?_
              rotate_left
              · intro w; go_simp; try with_reducible rfl
              refine wpAny_take (i := 9) (v := ?_) rfl (by kernel_rfl) (by kernel_rfl) (by kernel_rfl) (fun _ _ _ h => h) (Or.inl ⟨by rfl, ?_⟩) ?_
              rotate_left
              · intro w; go_simp; try with_reducible rfl
              refine wpAny_take (i := 10) (v := ?_) rfl (by kernel_rfl) (by kernel_rfl) (by kernel_rfl) (fun _ _ _ h => h) (Or.inl ⟨by rfl, ?_⟩) ?_
              rotate_left
              · intro w; go_simp; try with_reducible rfl
              refine wpAny_done (by kernel_rfl) ?_ _
              gi_wp2
              exact fld_none HI.out HX.out
            exact AllReady.nil
          exact AllReady.nil
        refine AllReady.cons rfl (fun K hK => ?_) ?_
        · go_simp
          refine hK _ _ ?_; clear hK K
          refine wpAny_ready (rs := [3]) (by kernel_rfl) (by simp) ?_
          refine AllReady.cons rfl (fun K hK => ?_) ?_
          · go_simp
            refine hK _ _ ?_; clear hK K
            refine wpAny_ready (rs := [5]) (by kernel_rfl) (by simp) ?_
            refine AllReady.cons rfl (fun K hK => ?_) ?_
            · go_simp
              go_wp2_with fail
              refine HF.out.mono ?_
              rintro e w2 ⟨rfl, rfl⟩
              dsimp only
              refine hK _ _ ?_; clear hK K
              refine wpAny_take (i := 6) (v := ?_) rfl (by kernel_rfl) (by kernel_rfl) (by kernel_rfl) (fun _ _ _ h => h) (Or.inl ⟨by rfl, ?_⟩) ?_
              rotate_left
              · intro w; go_simp; try with_reducible rfl
              refine wpAny_take (i := 7) (v := ?_) rfl (by kernel_rfl) (by kernel_rfl) (by kernel_rfl) (fun _ _ _ h => h) (Or.inl ⟨by rfl, ?_⟩) ?_
              rotate_left
              · intro w; go_simp; try with_reducible rfl
              refine wpAny_take (i := 8) (v := ?_) rfl (by kernel_rfl) (by kernel_rfl) (by kernel_rfl) (fun _ _ _ h => h) (Or.inl ⟨by rfl, ?_⟩) ?_
              rotate_left
              · intro w; go_simp; try with_reducible rfl
              refine wpAny_take (i := 9) (v := ?_) rfl (by kernel_rfl) (by kernel_rfl) (by kernel_rfl) (fun _ _ _ h => h) (Or.inl ⟨by rfl, ?_⟩) ?_
              rotate_left
              · intro w; go_simp; try with_reducible rfl
              refine wpAny_take (i := 10) (v := ?_) rfl (by kernel_rfl) (by kernel_rfl) (by kernel_rfl) (fun _ _ _ h => h) (Or.inl ⟨by rfl, ?_⟩) ?_
              rotate_left
              · intro w; go_simp; try with_reducible rfl
              refine wpAny_done (by kernel_rfl) ?_ _
              gi_wp2
              exact fld_none HI.out HX.out
            exact AllReady.nil
          exact AllReady.nil
        exact AllReady.nil
    | some k =>
      have HX := Lib.hid hix
      obtain ⟨hk, _⟩ := Tab.ix_lt hix
      have hy : (Tab.nth t i).fields[k]? = some (Tab.nth t i).fields[k] := List.getElem?_eq_getElem hk
      obtain ⟨ua', uc', e, _, _, hat⟩ := HU.out
      obtain ⟨ub, uo, e2, hva⟩ := hat _ _ hy
      generalize (Tab.nth t i).fields[k] = x at hy hva
      injection e with e4 e5 e6
      subst e4 e5 e6 e2
      have HY := Lib.hid hy
      have hvt := hva.2.1
      have hkI : (k : Int) < ((Tab.nth t i).fields.length : Int) := by omega
      rw [hix] at HF
      clear hix hy hat hva HU
      simp only [Tab.num, Option.isSome_some] at HF
      gi_wp2
      refine wpIn_region_of_any (by kernel_rfl) (by kernel_rfl) (by rintro ⟨_, _, h⟩; exact h) ?_
      · change wpAny _ _ _ _ _ _ _ (World.drew _)
        refine wpAny_take (i := 0) (v := ?_) rfl (by kernel_rfl) (by kernel_rfl) (by kernel_rfl) (fun _ _ _ h => h) (Or.inl ⟨by rfl, ?_⟩) ?_
        rotate_left
        · intro w; go_simp; try with_reducible rfl
        refine wpAny_take (i := 1) (v := ?_) rfl (by kernel_rfl) (by kernel_rfl) (by kernel_rfl) (fun _ _ _ h => h) (Or.inl ⟨by rfl, ?_⟩) ?_
        rotate_left
        · intro w; go_simp; try with_reducible rfl
        refine wpAny_take (i := 2) (v := ?_) rfl (by kernel_rfl) (by kernel_rfl) (by kernel_rfl) (fun _ _ _ h => h) (Or.inl ⟨by rfl, ?_⟩) ?_
        rotate_left
        · intro w; go_simp; try with_reducible rfl
        refine wpAny_ready (rs := [3, 4]) (by kernel_rfl) (by simp) ?_
        refine AllReady.cons rfl (fun K hK => ?_) ?_
        · go_simp
          refine hK _ _ ?_; clear hK K
          refine wpAny_ready (rs := [4]) (by kernel_rfl) (by simp) ?_
          refine AllReady.cons rfl (fun K hK => ?_) ?_
          · go_simp
            refine hK _ _ ?_; clear hK K
            refine wpAny_ready (rs := [5]) (by kernel_rfl) (by simp) ?_
            refine AllReady.cons rfl (fun K hK => ?_) ?_
            · go_simp
              go_wp2_with fail
              refine HF.out.mono ?_
              rintro e w2 ⟨rfl, rfl⟩
              dsimp only
              refine hK _ _ ?_; clear hK K
              refine wpAny_take (i := 6) (v := ?_) rfl (by kernel_rfl) (by kernel_rfl) (by kernel_rfl) (fun _ _ _ h => h) (Or.inl ⟨by rfl, ?_⟩) ?_
              rotate_left
              · intro w; go_simp; try with_reducible rfl
              refine wpAny_take (i := 7) (v := ?_) rfl (by kernel_rfl) (by kernel_rfl) (by kernel_rfl) (fun _ _ _ h => h) (Or.inl ⟨by rfl, ?_⟩) ?_
              rotate_left
              · intro w; go_simp; try with_reducible rfl
              refine wpAny_take (i := 8) (v := ?_) rfl (by kernel_rfl) (by kernel_rfl) (by kernel_rfl) (fun _ _ _ h => h) (Or.inl ⟨by rfl, ?_⟩) ?_
              rotate_left
              · intro w; go_simp; try with_reducible rfl
              refine wpAny_take (i := 9) (v := ?_) rfl (by kernel_rfl) (by kernel_rfl) (by kernel_rfl) (fun _ _ _ h => h) (Or.inl ⟨by rfl, ?_⟩) ?_
              rotate_left
              · intro w; go_simp; try with_reducible rfl
              refine wpAny_take (i := 10) (v := ?_) rfl (by kernel_rfl) (by kernel_rfl) (by kernel_rfl) (fun _ _ _ h => h) (Or.inl ⟨by rfl, ?_⟩) ?_
              rotate_left
              · intro w; go_simp; try with_reducible rfl
              refine wpAny_done (by kernel_rfl) ?_ _
              gi_wp2
              exact fld_some HI.out HX.out HY.out
            exact AllReady.nil
          exact AllReady.nil
        refine AllReady.cons rfl (fun K hK => ?_) ?_
        · go_simp
          refine hK _ _ ?_; clear hK K
          refine wpAny_ready (rs := [3]) (by kernel_rfl) (by simp) ?_
          refine AllReady.cons rfl (fun K hK => ?_) ?_
          · go_simp
            refine hK _ _ ?_; clear hK K
            refine wpAny_ready (rs := [5]) (by kernel_rfl) (by simp) ?_
            refine AllReady.cons rfl (fun K hK => ?_) ?_
            · go_simp
              go_wp2_with fail
              refine HF.out.mono ?_
              rintro e w2 ⟨rfl, rfl⟩
              dsimp only
              refine hK _ _ ?_; clear hK K
              refine wpAny_take (i := 6) (v := ?_) rfl (by kernel_rfl) (by kernel_rfl) (by kernel_rfl) (fun _ _ _ h => h) (Or.inl ⟨by rfl, ?_⟩) ?_
              rotate_left
              · intro w; go_simp; try with_reducible rfl
              refine wpAny_take (i := 7) (v := ?_) rfl (by kernel_rfl) (by kernel_rfl) (by kernel_rfl) (fun _ _ _ h => h) (Or.inl ⟨by rfl, ?_⟩) ?_
              rotate_left
              · intro w; go_simp; try with_reducible rfl
              refine wpAny_take (i := 8) (v := ?_) rfl (by kernel_rfl) (by kernel_rfl) (by kernel_rfl) (fun _ _ _ h => h) (Or.inl ⟨by rfl, ?_⟩) ?_
              rotate_left
              · intro w; go_simp; try with_reducible rfl
              refine wpAny_take (i := 9) (v := ?_) rfl (by kernel_rfl) (by kernel_rfl) (by kernel_rfl) (fun _ _ _ h => h) (Or.inl ⟨by rfl, ?_⟩) ?_
              rotate_left
              · intro w; go_simp; try with_reducible rfl
              refine wpAny_take (i := 10) (v := ?_) rfl (by kernel_rfl) (by kernel_rfl) (by kernel_rfl) (fun _ _ _ h => h) (Or.inl ⟨by rfl, ?_⟩) ?_
              rotate_left
              · intro w; go_simp; try with_reducible rfl
              refine wpAny_done (by kernel_rfl) ?_ _
              gi_wp2
              exact fld_some HI.out HX.out HY.out
            exact AllReady.nil
          exact AllReady.nil
        exact AllReady.nil
  case done =>
    rintro D W hD hIW hd
    have HI := Lib.hid hIW
    have hn1 := hIW.2.1.cell 0
    have hn2 := hIW.2.2.1.cell 0
    have HD := Lib.hid hD
    have HO := Lib.hid (show Only (· = D) W.drew (W.drew.putObj D (.deferred none)) from Only.putObj (Only.refl (· = D) W.drew) (.inl rfl) _)
    rw [show fldAcc t nm (Tab.line t s) = Tab.field t s nm from rfl] at hn1 hn2
    simp at hn1 hn2
    clear hIW hD hI3 HI1 e1 e3
    go_wp2
    go_region
    all_goals
      go_wp2
      refine ⟨by simp, .inl ⟨_, _, rfl, run_takeDeferred (show W.drew.heap[D]? = _ from hd), ?_⟩⟩
      exact ⟨_, by simp [results, Tryz.results46, go_sem], rfl, HI.out.2.2.2.drew.onlyS HO.out (by intro k e; have := HD.out; have := HS3.out; have := HS1.out; omega)⟩
  case stop =>
    rintro D c pre W _ _ h _
    exact h.elim

end Go.Proofs.YtnjgagbblkjjeaaGreatDoor

namespace Go.Proofs.YtnjgagbblkjjeaaGreatDoor
open Go.RowKit Go.Shelf
attribute [local go_sem] Oper.semAt_some

/-- A method as it lies in memory: with the slice of its parameters. -/
abbrev MV := { x : Tab.M × Value // ∃ a c, x.2 = .slice a x.1.params.length c }
def MV.val (x : MV) : Value := .agg #[.string x.1.1.name, x.1.2, .string x.1.1.res]

/-- Which methods a slice has. -/
def MvAt (w : World) (a : Option Addr) (L : List MV) : Prop :=
  ∀ (k : Nat) (x : MV), L[k]? = some x → ∃ b o, a = some ⟨b, o, none⟩ ∧ w.cell? ⟨b, o + k * 3, none⟩ = some (.string x.1.1.name) ∧ w.cell? ⟨b, o + k * 3 + 1, none⟩ = some x.1.2 ∧ w.cell? ⟨b, o + k * 3 + 2, none⟩ = some (.string x.1.1.res)

theorem mv_of_row {w : World} {v : Value} {l : List Tab.M} (h : Row 3 SigAt w v l) : ∃ (a : Option Addr) (c : Nat) (L : List MV), v = .slice a l.length c ∧ L.map (fun x => x.1.1) = l ∧ MvAt w a L := by
  obtain ⟨a, c, rfl, h1, h2, h3⟩ := h
  have each : ∀ i : Fin l.length, ∃ y : MV, y.1.1 = l[i] ∧ ∃ b o, a = some ⟨b, o, none⟩ ∧ w.cell? ⟨b, o + i.1 * 3, none⟩ = some (.string y.1.1.name) ∧ w.cell? ⟨b, o + i.1 * 3 + 1, none⟩ = some y.1.2 ∧ w.cell? ⟨b, o + i.1 * 3 + 2, none⟩ = some (.string y.1.1.res) := fun i => by
    obtain ⟨b, o, e, c0, ⟨p, c1, hp⟩, c2, _⟩ := h3 i.1 l[i] (List.getElem?_eq_getElem i.2)
    obtain ⟨pa, pc, rfl, _⟩ := hp
    exact ⟨⟨(l[i], .slice pa l[i].params.length pc), pa, pc, rfl⟩, rfl, b, o, e, c0, c1, c2⟩
  let g : Fin l.length → MV := fun i => Classical.choose (each i)
  have gs := fun i : Fin l.length => Classical.choose_spec (each i)
  refine ⟨a, c, List.ofFn g, rfl, ?_, fun k x hx => ?_⟩
  · refine List.ext_getElem (by simp) fun k h1 h2 => ?_
    rw [List.getElem_map, List.getElem_ofFn]
    exact (gs ⟨k, h2⟩).1
  · obtain ⟨hk, hy⟩ := List.getElem?_eq_some_iff.1 hx
    have hk' : k < l.length := by simpa using hk
    have hxg : x = g ⟨k, hk'⟩ := by rw [← hy]; simp
    rw [hxg]
    exact (gs ⟨k, hk'⟩).2

theorem MvAt.kept {w w' : World} {a : Option Addr} {L : List MV} (h : MvAt w a L) (k : Kept w w') : MvAt w' a L := fun j x hx => by
  obtain ⟨b, o, e, c0, c1, c2⟩ := h j x hx
  exact ⟨b, o, e, k.cell c0, k.cell c1, k.cell c2⟩

theorem back_sigC (v : Value) (w : World) : (∃ a n c, v = .slice a n c) →
    Calls Tryz.prog 96 #[v] w fun e w' => e = .returned (.func (.func 138) #[] #[.pointer (some ⟨w.heap.size, 0, none⟩)]) ∧
      w' = w.alloc (.cells #[v] 44) := by
  rintro ⟨a, n, c, rfl⟩
  go_enter Tryz.func96, Tryz.ntmps96
  go_wp2_with fail
  go_ret
  exact ⟨rfl, rfl⟩

/-- What lay ahead of w0's end, and the iterator's box, are as they were. -/
def Kpn (n₀ B : Nat) (W W' : World) : Prop := W'.os = W.os ∧ W'.output = W.output ∧ W.heap.size ≤ W'.heap.size ∧ ∀ k, k < n₀ ∨ k = B → W'.heap[k]? = W.heap[k]?
theorem kpn_t {n₀ B : Nat} {X Y Z : World} (h : Kpn n₀ B X Y) (k : Kpn n₀ B Y Z) : Kpn n₀ B X Z := ⟨k.1.trans h.1, k.2.1.trans h.2.1, Nat.le_trans h.2.2.1 k.2.2.1, fun i hi => (k.2.2.2 i hi).trans (h.2.2.2 i hi)⟩
theorem Kpn.of_only {n₀ B : Nat} {S : Nat → Prop} {W W' : World} (h : Only S W W') (hn : n₀ ≤ W.heap.size) (hB : B < W.heap.size) (hs : ∀ k, S k → n₀ ≤ k ∧ k ≠ B) : Kpn n₀ B W W' :=
  ⟨h.os, h.output, h.size, fun k hk => h.block k (by rcases hk with hk | hk <;> omega) fun e => by have := hs k e; omega⟩

set_option maxHeartbeats 4000000 in
theorem backs_stops (n : Nat) (L : List MV) (a : Option Addr) (c B : Nat) (w0 w : World) (hlen : L.length ≤ 1000) (hM : MvAt w0 a L) (hk : Kept w0 w) (hB : Blk w B 44 #[.slice a L.length c]) :
    SeqStopsK Fence.wide n Tryz.prog 138 #[.pointer (some ⟨B, 0, none⟩)] (fun y : MV × Nat => #[.int .i64 y.2, y.1.val]) (Kpn w0.heap.size B) (· = bk L 0) (· <+: bk L 0) L.length w := by
  intro l J Jx W hW abJ abX hY h0
  have hkW : Kept w0 W := hk.trans (Kept.of_below hW)
  have hBW : Blk W B 44 #[.slice a L.length c] := hB.kept (Kept.of_below hW)
  have c0 := hBW.cell 0
  simp at c0
  refine callsIn_of_wp Tryz.func138 rfl trivial ?_ rfl
  simp only [Tryz.ntmps138, List.size_toArray, List.length_cons, List.length_nil, Nat.reduceAdd, Nat.reduceSub, Array.replicate_succ, Array.replicate_zero, List.push_toArray, List.append_toArray, List.nil_append, List.cons_append]
  gi_wp2
  clear c0
  gi_loopw [3] (fun i wr => ∃ m : Nat, i = .int .i64 ((m : Int) - 1) ∧ m ≤ L.length ∧ J (bk L m) wr ∧ Kept w0 wr ∧ Blk wr B 44 #[.slice a L.length c]) (fun i wr => (intOf i + 1).toNat)
  case atStart => exact ⟨L.length, by go_num, Nat.le_refl _, by rw [bk_all]; exact h0, hkW, hBW⟩
  case round =>
    obtain ⟨m, rfl, hm, hJ, hKr, hBr⟩ := hrel
    have c0 := hBr.cell 0
    simp at c0
    by_cases h0m : m = 0
    · subst h0m
      have HJ := Lib.hid hJ
      clear hJ h0 hY hKr hBr hkW hBW hk hB
      gi_wp2
      refine bodyPost_end (results_none rfl _ _ _) rfl ?_
      exact ⟨⟨_, rfl⟩, .inl ⟨_, rfl, HJ.out⟩⟩
    · obtain ⟨k, rfl⟩ : ∃ k, m = k + 1 := ⟨m - 1, by omega⟩
      have hk' : k < L.length := by omega
      have hx : L[k]? = some L[k] := List.getElem?_eq_getElem hk'
      generalize L[k] = x at hx
      obtain ⟨b, o, rfl, e0, e1, e2⟩ := hM.kept hKr k x hx
      have hge : (0 : Int) ≤ (k : Int) := by omega
      have hkl : (k : Int) < (L.length : Int) := by omega
      have hki : (((k + 1 : Nat) : Int)) - 1 = (k : Int) := by omega
      have hbl : (bk L (k + 1)).length < L.length := by unfold bk; simp; omega
      obtain ⟨fn, tmps, assign, body, hy, hR⟩ := hY (bk L (k + 1)) (x, k) wr hJ hbl
      have HB := Lib.hid (bk_next hx)
      have HK := Lib.hid hKr
      have HBB := Lib.hid hBr
      have HP := Lib.hid (bk_pre L k)
      dsimp only [MV.val] at hy e0 e1 e2
      rw [hki]
      clear hJ h0 hY hx hM hki h0m hKr hBr hkW hBW hk hB
      gi_wp2
      refine ⟨fun h => (by cases h), hR.mono ?_⟩
      rintro e W3 (⟨rfl, hJ3, hk3⟩ | ⟨rfl, hJx3⟩)
      · have HJ := Lib.hid hJ3
        have HK3 := Lib.hid (show Kept w0 W3 from ⟨hk3.1.trans HK.out.os, hk3.2.1.trans HK.out.output, Nat.le_trans HK.out.size hk3.2.2.1, fun j hj => (hk3.2.2.2 j (.inl hj)).trans (HK.out.block j hj)⟩)
        have HB3 := Lib.hid (show Blk W3 B 44 #[.slice (some ⟨b, o, none⟩) L.length c] from (hk3.2.2.2 B (.inr rfl)).trans HBB.out)
        clear hJ3 hk3
        gi_wp2
        go_roundw
        case rel => exact ⟨k, by go_num, by omega, by rw [← HB.out]; exact HJ.out, HK3.out, HB3.out⟩
        case measure => simp [intOf]
      · gi_wp2
        refine bodyPost_ret (results_none rfl _ _ _) rfl ?_
        exact ⟨⟨_, rfl⟩, .inr ⟨_, by rw [HB.out]; exact HP.out, hJx3⟩⟩

end Go.Proofs.YtnjgagbblkjjeaaGreatDoor

namespace Go.Proofs.YtnjgagbblkjjeaaGreatDoor
open Go.ChangeShapes Go.WideShapes Go.ChangeAt Go.RowKit Go.Shelf
attribute [local go_sem] Oper.semAt_some

/-- The name, and the results' cells. -/
def AriC (nm : ByteArray) (w : World) (n : Int) (b : Bool) (W : World) : Prop :=
  Blk W w.heap.size 9 #[.string nm] ∧ Blk W (w.heap.size + 1) 3 #[.int .i64 n] ∧ Blk W (w.heap.size + 1 + 1) 4 #[.bool b] ∧ Kept w W
theorem ariC_only {nm : ByteArray} {w A B : World} {n : Int} {b : Bool} {S : Nat → Prop} (h : AriC nm w n b A) (ho : Only S A B) (hs : ∀ k, S k → w.heap.size + 3 ≤ k) : AriC nm w n b B :=
  ⟨h.1.only ho (fun e => by have := hs _ e; omega), h.2.1.only ho (fun e => by have := hs _ e; omega), h.2.2.1.only ho (fun e => by have := hs _ e; omega), h.2.2.2.onlyS ho (fun k e => by have := hs k e; omega)⟩
theorem ariC_set {nm : ByteArray} {w W : World} {n : Int} {b : Bool} (h : AriC nm w n b W) (m : Int) (c : Bool) :
    AriC nm w m c ((W.setCell ⟨w.heap.size + 1, 0, none⟩ (.int .i64 m)).setCell ⟨w.heap.size + 1 + 1, 0, none⟩ (.bool c)) ∧
      Only (fun k => k = w.heap.size + 1 ∨ k = w.heap.size + 1 + 1) W ((W.setCell ⟨w.heap.size + 1, 0, none⟩ (.int .i64 m)).setCell ⟨w.heap.size + 1 + 1, 0, none⟩ (.bool c)) := by
  have hO : Only (fun k => k = w.heap.size + 1 ∨ k = w.heap.size + 1 + 1) W ((W.setCell ⟨w.heap.size + 1, 0, none⟩ (.int .i64 m)).setCell ⟨w.heap.size + 1 + 1, 0, none⟩ (.bool c)) :=
    ((Only.refl _ W).setCell (p := ⟨w.heap.size + 1, 0, none⟩) (.inl (.inl rfl)) _).setCell (p := ⟨w.heap.size + 1 + 1, 0, none⟩) (.inl (.inr rfl)) _
  refine ⟨⟨h.1.only hO (by omega), ?_, ?_, h.2.2.2.onlyS hO (fun k h => by omega)⟩, hO⟩
  · exact (h.2.1.put 0 (.int .i64 m)).only ((Only.refl (· = w.heap.size + 1 + 1) _).put 0 _) (by omega)
  · exact (h.2.2.1.only ((Only.refl (· = w.heap.size + 1) W).put 0 (.int .i64 m)) (by omega)).put 0 _

def AriI (t : List Tab.C) (nm : ByteArray) (w : World) (pre : List Nat) (W : World) : Prop :=
  AriC nm w 0 false W ∧ ∀ i ∈ pre, Tab.lastOf nm (Tab.nth t i).methods = none
def AriX (t : List Tab.C) (nm : ByteArray) (w : World) (c : Code) (pre : List Nat) (W : World) : Prop :=
  c = .ret ∧ ∃ pre0 i m, pre = pre0 ++ [i] ∧ (∀ i ∈ pre0, Tab.lastOf nm (Tab.nth t i).methods = none) ∧ Tab.lastOf nm (Tab.nth t i).methods = some m ∧ AriC nm w m.params.length true W

/-- Within the loop over a class's methods. -/
def AriJ (nm : ByteArray) (w Wr : World) (n₁ n₂ : Nat) (pre : List (MV × Nat)) (W : World) : Prop :=
  n₂ ≤ W.heap.size ∧ AriC nm w 0 false W ∧ (∀ y ∈ pre, ¬ y.1.1.1.name = nm) ∧ Only (fun k => (k = w.heap.size + 1 ∨ k = w.heap.size + 1 + 1) ∨ n₁ ≤ k) Wr W
def AriY (nm : ByteArray) (w Wr : World) (n₁ : Nat) (c : Code) (pre : List (MV × Nat)) (W : World) : Prop :=
  c = .ret ∧ ∃ (pre0 : List (MV × Nat)) (y : MV × Nat), pre = pre0 ++ [y] ∧ (∀ z ∈ pre0, ¬ z.1.1.1.name = nm) ∧ y.1.1.1.name = nm ∧ AriC nm w y.1.1.1.params.length true W ∧ Only (fun k => (k = w.heap.size + 1 ∨ k = w.heap.size + 1 + 1) ∨ n₁ ≤ k) Wr W

theorem KeepsFrom.of_only {S : Nat → Prop} {B : Nat} {W W' : World} (h : Only S W W') (hs : ∀ k, S k → k < B) : KeepsFrom B W W' :=
  ⟨h.size, fun k o hk ho _ => h.same ho fun e => by have := hs k e; omega⟩

theorem own_from {β : Type} {B : Nat} {I : β → World → Prop} (h : ∀ s X Y, I s X → Only (fun k => B ≤ k) X Y → I s Y) : OwnFrom B I := by
  intro s X Y row hs hg hr
  exact h s X Y hs ((Only.refl _ X).grown hg fun k e => .inl (hr k e).1)

theorem last_none {nm : ByteArray} {L : List MV} {l : List Tab.M} (hL : L.map (fun x => x.1.1) = l) (h : ∀ y ∈ bk L 0, ¬ y.1.1.1.name = nm) : Tab.lastOf nm l = none := by
  unfold Tab.lastOf
  rw [List.find?_eq_none]
  intro m hm
  rw [List.mem_reverse, ← hL, List.mem_map] at hm
  obtain ⟨x, hx, rfl⟩ := hm
  obtain ⟨k, hk, rfl⟩ := List.getElem_of_mem hx
  have : (L[k], k) ∈ bk L 0 := by
    unfold bk
    rw [List.drop_zero, List.mem_reverse, List.mem_zipIdx_iff_getElem?]
    exact List.getElem?_eq_getElem hk
  simpa using h _ this
theorem last_some {nm : ByteArray} {L : List MV} {l : List Tab.M} (hL : L.map (fun x => x.1.1) = l) {pre : List (MV × Nat)} {y : MV × Nat} (hp : (pre ++ [y]) <+: bk L 0) (h : ∀ y ∈ pre, ¬ y.1.1.1.name = nm) (hy : y.1.1.1.name = nm) : Tab.lastOf nm l = some y.1.1.1 := by
  obtain ⟨r, hr⟩ := hp
  have e : l.reverse = (pre ++ [y] ++ r).map fun z => z.1.1.1 := by
    rw [hr, ← hL, ← List.map_reverse, ← bk_fst, List.map_map]; rfl
  unfold Tab.lastOf
  rw [e, List.map_append, List.map_append, List.append_assoc, List.find?_append, List.find?_eq_none.2 (fun m hm => by
    obtain ⟨z, hz, rfl⟩ := List.mem_map.1 hm
    simpa using h z hz)]
  simp [hy]

theorem arity_no {t : List Tab.C} {s nm : ByteArray} (hf : Tab.field t s nm = none) (h : ∀ i ∈ Tab.line t s, Tab.lastOf nm (Tab.nth t i).methods = none) : Tab.arity t s nm = none := by
  unfold Tab.arity
  rw [hf]
  rw [if_neg (by simp), List.findSome?_eq_none_iff]
  intro i hi
  rw [h i hi]; rfl
theorem arity_yes {t : List Tab.C} {s nm : ByteArray} {pre : List Nat} {i : Nat} {m : Tab.M} (hf : Tab.field t s nm = none) (hp : (pre ++ [i]) <+: Tab.line t s) (h : ∀ i ∈ pre, Tab.lastOf nm (Tab.nth t i).methods = none) (hm : Tab.lastOf nm (Tab.nth t i).methods = some m) : Tab.arity t s nm = some (m.params.length : Int) := by
  obtain ⟨r, hr⟩ := hp
  unfold Tab.arity
  rw [hf]
  rw [if_neg (by simp), ← hr, List.append_assoc, List.findSome?_append, List.findSome?_eq_none_iff.2 (fun j hj => by rw [h j hj]; rfl)]
  simp [hm]
theorem arity_fld {t : List Tab.C} {s nm : ByteArray} {x : ByteArray} (hf : Tab.field t s nm = some x) : Tab.arity t s nm = some (-1) := by
  unfold Tab.arity
  rw [hf]; rfl

set_option maxHeartbeats 4000000 in
theorem arity_c (a : Option Addr) (c : Nat) (t : List Tab.C) (s nm : ByteArray) (w : World) (hT : TabAt w (.slice a t.length c) t) (hS : Small t) :
    Calls Tryz.prog 45 #[.slice a t.length c, .string s, .string nm] w fun e w' => e = .returned (.tuple #[.int .i64 ((Tab.arity t s nm).getD 0), .bool (Tab.arity t s nm).isSome]) ∧ Kept w w' := by
  have ht := hS.len
  refine (callsIn_wide (n := 3)).1 (callsIn_of_wp_marks Tryz.func45 rfl trivial (wpIn_wide.2 ?_) rfl)
  simp only [Tryz.ntmps45, List.size_toArray, List.length_cons, List.length_nil, Nat.reduceAdd, Nat.reduceSub, Array.replicate_succ, Array.replicate_zero, List.push_toArray, List.append_toArray, List.nil_append, List.cons_append]
  have HT := Lib.hid hT
  clear hT
  go_wp2_with fail
  obtain ⟨W1, hW1⟩ : ∃ W1, ((w.alloc (.cells #[.string nm] 9)).alloc (.cells #[.int .i64 0] 3)).alloc (.cells #[.bool false] 4) = W1 := ⟨_, rfl⟩
  have hI1 : AriC nm w 0 false W1 := by
    rw [← hW1]
    have h2 := Blk.new (w.alloc (.cells #[.string nm] 9)) 3 #[.int .i64 0]
    have h3 := Blk.new ((w.alloc (.cells #[.string nm] 9)).alloc (.cells #[.int .i64 0] 3)) 4 #[.bool false]
    simp only [World.size_alloc] at h2 h3
    exact ⟨((Blk.new w _ _).alloc _).alloc _, h2.alloc _, h3, (((Kept.refl w).alloc _).alloc _).alloc _⟩
  have HS1 := Lib.hid (show W1.heap.size = w.heap.size + 3 by rw [← hW1]; simp)
  rw [hW1]
  clear hW1
  have HF := Lib.hid (field_c a c t s nm W1 (tab_kept HT.out hI1.2.2.2) ht)
  have HI1 := Lib.hid hI1
  clear hI1
  cases hfd : Tab.field t s nm with
  | some x =>
    have HX := Lib.hid hfd
    rw [hfd] at HF
    have HAR := Lib.hid (arity_fld hfd)
    clear hfd
    simp only [Option.getD_some, Option.isSome_some] at HF
    refine HF.out.mono ?_
    rintro e w2 ⟨rfl, hk2⟩
    have hA := ariC_only HI1.out (S := fun _ => False) (Only.of_kept hk2) (fun _ h => h.elim)
    have hq1 := hA.2.1.cell 0
    have hq2 := hA.2.2.1.cell 0
    have hf1 := hA.2.1.frozen 0
    have hf2 := hA.2.2.1.frozen 0
    have HE := Lib.hid (ariC_set hA (-1) true)
    simp at hq1 hq2
    clear hA hk2 HF
    go_wp2
    have q1 := HE.out.1.2.1.cell 0
    have q2 := HE.out.1.2.2.1.cell 0
    simp only [List.getElem?_toArray, List.getElem?_cons_zero] at q1 q2
    exact ⟨.tuple #[.int .i64 (-1), .bool true], by simp [results, Tryz.results45, go_sem, q1, q2], by rw [HAR.out]; first | done | rfl, HE.out.1.2.2.2⟩
  | none =>
    have HX := Lib.hid hfd
    rw [hfd] at HF
    clear hfd
    simp only [Option.getD_none, Option.isSome_none] at HF
    refine HF.out.mono ?_
    rintro e w2 ⟨rfl, hk2⟩
    have HI2 := Lib.hid (ariC_only HI1.out (S := fun _ => False) (Only.of_kept hk2) (fun _ h => h.elim))
    have HS2 := Lib.hid (show w.heap.size + 3 ≤ w2.heap.size by have := HS1.out; have := hk2.size; omega)
    clear hk2 HF
    go_wp2_with fail
    refine (line_lineC a c t s _).mono ?_
    rintro e w3 ⟨rfl, hw3⟩
    have HK3 := Lib.hid (show Kept w2 w3 by rw [hw3]; exact ((Kept.refl w2).alloc _).alloc _)
    have HS3 := Lib.hid (show w3.heap.size = w2.heap.size + 2 by rw [hw3]; simp)
    have HB1 := Lib.hid (show Blk w3 w2.heap.size 22 #[.slice a t.length c] by rw [hw3]; exact (Blk.new _ _ _).alloc _)
    have HB2 := Lib.hid (show Blk w3 (w2.heap.size + 1) 9 #[.string s] by
      rw [hw3]
      have := Blk.new (w2.alloc (.cells #[.slice a t.length c] 22)) 9 #[.string s]
      simpa using this)
    clear hw3
    go_wp2_with fail
    have e2 := HS2.out
    have e3 : w2.heap.size + 2 ≤ w3.heap.size := by have := HS3.out; omega
    have hI3 : AriI t nm w [] w3 := ⟨ariC_only HI2.out (S := fun _ => False) (Only.of_kept HK3.out) (fun _ h => h.elim), by simp⟩
    refine wpIn_wide.1 (wpIn_range_line (w0 := w) (bt := w2.heap.size) (bn := w2.heap.size + 1) a c t s (fun k => k = w.heap.size + 1 ∨ k = w.heap.size + 1 + 1) rfl HT.out ht hI3.1.2.2.2 HB1.out HB2.out (by omega) (by omega) (by omega) (fun k e => by omega) rfl
      (AriI t nm w) (AriX t nm w) (fun pre A B h o => ⟨ariC_only h.1 o (fun k h => by omega), h.2⟩) ?hIx hI3
      (fun i => { tmps := #[.slice a t.length c, .string s, .string nm, undef, undef, .pointer (some ⟨w.heap.size, 0, none⟩), .pointer (some ⟨w.heap.size + 1, 0, none⟩), .pointer (some ⟨w.heap.size + 1 + 1, 0, none⟩), .string ⟨#[]⟩, .bool false, elC a i, undef, undef, .tuple #[.string ⟨#[]⟩, .bool false], .slice a t.length c, .string s, .string nm, .tuple #[.string ⟨#[]⟩, .bool false], .string ⟨#[]⟩, .bool false, .bool false, .slice a t.length c, .string s, .func (.func 137) #[] #[.pointer (some ⟨w2.heap.size, 0, none⟩), .pointer (some ⟨w2.heap.size + 1, 0, none⟩)], elC a i, undef, undef, undef, undef, undef, undef, undef, undef, undef, undef, undef, undef, undef, undef], defers := [] }) ?assign ?body ?done ?stop)
    case hIx =>
      rintro c pre A B ⟨rfl, pre0, i, m, h1, h2, h3, h4⟩ o
      exact ⟨rfl, pre0, i, m, h1, h2, h3, ariC_only h4 o (fun k h => by omega)⟩
    case assign =>
      intro l i W K hK
      gi_wp2
      exact hK
    case body =>
      rintro l pre i b o W hl ⟨r, hr⟩ hIW hsize hpre hi' rfl hcl
      obtain ⟨_, _, _, ⟨u, hcw, hu⟩, _⟩ := hcl
      have hc0 := hIW.1.2.2.2.cell hcw
      obtain ⟨ma, mc, L, hue, hLl, hMv⟩ := mv_of_row hu
      subst hue
      have hLn : L.length = (Tab.nth t i).methods.length := by rw [← hLl, List.length_map]
      have hnb := hIW.1.1.cell 0
      have HI := Lib.hid hIW
      have HMV := Lib.hid hMv
      have HLL := Lib.hid hLl
      have HLN := Lib.hid hLn
      have HR := Lib.hid hr
      have HML := Lib.hid (hS.methods _ (nth_mem hi'))
      have HSZ := Lib.hid hsize
      have HLT := Lib.hid (Array.getElem?_eq_some_iff.1 hr).1
      simp only [elC, evC, Option.map_some]
      simp at hnb
      clear hcw hu hpre hIW hMv hLl hr hLn hsize hI3 HI2 HI1
      gi_wp2
      refine ⟨trivial, (CallsIn.inRound l (callsIn_wide.2 (back_sigC _ _ ⟨_, _, _, rfl⟩))).mono ?_⟩
      rintro e W2 ⟨rfl, hW2⟩
      have HK2 := Lib.hid (show Kept W W2 by rw [hW2]; exact (Kept.refl W).alloc _)
      have HB2 := Lib.hid (show Blk W2 W.heap.size 44 #[.slice ma L.length mc] by rw [hW2, HLN.out]; exact Blk.new _ _ _)
      have HS2' := Lib.hid (show W2.heap.size = W.heap.size + 1 by rw [hW2]; simp)
      clear hW2
      gi_wp2
      have hI2 := ariC_only HI.out.1 (S := fun _ => False) (Only.of_kept HK2.out) (fun _ h => h.elim)
      have hn₁ : w3.heap.size + 3 ≤ W.heap.size := by have := HSZ.out; omega
      have hs2 := HS2'.out
      refine wpIn_rangeFunc_ownN (F := Fence.wide.inRound l) (n := 1) (l₀ := l) (r₀ := r) rfl ((HK2.out.block l HLT.out).trans HR.out) (by omega) (gf := 138) (lb := #[.pointer (some ⟨W.heap.size, 0, none⟩)]) rfl trivial (enters_of Tryz.func138 (by kernel_rfl) rfl)
        ((backs_stops (1 - 1) L ma mc W.heap.size w W2 (by rw [HLN.out]; exact HML.out) HMV.out hI2.2.2.2 HB2.out).inRound l) (fun h k => kpn_t h k)
        (fun X l' o o' h1 h2 h3 h4 => ⟨rfl, rfl, by simp [World.putObj], fun k hk => World.putObj_heap_other (by have := hI2.2.2.2.size; omega)⟩) (Below.refl _ _) (fun _ => rfl)
        (AriJ nm w W (w3.heap.size + 3) W2.heap.size) (AriY nm w W (w3.heap.size + 3))
        (own_from fun s X Y h ho => ⟨Nat.le_trans h.1 ho.size, ariC_only h.2.1 ho (fun k e => by omega), h.2.2.1, h.2.2.2.trans (ho.mono fun k _ e => .inr (by omega))⟩)
        (fun c => own_from fun s X Y ⟨h1, pre0, y, h2, h3, h4, h5, h6⟩ ho => ⟨h1, pre0, y, h2, h3, h4, ariC_only h5 ho (fun k e => by omega), h6.trans (ho.mono fun k _ e => .inr (by omega))⟩)
        ⟨Nat.le_refl _, hI2, by simp, Only.of_kept HK2.out⟩
        (fun y a' W' => ∃ Bx, W2.heap.size ≤ Bx ∧ Blk W' Bx 53 #[.string y.1.1.1.name, y.1.1.2, .string y.1.1.1.res] ∧ a' = { tmps := #[.slice (some ⟨b, o, none⟩) t.length c, .string s, .string nm, undef, undef, .pointer (some ⟨w.heap.size, 0, none⟩), .pointer (some ⟨w.heap.size + 1, 0, none⟩), .pointer (some ⟨w.heap.size + 1 + 1, 0, none⟩), .string ⟨#[]⟩, .bool false, .pointer (some ⟨b, o + i * 4, none⟩), undef, .pointer (some ⟨Bx, 0, none⟩), .tuple #[.string ⟨#[]⟩, .bool false], .slice (some ⟨b, o, none⟩) t.length c, .string s, .string nm, .tuple #[.string ⟨#[]⟩, .bool false], .string ⟨#[]⟩, .bool false, .bool false, .slice (some ⟨b, o, none⟩) t.length c, .string s, .func (.func 137) #[] #[.pointer (some ⟨w2.heap.size, 0, none⟩), .pointer (some ⟨w2.heap.size + 1, 0, none⟩)], .pointer (some ⟨b, o + i * 4, none⟩), .pointer (some ⟨b, o + i * 4, none⟩), .pointer (some ⟨b, o + i * 4, none⟩), .pointer (some ⟨b, o + i * 4 + 3, none⟩), .slice ma (Tab.nth t i).methods.length mc, .func (.func 138) #[] #[.pointer (some ⟨W.heap.size, 0, none⟩)], .int .i64 y.2, y.1.val, undef, undef, undef, undef, undef, undef, undef], defers := [] })
        (fun y a' => fun _ X Y row ⟨Bx, h1, h2, h3⟩ hg hr => ⟨Bx, h1, h2.grown hg (fun r e => (hr r e).2), h3⟩) ?assign2 ?body2 ?done2 ?stop2
      case assign2 =>
        rintro l' pre2 ⟨⟨⟨m, p⟩, pa, pc, hp⟩, kk⟩ W' K hi hK
        dsimp only at hp
        subst hp
        simp only [MV.val]
        have HH := Lib.hid hi
        have HKK := Lib.hid hK
        clear hi hK hI2
        gi_wp2
        refine HKK.out _ _ ((KeepsOthers.alloc _ _).from _) (Kpn.of_only ((Only.refl (fun _ => False) _).alloc _) ?_ ?_ (fun _ h => h.elim)) ⟨?_, ariC_only HH.out.2.1 ((Only.refl (fun _ => False) _).alloc _) (fun _ h => h.elim), HH.out.2.2.1, HH.out.2.2.2.alloc _⟩ ⟨W'.heap.size, HH.out.1, Blk.new _ _ _, rfl⟩
        · exact HH.out.2.1.2.2.2.size
        · have := HH.out.1; omega
        · have := HH.out.1; simp; omega
      case body2 =>
        rintro l' pre2 ⟨⟨⟨m, p⟩, pa, pc, hp⟩, kk⟩ a' W' hl' _ hi ⟨Bx, hBx, hblk, rfl⟩ hlt
        dsimp only at hp
        subst hp
        have b0 := hblk.cell 0
        have b1 := hblk.cell 1
        have q0 := hi.2.1.1.cell 0
        have q1 := hi.2.1.2.1.cell 0
        have q2 := hi.2.1.2.2.1.cell 0
        have f1 := hi.2.1.2.1.frozen 0
        have f2 := hi.2.1.2.2.1.frozen 0
        simp at b0 b1 q0 q1 q2
        have HH := Lib.hid hi
        clear hi hI2 hblk
        by_cases hx : m.name = nm
        · have HX := Lib.hid hx
          have hb := beq_yes hx
          clear hx
          gi_wp2
          have hE := ariC_set HH.out.2.1 (m.params.length : Int) true
          exact ⟨(KeepsFrom.of_only hE.2 (fun k h => by have := HH.out.2.1.2.2.2.size; have := HSZ.out; have := HS2'.out; omega)), rfl, pre2, _, rfl, HH.out.2.2.1, HX.out, hE.1, HH.out.2.2.2.trans (hE.2.mono fun k _ h => .inl h)⟩
        · have HX := Lib.hid hx
          have hb := beq_no hx
          clear hx
          gi_wp2
          refine ⟨KeepsFrom.refl _ _, ⟨rfl, rfl, Nat.le_refl _, fun _ _ => rfl⟩, HH.out.1, HH.out.2.1, fun z hz => ?_, HH.out.2.2.2⟩
          rcases List.mem_append.1 hz with hz | hz
          · exact HH.out.2.2.1 z hz
          · simp at hz
            subst hz
            exact HX.out
      case done2 =>
        rintro xs W' rfl hi
        have HH := Lib.hid hi
        clear hi hI2
        gi_wp2
        refine ⟨HH.out.2.2.2, HH.out.2.1, fun j hj => ?_⟩
        rcases List.mem_append.1 hj with hj | hj
        · exact HI.out.2 j hj
        · simp at hj
          subst hj
          exact last_none HLL.out HH.out.2.2.1
      case stop2 =>
        rintro c2 pre2 W' hpre2 ⟨rfl, pre0, y, rfl, h1, h2, h3, h4⟩
        have HA := Lib.hid h3
        have HO := Lib.hid h4
        have HL := Lib.hid (last_some HLL.out hpre2 h1 h2)
        clear hI2 h1 h2 h3 h4 hpre2
        gi_wp2
        exact ⟨HO.out, rfl, pre, i, _, rfl, HI.out.2, HL.out, HA.out⟩
    case done =>
      rintro D W hD hIW hd
      have HI := Lib.hid hIW
      have hDn : w.heap.size + 5 ≤ D := by omega
      have hq1 := hIW.1.2.1.cell 0
      have hq2 := hIW.1.2.2.1.cell 0
      have hf1 := hIW.1.2.1.frozen 0
      have hf2 := hIW.1.2.2.1.frozen 0
      have hE := ariC_set hIW.1 0 false
      have hd' := hE.2.same hd (by omega)
      have hR := ariC_only hE.1 (Only.putObj (Only.refl (· = D) _) (.inl rfl) (.deferred none)) (fun k h => by omega)
      have HR := Lib.hid hR
      have HE := Lib.hid hd'
      simp at hq1 hq2
      clear hIW hD hI3 HI1 HI2 e2 e3 hd' hR hE hDn hd
      go_wp2
      clear hq1 hq2 hf1 hf2
      have q1 := HR.out.2.1.cell 0
      have q2 := HR.out.2.2.1.cell 0
      simp only [List.getElem?_toArray, List.getElem?_cons_zero] at q1 q2
      generalize ((W.setCell ⟨w.heap.size + 1, 0, none⟩ (Value.int .i64 0)).setCell ⟨w.heap.size + 1 + 1, 0, none⟩ (Value.bool false)) = Wf at *
      refine ⟨by simp, .inl ⟨_, _, rfl, run_takeDeferred HE.out, ?_⟩⟩
      exact ⟨.tuple #[.int .i64 0, .bool false], by simp [results, Tryz.results45, go_sem, q1, q2], by rw [arity_no HX.out HI.out.2]; first | done | rfl, HR.out.2.2.2⟩
    case stop =>
      rintro D c2 pre W hD hpre ⟨rfl, pre0, i, m, rfl, h1, h2, h3⟩ hd
      have hDn : w.heap.size + 5 ≤ D := by omega
      have hR := ariC_only h3 (Only.putObj (Only.refl (· = D) W) (.inl rfl) (.deferred none)) (fun k h => by omega)
      have HM := Lib.hid (arity_yes HX.out hpre h1 h2)
      have q1 := hR.2.1.cell 0
      have q2 := hR.2.2.1.cell 0
      simp only [List.getElem?_toArray, List.getElem?_cons_zero] at q1 q2
      have HR := Lib.hid hR
      clear hR h1 h2 h3 hpre hI3 HI1 HI2 e2 e3 hD hDn
      gi_wp2
      refine ⟨by simp, .inl ⟨_, _, rfl, run_takeDeferred hd, ?_⟩⟩
      exact ⟨.tuple #[.int .i64 m.params.length, .bool true], by simp [results, Tryz.results45, go_sem, q1, q2], by rw [HM.out]; first | done | rfl, HR.out.2.2.2⟩

end Go.Proofs.YtnjgagbblkjjeaaGreatDoor
