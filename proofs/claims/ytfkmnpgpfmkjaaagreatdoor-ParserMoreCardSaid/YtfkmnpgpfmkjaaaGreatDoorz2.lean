/- Contracts of package lexer's small helpers: letters; what stands at a place of a source. -/
import Derived.Test.YtfkmnpgpfmkjaaaGreatDoorz0
import Derived.Test.YtfkmnpgpfmkjaaaGreatDoorz1
import Derived.Laws.BytesString
import Derived.Laws.Rows
import Derived.WalkMore
import Derived.Sort.LoopGhostIn
import Derived.Shelf.Strings.Builder1
import Derived.Shelf.LaysM
import Derived.Shelf.LaysC
import Derived.Shelf.Strconv.Itoa3
import Derived.Shelf.Strconv.AtoiAll
import Derived.Test.YtfkmnpgpfmkjaaaGreatDoorProg
import Derived.Lib.Strings
import Derived.RangeFuncNested
import Derived.RangeFuncBound
import Derived.RangeFuncCalls
import Derived.RangeFuncLeaves
import Derived.RangeFuncBox
import Derived.Sort.QuietIn
import Derived.OwnWalkIn
import Derived.TacticsInMore
import Derived.LoopNIn
import Derived.LoopIn
import Derived.Carry
import Derived.StringKeys
set_option linter.unusedSimpArgs false
set_option linter.unusedVariables false
set_option maxRecDepth 100000
namespace Go.Proofs.YtfkmnpgpfmkjaaaGreatDoor
open Go.ChangeShapes Go.WideShapes Go.ChangeAt Go.RowKit Go.Shelf
attribute [local go_sem] Oper.semAt_some

theorem lkind_c (c : UInt8) (w : World) : Calls Tryz.prog 80 #[.int .u8 c.toNat] w fun e w' => e = .returned (.int .i64 (Lx.kd c)) ∧ w' = w := by
  have hn := c.toNat_lt
  obtain ⟨k, hk⟩ : ∃ k, Lx.kd c = k := ⟨_, rfl⟩
  rw [hk]
  unfold Lx.kd at hk
  generalize c.toNat = n at *
  by_cases x32 : n = 32
  · subst x32
    obtain rfl : 1 = k := by rw [← hk]; rfl
    clear hk
    go_enter Tryz.func80, Tryz.ntmps80
    go_wp2
    go_ret
    exact ⟨rfl, rfl⟩
  by_cases x9 : n = 9
  · subst x9
    obtain rfl : 1 = k := by rw [← hk]; rfl
    clear hk
    go_enter Tryz.func80, Tryz.ntmps80
    go_wp2
    go_ret
    exact ⟨rfl, rfl⟩
  by_cases x10 : n = 10
  · subst x10
    obtain rfl : 1 = k := by rw [← hk]; rfl
    clear hk
    go_enter Tryz.func80, Tryz.ntmps80
    go_wp2
    go_ret
    exact ⟨rfl, rfl⟩
  by_cases x13 : n = 13
  · subst x13
    obtain rfl : 1 = k := by rw [← hk]; rfl
    clear hk
    go_enter Tryz.func80, Tryz.ntmps80
    go_wp2
    go_ret
    exact ⟨rfl, rfl⟩
  by_cases x34 : n = 34
  · subst x34
    obtain rfl : 4 = k := by rw [← hk]; rfl
    clear hk
    go_enter Tryz.func80, Tryz.ntmps80
    go_wp2
    go_ret
    exact ⟨rfl, rfl⟩
  by_cases y97 : 97 ≤ n ∧ n ≤ 122
  · obtain rfl : 2 = k := by rw [← hk]; rw [if_neg (by omega), if_pos (by omega)]
    clear hk
    have e32 : ((n : Int) == 32) = false := by simp; omega
    have e9 : ((n : Int) == 9) = false := by simp; omega
    have e10 : ((n : Int) == 10) = false := by simp; omega
    have e13 : ((n : Int) == 13) = false := by simp; omega
    have e34 : ((n : Int) == 34) = false := by simp; omega
    have g97 : (97 : Int) ≤ (n : Int) := by omega
    have g65 : (65 : Int) ≤ (n : Int) := by omega
    have g48 : (48 : Int) ≤ (n : Int) := by omega
    have h122 : (n : Int) ≤ 122 := by omega
    have h90 : ¬ (n : Int) ≤ 90 := by omega
    have h57 : ¬ (n : Int) ≤ 57 := by omega
    clear x32 x9 x10 x13 x34
    go_enter Tryz.func80, Tryz.ntmps80
    go_wp2
    go_ret
    exact ⟨rfl, rfl⟩
  by_cases y65 : 65 ≤ n ∧ n ≤ 90
  · obtain rfl : 2 = k := by rw [← hk]; rw [if_neg (by omega), if_pos (by omega)]
    clear hk
    have e32 : ((n : Int) == 32) = false := by simp; omega
    have e9 : ((n : Int) == 9) = false := by simp; omega
    have e10 : ((n : Int) == 10) = false := by simp; omega
    have e13 : ((n : Int) == 13) = false := by simp; omega
    have e34 : ((n : Int) == 34) = false := by simp; omega
    have g97 : ¬ (97 : Int) ≤ (n : Int) := by omega
    have g65 : (65 : Int) ≤ (n : Int) := by omega
    have g48 : (48 : Int) ≤ (n : Int) := by omega
    have h122 : (n : Int) ≤ 122 := by omega
    have h90 : (n : Int) ≤ 90 := by omega
    have h57 : ¬ (n : Int) ≤ 57 := by omega
    clear x32 x9 x10 x13 x34
    go_enter Tryz.func80, Tryz.ntmps80
    go_wp2
    go_ret
    exact ⟨rfl, rfl⟩
  by_cases y48 : 48 ≤ n ∧ n ≤ 57
  · obtain rfl : 3 = k := by rw [← hk]; rw [if_neg (by omega), if_neg (by omega), if_pos (by omega)]
    clear hk
    have e32 : ((n : Int) == 32) = false := by simp; omega
    have e9 : ((n : Int) == 9) = false := by simp; omega
    have e10 : ((n : Int) == 10) = false := by simp; omega
    have e13 : ((n : Int) == 13) = false := by simp; omega
    have e34 : ((n : Int) == 34) = false := by simp; omega
    have g97 : ¬ (97 : Int) ≤ (n : Int) := by omega
    have g65 : ¬ (65 : Int) ≤ (n : Int) := by omega
    have g48 : (48 : Int) ≤ (n : Int) := by omega
    have h122 : (n : Int) ≤ 122 := by omega
    have h90 : (n : Int) ≤ 90 := by omega
    have h57 : (n : Int) ≤ 57 := by omega
    clear x32 x9 x10 x13 x34
    go_enter Tryz.func80, Tryz.ntmps80
    go_wp2
    go_ret
    exact ⟨rfl, rfl⟩
  by_cases y123 : 123 ≤ n
  · obtain rfl : 0 = k := by rw [← hk]; rw [if_neg (by omega), if_neg (by omega), if_neg (by omega), if_neg (by omega)]
    clear hk
    have e32 : ((n : Int) == 32) = false := by simp; omega
    have e9 : ((n : Int) == 9) = false := by simp; omega
    have e10 : ((n : Int) == 10) = false := by simp; omega
    have e13 : ((n : Int) == 13) = false := by simp; omega
    have e34 : ((n : Int) == 34) = false := by simp; omega
    have g97 : (97 : Int) ≤ (n : Int) := by omega
    have g65 : (65 : Int) ≤ (n : Int) := by omega
    have g48 : (48 : Int) ≤ (n : Int) := by omega
    have h122 : ¬ (n : Int) ≤ 122 := by omega
    have h90 : ¬ (n : Int) ≤ 90 := by omega
    have h57 : ¬ (n : Int) ≤ 57 := by omega
    clear x32 x9 x10 x13 x34
    go_enter Tryz.func80, Tryz.ntmps80
    go_wp2
    go_ret
    exact ⟨rfl, rfl⟩
  by_cases y91 : 91 ≤ n
  · obtain rfl : 0 = k := by rw [← hk]; rw [if_neg (by omega), if_neg (by omega), if_neg (by omega), if_neg (by omega)]
    clear hk
    have e32 : ((n : Int) == 32) = false := by simp; omega
    have e9 : ((n : Int) == 9) = false := by simp; omega
    have e10 : ((n : Int) == 10) = false := by simp; omega
    have e13 : ((n : Int) == 13) = false := by simp; omega
    have e34 : ((n : Int) == 34) = false := by simp; omega
    have g97 : ¬ (97 : Int) ≤ (n : Int) := by omega
    have g65 : (65 : Int) ≤ (n : Int) := by omega
    have g48 : (48 : Int) ≤ (n : Int) := by omega
    have h122 : (n : Int) ≤ 122 := by omega
    have h90 : ¬ (n : Int) ≤ 90 := by omega
    have h57 : ¬ (n : Int) ≤ 57 := by omega
    clear x32 x9 x10 x13 x34
    go_enter Tryz.func80, Tryz.ntmps80
    go_wp2
    go_ret
    exact ⟨rfl, rfl⟩
  by_cases y58 : 58 ≤ n
  · obtain rfl : 0 = k := by rw [← hk]; rw [if_neg (by omega), if_neg (by omega), if_neg (by omega), if_neg (by omega)]
    clear hk
    have e32 : ((n : Int) == 32) = false := by simp; omega
    have e9 : ((n : Int) == 9) = false := by simp; omega
    have e10 : ((n : Int) == 10) = false := by simp; omega
    have e13 : ((n : Int) == 13) = false := by simp; omega
    have e34 : ((n : Int) == 34) = false := by simp; omega
    have g97 : ¬ (97 : Int) ≤ (n : Int) := by omega
    have g65 : ¬ (65 : Int) ≤ (n : Int) := by omega
    have g48 : (48 : Int) ≤ (n : Int) := by omega
    have h122 : (n : Int) ≤ 122 := by omega
    have h90 : (n : Int) ≤ 90 := by omega
    have h57 : ¬ (n : Int) ≤ 57 := by omega
    clear x32 x9 x10 x13 x34
    go_enter Tryz.func80, Tryz.ntmps80
    go_wp2
    go_ret
    exact ⟨rfl, rfl⟩
  obtain rfl : 0 = k := by rw [← hk]; rw [if_neg (by omega), if_neg (by omega), if_neg (by omega), if_neg (by omega)]
  clear hk
  have e32 : ((n : Int) == 32) = false := by simp; omega
  have e9 : ((n : Int) == 9) = false := by simp; omega
  have e10 : ((n : Int) == 10) = false := by simp; omega
  have e13 : ((n : Int) == 13) = false := by simp; omega
  have e34 : ((n : Int) == 34) = false := by simp; omega
  have g97 : ¬ (97 : Int) ≤ (n : Int) := by omega
  have g65 : ¬ (65 : Int) ≤ (n : Int) := by omega
  have g48 : ¬ (48 : Int) ≤ (n : Int) := by omega
  have h122 : (n : Int) ≤ 122 := by omega
  have h90 : (n : Int) ≤ 90 := by omega
  have h57 : (n : Int) ≤ 57 := by omega
  clear x32 x9 x10 x13 x34
  go_enter Tryz.func80, Tryz.ntmps80
  go_wp2
  go_ret
  exact ⟨rfl, rfl⟩

theorem lpr_c (c : UInt8) (w : World) : Calls Tryz.prog 109 #[.int .u8 c.toNat] w fun e w' => e = .returned (.bool (Lx.pr c)) ∧ w' = w := by
  have hn := c.toNat_lt
  obtain ⟨k, hk⟩ : ∃ k, Lx.pr c = k := ⟨_, rfl⟩
  rw [hk]
  unfold Lx.pr at hk
  generalize c.toNat = n at *
  by_cases a : 32 ≤ n
  · have a' : (32 : Int) ≤ (n : Int) := by omega
    by_cases b : n ≤ 126
    · have b' : (n : Int) ≤ 126 := by omega
      obtain rfl : true = k := by rw [← hk]; simp [a, b]
      clear hk
      go_enter Tryz.func109, Tryz.ntmps109
      go_wp2
      go_ret
      exact ⟨rfl, rfl⟩
    · have b' : ¬ (n : Int) ≤ 126 := by omega
      obtain rfl : false = k := by rw [← hk]; simp [a, b]
      clear hk
      go_enter Tryz.func109, Tryz.ntmps109
      go_wp2
      go_ret
      exact ⟨rfl, rfl⟩
  · have a' : ¬ (32 : Int) ≤ (n : Int) := by omega
    obtain rfl : false = k := by rw [← hk]; simp [a]
    clear hk
    go_enter Tryz.func109, Tryz.ntmps109
    go_wp2
    go_ret
    exact ⟨rfl, rfl⟩

theorem eix_0 (W : World) : (Instr.index 149 (.agg #[.int .u8 34, .int .u8 34, .int .u8 92, .int .u8 92, .int .u8 110, .int .u8 10]) (.int .i64 0)).run Tryz.prog W = .ok (.agg #[.int .u8 34, .int .u8 34]) W := rfl

theorem eix_1 (W : World) : (Instr.index 149 (.agg #[.int .u8 34, .int .u8 34, .int .u8 92, .int .u8 92, .int .u8 110, .int .u8 10]) (.int .i64 1)).run Tryz.prog W = .ok (.agg #[.int .u8 92, .int .u8 92]) W := rfl

theorem eix_2 (W : World) : (Instr.index 149 (.agg #[.int .u8 34, .int .u8 34, .int .u8 92, .int .u8 92, .int .u8 110, .int .u8 10]) (.int .i64 2)).run Tryz.prog W = .ok (.agg #[.int .u8 110, .int .u8 10]) W := rfl

set_option maxHeartbeats 2000000 in
theorem lmeant_c (c : UInt8) (w : World) (hT : Tb w) : Calls Tryz.prog 108 #[.int .u8 c.toNat] w fun e w' => (match Lx.meant c with | some m => e = .returned (.tuple #[.int .u8 m.toNat, .bool true]) | none => e = .returned (.tuple #[.int .u8 0, .bool false])) ∧ Kept w w' := by
  obtain ⟨t, fr, hc⟩ := hT.esc
  have hc : w.heap[1]? = some (.cells #[.int .u8 34, .int .u8 34, .int .u8 92, .int .u8 92, .int .u8 110, .int .u8 10] t fr) := hc
  have c0 := cell_of_row w _ 0 _ t fr hc
  have c1 := cell_of_row w _ 1 _ t fr hc
  have c2 := cell_of_row w _ 2 _ t fr hc
  have c3 := cell_of_row w _ 3 _ t fr hc
  have c4 := cell_of_row w _ 4 _ t fr hc
  have c5 := cell_of_row w _ 5 _ t fr hc
  simp at c0 c1 c2 c3 c4 c5
  clear hc
  have hn := c.toNat_lt
  obtain ⟨q, hq⟩ : ∃ q, Lx.meant c = q := ⟨_, rfl⟩
  rw [hq]
  have hqq := hq
  unfold Lx.meant at hqq
  generalize hcn : c.toNat = n at *
  go_enter Tryz.func108, Tryz.ntmps108
  go_wp2
  clear c0 c1 c2 c3 c4 c5
  go_loopw [7] (fun i wr => ∃ k : Nat, k ≤ 3 ∧ i = .int .i64 k ∧ Kept w wr ∧ (1 ≤ k → n ≠ 34) ∧ (2 ≤ k → n ≠ 92) ∧ (3 ≤ k → n ≠ 110)) (fun i wr => 3 - (intOf i).toNat)
  case atStart => exact ⟨0, by omega, rfl, Kept.refl _, by omega, by omega, by omega⟩
  case round =>
    obtain ⟨k, hk, rfl, hkp, h1, h2, h3⟩ := hrel
    have hk' : k = 0 ∨ k = 1 ∨ k = 2 ∨ k = 3 := by omega
    rcases hk' with rfl | rfl | rfl | rfl
    · have hi := eix_0 wr
      by_cases hx : n = 34
      · subst hx
        obtain rfl : some 34 = q := by rw [← hqq]; rfl
        clear hqq h1 h2 h3
        go_wp2
        go_ret2
        exact ⟨rfl, hkp.alloc _⟩
      · have hb : (((34 : Nat) : Int) == (n : Int)) = false := by simp; omega
        have hb2 : ((n : Int) == 34) = false := by simp; omega
        have hb3 : (34 == (n : Int)) = false := by simp; omega
        go_wp2
        go_roundw
        case rel => exact ⟨1, by omega, rfl, hkp.alloc _, by omega, by omega, by omega⟩
        case measure => simp [intOf]
    · have hi := eix_1 wr
      by_cases hx : n = 92
      · subst hx
        obtain rfl : some 92 = q := by rw [← hqq]; rfl
        clear hqq h1 h2 h3
        go_wp2
        go_ret2
        exact ⟨rfl, hkp.alloc _⟩
      · have hb : (((92 : Nat) : Int) == (n : Int)) = false := by simp; omega
        have hb2 : ((n : Int) == 92) = false := by simp; omega
        have hb3 : (92 == (n : Int)) = false := by simp; omega
        go_wp2
        go_roundw
        case rel => exact ⟨2, by omega, rfl, hkp.alloc _, by omega, by omega, by omega⟩
        case measure => simp [intOf]
    · have hi := eix_2 wr
      by_cases hx : n = 110
      · subst hx
        obtain rfl : some 10 = q := by rw [← hqq]; rfl
        clear hqq h1 h2 h3
        go_wp2
        go_ret2
        exact ⟨rfl, hkp.alloc _⟩
      · have hb : (((110 : Nat) : Int) == (n : Int)) = false := by simp; omega
        have hb2 : ((n : Int) == 110) = false := by simp; omega
        have hb3 : (110 == (n : Int)) = false := by simp; omega
        go_wp2
        go_roundw
        case rel => exact ⟨3, by omega, rfl, hkp.alloc _, by omega, by omega, by omega⟩
        case measure => simp [intOf]
    · obtain rfl : none = q := by rw [← hqq, if_neg (h1 (by omega)), if_neg (h2 (by omega)), if_neg (h3 (by omega))]
      clear hqq
      go_wp2
      go_ret2
      exact ⟨rfl, hkp⟩

/-! ### A source in memory -/
def ByteR (w : World) (b o : Nat) (c : UInt8) : Prop := w.cell? ⟨b, o, none⟩ = some (.int .u8 c.toNat)
abbrev SrcAt (w : World) (v : Value) (l : List UInt8) : Prop := Row 1 ByteR w v l
theorem src_kept {w w' : World} {v : Value} {l : List UInt8} (h : SrcAt w v l) (k : Kept w w') : SrcAt w' v l := h.mono fun _ _ _ r => k.cell r

theorem SrcAt.at {w : World} {a : Option Addr} {c : Nat} {l : List UInt8} (h : SrcAt w (.slice a l.length c) l) {i : Nat} (hi : i < l.length) :
    ∃ b o, a = some ⟨b, o, none⟩ ∧ w.cell? ⟨b, o + i, none⟩ = some (.int .u8 l[i].toNat) := by
  obtain ⟨a', c', e, h1, h2, h3⟩ := h
  injection e with e1 e2 e3
  subst e1 e3
  obtain ⟨b, o, e, hc⟩ := h3 i l[i] (List.getElem?_eq_getElem hi)
  rw [Nat.mul_one] at hc
  exact ⟨b, o, e, hc⟩

theorem SrcAt.cap {w : World} {a : Option Addr} {c : Nat} {l : List UInt8} (h : SrcAt w (.slice a l.length c) l) : l.length ≤ c ∧ c ≤ maxLen := by
  obtain ⟨a', c', e, h1, h2, h3⟩ := h
  injection e with e1 e2 e3
  subst e1 e3
  exact ⟨h1, h2⟩

abbrev tagg (k : Int) (x : ByteArray) (n p : Int) : Value := .agg #[.int .i64 k, .string x, .int .i64 n, .int .i64 p]
abbrev fagg (e a : Int) : Value := .agg #[.int .i64 e, .int .i64 a]
abbrev badV (e p : Int) : Value := .tuple #[tagg 0 ⟨#[]⟩ 0 0, .int .i64 p, fagg e p]

theorem way_results {fn : Func} {p u q : Tmp} (h : fn.results = #[.cell p 48, .tmp u, .cell q 36]) (tmps : Array Value) (W : World) {g g' : Nat} {k n po e a' : Value} {x : Value}
    (hp : tmps.getD p undef = .pointer (some ⟨g, 0, none⟩)) (hq : tmps.getD q undef = .pointer (some ⟨g', 0, none⟩))
    (hg : Blk W g 48 #[k, x, n, po]) (hg' : Blk W g' 36 #[e, a']) :
    (results fn tmps).run Tryz.prog W = .ok (.tuple #[.agg #[k, x, n, po], tmps.getD u undef, .agg #[e, a']]) W := by
  have hp' : tmps[p]?.getD undef = .pointer (some ⟨g, 0, none⟩) := by simpa using hp
  have hq' : tmps[q]?.getD undef = .pointer (some ⟨g', 0, none⟩) := by simpa using hq
  have e1 := run_loadVar_row (P := Tryz.prog) W g 48 48 #[k, x, n, po] (0, 0) _ hg Tryz.underlying48 (by rfl) (by kernel_rfl)
  have e2 := run_loadVar_row (P := Tryz.prog) W g' 36 36 #[e, a'] (0, 0) _ hg' Tryz.underlying36 (by rfl) (by kernel_rfl)
  simp [results, h, hp', hq', asAddr, e1, e2]

theorem refuse_c (e p : Int) (w : World) : Calls Tryz.prog 104 #[.int .i64 e, .int .i64 p] w fun r w' => r = .returned (badV e p) ∧ Kept w w' := by
  go_enter Tryz.func104, Tryz.ntmps104
  go_wp2
  refine bodyPost_ret (way_results (by rfl) _ _ rfl rfl ((Blk.new _ _ _).alloc _) ?_) rfl ⟨rfl, ((Kept.refl w).alloc _).alloc _⟩
  have := Blk.new (w.alloc (.cells #[.int .i64 0, .string ⟨#[]⟩, .int .i64 0, .int .i64 0] 48)) 36 #[.int .i64 e, .int .i64 p]
  simpa using this

theorem drop_at {l : List UInt8} {k : Nat} (h : k < l.length) : l.drop k = l[k] :: l.drop (k + 1) := List.drop_eq_getElem_cons h

set_option maxHeartbeats 2000000 in
theorem lineEnd_c (a : Option Addr) (c : Nat) (l : List UInt8) (p : Nat) (w : World) (h : SrcAt w (.slice a l.length c) l) (hp : p ≤ l.length) :
    Calls Tryz.prog 82 #[.slice a l.length c, .int .i64 p] w fun r w' => r = .returned (.int .i64 ((p + Lx.run Lx.nl (l.drop p) : Nat) : Int)) ∧ Kept w w' := by
  have hcap := h.cap
  unfold maxLen at hcap
  have HS := Lib.hid h
  clear h
  obtain ⟨m, hm⟩ : ∃ m, p + Lx.run Lx.nl (l.drop p) = m := ⟨_, rfl⟩
  rw [hm]
  have HM := Lib.hid hm.symm
  clear hm
  go_enter Tryz.func82, Tryz.ntmps82
  go_wp2
  go_loopw [1] (fun i wr => ∃ k : Nat, p ≤ k ∧ k ≤ l.length ∧ i = .int .i64 k ∧ Hid (m = k + Lx.run Lx.nl (l.drop k)) ∧ Kept w wr) (fun i wr => l.length - (intOf i).toNat)
  case atStart => exact ⟨p, Nat.le_refl _, hp, rfl, HM, Kept.refl _⟩
  case round =>
    obtain ⟨k, hpk, hk, rfl, HE, hkp⟩ := hrel
    by_cases hlt : k < l.length
    · have hltI : (k : Int) < (l.length : Int) := by omega
      obtain ⟨b, o, rfl, y⟩ := HS.out.at hlt
      have y0 := hkp.cell y
      have HE2 := HE.out
      rw [drop_at hlt, Lx.run] at HE2
      clear y HE
      generalize l[k] = ch at *
      have hn := ch.toNat_lt
      cases hnl : Lx.nl ch with
      | true =>
        rw [hnl, if_pos rfl] at HE2
        have HE := Lib.hid HE2
        clear HE2
        unfold Lx.nl at hnl
        generalize ch.toNat = n at *
        have f1 : ((n : Int) == 10) = false := by simp at hnl ⊢; omega
        have f2 : ((n : Int) != 10) = true := by simp at hnl ⊢; omega
        clear hnl
        go_wp2
        go_roundw
        case rel => exact ⟨k + 1, by omega, by omega, by go_num, Lib.hid (by rw [HE.out]; omega), hkp⟩
        case measure => simp [intOf]; omega
      | false =>
        rw [hnl, if_neg (by decide)] at HE2
        obtain rfl : m = k := HE2
        unfold Lx.nl at hnl
        generalize ch.toNat = n at *
        have hn10 : n = 10 := by simpa using hnl
        subst hn10
        clear hnl
        go_wp2
        go_ret
        exact ⟨rfl, hkp⟩
    · obtain rfl : k = l.length := by omega
      have HE2 := HE.out
      rw [List.drop_of_length_le (Nat.le_refl _)] at HE2
      obtain rfl : m = l.length := HE2
      have hltI : ¬ (l.length : Int) < (l.length : Int) := by omega
      clear HE HM
      go_wp2
      go_ret
      exact ⟨rfl, hkp⟩

set_option maxHeartbeats 2000000 in
theorem run_c (an : Bool) (a : Option Addr) (c : Nat) (l : List UInt8) (p : Nat) (w : World) (h : SrcAt w (.slice a l.length c) l) (hp : p ≤ l.length) :
    Calls Tryz.prog 103 #[.slice a l.length c, .int .i64 p, .bool an] w fun r w' => r = .returned (.int .i64 ((p + Lx.run (if an then Lx.an else Lx.dg) (l.drop p) : Nat) : Int)) ∧ Kept w w' := by
  obtain ⟨f, hf⟩ : ∃ f, (if an then Lx.an else Lx.dg) = f := ⟨_, rfl⟩
  rw [hf]
  have hcap := h.cap
  unfold maxLen at hcap
  have HS := Lib.hid h
  have HF := Lib.hid hf
  obtain ⟨m, hm⟩ : ∃ m, p + Lx.run f (l.drop p) = m := ⟨_, rfl⟩
  rw [hm]
  have HM := Lib.hid hm.symm
  clear h hf hm
  go_enter Tryz.func103, Tryz.ntmps103
  go_wp2_with fail
  go_step3
  go_wp2_with fail
  go_step3
  go_wp2_with fail
  go_loopw [1] (fun i wr => ∃ k : Nat, p ≤ k ∧ k ≤ l.length ∧ i = .int .i64 k ∧ Hid (m = k + Lx.run f (l.drop k)) ∧ Kept w wr) (fun i wr => l.length - (intOf i).toNat)
  case atStart => exact ⟨p, Nat.le_refl _, hp, rfl, HM, Kept.refl _⟩
  case round =>
    obtain ⟨k, hpk, hk, rfl, HE, hkp⟩ := hrel
    by_cases hlt : k < l.length
    · have hltI : (k : Int) < (l.length : Int) := by omega
      obtain ⟨b, o, rfl, y⟩ := HS.out.at hlt
      have y0 := hkp.cell y
      have HE2 := HE.out
      rw [drop_at hlt, Lx.run] at HE2
      have HC := Lib.hid (lkind_c l[k] wr)
      have hkd : f l[k] = (Lx.kd l[k] == 3 || (Lx.kd l[k] == 2 && an)) := by
        rw [← HF.out]; cases an <;> simp [Lx.an, Lx.dg]
      clear y HE
      generalize Lx.kd l[k] = q at HC hkd
      by_cases h3 : q = 3
      · subst h3
        rw [hkd, if_pos (by simp)] at HE2
        have HE := Lib.hid HE2
        clear HE2 hkd
        go_wp2_with fail
        refine HC.out.mono ?_
        rintro e w1 ⟨rfl, rfl⟩
        go_wp2_with fail
        go_roundw
        case rel => exact ⟨k + 1, by omega, by omega, by go_num, Lib.hid (by rw [HE.out]; omega), hkp⟩
        case measure => simp [intOf]; omega
      · by_cases h2 : q = 2
        · subst h2
          cases an with
          | true =>
            rw [hkd, if_pos (by simp)] at HE2
            have HE := Lib.hid HE2
            clear HE2 hkd h3
            go_wp2_with fail
            refine HC.out.mono ?_
            rintro e w1 ⟨rfl, rfl⟩
            go_wp2_with fail
            go_roundw
            case rel => exact ⟨k + 1, by omega, by omega, by go_num, Lib.hid (by rw [HE.out]; omega), hkp⟩
            case measure => simp [intOf]; omega
          | false =>
            rw [hkd, if_neg (by simp)] at HE2
            obtain rfl : m = k := HE2
            clear hkd h3
            go_wp2_with fail
            refine HC.out.mono ?_
            rintro e w1 ⟨rfl, rfl⟩
            go_wp2_with fail
            try rw [Exit.noGoto_ret]
            exact bodyPost_ret (results_tmp rfl _ _ _) rfl ⟨rfl, hkp⟩
        · have e3 : ((q : Int) == 3) = false := by simp; omega
          have e2 : ((q : Int) == 2) = false := by simp; omega
          rw [hkd, if_neg (by simp [h3, h2])] at HE2
          obtain rfl : m = k := HE2
          clear hkd h3 h2
          go_wp2_with fail
          refine HC.out.mono ?_
          rintro e w1 ⟨rfl, rfl⟩
          go_wp2_with fail
          try rw [Exit.noGoto_ret]
          exact bodyPost_ret (results_tmp rfl _ _ _) rfl ⟨rfl, hkp⟩
    · obtain rfl : k = l.length := by omega
      have hltI : ¬ (l.length : Int) < (l.length : Int) := by omega
      have HE2 := HE.out
      rw [List.drop_of_length_le (Nat.le_refl _)] at HE2
      obtain rfl : m = l.length := HE2
      clear HE HM
      go_wp2_with fail
      try rw [Exit.noGoto_ret]
      exact bodyPost_ret (results_tmp rfl _ _ _) rfl ⟨rfl, hkp⟩

/-- What is cut out of a source, and the text that it is. -/
theorem cut_is {w : World} {a : Option Addr} {c : Nat} {l : List UInt8} {p k : Nat} (h : SrcAt w (.slice a l.length c) l) (hk : 0 < k) (hpk : p + k ≤ l.length) :
    ∃ b o, a = some ⟨b, o, none⟩ ∧ ∀ W, Kept w W → (convert 61 9 (.slice (some ⟨b, o + p, none⟩) k (c - p))).run Tryz.prog W = .ok (.string ⟨((l.drop p).take k).toArray⟩) W := by
  obtain ⟨b, o, ha, _⟩ := h.at (i := p) (by omega)
  refine ⟨b, o, ha, fun W hW => ?_⟩
  have hlen : ((l.drop p).take k).length = k := by simp; omega
  have := run_convert_bytes_back (P := Tryz.prog) W 61 9 5 ⟨b, o + p, none⟩ (c - p) ((l.drop p).take k) (by kernel_rfl) (by kernel_rfl) (by kernel_rfl) (fun j hj => by
    have hjk : j < k := by omega
    obtain ⟨b', o', e, hc⟩ := h.at (i := p + j) (by omega)
    rw [ha] at e
    injection e with e
    injection e with e1 e2
    subst e1 e2
    rw [show (⟨b, o + p, none⟩ : Addr).add j = ⟨b, o + (p + j), none⟩ by unfold Addr.add; split <;> simp [Nat.add_assoc] <;> omega]
    rw [hW.cell hc]
    simp)
  rw [hlen] at this
  exact this

theorem source_elem : Tryz.prog.elem 61 = 5 := by kernel_rfl

/-- A cut as the walk meets it. -/
theorem sliced_is {a : Option Addr} {b o c p k : Nat} (ha : a = some ⟨b, o, none⟩) (hk : 0 < k) (hpk : p + k ≤ c) (W : World) (P' H : Int) (e1 : P' = p) (e2 : H = (p + k : Nat)) (n : Nat) :
    (Instr.slice 61 (.slice a n c) (some (.int .i64 P')) (some (.int .i64 H)) none).run Tryz.prog W = .ok (.slice (some ⟨b, o + p, none⟩) k (c - p)) W := by
  subst e1 e2 ha
  have hu : Tryz.prog.underlying 61 = some (.slice (Tryz.prog.elem 61)) := by kernel_rfl
  rw [run_slice_lh (t := 61) (a := some ⟨b, o, none⟩) (len := n) (cap := c) W hu .i64 .i64 (p : Int) ((p + k : Nat) : Int) (by omega) (by omega) (by omega)]
  have hs : ∀ W, (sizeOf (Tryz.prog.elem 61)).run Tryz.prog W = .ok 1 W := fun W => by rw [source_elem]; kernel_rfl
  rw [hs]
  show Result.ok (sliced (some ⟨b, o, none⟩) ((p : Int)).toNat (((p + k : Nat) : Int)).toNat c 1) W = _
  rw [Int.toNat_natCast, Int.toNat_natCast]
  unfold sliced
  rw [if_neg (by omega), Nat.add_sub_cancel_left, Nat.mul_one]
  simp only [Option.map_some]
  rw [show (⟨b, o, none⟩ : Addr).add p = ⟨b, o + p, none⟩ by unfold Addr.add; split <;> simp <;> omega]

theorem has_v {l : List UInt8} {p : Nat} {x : ByteArray} (h : p + x.size ≤ l.length) : Lx.has (l.drop p) x = ((((l.drop p).take x.size) == x.data.toList)) := by
  unfold Lx.has
  rw [Bool.eq_iff_iff, List.isPrefixOf_iff_prefix, beq_iff_eq]
  have e : x.size = x.data.toList.length := by rw [Array.length_toList]; rfl
  constructor
  · rintro ⟨t, ht⟩
    rw [← ht, e]; simp
  · intro ht
    exact ⟨(l.drop p).drop x.size, by rw [← ht, List.take_append_drop]⟩

theorem has_far {l : List UInt8} {p : Nat} {x : ByteArray} (h : ¬ p + x.size ≤ l.length) (hx : 0 < x.size) : Lx.has (l.drop p) x = false := by
  cases hh : Lx.has (l.drop p) x with
  | false => rfl
  | true =>
    have := (Lx.has_take hh).1
    rw [List.length_drop] at this
    omega

set_option maxHeartbeats 2000000 in
theorem has_c (x : ByteArray) (a : Option Addr) (c : Nat) (l : List UInt8) (p : Nat) (w : World) (h : SrcAt w (.slice a l.length c) l) (hp : p ≤ l.length) (hx : 0 < x.size) :
    Calls Tryz.prog 81 #[.slice a l.length c, .int .i64 p, .string x] w fun r w' => r = .returned (.bool (Lx.has (l.drop p) x)) ∧ w' = w := by
  have hcap := h.cap
  unfold maxLen at hcap
  obtain ⟨v, hv⟩ : ∃ v, Lx.has (l.drop p) x = v := ⟨_, rfl⟩
  rw [hv]
  by_cases hle : p + x.size ≤ l.length
  · obtain ⟨b, o, ha, hcv⟩ := cut_is h hx hle
    have hsl := fun W => sliced_is ha hx (show p + x.size ≤ c by omega) W (p : Int) ((p : Int) + (x.size : Int)) rfl (by omega) l.length
    have hcw := hcv w (Kept.refl w)
    rw [has_v hle] at hv
    have hleI : (x.size : Int) ≤ (l.length : Int) - (p : Int) := by omega
    have hbe : ((⟨((l.drop p).take x.size).toArray⟩ : ByteArray).toList == x.toList) = v := by
      rw [← hv, ByteArray.toList_eq, ByteArray.toList_eq]
    clear h hcv hv
    subst ha
    generalize (⟨((l.drop p).take x.size).toArray⟩ : ByteArray) = y at *
    go_enter Tryz.func81, Tryz.ntmps81
    go_wp2
    go_ret
    exact ⟨rfl, rfl⟩
  · rw [has_far hle hx] at hv
    subst hv
    have hleI : ¬ (x.size : Int) ≤ (l.length : Int) - (p : Int) := by omega
    clear h
    go_enter Tryz.func81, Tryz.ntmps81
    go_wp2
    go_ret
    exact ⟨rfl, rfl⟩

set_option maxHeartbeats 2000000 in
theorem wayOf_c (a : Option Addr) (c : Nat) (l : List UInt8) (p : Nat) (w : World) (h : SrcAt w (.slice a l.length c) l) (hp : p < l.length) :
    Calls Tryz.prog 44 #[.slice a l.length c, .int .i64 p] w fun r w' => r = .returned (.func (.func (if Lx.kd l[p] = 2 then 83 else if Lx.kd l[p] = 3 then 84 else if Lx.kd l[p] = 4 then 85 else 86)) #[.slice a l.length c] #[]) ∧ w' = w := by
  have hcap := h.cap
  unfold maxLen at hcap
  have hltI : (p : Int) < (l.length : Int) := by omega
  obtain ⟨b, o, rfl, y⟩ := h.at hp
  have HC := Lib.hid (lkind_c l[p] w)
  clear h
  generalize l[p] = ch at *
  generalize Lx.kd ch = q at *
  by_cases h2 : q = 2
  · subst h2
    rw [if_pos rfl]
    go_enter Tryz.func44, Tryz.ntmps44
    go_wp2_with fail
    refine HC.out.mono ?_
    rintro e w1 ⟨rfl, rfl⟩
    go_wp2_with fail
    go_ret
    exact ⟨rfl, rfl⟩
  · have e2 : ((q : Int) == 2) = false := by simp; omega
    rw [if_neg h2]
    by_cases h3 : q = 3
    · subst h3
      rw [if_pos rfl]
      go_enter Tryz.func44, Tryz.ntmps44
      go_wp2_with fail
      refine HC.out.mono ?_
      rintro e w1 ⟨rfl, rfl⟩
      go_wp2_with fail
      go_ret
      exact ⟨rfl, rfl⟩
    · have e3 : ((q : Int) == 3) = false := by simp; omega
      rw [if_neg h3]
      by_cases h4 : q = 4
      · subst h4
        rw [if_pos rfl]
        go_enter Tryz.func44, Tryz.ntmps44
        go_wp2_with fail
        refine HC.out.mono ?_
        rintro e w1 ⟨rfl, rfl⟩
        go_wp2_with fail
        go_ret
        exact ⟨rfl, rfl⟩
      · have e4 : ((q : Int) == 4) = false := by simp; omega
        rw [if_neg h4]
        clear h2 h3 h4
        go_enter Tryz.func44, Tryz.ntmps44
        go_wp2_with fail
        refine HC.out.mono ?_
        rintro e w1 ⟨rfl, rfl⟩
        go_wp2_with fail
        go_ret
        exact ⟨rfl, rfl⟩

/-- The text of a comment's beginning. -/
abbrev cmt : ByteArray := ⟨#[47, 47]⟩
theorem has_cmt (c : UInt8) (r : List UInt8) : Lx.has (c :: r) cmt = (decide (c.toNat = 47) && decide ((r.headD 0).toNat = 47)) := by
  have e : ∀ d : UInt8, (47 == d) = decide (d.toNat = 47) := fun d => by
    rw [Bool.eq_iff_iff, beq_iff_eq, decide_eq_true_iff]
    exact ⟨fun h => by subst h; rfl, fun h => UInt8.toNat_inj.1 (by rw [h]; rfl)⟩
  unfold Lx.has
  cases r with
  | nil => show (47 == c && List.isPrefixOf [47] []) = _; rw [e]; simp
  | cons d r => show (47 == c && (47 == d && List.isPrefixOf [] r)) = _; rw [e, e]; simp

set_option maxHeartbeats 2000000 in
theorem skip_c (a : Option Addr) (c : Nat) (l : List UInt8) (p : Nat) (w : World) (h : SrcAt w (.slice a l.length c) l) (hp : p ≤ l.length) :
    Calls Tryz.prog 43 #[.slice a l.length c, .int .i64 p] w fun r w' => r = .returned (.int .i64 ((p + Lx.skip false (l.drop p) : Nat) : Int)) ∧ Kept w w' := by
  obtain ⟨m, hm⟩ : ∃ m, p + Lx.skip false (l.drop p) = m := ⟨_, rfl⟩
  rw [hm]
  have hcap := h.cap
  unfold maxLen at hcap
  have HS := Lib.hid h
  have HM := Lib.hid hm.symm
  clear h hm
  go_enter Tryz.func43, Tryz.ntmps43
  go_wp2_with fail
  go_step3
  go_wp2_with fail
  go_step3
  go_wp2_with fail
  go_loopw [1] (fun i wr => ∃ k : Nat, p ≤ k ∧ k ≤ l.length ∧ i = .int .i64 k ∧ Hid (m = k + Lx.skip false (l.drop k)) ∧ Kept w wr) (fun i wr => l.length - (intOf i).toNat)
  case atStart => exact ⟨p, Nat.le_refl _, hp, rfl, HM, Kept.refl _⟩
  case round =>
    obtain ⟨k, hpk, hk, rfl, HE, hkp⟩ := hrel
    by_cases hlt : k < l.length
    · have hltI : (k : Int) < (l.length : Int) := by omega
      have HH := Lib.hid (has_c cmt a c l k wr (src_kept HS.out hkp) hk (by decide))
      have HL := Lib.hid (lineEnd_c a c l k wr (src_kept HS.out hkp) hk)
      have HB := Lib.hid (Lx.run_le Lx.nl (l.drop k))
      obtain ⟨b, o, rfl, y⟩ := HS.out.at hlt
      have y0 := hkp.cell y
      have HE2 := HE.out
      rw [drop_at hlt] at HE2 HH
      rw [has_cmt] at HH
      rw [Lx.skip] at HE2
      have HC := Lib.hid (lkind_c l[k] wr)
      clear y HE
      have hdr := drop_at hlt
      generalize l[k] = ch at *
      by_cases h1 : Lx.kd ch = 1
      · rw [if_pos h1] at HE2
        have HE := Lib.hid HE2
        rw [h1] at HC
        clear HE2 h1 HH hdr HL HB
        go_wp2_with fail
        refine HC.out.mono ?_
        rintro e w1 ⟨rfl, rfl⟩
        go_wp2_with fail
        go_roundw
        case rel => exact ⟨k + 1, by omega, by omega, by go_num, Lib.hid (by rw [HE.out]; omega), hkp⟩
        case measure => simp [intOf]; omega
      · rw [if_neg h1] at HE2
        by_cases hcm : ch.toNat = 47 ∧ ((l.drop (k + 1)).headD 0).toNat = 47
        · rw [if_pos hcm, Lx.skip_line, ] at HE2
          rw [show (decide (ch.toNat = 47) && decide (((l.drop (k + 1)).headD 0).toNat = 47)) = true by rw [Bool.and_eq_true, decide_eq_true_iff, decide_eq_true_iff]; exact hcm] at HH
          have hnl : Lx.nl ch = true := by unfold Lx.nl; simp [hcm.1]
          have hr : Lx.run Lx.nl (l.drop k) = Lx.run Lx.nl (l.drop (k + 1)) + 1 := by rw [hdr, Lx.run, if_pos hnl]
          have HB2 := HB.out
          rw [hr] at HL HB2
          rw [List.length_drop] at HB2
          obtain ⟨j, hj⟩ : ∃ j, Lx.run Lx.nl (l.drop (k + 1)) = j := ⟨_, rfl⟩
          rw [hj] at HL HB2 HE2
          rw [List.drop_drop] at HE2
          have HE := Lib.hid HE2
          have HC2 : Hid (Calls Tryz.prog 80 #[.int .u8 ch.toNat] wr fun e w' => e = .returned (.int .i64 (Lx.kd ch)) ∧ w' = wr) := HC
          have e1 : ((Lx.kd ch : Int) == 1) = false := by simp; omega
          generalize Lx.kd ch = q at *
          clear HE2 h1 hdr hr hj hnl hcm HB HC
          go_wp2_with fail
          refine HC2.out.mono ?_
          rintro e w1 ⟨rfl, rfl⟩
          go_wp2_with fail
          refine HH.out.mono ?_
          rintro e w1 ⟨rfl, rfl⟩
          go_wp2_with fail
          refine HL.out.mono ?_
          rintro e w1 ⟨rfl, hk1⟩
          go_wp2_with fail
          go_roundw
          case rel => exact ⟨k + (j + 1), by omega, by omega, by go_num, Lib.hid (by rw [HE.out, show k + (j + 1) = k + 1 + j by omega]; omega), hkp.trans hk1⟩
          case measure => simp [intOf]; omega
        · rw [if_neg hcm] at HE2
          rw [show (decide (ch.toNat = 47) && decide (((l.drop (k + 1)).headD 0).toNat = 47)) = false by rw [Bool.eq_false_iff]; intro h; rw [Bool.and_eq_true, decide_eq_true_iff, decide_eq_true_iff] at h; exact hcm h] at HH
          obtain rfl : m = k := HE2
          have e1 : ((Lx.kd ch : Int) == 1) = false := by simp; omega
          generalize Lx.kd ch = q at *
          clear h1 hdr hcm HB HL
          go_wp2_with fail
          refine HC.out.mono ?_
          rintro e w1 ⟨rfl, rfl⟩
          go_wp2_with fail
          refine HH.out.mono ?_
          rintro e w1 ⟨rfl, rfl⟩
          go_wp2_with fail
          try rw [Exit.noGoto_ret]
          exact bodyPost_ret (results_tmp rfl _ _ _) rfl ⟨rfl, hkp⟩
    · obtain rfl : k = l.length := by omega
      have hltI : ¬ (l.length : Int) < (l.length : Int) := by omega
      have HE2 := HE.out
      rw [List.drop_of_length_le (Nat.le_refl _)] at HE2
      obtain rfl : m = l.length := HE2
      clear HE HM
      go_wp2_with fail
      try rw [Exit.noGoto_ret]
      exact bodyPost_ret (results_tmp rfl _ _ _) rfl ⟨rfl, hkp⟩

end Go.Proofs.YtfkmnpgpfmkjaaaGreatDoor
namespace Go.Proofs.YtfkmnpgpfmkjaaaGreatDoor
open Go.ChangeShapes Go.WideShapes Go.ChangeAt Go.RowKit Go.Shelf
attribute [local go_sem] Oper.semAt_some

/-- What a way tells of what is cut off at a place. -/
def wayV (p : Nat) : Lx.R → Value
  | .tok k x v len => .tuple #[tagg k x v p, .int .i64 ((p + len : Nat) : Int), fagg 0 0]
  | .bad e off => badV e ((p + off : Nat) : Int)

/-- The blocks of a way's results. -/
def Res2 (n : Nat) (W : World) : Prop := Blk W n 48 #[.int .i64 0, .string ⟨#[]⟩, .int .i64 0, .int .i64 0] ∧ Blk W (n + 1) 36 #[.int .i64 0, .int .i64 0]
theorem Res2.new (w : World) : Res2 w.heap.size ((w.alloc (.cells #[.int .i64 0, .string ⟨#[]⟩, .int .i64 0, .int .i64 0] 48)).alloc (.cells #[.int .i64 0, .int .i64 0] 36)) := by
  refine ⟨(Blk.new _ _ _).alloc _, ?_⟩
  have := Blk.new (w.alloc (.cells #[.int .i64 0, .string ⟨#[]⟩, .int .i64 0, .int .i64 0] 48)) 36 #[.int .i64 0, .int .i64 0]
  simpa using this
theorem Res2.kept {n : Nat} {W W' : World} (h : Res2 n W) (k : Kept W W') : Res2 n W' := ⟨h.1.kept k, h.2.kept k⟩

theorem Res2.froz {n : Nat} {W : World} (h : Res2 n W) : (W.frozen? ⟨n, 0, none⟩ = false ∧ W.frozen? ⟨n, 1, none⟩ = false ∧ W.frozen? ⟨n, 2, none⟩ = false ∧ W.frozen? ⟨n, 3, none⟩ = false) ∧ W.frozen? ⟨n + 1, 0, none⟩ = false ∧ W.frozen? ⟨n + 1, 1, none⟩ = false :=
  ⟨⟨h.1.frozen 0, h.1.frozen 1, h.1.frozen 2, h.1.frozen 3⟩, h.2.frozen 0, h.2.frozen 1⟩

theorem Res2.cel {n : Nat} {W : World} (h : Res2 n W) : (W.cell? ⟨n, 0, none⟩ = some (.int .i64 0) ∧ W.cell? ⟨n, 1, none⟩ = some (.string ⟨#[]⟩) ∧ W.cell? ⟨n, 2, none⟩ = some (.int .i64 0) ∧ W.cell? ⟨n, 3, none⟩ = some (.int .i64 0)) ∧ W.cell? ⟨n + 1, 0, none⟩ = some (.int .i64 0) ∧ W.cell? ⟨n + 1, 1, none⟩ = some (.int .i64 0) :=
  ⟨⟨h.1.cell 0, h.1.cell 1, h.1.cell 2, h.1.cell 3⟩, h.2.cell 0, h.2.cell 1⟩

/-- The results' blocks written. -/
def put6 (W : World) (n : Nat) (k : Int) (x : ByteArray) (v po e a : Int) : World := (((((W.setCell ⟨n, 0, none⟩ (.int .i64 k)).setCell ⟨n, 1, none⟩ (.string x)).setCell ⟨n, 2, none⟩ (.int .i64 v)).setCell ⟨n, 3, none⟩ (.int .i64 po)).setCell ⟨n + 1, 0, none⟩ (.int .i64 e)).setCell ⟨n + 1, 1, none⟩ (.int .i64 a)

theorem put6_blk {W : World} {n : Nat} (h : Res2 n W) (k : Int) (x : ByteArray) (v po e a : Int) : Blk (put6 W n k x v po e a) n 48 #[.int .i64 k, .string x, .int .i64 v, .int .i64 po] ∧ Blk (put6 W n k x v po e a) (n + 1) 36 #[.int .i64 e, .int .i64 a] := by
  have h1 := (((h.1.put 0 (.int .i64 k)).put 1 (.string x)).put 2 (.int .i64 v)).put 3 (.int .i64 po)
  have o1 : Only (· = n) W ((((W.setCell ⟨n, 0, none⟩ (.int .i64 k)).setCell ⟨n, 1, none⟩ (.string x)).setCell ⟨n, 2, none⟩ (.int .i64 v)).setCell ⟨n, 3, none⟩ (.int .i64 po)) := ((((Only.refl _ W).put 0 _).put 1 _).put 2 _).put 3 _
  have h2 := ((h.2.only o1 (by omega)).put 0 (.int .i64 e)).put 1 (.int .i64 a)
  refine ⟨?_, h2⟩
  exact Blk.only h1 (((Only.refl (· = n + 1) _).put 0 (.int .i64 e)).put 1 (.int .i64 a)) (by omega)

theorem put6_kept {w W : World} {n : Nat} (h : Kept w W) (hn : n = w.heap.size) (k : Int) (x : ByteArray) (v po e a : Int) : Kept w (put6 W n k x v po e a) := by
  subst hn
  unfold put6
  exact (((((h.setCell (by simp) _).setCell (by simp) _).setCell (by simp) _).setCell (by simp) _).setCell (by simp) _).setCell (by simp) _

theorem way_end {fn : Func} (hf : fn.results = #[.cell 4 48, .tmp 5, .cell 6 36]) {tmps : Array Value} {w W : World} {k v po e a : Int} {x : ByteArray} {r : Value} (hr : Res2 w.heap.size W) (hk : Kept w W)
    (h4 : tmps.getD 4 undef = .pointer (some ⟨w.heap.size, 0, none⟩)) (h6 : tmps.getD 6 undef = .pointer (some ⟨w.heap.size + 1, 0, none⟩)) (h : .tuple #[tagg k x v po, tmps.getD 5 undef, fagg e a] = r) :
    bodyPost Tryz.prog fn (fun s w' => s = .returned r ∧ Kept w w') .ret { tmps := tmps, defers := [] } (put6 W w.heap.size k x v po e a) := by
  subst h
  obtain ⟨b1, b2⟩ := put6_blk hr k x v po e a
  exact bodyPost_ret (way_results hf _ _ h4 h6 b1 b2) rfl ⟨rfl, put6_kept hk rfl k x v po e a⟩

theorem Res2.alloc {n : Nat} {W : World} (h : Res2 n W) (o : Obj) : Res2 n (W.alloc o) := h.kept ((Kept.refl W).alloc o)
theorem Res2.set {n : Nat} {W : World} (h : Res2 n W) {g : Nat} (hg : n + 1 < g) (i : Nat) (v : Value) : Res2 n (W.setCell ⟨g, i, none⟩ v) :=
  ⟨h.1.only ((Only.refl (· = g) W).put i v) (by omega), h.2.only ((Only.refl (· = g) W).put i v) (by omega)⟩

set_option maxHeartbeats 4000000 in
theorem word_c (a : Option Addr) (c : Nat) (l : List UInt8) (p : Nat) (w : World) (h : SrcAt w (.slice a l.length c) l) (hT : Tb w) (hp : p < l.length) (h2 : Lx.kd l[p] = 2) (hl : l.length ≤ 20000) :
    Calls Tryz.prog 83 #[.slice a l.length c, .int .i64 p] w fun r w' => r = .returned (wayV p (Lx.word (l.drop p))) ∧ Kept w w' := by
  have hcap := h.cap
  unfold maxLen at hcap
  obtain ⟨k, hk⟩ : ∃ k, Lx.run Lx.an (l.drop p) = k := ⟨_, rfl⟩
  have hk0 : 0 < k := by rw [← hk, drop_at hp]; exact Lx.run_pos (by unfold Lx.an; simp [h2])
  have hkl : p + k ≤ l.length := by have := Lx.run_le Lx.an (l.drop p); rw [hk, List.length_drop] at this; omega
  obtain ⟨x, hx⟩ : ∃ x : ByteArray, ⟨((l.drop p).take k).toArray⟩ = x := ⟨_, rfl⟩
  have hxs : x.size = k := by rw [← hx]; exact Lx.take_size _ _ (by rw [List.length_drop]; omega)
  have HV := Lib.hid (show Lx.word (l.drop p) = Lx.wordR x by unfold Lx.word; rw [hk, hx])
  obtain ⟨b, o, rfl, hcv⟩ := cut_is h hk0 hkl
  rw [hx] at hcv
  obtain ⟨W1, hW1⟩ : ∃ W1, (w.alloc (.cells #[.int .i64 0, .string ⟨#[]⟩, .int .i64 0, .int .i64 0] 48)).alloc (.cells #[.int .i64 0, .int .i64 0] 36) = W1 := ⟨_, rfl⟩
  have k1 : Kept w W1 := by rw [← hW1]; exact ((Kept.refl w).alloc _).alloc _
  have HR1 := Lib.hid (show Res2 w.heap.size W1 by rw [← hW1]; exact Res2.new w)
  have HRUN := Lib.hid (run_c true (some ⟨b, o, none⟩) c l p W1 (src_kept h k1) (by omega))
  rw [if_pos rfl, hk] at HRUN
  have HW := Lib.hid hW1
  have HK1 := Lib.hid k1
  have HCV := Lib.hid hcv
  have HT := Lib.hid hT
  rw [HV.out]
  clear h hT h2 hcv hk hx hW1 k1
  go_enter Tryz.func83, Tryz.ntmps83
  go_wp2_with (rw [HW.out])
  refine HRUN.out.mono ?_
  rintro e W2 ⟨rfl, k2⟩
  have HK2 := Lib.hid (HK1.out.trans k2)
  have HR2 := Lib.hid (HR1.out.kept k2)
  clear k2 HR1 HRUN HK1
  have e1 : (((p + k : Nat) : Int) - (p : Int)) = (k : Int) := by omega
  by_cases h20 : 20 < k
  · have h20I : (20 : Int) < (k : Int) := by omega
    have HE := Lib.hid (show Lx.wordR x = .bad 4 0 by unfold Lx.wordR; rw [if_pos (by omega)])
    go_wp2_with fail
    refine (refuse_c 4 p W2).mono ?_
    rintro e W3 ⟨rfl, k3⟩
    have hr3 := HR2.out.kept k3
    obtain ⟨⟨f0, f1, f2, f3⟩, f4, f5⟩ := hr3.froz
    obtain ⟨⟨c0, c1, c2, c3⟩, c4, c5⟩ := hr3.cel
    have HR3 := Lib.hid hr3
    have HK3 := Lib.hid (HK2.out.trans k3)
    clear hr3 k3 HK2 HR2
    go_wp2_with fail
    exact way_end (by rfl) HR3.out HK3.out rfl rfl (by rw [HE.out]; rfl)
  · have h20I : ¬ (20 : Int) < (k : Int) := by omega
    have hsl := fun W => sliced_is (a := some ⟨b, o, none⟩) rfl hk0 (show p + k ≤ c by omega) W (p : Int) ((p + k : Nat) : Int) rfl rfl l.length
    have hcw := HCV.out W2 HK2.out
    obtain ⟨W3, hW3⟩ : ∃ W3, W2.alloc (.cells #[.int .i64 2, .string x, .int .i64 0, .int .i64 p] 48) = W3 := ⟨_, rfl⟩
    have k23 : Kept W2 W3 := by rw [← hW3]; exact (Kept.refl W2).alloc _
    have hsz := (show w.heap.size + 1 < W2.heap.size from HR2.out.2.lt)
    have HB3 := Lib.hid (show Blk W3 W2.heap.size 48 #[.int .i64 2, .string x, .int .i64 0, .int .i64 p] by rw [← hW3]; exact Blk.new _ _ _)
    have HK3 := Lib.hid (HK2.out.trans k23)
    have HR3 := Lib.hid (HR2.out.kept k23)
    have HKEY := Lib.hid (key_c x W3 (HT.out.kept HK3.out))
    have HNAM := Lib.hid (fun W (k : Kept w W) => name_c x W (HT.out.kept k) (by omega))
    have HW3 := Lib.hid hW3
    have d1 := HB3.out.cell 1
    simp at d1
    clear hW3 k23 HK2 HR2
    go_wp2_with (rw [HW3.out])
    refine HKEY.out.mono ?_
    rintro e W4 ⟨rfl, k4⟩
    have HB4 := Lib.hid (HB3.out.kept k4)
    have HR4 := Lib.hid (HR3.out.kept k4)
    have HK4 := Lib.hid (HK3.out.trans k4)
    clear k4 HB3 HR3 HK3 HKEY d1
    have g0 := HB4.out.frozen 0
    have d0 := HB4.out.cell 0
    have d1 := HB4.out.cell 1
    have d2 := HB4.out.cell 2
    have d3 := HB4.out.cell 3
    simp at d0 d1 d2 d3
    cases hkey : Wrd.key x with
    | true =>
      have HE := Lib.hid (show Lx.wordR x = .tok 3 x 0 k by unfold Lx.wordR; rw [if_neg (by omega), hkey, if_pos rfl, hxs])
      obtain ⟨⟨f0, f1, f2, f3⟩, f4, f5⟩ := HR4.out.froz
      obtain ⟨⟨c0, c1, c2, c3⟩, c4, c5⟩ := HR4.out.cel
      have HR5 := Lib.hid (HR4.out.set hsz 0 (.int .i64 3))
      have HK5 := Lib.hid (HK4.out.setCell (p := ⟨W2.heap.size, 0, none⟩) (by show w.heap.size ≤ W2.heap.size; omega) (.int .i64 3))
      clear hkey HR4 HK4
      go_wp2_with fail
      exact way_end (by rfl) HR5.out HK5.out rfl rfl (by rw [HE.out]; rfl)
    | false =>
      have HN := Lib.hid (HNAM.out W4 HK4.out)
      go_wp2_with fail
      refine HN.out.mono ?_
      rintro e W5 ⟨rfl, k5⟩
      have HB5 := Lib.hid (HB4.out.kept k5)
      have HR5 := Lib.hid (HR4.out.kept k5)
      have HK5 := Lib.hid (HK4.out.trans k5)
      clear k5 HB4 HR4 HK4 HN HNAM g0 d0 d1 d2 d3
      have g0 := HB5.out.frozen 0
      have d0 := HB5.out.cell 0
      have d1 := HB5.out.cell 1
      have d2 := HB5.out.cell 2
      have d3 := HB5.out.cell 3
      simp at d0 d1 d2 d3
      obtain ⟨⟨f0, f1, f2, f3⟩, f4, f5⟩ := HR5.out.froz
      obtain ⟨⟨c0, c1, c2, c3⟩, c4, c5⟩ := HR5.out.cel
      cases hnm : Wrd.name x with
      | true =>
        have HE := Lib.hid (show Lx.wordR x = .tok 1 x 0 k by unfold Lx.wordR; rw [if_neg (by omega), hkey, hnm, if_neg (by decide), if_pos rfl, hxs])
        have HR6 := Lib.hid (HR5.out.set hsz 0 (.int .i64 1))
        have HK6 := Lib.hid (HK5.out.setCell (p := ⟨W2.heap.size, 0, none⟩) (by show w.heap.size ≤ W2.heap.size; omega) (.int .i64 1))
        clear hkey hnm HR5 HK5
        go_wp2_with fail
        exact way_end (by rfl) HR6.out HK6.out rfl rfl (by rw [HE.out]; rfl)
      | false =>
        have HE := Lib.hid (show Lx.wordR x = .tok 2 x 0 k by unfold Lx.wordR; rw [if_neg (by omega), hkey, hnm, if_neg (by decide), if_neg (by decide), hxs])
        clear hkey hnm
        go_wp2_with fail
        exact way_end (by rfl) HR5.out HK5.out rfl rfl (by rw [HE.out]; rfl)

end Go.Proofs.YtfkmnpgpfmkjaaaGreatDoor
namespace Go.Proofs
open Go.Shelf
def Tryz.lays169_ren : Go.Shelf.Ren := ⟨fun | 169 => 30 | n => n, fun | 70 => 63 | 9 => 9 | 0 => 0 | 72 => 65 | 37 => 33 | 127 => 99 | 3 => 3 | 5 => 5 | n => n, fun | n => n⟩
theorem Tryz.lays169 : Go.Proofs.Lays.n169 Tryz.prog Tryz.lays169_ren := {
  mixed := by kernel_rfl
  f169 := Tryz.func30.trans (congrArg some (by kernel_rfl))
  t0 := Tryz.underlying0
  a0 := Tryz.isAgg0
  z0 := Tryz.sizeOf0
  v0 := Tryz.zeroValue0
  t3 := Tryz.underlying3
  a3 := Tryz.isAgg3
  z3 := Tryz.sizeOf3
  v3 := Tryz.zeroValue3
  t9 := Tryz.underlying9
  a9 := Tryz.isAgg9
  z9 := Tryz.sizeOf9
  v9 := Tryz.zeroValue9
  t37 := Tryz.underlying33
  a37 := Tryz.isAgg33
  z37 := Tryz.sizeOf33
  v37 := Tryz.zeroValue33
  t70 := Tryz.underlying63
  a70 := Tryz.isAgg63
  z70 := Tryz.sizeOf63
  v70 := Tryz.zeroValue63
  t72 := Tryz.underlying65
  a72 := Tryz.isAgg65
  z72 := Tryz.sizeOf65
  v72 := Tryz.zeroValue65
  t127 := Tryz.underlying99
  a127 := Tryz.isAgg99
  z127 := Tryz.sizeOf99
  v127 := Tryz.zeroValue99 }
theorem Tryz.Builder_Extra_169 : Builder.Extra Tryz.prog Tryz.lays169_ren := {
  sizeBuilder := by kernel_rfl
  liesBuilder := by kernel_rfl
  t5 := Tryz.underlying5
  a5 := Tryz.isAgg5
  z5 := Tryz.sizeOf5
  v5 := Tryz.zeroValue5
  infoByte := by kernel_rfl
  cellsByte := by kernel_rfl
  sizeByte := by kernel_rfl
  neB5 := by decide }
open Go.RowKit in
/-- (*strings.Builder).String: "String returns the accumulated string.": WHATEVER THE BUILDER HOLDS. (LAID: no walk: one application.) -/
theorem Tryz.Builder_String_any (B b : Nat) (l : List UInt8) (w : World) (h : Lib.IsBuilder 65 5 B b (Lib.byteCells l) w) (hBw : B ≤ w.heap.size) :
    Calls Tryz.prog 30 #[.pointer (some ⟨b, 0, none⟩)] w fun e w' => e = .returned (.string ⟨l.toArray⟩) ∧ Below B w w' := Any.Builder_String_any Tryz.lays169 Tryz.Builder_Extra_169 B b l w h hBw
def Tryz.laysM171_ren : Go.Shelf.Ren := ⟨fun | 171 => 87 | 243 => 111 | 246 => 123 | 283 => 135 | 284 => 136 | 285 => 137 | 286 => 138 | 129 => 147 | 317 => 146 | 318 => 148 | 319 => 149 | 320 => 150 | 337 => 157 | 338 => 158 | n => n, fun | 3 => 3 | 9 => 9 | 2 => 2 | 4 => 4 | 171 => 168 | 0 => 0 | 53 => 169 | 37 => 33 | 5 => 5 | 173 => 172 | 212 => 200 | 51 => 165 | 20 => 20 | 213 => 201 | 46 => 181 | 232 => 212 | 233 => 213 | n => n, fun | 17 => 9 | 18 => 10 | 19 => 11 | n => n⟩
theorem Tryz.laysM171 : Go.Proofs.LaysM.n171 Tryz.prog Tryz.laysM171_ren := {
  mixed := by kernel_rfl
  f129 := Tryz.func147.trans (congrArg some (by kernel_rfl))
  f171 := Tryz.func87.trans (congrArg some (by kernel_rfl))
  f243 := Tryz.func111.trans (congrArg some (by kernel_rfl))
  f246 := Tryz.func123.trans (congrArg some (by kernel_rfl))
  f283 := Tryz.func135.trans (congrArg some (by kernel_rfl))
  f284 := Tryz.func136.trans (congrArg some (by kernel_rfl))
  f285 := Tryz.func137.trans (congrArg some (by kernel_rfl))
  f286 := Tryz.func138.trans (congrArg some (by kernel_rfl))
  f317 := Tryz.func146.trans (congrArg some (by kernel_rfl))
  f318 := Tryz.func148.trans (congrArg some (by kernel_rfl))
  f319 := Tryz.func149.trans (congrArg some (by kernel_rfl))
  f320 := Tryz.func150.trans (congrArg some (by kernel_rfl))
  f337 := Tryz.func157.trans (congrArg some (by kernel_rfl))
  f338 := Tryz.func158.trans (congrArg some (by kernel_rfl))
  t0 := Tryz.underlying0
  a0 := Tryz.isAgg0
  z0 := Tryz.sizeOf0
  v0 := Tryz.zeroValue0
  t2 := Tryz.underlying2
  a2 := Tryz.isAgg2
  z2 := Tryz.sizeOf2
  v2 := Tryz.zeroValue2
  t3 := Tryz.underlying3
  a3 := Tryz.isAgg3
  z3 := Tryz.sizeOf3
  v3 := Tryz.zeroValue3
  t4 := Tryz.underlying4
  a4 := Tryz.isAgg4
  z4 := Tryz.sizeOf4
  v4 := Tryz.zeroValue4
  t5 := Tryz.underlying5
  a5 := Tryz.isAgg5
  z5 := Tryz.sizeOf5
  v5 := Tryz.zeroValue5
  t9 := Tryz.underlying9
  a9 := Tryz.isAgg9
  z9 := Tryz.sizeOf9
  v9 := Tryz.zeroValue9
  t20 := Tryz.underlying20
  a20 := Tryz.isAgg20
  z20 := Tryz.sizeOf20
  v20 := Tryz.zeroValue20
  t37 := Tryz.underlying33
  a37 := Tryz.isAgg33
  z37 := Tryz.sizeOf33
  v37 := Tryz.zeroValue33
  t46 := Tryz.underlying181
  a46 := Tryz.isAgg181
  z46 := Tryz.sizeOf181
  v46 := Tryz.zeroValue181
  t51 := Tryz.underlying165
  a51 := Tryz.isAgg165
  z51 := Tryz.sizeOf165
  v51 := Tryz.zeroValue165
  t53 := Tryz.underlying169
  a53 := Tryz.isAgg169
  z53 := Tryz.sizeOf169
  v53 := Tryz.zeroValue169
  t171 := Tryz.underlying168
  a171 := Tryz.isAgg168
  z171 := Tryz.sizeOf168
  v171 := Tryz.zeroValue168
  t173 := Tryz.underlying172
  a173 := Tryz.isAgg172
  z173 := Tryz.sizeOf172
  v173 := Tryz.zeroValue172
  t212 := Tryz.underlying200
  a212 := Tryz.isAgg200
  z212 := Tryz.sizeOf200
  v212 := Tryz.zeroValue200
  t213 := Tryz.underlying201
  a213 := Tryz.isAgg201
  z213 := Tryz.sizeOf201
  t232 := Tryz.underlying212
  a232 := Tryz.isAgg212
  z232 := Tryz.sizeOf212
  v232 := Tryz.zeroValue212
  t233 := Tryz.underlying213
  a233 := Tryz.isAgg213
  z233 := Tryz.sizeOf213
  v233 := Tryz.zeroValue213
  g17 := by kernel_rfl
  g18 := by kernel_rfl
  g19 := by kernel_rfl
  i0 := by kernel_rfl
  i2 := by kernel_rfl
  i3 := by kernel_rfl
  i4 := by kernel_rfl
  i5 := by kernel_rfl
  i9 := by kernel_rfl
  i20 := by kernel_rfl
  i37 := by kernel_rfl
  i46 := by kernel_rfl
  i51 := by kernel_rfl
  i53 := by kernel_rfl
  i171 := by kernel_rfl
  i173 := by kernel_rfl
  i212 := by kernel_rfl
  i232 := by kernel_rfl
  i233 := by kernel_rfl
  m17 := by kernel_rfl
  m18 := by kernel_rfl
  m19 := by kernel_rfl }
open Go.RowKit Go.Sort Go.Lib in
/-- strconv.Itoa: "Itoa is equivalent to FormatInt(int64(i), 10).": i's DECIMAL NUMERAL ('Lib.itoa': a '-' where i is negative, then the digits), FOR EVERY int. The world behind the call: the world before it, new blocks behind the heap (the library's 'var a [24]byte'), draws. (LAID: no walk: one application.) -/
theorem Tryz.strconv_Itoa (n : Int) (h0 : -9223372036854775808 ≤ n) (h1 : n ≤ 9223372036854775807) (w : World) (htab : Lib.TabIs Tryz.prog w "internal/strconv.uint64pow10" .u64 Lib.pow10Tab) :
    Calls Tryz.prog 87 #[.int .i64 n] w fun e w' => e = .returned (.string ⟨(Lib.itoa n).toArray⟩) ∧ ∃ k os, w' = grow (w.drewN k) os := Any.strconv_Itoa Tryz.laysM171 n h0 h1 w htab
def Tryz.laysC172_ren : Go.Shelf.Ren := ⟨fun | 172 => 107 | 244 => 118 | 245 => 119 | 247 => 128 | 279 => 129 | 280 => 130 | 281 => 131 | 282 => 132 | 287 => 141 | 316 => 142 | 171 => 87 | 205 => 143 | 321 => 155 | 322 => 156 | 243 => 111 | 246 => 123 | 283 => 135 | 284 => 136 | 285 => 137 | 286 => 138 | 129 => 147 | 317 => 146 | 318 => 148 | 319 => 149 | 320 => 150 | 337 => 157 | 338 => 158 | n => n, fun | 9 => 9 | 3 => 3 | 75 => 68 | 76 => 70 | 4 => 4 | 5 => 5 | 167 => 159 | 37 => 33 | 0 => 0 | 85 => 160 | 2 => 2 | 168 => 162 | 53 => 169 | 175 => 179 | 46 => 181 | 210 => 183 | 127 => 99 | 145 => 207 | 143 => 205 | 21 => 21 | 171 => 168 | 173 => 172 | 212 => 200 | 51 => 165 | 20 => 20 | 213 => 201 | 232 => 212 | 233 => 213 | 80 => 72 | n => n, fun | 15 => 5 | 16 => 6 | 17 => 9 | 18 => 10 | 19 => 11 | n => n⟩
theorem Tryz.laysC172 : Go.Proofs.LaysC.n172 Tryz.prog Tryz.laysC172_ren := {
  mixed := by kernel_rfl
  f129 := Tryz.func147.trans (congrArg some (by kernel_rfl))
  f171 := Tryz.func87.trans (congrArg some (by kernel_rfl))
  f172 := Tryz.func107.trans (congrArg some (by kernel_rfl))
  f205 := Tryz.func143.trans (congrArg some (by kernel_rfl))
  f243 := Tryz.func111.trans (congrArg some (by kernel_rfl))
  f244 := Tryz.func118.trans (congrArg some (by kernel_rfl))
  f245 := Tryz.func119.trans (congrArg some (by kernel_rfl))
  f246 := Tryz.func123.trans (congrArg some (by kernel_rfl))
  f247 := Tryz.func128.trans (congrArg some (by kernel_rfl))
  f279 := Tryz.func129.trans (congrArg some (by kernel_rfl))
  f280 := Tryz.func130.trans (congrArg some (by kernel_rfl))
  f281 := Tryz.func131.trans (congrArg some (by kernel_rfl))
  f282 := Tryz.func132.trans (congrArg some (by kernel_rfl))
  f283 := Tryz.func135.trans (congrArg some (by kernel_rfl))
  f284 := Tryz.func136.trans (congrArg some (by kernel_rfl))
  f285 := Tryz.func137.trans (congrArg some (by kernel_rfl))
  f286 := Tryz.func138.trans (congrArg some (by kernel_rfl))
  f287 := Tryz.func141.trans (congrArg some (by kernel_rfl))
  f316 := Tryz.func142.trans (congrArg some (by kernel_rfl))
  f317 := Tryz.func146.trans (congrArg some (by kernel_rfl))
  f318 := Tryz.func148.trans (congrArg some (by kernel_rfl))
  f319 := Tryz.func149.trans (congrArg some (by kernel_rfl))
  f320 := Tryz.func150.trans (congrArg some (by kernel_rfl))
  f321 := Tryz.func155.trans (congrArg some (by kernel_rfl))
  f322 := Tryz.func156.trans (congrArg some (by kernel_rfl))
  f337 := Tryz.func157.trans (congrArg some (by kernel_rfl))
  f338 := Tryz.func158.trans (congrArg some (by kernel_rfl))
  t0 := Tryz.underlying0
  a0 := Tryz.isAgg0
  z0 := Tryz.sizeOf0
  v0 := Tryz.zeroValue0
  t2 := Tryz.underlying2
  a2 := Tryz.isAgg2
  z2 := Tryz.sizeOf2
  v2 := Tryz.zeroValue2
  t3 := Tryz.underlying3
  a3 := Tryz.isAgg3
  z3 := Tryz.sizeOf3
  v3 := Tryz.zeroValue3
  t4 := Tryz.underlying4
  a4 := Tryz.isAgg4
  z4 := Tryz.sizeOf4
  v4 := Tryz.zeroValue4
  t5 := Tryz.underlying5
  a5 := Tryz.isAgg5
  z5 := Tryz.sizeOf5
  v5 := Tryz.zeroValue5
  t9 := Tryz.underlying9
  a9 := Tryz.isAgg9
  z9 := Tryz.sizeOf9
  v9 := Tryz.zeroValue9
  t20 := Tryz.underlying20
  a20 := Tryz.isAgg20
  z20 := Tryz.sizeOf20
  v20 := Tryz.zeroValue20
  t21 := Tryz.underlying21
  a21 := Tryz.isAgg21
  z21 := Tryz.sizeOf21
  v21 := Tryz.zeroValue21
  t37 := Tryz.underlying33
  a37 := Tryz.isAgg33
  z37 := Tryz.sizeOf33
  v37 := Tryz.zeroValue33
  t46 := Tryz.underlying181
  a46 := Tryz.isAgg181
  z46 := Tryz.sizeOf181
  v46 := Tryz.zeroValue181
  t51 := Tryz.underlying165
  a51 := Tryz.isAgg165
  z51 := Tryz.sizeOf165
  v51 := Tryz.zeroValue165
  t53 := Tryz.underlying169
  a53 := Tryz.isAgg169
  z53 := Tryz.sizeOf169
  v53 := Tryz.zeroValue169
  t75 := Tryz.underlying68
  a75 := Tryz.isAgg68
  z75 := Tryz.sizeOf68
  v75 := Tryz.zeroValue68
  t76 := Tryz.underlying70
  a76 := Tryz.isAgg70
  z76 := Tryz.sizeOf70
  v76 := Tryz.zeroValue70
  t85 := Tryz.underlying160
  a85 := Tryz.isAgg160
  z85 := Tryz.sizeOf160
  v85 := Tryz.zeroValue160
  t127 := Tryz.underlying99
  a127 := Tryz.isAgg99
  z127 := Tryz.sizeOf99
  v127 := Tryz.zeroValue99
  t143 := Tryz.underlying205
  a143 := Tryz.isAgg205
  z143 := Tryz.sizeOf205
  v143 := Tryz.zeroValue205
  t145 := Tryz.underlying207
  a145 := Tryz.isAgg207
  z145 := Tryz.sizeOf207
  v145 := Tryz.zeroValue207
  t167 := Tryz.underlying159
  a167 := Tryz.isAgg159
  z167 := Tryz.sizeOf159
  v167 := Tryz.zeroValue159
  t168 := Tryz.underlying162
  a168 := Tryz.isAgg162
  z168 := Tryz.sizeOf162
  v168 := Tryz.zeroValue162
  t171 := Tryz.underlying168
  a171 := Tryz.isAgg168
  z171 := Tryz.sizeOf168
  v171 := Tryz.zeroValue168
  t173 := Tryz.underlying172
  a173 := Tryz.isAgg172
  z173 := Tryz.sizeOf172
  v173 := Tryz.zeroValue172
  t175 := Tryz.underlying179
  a175 := Tryz.isAgg179
  z175 := Tryz.sizeOf179
  v175 := Tryz.zeroValue179
  t210 := Tryz.underlying183
  a210 := Tryz.isAgg183
  z210 := Tryz.sizeOf183
  v210 := Tryz.zeroValue183
  t212 := Tryz.underlying200
  a212 := Tryz.isAgg200
  z212 := Tryz.sizeOf200
  v212 := Tryz.zeroValue200
  t213 := Tryz.underlying201
  a213 := Tryz.isAgg201
  z213 := Tryz.sizeOf201
  t232 := Tryz.underlying212
  a232 := Tryz.isAgg212
  z232 := Tryz.sizeOf212
  v232 := Tryz.zeroValue212
  t233 := Tryz.underlying213
  a233 := Tryz.isAgg213
  z233 := Tryz.sizeOf213
  v233 := Tryz.zeroValue213
  g15 := by kernel_rfl
  g16 := by kernel_rfl
  g17 := by kernel_rfl
  g18 := by kernel_rfl
  g19 := by kernel_rfl
  t80 := Tryz.underlying72
  a80 := Tryz.isAgg72
  z80 := Tryz.sizeOf72
  v80 := Tryz.zeroValue72
  i0 := by kernel_rfl
  i2 := by kernel_rfl
  i3 := by kernel_rfl
  i4 := by kernel_rfl
  i5 := by kernel_rfl
  i9 := by kernel_rfl
  i20 := by kernel_rfl
  i21 := by kernel_rfl
  i37 := by kernel_rfl
  i46 := by kernel_rfl
  i51 := by kernel_rfl
  i53 := by kernel_rfl
  i75 := by kernel_rfl
  i76 := by kernel_rfl
  i80 := by kernel_rfl
  i85 := by kernel_rfl
  i127 := by kernel_rfl
  i143 := by kernel_rfl
  i145 := by kernel_rfl
  i167 := by kernel_rfl
  i168 := by kernel_rfl
  i171 := by kernel_rfl
  i173 := by kernel_rfl
  i175 := by kernel_rfl
  i210 := by kernel_rfl
  i212 := by kernel_rfl
  i232 := by kernel_rfl
  i233 := by kernel_rfl
  m15 := by kernel_rfl
  m16 := by kernel_rfl
  m17 := by kernel_rfl
  m18 := by kernel_rfl
  m19 := by kernel_rfl
  c0 := by kernel_rfl
  c2 := by kernel_rfl
  c3 := by kernel_rfl
  c4 := by kernel_rfl
  c5 := by kernel_rfl
  c9 := by kernel_rfl
  c20 := by kernel_rfl
  c21 := by kernel_rfl
  c37 := by kernel_rfl
  c46 := by kernel_rfl
  c51 := by kernel_rfl
  c53 := by kernel_rfl
  c75 := by kernel_rfl
  c76 := by kernel_rfl
  c80 := by kernel_rfl
  c85 := by kernel_rfl
  c127 := by kernel_rfl
  c143 := by kernel_rfl
  c145 := by kernel_rfl
  c167 := by kernel_rfl
  c168 := by kernel_rfl
  c171 := by kernel_rfl
  c173 := by kernel_rfl
  c175 := by kernel_rfl
  c210 := by kernel_rfl
  c212 := by kernel_rfl
  c213 := by kernel_rfl
  c232 := by kernel_rfl
  c233 := by kernel_rfl }
open Go.RowKit in
/-- strconv.Atoi, AT EVERY STRING THAT SPELLS AN int ('Lib.atoiAll .. = .ok v'; of whatever length: leading zeros count): v, AND NO ERROR. The world: as it was, or with the one new row that '[]byte(..)' lays. (LAID: no walk: one application.) -/
theorem Tryz.strconv_Atoi_ok (s : ByteArray) (hmax : s.size ≤ 9223372036854775806) (v : Int) (h : Lib.atoiAll s.data.toList = .ok v) (w : World) :
    Calls Tryz.prog 107 #[.string s] w fun e w' => e = .returned (.tuple #[.int .i64 v, .nilIface]) ∧ (w' = w ∨ ∃ t, w' = Lib.bytesWorld w 5 t) := Any.strconv_Atoi_ok Tryz.laysC172 s hmax v h w
open Go.RowKit in
/-- strconv.Atoi, AT EVERY NUMERAL THAT NO int HOLDS ('.range'): THE GREATEST OR THE LEAST int, BY THE SIGN ('Lib.atoiSat'), AND AN ERROR THAT IS NOT nil: a *NumError in a new block N: {Func: "Atoi", Num: s's bytes, Err: what the variable ErrRange holds}. Of what was there nothing has turned. (LAID: no walk: one application.) -/
theorem Tryz.strconv_Atoi_range (s : ByteArray) (hlim : s.size ≤ 281474976710656) (h : Lib.atoiAll s.data.toList = .range) (ev : Value) (w : World) (hv : w.cell? ⟨6, 0, none⟩ = some ev) (hev : ev = .nilIface ∨ ∃ te pe, ev = .iface te pe) :
    Calls Tryz.prog 107 #[.string s] w fun e w' => ∃ N, e = .returned (.tuple #[.int .i64 (Lib.atoiSat s.data.toList), .iface 162 (.pointer (some ⟨N, 0, none⟩))]) ∧ w.heap.size ≤ N ∧ w'.heap[N]? = some (.cells #[.string ⟨#[65, 116, 111, 105]⟩, .string s, ev] 183 (0, 0)) ∧ Below w.heap.size w w' := Any.strconv_Atoi_range Tryz.laysC172 s hlim h ev w hv hev
end Go.Proofs
namespace Go.Proofs.YtfkmnpgpfmkjaaaGreatDoor
open Go.ChangeShapes Go.WideShapes Go.ChangeAt Go.RowKit Go.Shelf
attribute [local go_sem] Oper.semAt_some

namespace Lx
def valF (acc : Nat) (l : List UInt8) : Nat := l.foldl (fun a c => 10 * a + (c.toNat - 48)) acc
theorem valF_ge : ∀ (l : List UInt8) (acc : Nat), acc ≤ valF acc l
  | [], acc => Nat.le_refl _
  | c :: r, acc => by
    have := valF_ge r (10 * acc + (c.toNat - 48))
    show acc ≤ valF (10 * acc + (c.toNat - 48)) r
    omega
theorem dg_iff {c : UInt8} (h : dg c = true) : 48 ≤ c.toNat ∧ c.toNat ≤ 57 := by
  unfold dg kd at h
  by_cases h1 : c.toNat = 32 ∨ c.toNat = 9 ∨ c.toNat = 10 ∨ c.toNat = 13
  · rw [if_pos h1] at h; cases h
  · rw [if_neg h1] at h
    by_cases h2 : (97 ≤ c.toNat ∧ c.toNat ≤ 122) ∨ (65 ≤ c.toNat ∧ c.toNat ≤ 90)
    · rw [if_pos h2] at h; cases h
    · rw [if_neg h2] at h
      by_cases h3 : 48 ≤ c.toNat ∧ c.toNat ≤ 57
      · exact h3
      · rw [if_neg h3] at h
        split at h <;> cases h
theorem parse_dg : ∀ (l : List UInt8) (acc : Nat), (∀ c ∈ l, dg c = true) → acc < 18446744073709551616 →
    Lib.parseUint10 acc l = if valF acc l < 18446744073709551616 then .ok (valF acc l) else .range
  | [], acc, _, ha => by
    rw [Lib.parseUint10, if_pos (show valF acc [] < _ from ha)]; rfl
  | c :: r, acc, hl, ha => by
    have hc := dg_iff (hl c (by simp))
    have hge := valF_ge r (10 * acc + (c.toNat - 48))
    have hv : valF acc (c :: r) = valF (10 * acc + (c.toNat - 48)) r := rfl
    rw [Lib.parseUint10, if_pos hc, hv]
    by_cases h1 : 1844674407370955162 ≤ acc
    · rw [if_pos h1, if_neg (by omega)]
    · rw [if_neg h1]
      by_cases h2 : 18446744073709551616 ≤ acc * 10 + (c.toNat - 48)
      · rw [if_pos h2, if_neg (by omega)]
      · rw [if_neg h2, show acc * 10 + (c.toNat - 48) = 10 * acc + (c.toNat - 48) by omega]
        exact parse_dg r _ (fun d hd => hl d (by simp [hd])) (by omega)
theorem atoi_dg {l : List UInt8} (hl : ∀ c ∈ l, dg c = true) (h0 : l ≠ []) : Lib.atoiAll l = if val l ≤ 9223372036854775807 then .ok (val l : Int) else .range := by
  obtain ⟨c, r, rfl⟩ : ∃ c r, l = c :: r := by cases l with
    | nil => exact absurd rfl h0
    | cons c r => exact ⟨c, r, rfl⟩
  have hc := dg_iff (hl c (by simp))
  have hp := parse_dg (c :: r) 0 hl (by decide)
  have hv : valF 0 (c :: r) = val (c :: r) := rfl
  rw [hv] at hp
  unfold Lib.atoiAll
  simp only []
  rw [if_neg (show ¬ (c.toNat = 43 ∨ c.toNat = 45) by omega)]
  unfold Lib.parseMag
  rw [if_neg (by simp), hp]
  by_cases h1 : val (c :: r) < 18446744073709551616
  · rw [if_pos h1]
    simp only []
    have hn : ¬ c.toNat = 45 := by omega
    by_cases h2 : val (c :: r) ≤ 9223372036854775807
    · rw [if_pos h2, if_neg (by omega), if_neg (by omega), if_neg hn]
    · rw [if_neg h2, if_pos (by omega)]
  · rw [if_neg h1, if_neg (by omega)]

theorem run_all (f : UInt8 → Bool) : ∀ (l : List UInt8), ∀ c ∈ l.take (run f l), f c = true
  | [], c, h => by simp at h
  | d :: r, c, h => by
    rw [run] at h
    by_cases hd : f d = true
    · rw [if_pos hd] at h
      simp only [List.take_succ_cons, List.mem_cons] at h
      rcases h with rfl | h
      · exact hd
      · exact run_all f r c h
    · rw [if_neg hd] at h; simp at h
end Lx

/-- The library's variable for numbers that are too large holds an error. -/
def Er (w : World) : Prop := ∃ ev, w.cell? ⟨6, 0, none⟩ = some ev ∧ (ev = .nilIface ∨ ∃ te pe, ev = .iface te pe)
theorem Er.kept {w w' : World} (h : Er w) (k : Kept w w') : Er w' := by
  obtain ⟨ev, h1, h2⟩ := h
  exact ⟨ev, k.cell h1, h2⟩

theorem atoi_c (y : ByteArray) (w : World) (hE : Er w) (hy : ∀ c ∈ y.data.toList, Lx.dg c = true) (h0 : y.data.toList ≠ []) (hs : y.size ≤ 281474976710656) :
    Calls Tryz.prog 107 #[.string y] w fun e w' => (if Lx.val y.data.toList ≤ 9223372036854775807 then e = .returned (.tuple #[.int .i64 (Lx.val y.data.toList), .nilIface]) else ∃ m t q, e = .returned (.tuple #[.int .i64 m, .iface t q])) ∧ Kept w w' := by
  have ha := Lx.atoi_dg hy h0
  by_cases h : Lx.val y.data.toList ≤ 9223372036854775807
  · rw [if_pos h] at ha
    refine (Tryz.strconv_Atoi_ok y (by omega) _ ha w).mono ?_
    rintro e w' ⟨he, hw⟩
    rw [if_pos h]
    refine ⟨he, ?_⟩
    rcases hw with rfl | ⟨t, rfl⟩
    · exact Kept.refl _
    · exact Kept.of_below (Lib.bytesWorld_below _ _ _)
  · rw [if_neg h] at ha
    obtain ⟨ev, h1, h2⟩ := hE
    refine (Tryz.strconv_Atoi_range y hs ha ev w h1 h2).mono ?_
    rintro e w' ⟨N, he, _, _, hb⟩
    rw [if_neg h]
    exact ⟨⟨_, _, _, he⟩, Kept.of_below hb⟩

theorem has_r (s : List UInt8) : Lx.has s ⟨#[114]⟩ = decide ((s.headD 0).toNat = 114) := by
  unfold Lx.has
  cases s with
  | nil => rfl
  | cons c r =>
    show (114 == c && List.isPrefixOf [] r) = _
    rw [Bool.eq_iff_iff]
    simp
    exact ⟨fun h => by subst h; rfl, fun h => UInt8.toNat_inj.1 (by rw [h]; rfl)⟩

theorem run_z (i : Int) (an : Bool) (a : Option Addr) (c : Nat) (l : List UInt8) (p : Nat) (w : World) (h : SrcAt w (.slice a l.length c) l) (hp : p ≤ l.length) (hi : i = (p : Int)) :
    Calls Tryz.prog 103 #[.slice a l.length c, .int .i64 i, .bool an] w fun r w' => r = .returned (.int .i64 ((p + Lx.run (if an then Lx.an else Lx.dg) (l.drop p) : Nat) : Int)) ∧ Kept w w' := by
  subst hi; exact run_c an a c l p w h hp
theorem has_z (i : Int) (x : ByteArray) (a : Option Addr) (c : Nat) (l : List UInt8) (p : Nat) (w : World) (h : SrcAt w (.slice a l.length c) l) (hp : p ≤ l.length) (hx : 0 < x.size) (hi : i = (p : Int)) :
    Calls Tryz.prog 81 #[.slice a l.length c, .int .i64 i, .string x] w fun r w' => r = .returned (.bool (Lx.has (l.drop p) x)) ∧ w' = w := by
  subst hi; exact has_c x a c l p w h hp hx
theorem refuse_z (i : Int) (e : Int) (q : Nat) (w : World) (hi : i = (q : Int)) : Calls Tryz.prog 104 #[.int .i64 e, .int .i64 i] w fun r w' => r = .returned (badV e (q : Int)) ∧ Kept w w' := by
  subst hi; exact refuse_c e q w

set_option maxHeartbeats 8000000 in
theorem number_c (a : Option Addr) (c : Nat) (l : List UInt8) (p : Nat) (w : World) (h : SrcAt w (.slice a l.length c) l) (hEr : Er w) (hp : p < l.length) (h2 : Lx.kd l[p] = 3) (hl : l.length ≤ 20000) :
    Calls Tryz.prog 84 #[.slice a l.length c, .int .i64 p] w fun r w' => r = .returned (wayV p (Lx.number (l.drop p))) ∧ Kept w w' := by
  have hcap := h.cap
  unfold maxLen at hcap
  obtain ⟨k, hk⟩ : ∃ k, Lx.run Lx.dg (l.drop p) = k := ⟨_, rfl⟩
  have hk0 : 0 < k := by rw [← hk, drop_at hp]; exact Lx.run_pos (by unfold Lx.dg; simp [h2])
  have hkl : p + k ≤ l.length := by have := Lx.run_le Lx.dg (l.drop p); rw [hk, List.length_drop] at this; omega
  have hall := Lx.run_all Lx.dg (l.drop p)
  rw [hk] at hall
  obtain ⟨y, hy⟩ : ∃ y : ByteArray, ⟨((l.drop p).take k).toArray⟩ = y := ⟨_, rfl⟩
  have hyl : y.data.toList = (l.drop p).take k := by rw [← hy]
  have hys : y.size = k := by rw [← hy]; exact Lx.take_size _ _ (by rw [List.length_drop]; omega)
  have hy0 : y.data.toList ≠ [] := by
    intro e
    have : y.data.toList.length = y.size := by rw [Array.length_toList]; rfl
    rw [e, hys] at this
    simp at this; omega
  rw [← hyl] at hall
  obtain ⟨v, hv⟩ : ∃ v, Lx.val y.data.toList = v := ⟨_, rfl⟩
  have hHR := has_r (l.drop (p + k))
  obtain ⟨isR, hisR⟩ : ∃ b, decide (((l.drop (p + k)).headD 0).toNat = 114) = b := ⟨_, rfl⟩
  rw [hisR] at hHR
  obtain ⟨b, o, rfl, hcv⟩ := cut_is h hk0 hkl
  rw [hy] at hcv
  have hch : ((l.drop p).headD 0) = l[p] := by rw [drop_at hp]; rfl
  have HV : Hid (Lx.number (l.drop p) = Lx.numR (l.drop p) k isR) := Lib.hid (by unfold Lx.number; rw [hk, List.drop_drop, hisR])
  have HWR : Hid (Lx.wrong (l.drop p) k = (decide (9223372036854775807 < v) || (decide (l[p].toNat = 48) && decide (1 < k)))) := Lib.hid (by unfold Lx.wrong; rw [hch, ← hyl, hv])
  have HVAL := Lib.hid (show Lx.val ((l.drop p).take k) = v by rw [← hyl, hv])
  obtain ⟨b', o', e', y0⟩ := h.at hp
  injection e' with e'
  injection e' with e1 e2
  subst e1 e2
  have hRl : isR = true → p + k < l.length := by
    intro h
    rw [h] at hisR
    rcases Nat.lt_or_ge (p + k) l.length with h | h
    · exact h
    · rw [List.drop_of_length_le h] at hisR; simp at hisR
  have HDR := Lib.hid (show ∀ j, (l.drop p).drop j = l.drop (p + j) from fun j => List.drop_drop ..)
  have HS := Lib.hid h
  obtain ⟨W1, hW1⟩ : ∃ W1, (w.alloc (.cells #[.int .i64 0, .string ⟨#[]⟩, .int .i64 0, .int .i64 0] 48)).alloc (.cells #[.int .i64 0, .int .i64 0] 36) = W1 := ⟨_, rfl⟩
  have k1 : Kept w W1 := by rw [← hW1]; exact ((Kept.refl w).alloc _).alloc _
  have HR1 := Lib.hid (show Res2 w.heap.size W1 by rw [← hW1]; exact Res2.new w)
  have HRUN := Lib.hid (run_c false (some ⟨b, o, none⟩) c l p W1 (src_kept h k1) (by omega))
  rw [if_neg (by decide), hk] at HRUN
  have HW := Lib.hid hW1
  have HK1 := Lib.hid k1
  have HCV := Lib.hid hcv
  have HE0 := Lib.hid hEr
  have HY := Lib.hid (And.intro hall hy0)
  rw [HV.out]
  clear h hEr h2 hcv hk hy hW1 k1 hall hy0 hisR hyl hch
  generalize l[p] = ch at *
  have hn := ch.toNat_lt
  generalize ch.toNat = n at *
  have HHR := Lib.hid hHR
  have HVV := Lib.hid hv
  clear hHR hv
  go_enter Tryz.func84, Tryz.ntmps84
  go_wp2_with (rw [HW.out])
  refine HRUN.out.mono ?_
  rintro e W2 ⟨rfl, k2⟩
  have HK2 := Lib.hid (HK1.out.trans k2)
  have HR2 := Lib.hid (HR1.out.kept k2)
  clear k2 HR1 HRUN HK1 HW
  have e1 : (((p + k : Nat) : Int) - (p : Int)) = (k : Int) := by omega
  have hsl := fun W => sliced_is (a := some ⟨b, o, none⟩) rfl hk0 (show p + k ≤ c by omega) W (p : Int) ((p + k : Nat) : Int) rfl rfl l.length
  have hcw := HCV.out W2 HK2.out
  have HAT := Lib.hid (atoi_c y W2 (HE0.out.kept HK2.out) HY.out.1 HY.out.2 (by omega))
  rw [HVV.out] at HAT
  go_wp2_with fail
  refine HAT.out.mono ?_
  rintro e W3 ⟨he, k3⟩
  have HK3 := Lib.hid (HK2.out.trans k3)
  have HR3 := Lib.hid (HR2.out.kept k3)
  clear k3 HK2 HR2 HAT hcw HE0 HCV HY
  have y3 := HK3.out.cell y0
  have hsz := HR3.out.2.lt
  clear y0
  by_cases hbig : v ≤ 9223372036854775807
  · rw [if_pos hbig] at he
    subst he
    have hbigI : (v : Int) ≤ 9223372036854775807 := by omega
    by_cases hz : n = 48 ∧ 1 < k
    · have HKN := Lib.hid (show Lx.wrong (l.drop p) k = true by rw [HWR.out]; simp [hz.1, hz.2])
      obtain ⟨rfl, hk1⟩ := hz
      have hk1I : (1 : Int) < (k : Int) := by omega
      obtain ⟨W4, hW4⟩ : ∃ W4, W3.alloc (.cells #[.int .i64 4, .string ⟨#[]⟩, .int .i64 v, .int .i64 p] 48) = W4 := ⟨_, rfl⟩
      have k34 : Kept W3 W4 := by rw [← hW4]; exact (Kept.refl W3).alloc _
      have HB4 := Lib.hid (show Blk W4 W3.heap.size 48 #[.int .i64 4, .string ⟨#[]⟩, .int .i64 v, .int .i64 p] by rw [← hW4]; exact Blk.new _ _ _)
      have HK4 := Lib.hid (HK3.out.trans k34)
      have HR4 := Lib.hid (HR3.out.kept k34)
      have HW4 := Lib.hid hW4
      have HHAS := Lib.hid (fun i (hi : i = ((p + k : Nat) : Int)) => has_z i ⟨#[114]⟩ (some ⟨b, o, none⟩) c l (p + k) W4 (src_kept HS.out HK4.out) (by omega) (by decide) hi)
      rw [HHR.out] at HHAS
      clear hW4 k34 HK3 HR3
      have g0 := HB4.out.frozen 0
      have d0 := HB4.out.cell 0
      have d1 := HB4.out.cell 1
      have d2 := HB4.out.cell 2
      have d3 := HB4.out.cell 3
      simp at d0 d1 d2 d3
      go_wp2_with (rw [HW4.out])
      refine (HHAS.out _ (by omega)).mono ?_
      rintro e W4' ⟨rfl, rfl⟩
      clear HHAS HW4
      cases isR with
      | true =>
        have HB5 := Lib.hid (HB4.out.put 0 (.int .i64 5))
        have HR5 := Lib.hid (HR4.out.set hsz 0 (.int .i64 5))
        have HK5 := Lib.hid (HK4.out.setCell (p := ⟨W3.heap.size, 0, none⟩) (by show w.heap.size ≤ W3.heap.size; omega) (.int .i64 5))
        have hpk := hRl rfl
        have HE := Lib.hid (show Lx.numR (l.drop p) k true = .bad 3 0 by unfold Lx.numR; rw [if_pos rfl, if_pos (by rw [HKN.out]; rfl)])
        clear HB4 HR4 HK4
        go_wp2_with fail
        refine (refuse_z _ 3 (p) _ (by omega)).mono ?_
        rintro e W9 ⟨rfl, k9⟩
        have hr9 := HR5.out.kept k9
        obtain ⟨⟨f0, f1, f2, f3⟩, f4, f5⟩ := hr9.froz
        obtain ⟨⟨c0, c1, c2, c3⟩, c4, c5⟩ := hr9.cel
        have HR9 := Lib.hid hr9
        have HK9 := Lib.hid (HK5.out.trans k9)
        clear hr9 k9
        go_wp2_with fail
        exact way_end (by rfl) HR9.out HK9.out rfl rfl (by rw [HE.out]; rfl)
      | false =>
        have HE := Lib.hid (show Lx.numR (l.drop p) k false = .bad 3 0 by unfold Lx.numR; rw [if_neg (by decide), if_pos (by rw [HKN.out])])
        go_wp2_with fail
        refine (refuse_z _ 3 (p) _ (by omega)).mono ?_
        rintro e W9 ⟨rfl, k9⟩
        have hr9 := HR4.out.kept k9
        obtain ⟨⟨f0, f1, f2, f3⟩, f4, f5⟩ := hr9.froz
        obtain ⟨⟨c0, c1, c2, c3⟩, c4, c5⟩ := hr9.cel
        have HR9 := Lib.hid hr9
        have HK9 := Lib.hid (HK4.out.trans k9)
        clear hr9 k9
        go_wp2_with fail
        exact way_end (by rfl) HR9.out HK9.out rfl rfl (by rw [HE.out]; rfl)
    · have HKN := Lib.hid (show Lx.wrong (l.drop p) k = false by rw [HWR.out, decide_eq_false (by omega), Bool.false_or, Bool.and_eq_false_iff]; simp only [decide_eq_false_iff_not]; omega)
      have hnk : (n = 48 ∧ ((n : Int) == 48) = true ∧ ¬ (1 : Int) < (k : Int)) ∨ (((n : Int) == 48) = false) := by
        by_cases h : n = 48
        · exact .inl ⟨h, by simp; omega, by omega⟩
        · exact .inr (by simp; omega)
      rcases hnk with ⟨rfl, _, hk1I⟩ | hn48
      · obtain ⟨W4, hW4⟩ : ∃ W4, W3.alloc (.cells #[.int .i64 4, .string ⟨#[]⟩, .int .i64 v, .int .i64 p] 48) = W4 := ⟨_, rfl⟩
        have k34 : Kept W3 W4 := by rw [← hW4]; exact (Kept.refl W3).alloc _
        have HB4 := Lib.hid (show Blk W4 W3.heap.size 48 #[.int .i64 4, .string ⟨#[]⟩, .int .i64 v, .int .i64 p] by rw [← hW4]; exact Blk.new _ _ _)
        have HK4 := Lib.hid (HK3.out.trans k34)
        have HR4 := Lib.hid (HR3.out.kept k34)
        have HW4 := Lib.hid hW4
        have HHAS := Lib.hid (fun i (hi : i = ((p + k : Nat) : Int)) => has_z i ⟨#[114]⟩ (some ⟨b, o, none⟩) c l (p + k) W4 (src_kept HS.out HK4.out) (by omega) (by decide) hi)
        rw [HHR.out] at HHAS
        clear hW4 k34 HK3 HR3
        have g0 := HB4.out.frozen 0
        have d0 := HB4.out.cell 0
        have d1 := HB4.out.cell 1
        have d2 := HB4.out.cell 2
        have d3 := HB4.out.cell 3
        simp at d0 d1 d2 d3
        go_wp2_with (rw [HW4.out])
        refine (HHAS.out _ (by omega)).mono ?_
        rintro e W4' ⟨rfl, rfl⟩
        clear HHAS HW4
        cases isR with
        | true =>
          have HB5 := Lib.hid (HB4.out.put 0 (.int .i64 5))
          have HR5 := Lib.hid (HR4.out.set hsz 0 (.int .i64 5))
          have HK5 := Lib.hid (HK4.out.setCell (p := ⟨W3.heap.size, 0, none⟩) (by show w.heap.size ≤ W3.heap.size; omega) (.int .i64 5))
          have hpk := hRl rfl
          by_cases h53 : 9007199254740992 < v
          · have h53I : (9007199254740992 : Int) < (v : Int) := by omega
            have HE := Lib.hid (show Lx.numR (l.drop p) k true = .bad 3 0 by unfold Lx.numR; rw [if_pos rfl, if_pos (by rw [HVAL.out, HKN.out]; simpa using h53)])
            clear HB4 HR4 HK4
            go_wp2_with fail
            refine (refuse_z _ 3 (p) _ (by omega)).mono ?_
            rintro e W9 ⟨rfl, k9⟩
            have hr9 := HR5.out.kept k9
            obtain ⟨⟨f0, f1, f2, f3⟩, f4, f5⟩ := hr9.froz
            obtain ⟨⟨c0, c1, c2, c3⟩, c4, c5⟩ := hr9.cel
            have HR9 := Lib.hid hr9
            have HK9 := Lib.hid (HK5.out.trans k9)
            clear hr9 k9
            go_wp2_with fail
            exact way_end (by rfl) HR9.out HK9.out rfl rfl (by rw [HE.out]; rfl)
          · have h53I : ¬ (9007199254740992 : Int) < (v : Int) := by omega
            obtain ⟨j, hj⟩ : ∃ j, Lx.run Lx.an (l.drop (p + (k + 1))) = j := ⟨_, rfl⟩
            have HRA := Lib.hid (fun W (hW : Kept w W) i (hi : i = ((p + (k + 1) : Nat) : Int)) => run_z i true (some ⟨b, o, none⟩) c l (p + (k + 1)) W (src_kept HS.out hW) (by omega) hi)
            rw [if_pos rfl, hj] at HRA
            have HE1 := Lib.hid (show Lx.numR (l.drop p) k true = if 0 < j then .bad 5 (k + 1) else .tok 5 ⟨#[]⟩ v (k + 1) by unfold Lx.numR; rw [if_pos rfl, if_neg (by rw [HVAL.out, HKN.out]; simpa using h53), HDR.out, hj, HVAL.out])
            clear hj HB4 HR4 HK4
            go_wp2_with fail
            refine (HRA.out _ HK5.out _ (by omega)).mono ?_
            rintro e W6 ⟨rfl, k6⟩
            have HB6 := Lib.hid (HB5.out.kept k6)
            have HR6 := Lib.hid (HR5.out.kept k6)
            have HK6 := Lib.hid (HK5.out.trans k6)
            clear k6 HRA g0 d0 d1 d2 d3
            have g0 := HB6.out.frozen 0
            have d0 := HB6.out.cell 0
            have d1 := HB6.out.cell 1
            have d2 := HB6.out.cell 2
            have d3 := HB6.out.cell 3
            simp at d0 d1 d2 d3
            by_cases hj0 : 0 < j
            · have hjI : (((p + (k + 1)) : Nat) : Int) < (((p + (k + 1)) + j : Nat) : Int) := by omega
              have HE := Lib.hid (HE1.out.trans (if_pos hj0))
              clear HE1
              go_wp2_with fail
              refine (refuse_z _ 5 ((p + (k + 1))) _ (by omega)).mono ?_
              rintro e W9 ⟨rfl, k9⟩
              have hr9 := HR6.out.kept k9
              obtain ⟨⟨f0, f1, f2, f3⟩, f4, f5⟩ := hr9.froz
              obtain ⟨⟨c0, c1, c2, c3⟩, c4, c5⟩ := hr9.cel
              have HR9 := Lib.hid hr9
              have HK9 := Lib.hid (HK6.out.trans k9)
              clear hr9 k9
              go_wp2_with fail
              exact way_end (by rfl) HR9.out HK9.out rfl rfl (by rw [HE.out]; rfl)
            · obtain rfl : j = 0 := by omega
              have HE := Lib.hid (HE1.out.trans (if_neg hj0))
              obtain ⟨⟨f0, f1, f2, f3⟩, f4, f5⟩ := HR6.out.froz
              obtain ⟨⟨c0, c1, c2, c3⟩, c4, c5⟩ := HR6.out.cel
              clear HE1
              go_wp2_with fail
              exact way_end (by rfl) HR6.out HK6.out rfl rfl (by rw [HE.out]; rfl)
        | false =>
          obtain ⟨j, hj⟩ : ∃ j, Lx.run Lx.an (l.drop (p + k)) = j := ⟨_, rfl⟩
          have HRA := Lib.hid (fun W (hW : Kept w W) i (hi : i = ((p + k : Nat) : Int)) => run_z i true (some ⟨b, o, none⟩) c l (p + k) W (src_kept HS.out hW) (by omega) hi)
          rw [if_pos rfl, hj] at HRA
          have HE1 := Lib.hid (show Lx.numR (l.drop p) k false = if 0 < j then .bad 5 k else .tok 4 ⟨#[]⟩ v k by unfold Lx.numR; rw [if_neg (by decide), if_neg (by rw [HKN.out]; decide), HDR.out, hj, HVAL.out])
          clear hj
          go_wp2_with fail
          refine (HRA.out _ HK4.out _ (by omega)).mono ?_
          rintro e W6 ⟨rfl, k6⟩
          have HB6 := Lib.hid (HB4.out.kept k6)
          have HR6 := Lib.hid (HR4.out.kept k6)
          have HK6 := Lib.hid (HK4.out.trans k6)
          clear k6 HRA g0 d0 d1 d2 d3
          have g0 := HB6.out.frozen 0
          have d0 := HB6.out.cell 0
          have d1 := HB6.out.cell 1
          have d2 := HB6.out.cell 2
          have d3 := HB6.out.cell 3
          simp at d0 d1 d2 d3
          by_cases hj0 : 0 < j
          · have hjI : (((p + k) : Nat) : Int) < (((p + k) + j : Nat) : Int) := by omega
            have HE := Lib.hid (HE1.out.trans (if_pos hj0))
            clear HE1
            go_wp2_with fail
            refine (refuse_z _ 5 ((p + k)) _ (by omega)).mono ?_
            rintro e W9 ⟨rfl, k9⟩
            have hr9 := HR6.out.kept k9
            obtain ⟨⟨f0, f1, f2, f3⟩, f4, f5⟩ := hr9.froz
            obtain ⟨⟨c0, c1, c2, c3⟩, c4, c5⟩ := hr9.cel
            have HR9 := Lib.hid hr9
            have HK9 := Lib.hid (HK6.out.trans k9)
            clear hr9 k9
            go_wp2_with fail
            exact way_end (by rfl) HR9.out HK9.out rfl rfl (by rw [HE.out]; rfl)
          · obtain rfl : j = 0 := by omega
            have HE := Lib.hid (HE1.out.trans (if_neg hj0))
            obtain ⟨⟨f0, f1, f2, f3⟩, f4, f5⟩ := HR6.out.froz
            obtain ⟨⟨c0, c1, c2, c3⟩, c4, c5⟩ := HR6.out.cel
            clear HE1
            go_wp2_with fail
            exact way_end (by rfl) HR6.out HK6.out rfl rfl (by rw [HE.out]; rfl)
      · obtain ⟨W4, hW4⟩ : ∃ W4, W3.alloc (.cells #[.int .i64 4, .string ⟨#[]⟩, .int .i64 v, .int .i64 p] 48) = W4 := ⟨_, rfl⟩
        have k34 : Kept W3 W4 := by rw [← hW4]; exact (Kept.refl W3).alloc _
        have HB4 := Lib.hid (show Blk W4 W3.heap.size 48 #[.int .i64 4, .string ⟨#[]⟩, .int .i64 v, .int .i64 p] by rw [← hW4]; exact Blk.new _ _ _)
        have HK4 := Lib.hid (HK3.out.trans k34)
        have HR4 := Lib.hid (HR3.out.kept k34)
        have HW4 := Lib.hid hW4
        have HHAS := Lib.hid (fun i (hi : i = ((p + k : Nat) : Int)) => has_z i ⟨#[114]⟩ (some ⟨b, o, none⟩) c l (p + k) W4 (src_kept HS.out HK4.out) (by omega) (by decide) hi)
        rw [HHR.out] at HHAS
        clear hW4 k34 HK3 HR3
        have g0 := HB4.out.frozen 0
        have d0 := HB4.out.cell 0
        have d1 := HB4.out.cell 1
        have d2 := HB4.out.cell 2
        have d3 := HB4.out.cell 3
        simp at d0 d1 d2 d3
        go_wp2_with (rw [HW4.out])
        refine (HHAS.out _ (by omega)).mono ?_
        rintro e W4' ⟨rfl, rfl⟩
        clear HHAS HW4
        cases isR with
        | true =>
          have HB5 := Lib.hid (HB4.out.put 0 (.int .i64 5))
          have HR5 := Lib.hid (HR4.out.set hsz 0 (.int .i64 5))
          have HK5 := Lib.hid (HK4.out.setCell (p := ⟨W3.heap.size, 0, none⟩) (by show w.heap.size ≤ W3.heap.size; omega) (.int .i64 5))
          have hpk := hRl rfl
          by_cases h53 : 9007199254740992 < v
          · have h53I : (9007199254740992 : Int) < (v : Int) := by omega
            have HE := Lib.hid (show Lx.numR (l.drop p) k true = .bad 3 0 by unfold Lx.numR; rw [if_pos rfl, if_pos (by rw [HVAL.out, HKN.out]; simpa using h53)])
            clear HB4 HR4 HK4
            go_wp2_with fail
            refine (refuse_z _ 3 (p) _ (by omega)).mono ?_
            rintro e W9 ⟨rfl, k9⟩
            have hr9 := HR5.out.kept k9
            obtain ⟨⟨f0, f1, f2, f3⟩, f4, f5⟩ := hr9.froz
            obtain ⟨⟨c0, c1, c2, c3⟩, c4, c5⟩ := hr9.cel
            have HR9 := Lib.hid hr9
            have HK9 := Lib.hid (HK5.out.trans k9)
            clear hr9 k9
            go_wp2_with fail
            exact way_end (by rfl) HR9.out HK9.out rfl rfl (by rw [HE.out]; rfl)
          · have h53I : ¬ (9007199254740992 : Int) < (v : Int) := by omega
            obtain ⟨j, hj⟩ : ∃ j, Lx.run Lx.an (l.drop (p + (k + 1))) = j := ⟨_, rfl⟩
            have HRA := Lib.hid (fun W (hW : Kept w W) i (hi : i = ((p + (k + 1) : Nat) : Int)) => run_z i true (some ⟨b, o, none⟩) c l (p + (k + 1)) W (src_kept HS.out hW) (by omega) hi)
            rw [if_pos rfl, hj] at HRA
            have HE1 := Lib.hid (show Lx.numR (l.drop p) k true = if 0 < j then .bad 5 (k + 1) else .tok 5 ⟨#[]⟩ v (k + 1) by unfold Lx.numR; rw [if_pos rfl, if_neg (by rw [HVAL.out, HKN.out]; simpa using h53), HDR.out, hj, HVAL.out])
            clear hj HB4 HR4 HK4
            go_wp2_with fail
            refine (HRA.out _ HK5.out _ (by omega)).mono ?_
            rintro e W6 ⟨rfl, k6⟩
            have HB6 := Lib.hid (HB5.out.kept k6)
            have HR6 := Lib.hid (HR5.out.kept k6)
            have HK6 := Lib.hid (HK5.out.trans k6)
            clear k6 HRA g0 d0 d1 d2 d3
            have g0 := HB6.out.frozen 0
            have d0 := HB6.out.cell 0
            have d1 := HB6.out.cell 1
            have d2 := HB6.out.cell 2
            have d3 := HB6.out.cell 3
            simp at d0 d1 d2 d3
            by_cases hj0 : 0 < j
            · have hjI : (((p + (k + 1)) : Nat) : Int) < (((p + (k + 1)) + j : Nat) : Int) := by omega
              have HE := Lib.hid (HE1.out.trans (if_pos hj0))
              clear HE1
              go_wp2_with fail
              refine (refuse_z _ 5 ((p + (k + 1))) _ (by omega)).mono ?_
              rintro e W9 ⟨rfl, k9⟩
              have hr9 := HR6.out.kept k9
              obtain ⟨⟨f0, f1, f2, f3⟩, f4, f5⟩ := hr9.froz
              obtain ⟨⟨c0, c1, c2, c3⟩, c4, c5⟩ := hr9.cel
              have HR9 := Lib.hid hr9
              have HK9 := Lib.hid (HK6.out.trans k9)
              clear hr9 k9
              go_wp2_with fail
              exact way_end (by rfl) HR9.out HK9.out rfl rfl (by rw [HE.out]; rfl)
            · obtain rfl : j = 0 := by omega
              have HE := Lib.hid (HE1.out.trans (if_neg hj0))
              obtain ⟨⟨f0, f1, f2, f3⟩, f4, f5⟩ := HR6.out.froz
              obtain ⟨⟨c0, c1, c2, c3⟩, c4, c5⟩ := HR6.out.cel
              clear HE1
              go_wp2_with fail
              exact way_end (by rfl) HR6.out HK6.out rfl rfl (by rw [HE.out]; rfl)
        | false =>
          obtain ⟨j, hj⟩ : ∃ j, Lx.run Lx.an (l.drop (p + k)) = j := ⟨_, rfl⟩
          have HRA := Lib.hid (fun W (hW : Kept w W) i (hi : i = ((p + k : Nat) : Int)) => run_z i true (some ⟨b, o, none⟩) c l (p + k) W (src_kept HS.out hW) (by omega) hi)
          rw [if_pos rfl, hj] at HRA
          have HE1 := Lib.hid (show Lx.numR (l.drop p) k false = if 0 < j then .bad 5 k else .tok 4 ⟨#[]⟩ v k by unfold Lx.numR; rw [if_neg (by decide), if_neg (by rw [HKN.out]; decide), HDR.out, hj, HVAL.out])
          clear hj
          go_wp2_with fail
          refine (HRA.out _ HK4.out _ (by omega)).mono ?_
          rintro e W6 ⟨rfl, k6⟩
          have HB6 := Lib.hid (HB4.out.kept k6)
          have HR6 := Lib.hid (HR4.out.kept k6)
          have HK6 := Lib.hid (HK4.out.trans k6)
          clear k6 HRA g0 d0 d1 d2 d3
          have g0 := HB6.out.frozen 0
          have d0 := HB6.out.cell 0
          have d1 := HB6.out.cell 1
          have d2 := HB6.out.cell 2
          have d3 := HB6.out.cell 3
          simp at d0 d1 d2 d3
          by_cases hj0 : 0 < j
          · have hjI : (((p + k) : Nat) : Int) < (((p + k) + j : Nat) : Int) := by omega
            have HE := Lib.hid (HE1.out.trans (if_pos hj0))
            clear HE1
            go_wp2_with fail
            refine (refuse_z _ 5 ((p + k)) _ (by omega)).mono ?_
            rintro e W9 ⟨rfl, k9⟩
            have hr9 := HR6.out.kept k9
            obtain ⟨⟨f0, f1, f2, f3⟩, f4, f5⟩ := hr9.froz
            obtain ⟨⟨c0, c1, c2, c3⟩, c4, c5⟩ := hr9.cel
            have HR9 := Lib.hid hr9
            have HK9 := Lib.hid (HK6.out.trans k9)
            clear hr9 k9
            go_wp2_with fail
            exact way_end (by rfl) HR9.out HK9.out rfl rfl (by rw [HE.out]; rfl)
          · obtain rfl : j = 0 := by omega
            have HE := Lib.hid (HE1.out.trans (if_neg hj0))
            obtain ⟨⟨f0, f1, f2, f3⟩, f4, f5⟩ := HR6.out.froz
            obtain ⟨⟨c0, c1, c2, c3⟩, c4, c5⟩ := HR6.out.cel
            clear HE1
            go_wp2_with fail
            exact way_end (by rfl) HR6.out HK6.out rfl rfl (by rw [HE.out]; rfl)
  · rw [if_neg hbig] at he
    obtain ⟨mm, tt, qq, rfl⟩ := he
    have HKN := Lib.hid (show Lx.wrong (l.drop p) k = true by rw [HWR.out, decide_eq_true (by omega)]; rfl)
    obtain ⟨W4, hW4⟩ : ∃ W4, W3.alloc (.cells #[.int .i64 4, .string ⟨#[]⟩, .int .i64 mm, .int .i64 p] 48) = W4 := ⟨_, rfl⟩
    have k34 : Kept W3 W4 := by rw [← hW4]; exact (Kept.refl W3).alloc _
    have HB4 := Lib.hid (show Blk W4 W3.heap.size 48 #[.int .i64 4, .string ⟨#[]⟩, .int .i64 mm, .int .i64 p] by rw [← hW4]; exact Blk.new _ _ _)
    have HK4 := Lib.hid (HK3.out.trans k34)
    have HR4 := Lib.hid (HR3.out.kept k34)
    have HW4 := Lib.hid hW4
    have HHAS := Lib.hid (fun i (hi : i = ((p + k : Nat) : Int)) => has_z i ⟨#[114]⟩ (some ⟨b, o, none⟩) c l (p + k) W4 (src_kept HS.out HK4.out) (by omega) (by decide) hi)
    rw [HHR.out] at HHAS
    clear hW4 k34 HK3 HR3
    have g0 := HB4.out.frozen 0
    have d0 := HB4.out.cell 0
    have d1 := HB4.out.cell 1
    have d2 := HB4.out.cell 2
    have d3 := HB4.out.cell 3
    simp at d0 d1 d2 d3
    go_wp2_with (rw [HW4.out])
    refine (HHAS.out _ (by omega)).mono ?_
    rintro e W4' ⟨rfl, rfl⟩
    clear HHAS HW4
    cases isR with
    | true =>
      have HB5 := Lib.hid (HB4.out.put 0 (.int .i64 5))
      have HR5 := Lib.hid (HR4.out.set hsz 0 (.int .i64 5))
      have HK5 := Lib.hid (HK4.out.setCell (p := ⟨W3.heap.size, 0, none⟩) (by show w.heap.size ≤ W3.heap.size; omega) (.int .i64 5))
      have hpk := hRl rfl
      have HE := Lib.hid (show Lx.numR (l.drop p) k true = .bad 3 0 by unfold Lx.numR; rw [if_pos rfl, if_pos (by rw [HKN.out]; rfl)])
      clear HB4 HR4 HK4
      go_wp2_with fail
      refine (refuse_z _ 3 (p) _ (by omega)).mono ?_
      rintro e W9 ⟨rfl, k9⟩
      have hr9 := HR5.out.kept k9
      obtain ⟨⟨f0, f1, f2, f3⟩, f4, f5⟩ := hr9.froz
      obtain ⟨⟨c0, c1, c2, c3⟩, c4, c5⟩ := hr9.cel
      have HR9 := Lib.hid hr9
      have HK9 := Lib.hid (HK5.out.trans k9)
      clear hr9 k9
      go_wp2_with fail
      exact way_end (by rfl) HR9.out HK9.out rfl rfl (by rw [HE.out]; rfl)
    | false =>
      have HE := Lib.hid (show Lx.numR (l.drop p) k false = .bad 3 0 by unfold Lx.numR; rw [if_neg (by decide), if_pos (by rw [HKN.out])])
      go_wp2_with fail
      refine (refuse_z _ 3 (p) _ (by omega)).mono ?_
      rintro e W9 ⟨rfl, k9⟩
      have hr9 := HR4.out.kept k9
      obtain ⟨⟨f0, f1, f2, f3⟩, f4, f5⟩ := hr9.froz
      obtain ⟨⟨c0, c1, c2, c3⟩, c4, c5⟩ := hr9.cel
      have HR9 := Lib.hid hr9
      have HK9 := Lib.hid (HK4.out.trans k9)
      clear hr9 k9
      go_wp2_with fail
      exact way_end (by rfl) HR9.out HK9.out rfl rfl (by rw [HE.out]; rfl)

end Go.Proofs.YtfkmnpgpfmkjaaaGreatDoor
namespace Go.Proofs.YtfkmnpgpfmkjaaaGreatDoor
open Go.ChangeShapes Go.WideShapes Go.ChangeAt Go.RowKit Go.Shelf
attribute [local go_sem] Oper.semAt_some

abbrev encU : UInt8 → Value := fun c => .int .u8 c.toNat
theorem info_u8 : (Tryz.prog.info? 5).map (fun i => (i.zero, i.size, i.bytes)) = some (some (.int .u8 0), 1, 1) := by kernel_rfl

/-- What the round's place has before it: what has been read, and what is left to read. -/
def TxtI (s : List UInt8) (q : Nat) (esc : Bool) (pre : List UInt8) : Prop :=
  q ≤ s.length ∧ (Lx.txt false s) = (pre ++ (Lx.txt esc (s.drop q)).1, q + (Lx.txt esc (s.drop q)).2.1, (Lx.txt esc (s.drop q)).2.2)

theorem TxtI.start (s : List UInt8) : TxtI s 0 false [] := ⟨Nat.zero_le _, by simp⟩
theorem TxtI.len {s : List UInt8} {q : Nat} {esc : Bool} {pre : List UInt8} (h : TxtI s q esc pre) : pre.length ≤ s.length := by
  have h1 := (Lx.txt_len false s).2.2.1
  have h2 := (Lx.txt_len false s).1
  have e := h.2
  have e1 : (Lx.txt false s).1.length = pre.length + (Lx.txt esc (s.drop q)).1.length := by rw [e]; simp
  omega

theorem TxtI.esc_ok {s : List UInt8} {q : Nat} {pre : List UInt8} (h : TxtI s q true pre) (hq : q < s.length) {m : UInt8} (hm : Lx.meant s[q] = some m) : TxtI s (q + 1) false (pre ++ [m]) := by
  obtain ⟨h1, h2⟩ := h
  refine ⟨by omega, ?_⟩
  rw [h2, List.drop_eq_getElem_cons hq, Lx.txt, hm]
  simp only [Prod.mk.injEq]
  exact ⟨by simp, by omega, trivial⟩
theorem TxtI.esc_bad {s : List UInt8} {q : Nat} {pre : List UInt8} (h : TxtI s q true pre) (hq : q < s.length) (hm : Lx.meant s[q] = none) : Lx.txt false s = (pre, q, 1) := by
  obtain ⟨h1, h2⟩ := h
  rw [h2, List.drop_eq_getElem_cons hq, Lx.txt, hm]
  simp
theorem TxtI.opens {s : List UInt8} {q : Nat} {pre : List UInt8} (h : TxtI s q false pre) (hq : q < s.length) (hm : s[q].toNat = 92) : TxtI s (q + 1) true pre := by
  obtain ⟨h1, h2⟩ := h
  refine ⟨by omega, ?_⟩
  rw [h2, List.drop_eq_getElem_cons hq, Lx.txt, if_pos hm]
  simp only [Prod.mk.injEq]
  exact ⟨trivial, by omega, trivial⟩
theorem TxtI.shuts {s : List UInt8} {q : Nat} {pre : List UInt8} (h : TxtI s q false pre) (hq : q < s.length) (h0 : s[q].toNat ≠ 92) (hm : s[q].toNat = 34) : Lx.txt false s = (pre, q, 0) := by
  obtain ⟨h1, h2⟩ := h
  rw [h2, List.drop_eq_getElem_cons hq, Lx.txt, if_neg h0, if_pos hm]
  simp
theorem TxtI.goes {s : List UInt8} {q : Nat} {pre : List UInt8} (h : TxtI s q false pre) (hq : q < s.length) (h0 : s[q].toNat ≠ 92) (h1 : s[q].toNat ≠ 34) (hp : Lx.pr s[q] = true) : TxtI s (q + 1) false (pre ++ [s[q]]) := by
  obtain ⟨h2, h3⟩ := h
  refine ⟨by omega, ?_⟩
  rw [h3, List.drop_eq_getElem_cons hq, Lx.txt, if_neg h0, if_neg h1, if_pos hp]
  simp only [Prod.mk.injEq]
  exact ⟨by simp, by omega, trivial⟩
theorem TxtI.bad {s : List UInt8} {q : Nat} {pre : List UInt8} (h : TxtI s q false pre) (hq : q < s.length) (h0 : s[q].toNat ≠ 92) (h1 : s[q].toNat ≠ 34) (hp : Lx.pr s[q] = false) : Lx.txt false s = (pre, q, 1) := by
  obtain ⟨h2, h3⟩ := h
  rw [h3, List.drop_eq_getElem_cons hq, Lx.txt, if_neg h0, if_neg h1, hp]
  simp
theorem TxtI.ends {s : List UInt8} {esc : Bool} {pre : List UInt8} (h : TxtI s s.length esc pre) : Lx.txt false s = (pre, s.length, 2) := by
  obtain ⟨h1, h2⟩ := h
  rw [h2, List.drop_of_length_le (Nat.le_refl _)]
  cases esc <;> simp [Lx.txt]

theorem kd_quote (c : UInt8) : ((Lx.kd c : Int) == 4) = decide (c.toNat = 34) := by
  have hn := c.toNat_lt
  unfold Lx.kd
  by_cases h1 : c.toNat = 32 ∨ c.toNat = 9 ∨ c.toNat = 10 ∨ c.toNat = 13
  · rw [if_pos h1, decide_eq_false (by omega)]; rfl
  · rw [if_neg h1]
    by_cases h2 : (97 ≤ c.toNat ∧ c.toNat ≤ 122) ∨ (65 ≤ c.toNat ∧ c.toNat ≤ 90)
    · rw [if_pos h2, decide_eq_false (by omega)]; rfl
    · rw [if_neg h2]
      by_cases h3 : 48 ≤ c.toNat ∧ c.toNat ≤ 57
      · rw [if_pos h3, decide_eq_false (by omega)]; rfl
      · rw [if_neg h3]
        by_cases h4 : c.toNat = 34
        · rw [if_pos h4, decide_eq_true h4]; rfl
        · rw [if_neg h4, decide_eq_false h4]; rfl

/-- The text that a row of one's own is. -/
theorem own_text {n₁ n : Nat} {W : World} {v : Value} {pre : List UInt8} (hn : n = pre.length) (h : W.ownsRow n₁ 5 1 v n (pre.map encU)) : (convert 33 9 v).run Tryz.prog W = .ok (.string ⟨pre.toArray⟩) W := by
  subst hn
  rcases h.2 with ⟨rfl, h0⟩ | ⟨g, cap, cur, rfl, hg1, hg2, hg3, hg4, hg5, hg6⟩
  · obtain rfl : pre = [] := List.eq_nil_of_length_eq_zero h0
    have := run_convert_bytes_string (P := Tryz.prog) W 33 9 5 none 0 0 (by kernel_rfl) (by kernel_rfl) (by kernel_rfl)
    rw [this]
    rfl
  · exact run_convert_bytes_back (P := Tryz.prog) W 33 9 5 ⟨g, 0, none⟩ cap pre (by kernel_rfl) (by kernel_rfl) (by kernel_rfl) (fun j hj => by
      have := h.cells (g := g) rfl j (encU pre[j]) (by rw [List.getElem?_map, List.getElem?_eq_getElem hj]; rfl)
      simpa using this)

theorem rown_geU {W : World} {n₁ n k : Nat} {v : Value} {xs : List Value} (h : W.ownsRow n₁ 5 1 v n xs) (e : v.ownBlock = some k) : n₁ ≤ k := by
  rcases h.2 with ⟨rfl, _⟩ | ⟨g, cap, cur, rfl, hb, _⟩
  · simp [Value.ownBlock] at e
  · simp [Value.ownBlock] at e; omega

theorem Res2.grown {n : Nat} {W w' : World} (h : Res2 n W) {row : Option Nat} (hg : W.grownBy w' row) (hr : ∀ k, row = some k → n + 2 ≤ k) : Res2 n w' := by
  have o : Only (fun k => n + 2 ≤ k) W w' := (Only.refl _ W).grown hg (fun k e => .inl (hr k e))
  exact ⟨h.1.only o (by omega), h.2.only o (by omega)⟩

theorem owns_keptU {W W' : World} {n₁ n : Nat} {v : Value} {xs : List Value} (h : W.ownsRow n₁ 5 1 v n xs) (k : Kept W W') : W'.ownsRow n₁ 5 1 v n xs := by
  refine ⟨h.1, h.2.imp id fun ⟨g, cap, cur, h1, h2, h3, h4⟩ => ⟨g, cap, cur, h1, h2, (k.block g (Array.getElem?_eq_some_iff.1 h3).1).trans h3, h4⟩⟩

/-- What an append of one byte finds. -/
theorem prepU {W : World} {n₁ n : Nat} {v : Value} {xs : List Value} (x : Int) (h : W.ownsRow n₁ 5 1 v n xs) (hn : n₁ ≤ W.heap.size) :
    ∃ W3, W.alloc (.cells #[.int .u8 x] 5) = W3 ∧ Hid (Src Tryz.prog 1 33 (.slice (some ⟨W.heap.size, 0, none⟩) 1 1) 1 [.int .u8 x] W3) ∧ Hid (W3.ownsRow n₁ 5 1 v n xs) ∧ Hid (Kept W W3) ∧ n₁ ≤ W3.heap.size := by
  have k : Kept W (W.alloc (.cells #[.int .u8 x] 5)) := (Kept.refl W).alloc _
  exact ⟨_, rfl, Lib.hid (Src.ofSlice (P := Tryz.prog) (size := 1) (tx := 33) _ Tryz.underlying33 ⟨W.heap.size, 0, none⟩ 1 1 [.int .u8 x] rfl (cell_one_new W _ _) (by simp [Value.oneCell'])), Lib.hid (owns_keptU h k), Lib.hid k, Nat.le_trans hn k.size⟩

theorem wayV_tok {k : Int} {x : ByteArray} {v i : Int} {p len : Nat} (hi : i = ((p + len : Nat) : Int)) : .tuple #[tagg k x v p, .int .i64 i, fagg 0 0] = wayV p (.tok k x v len) := by
  subst hi; rfl
theorem refuse_y (i : Int) (e : Int) (q : Nat) (w : World) (hi : i = (q : Int)) : Calls Tryz.prog 104 #[.int .i64 e, .int .i64 i] w fun r w' => r = .returned (badV e (q : Int)) ∧ Kept w w' := by
  subst hi; exact refuse_c e q w
theorem owns_sliceU {W : World} {n₁ n : Nat} {v : Value} {xs : List Value} (h : W.ownsRow n₁ 5 1 v n xs) : ∃ a m c, v = .slice a m c :=
  h.2.elim (fun h => ⟨none, 0, 0, h.1⟩) (fun ⟨g, cap, _, h, _⟩ => ⟨_, _, _, h⟩)
theorem owns_lenU {W : World} {n₁ n m c : Nat} {a : Option Addr} {v : Value} {xs : List Value} (h : W.ownsRow n₁ 5 1 v n xs) (e : v = .slice a m c) : True ∧ n = m := by
  subst e
  rcases h.2 with ⟨e, h0⟩ | ⟨g, cap, cur, e, _⟩
  · cases e; exact ⟨trivial, h0⟩
  · cases e; exact ⟨trivial, rfl⟩

set_option maxHeartbeats 8000000 in
theorem text_c (a : Option Addr) (c : Nat) (l : List UInt8) (p : Nat) (w : World) (h : SrcAt w (.slice a l.length c) l) (hT : Tb w) (hp : p < l.length) (hl : l.length ≤ 20000) :
    Calls Tryz.prog 85 #[.slice a l.length c, .int .i64 p] w fun r w' => r = .returned (wayV p (Lx.text (l.drop p))) ∧ Kept w w' := by
  obtain ⟨i0, hi, hz0, hzz1, hzz2⟩ := info_parts info_u8
  have hcap := h.cap
  unfold maxLen at hcap
  obtain ⟨s, hs⟩ : ∃ s, l.drop (p + 1) = s := ⟨_, rfl⟩
  have hsl : s.length + p + 1 = l.length := by rw [← hs, List.length_drop]; omega
  have HV : Hid (Lx.text (l.drop p) = Lx.textR (Lx.txt false s)) := Lib.hid (by unfold Lx.text; rw [drop_at hp, List.tail_cons, hs])
  have HAT : Hid (∀ q (hq : q < s.length) (wr : World), Kept w wr → ∃ b o, a = some ⟨b, o, none⟩ ∧ wr.cell? ⟨b, o + (p + 1 + q), none⟩ = some (.int .u8 s[q].toNat)) := Lib.hid (by
    intro q hq wr hk
    obtain ⟨b, o, e, y⟩ := h.at (i := p + 1 + q) (by omega)
    refine ⟨b, o, e, ?_⟩
    have es : s[q] = l[p + 1 + q]'(by omega) := by simp only [← hs, List.getElem_drop]
    rw [es]
    exact hk.cell y)
  obtain ⟨W1, hW1⟩ : ∃ W1, (w.alloc (.cells #[.int .i64 0, .string ⟨#[]⟩, .int .i64 0, .int .i64 0] 48)).alloc (.cells #[.int .i64 0, .int .i64 0] 36) = W1 := ⟨_, rfl⟩
  have k1 : Kept w W1 := by rw [← hW1]; exact ((Kept.refl w).alloc _).alloc _
  have HR1 := Lib.hid (show Res2 w.heap.size W1 by rw [← hW1]; exact Res2.new w)
  have hsz1 : w.heap.size + 2 ≤ W1.heap.size := by rw [← hW1]; simp
  have HW := Lib.hid hW1
  have HK1 := Lib.hid k1
  have HT := Lib.hid hT
  rw [HV.out]
  clear h hT hs hW1 k1
  go_enter Tryz.func85, Tryz.ntmps85
  go_wp2_with (rw [HW.out])
  go_step3
  go_wp2_with (rw [HW.out])
  go_step3
  go_wp2_with fail
  go_loopw [7, 8, 9] (fun v i e wr => ∃ (q n : Nat) (esc : Bool) (pre : List UInt8) (a' : Option Addr) (c' : Nat), v = .slice a' n c' ∧ i = .int .i64 ((p + 1 + q : Nat) : Int) ∧ e = .bool esc ∧ n = pre.length ∧ Hid (TxtI s q esc pre) ∧ Hid (wr.ownsRow (w.heap.size + 2) 5 1 (.slice a' n c') n (pre.map encU)) ∧ Hid (Res2 w.heap.size wr) ∧ Hid (Kept w wr) ∧ w.heap.size + 2 ≤ wr.heap.size)
    (fun v i e wr => l.length - (intOf i).toNat)
  case atStart => exact ⟨0, 0, false, [], none, 0, rfl, rfl, rfl, rfl, Lib.hid (TxtI.start s), Lib.hid (World.ownsRow_nil _ _ _ _), HR1, HK1, hsz1⟩
  case round =>
    obtain ⟨q, n, esc, pre, a', c', rfl, rfl, rfl, hn, HI, HR, HR2, HK, hsz⟩ := hrel
    have hpl : n ≤ 20000 := by have := HI.out.len; omega
    have HL := Lib.hid hn
    clear hn
    clear HR1 HK1 hsz1 HW
    by_cases hq : q < s.length
    · have hltI : (((p + 1 + q : Nat) : Int)) < (l.length : Int) := by omega
      have hltI2 : (p : Int) + 1 + (q : Int) < (l.length : Int) := by omega
      obtain ⟨b, o, rfl, y0⟩ := HAT.out q hq wr HK.out
      have HM := Lib.hid (lmeant_c s[q] wr (HT.out.kept HK.out))
      have HC := Lib.hid (lkind_c s[q] wr)
      have HP := Lib.hid (lpr_c s[q] wr)
      have hkq := kd_quote s[q]
      cases esc with
      | true =>
        cases hm : Lx.meant s[q] with
        | none =>
          have HX := HI.out.esc_bad hq hm
          have HE := Lib.hid (show Lx.textR (Lx.txt false s) = .bad 5 (q + 1) by rw [HX]; unfold Lx.textR; rw [if_pos rfl])
          rw [hm] at HM
          clear HX hm HC HP hkq
          generalize s[q] = ch at *
          go_wp2_with fail
          refine HM.out.mono ?_
          rintro e w1 ⟨rfl, k1⟩
          have HR4 := Lib.hid (HR2.out.kept k1)
          have HK4 := Lib.hid (HK.out.trans k1)
          clear k1
          go_wp2_with fail
          refine (refuse_y _ 5 (p + (q + 1)) _ (by omega)).mono ?_
          rintro e W9 ⟨rfl, k9⟩
          have hr9 := HR4.out.kept k9
          obtain ⟨⟨f0, f1, f2, f3⟩, f4, f5⟩ := hr9.froz
          obtain ⟨⟨c0, c1, c2, c3⟩, c4, c5⟩ := hr9.cel
          have HR9 := Lib.hid hr9
          have HK9 := Lib.hid (HK4.out.trans k9)
          clear hr9 k9
          go_wp2_with fail
          try rw [Exit.noGoto_ret]
          exact way_end (by rfl) HR9.out HK9.out rfl rfl (by rw [HE.out]; rfl)
        | some m =>
          have HI2 := Lib.hid (HI.out.esc_ok hq hm)
          rw [hm] at HM
          clear hm HC HP hkq
          generalize s[q] = ch at *
          have hmn := m.toNat_lt
          go_wp2_with fail
          refine HM.out.mono ?_
          rintro e w1 ⟨rfl, k1⟩
          have HR4 := Lib.hid (owns_keptU HR.out k1)
          have HS3 := Lib.hid (HR2.out.kept k1)
          have HKa := Lib.hid (HK.out.trans k1)
          have hsza := k1.size
          clear k1 HM
          obtain ⟨W3, hW3, HSR, HR3, HK3, hsz3⟩ := prepU ((m.toNat : Int)) HR4.out (show w.heap.size + 2 ≤ w1.heap.size by omega)
          have HW3 := Lib.hid hW3
          have HK4 := Lib.hid (HKa.out.trans HK3.out)
          have HS4 := Lib.hid (HS3.out.kept HK3.out)
          clear hW3
          go_wp2_with (first | rw [HW3.out] | (at_builtin; refine wpList_apk rfl (.tmp 56) (.tmp 58) 33 33 rfl (w.heap.size + 2) 1 5 i0 _ 1 Tryz.underlying33 hi hz0 hzz1 hzz2 rfl rfl HR3.out rfl HSR.out (by unfold maxLen; omega) (by omega) hsz3 ?_; intro v' w4 hown' hgrow hlies; have HN := Lib.hid hown'; have HK5 := Lib.hid (HK4.out.grown hgrow fun k e => by have := rown_geU HR3.out e; omega); have HS5 := Lib.hid (HS4.out.grown hgrow fun k e => rown_geU HR3.out e); have hsz5 := hgrow.size; obtain ⟨va', m', vc', hv'⟩ := owns_sliceU hown'; obtain ⟨_, rfl⟩ := owns_lenU hown' hv'; subst hv'; clear hown' hgrow hlies))
          go_roundw
          case rel => exact ⟨q + 1, _, false, _, va', vc', rfl, by go_num, rfl, by simp [HL.out], HI2, Lib.hid (by simpa using HN.out), HS5, HK5, by omega⟩
          case measure => simp [intOf]; omega
      | false =>
        by_cases h92 : s[q].toNat = 92
        · have HI2 := Lib.hid (HI.out.opens hq h92)
          rw [h92] at y0
          clear HM HC HP hkq h92
          go_wp2_with fail
          go_roundw
          case rel => exact ⟨q + 1, n, true, pre, a', c', rfl, by go_num, rfl, HL.out, HI2, HR, HR2, HK, hsz⟩
          case measure => simp [intOf]; omega
        · have e92 : ((s[q].toNat : Int) == 92) = false := by simp; omega
          by_cases h34 : s[q].toNat = 34
          · have HX := Lib.hid (HI.out.shuts hq h92 h34)
            rw [decide_eq_true h34] at hkq
            generalize Lx.kd s[q] = kk at *
            clear HM HP h34 h92 HI
            generalize s[q].toNat = ch at *
            have HRx := HR
            have HRs := HR2
            have HKx := HK
            clear HR HR2 HK
            go_wp2_with fail
            refine HC.out.mono ?_
            rintro e w1 ⟨rfl, rfl⟩
            clear HC
            by_cases h1000 : 1000 < n
            · have hI : (1000 : Int) < (n : Int) := by omega
              have HE := Lib.hid (show Lx.textR (Lx.txt false s) = .bad 4 0 by rw [HX.out]; unfold Lx.textR; rw [if_neg (by simp), if_pos (by rw [← HL.out]; omega)])
              go_wp2_with fail
              refine (refuse_y _ 4 (p) _ (by omega)).mono ?_
              rintro e W9 ⟨rfl, k9⟩
              have hr9 := HRs.out.kept k9
              obtain ⟨⟨f0, f1, f2, f3⟩, f4, f5⟩ := hr9.froz
              obtain ⟨⟨c0, c1, c2, c3⟩, c4, c5⟩ := hr9.cel
              have HR9 := Lib.hid hr9
              have HK9 := Lib.hid (HKx.out.trans k9)
              clear hr9 k9
              go_wp2_with fail
              try rw [Exit.noGoto_ret]
              exact way_end (by rfl) HR9.out HK9.out rfl rfl (by rw [HE.out]; rfl)
            · have hI : ¬ (1000 : Int) < (n : Int) := by omega
              have HE := Lib.hid (show Lx.textR (Lx.txt false s) = .tok 6 ⟨pre.toArray⟩ 0 (q + 2) by rw [HX.out]; unfold Lx.textR; rw [if_neg (by simp), if_neg (by rw [← HL.out]; omega), if_neg (by simp)])
              have hEQ : ((((p + 1 + q : Nat) : Int)) == (l.length : Int)) = false := by simp; omega
              have hEQ2 : (((p : Int) + 1 + (q : Int)) == (l.length : Int)) = false := by simp; omega
              have hcv := own_text HL.out HRx.out
              obtain ⟨⟨f0, f1, f2, f3⟩, f4, f5⟩ := HRs.out.froz
              obtain ⟨⟨c0, c1, c2, c3⟩, c4, c5⟩ := HRs.out.cel
              go_wp2_with fail
              try rw [Exit.noGoto_ret]
              exact way_end (by rfl) HRs.out HKx.out rfl rfl (by rw [HE.out]; exact wayV_tok (by omega))
          · rw [decide_eq_false h34] at hkq
            generalize Lx.kd s[q] = kk at *
            cases hpr : Lx.pr s[q] with
            | false =>
              have HX := HI.out.bad hq h92 h34 hpr
              have HE := Lib.hid (show Lx.textR (Lx.txt false s) = .bad 5 (q + 1) by rw [HX]; unfold Lx.textR; rw [if_pos rfl])
              rw [hpr] at HP
              clear HX hpr HM h92 h34
              generalize s[q].toNat = ch at *
              go_wp2_with fail
              refine HC.out.mono ?_
              rintro e w1 ⟨rfl, rfl⟩
              go_wp2_with fail
              refine HP.out.mono ?_
              rintro e w1 ⟨rfl, rfl⟩
              clear HC HP
              go_wp2_with fail
              refine (refuse_y _ 5 (p + (q + 1)) _ (by omega)).mono ?_
              rintro e W9 ⟨rfl, k9⟩
              have hr9 := HR2.out.kept k9
              obtain ⟨⟨f0, f1, f2, f3⟩, f4, f5⟩ := hr9.froz
              obtain ⟨⟨c0, c1, c2, c3⟩, c4, c5⟩ := hr9.cel
              have HR9 := Lib.hid hr9
              have HK9 := Lib.hid (HK.out.trans k9)
              clear hr9 k9
              go_wp2_with fail
              try rw [Exit.noGoto_ret]
              exact way_end (by rfl) HR9.out HK9.out rfl rfl (by rw [HE.out]; rfl)
            | true =>
              have HI2 := Lib.hid (HI.out.goes hq h92 h34 hpr)
              rw [hpr] at HP
              clear hpr HM h92 h34
              generalize s[q] = ch at *
              have hmn := ch.toNat_lt
              obtain ⟨W3, hW3, HSR, HR3, HK3, hsz3⟩ := prepU ((ch.toNat : Int)) HR.out (show w.heap.size + 2 ≤ wr.heap.size by omega)
              have HW3 := Lib.hid hW3
              have HK4 := Lib.hid (HK.out.trans HK3.out)
              have HS4 := Lib.hid (HR2.out.kept HK3.out)
              clear hW3
              clear HR HR2
              go_wp2_with fail
              refine HC.out.mono ?_
              rintro e w1 ⟨rfl, rfl⟩
              go_wp2_with fail
              refine HP.out.mono ?_
              rintro e w1 ⟨rfl, rfl⟩
              clear HC HP
              go_wp2_with (first | rw [HW3.out] | (at_builtin; refine wpList_apk rfl (.tmp 56) (.tmp 58) 33 33 rfl (w.heap.size + 2) 1 5 i0 _ 1 Tryz.underlying33 hi hz0 hzz1 hzz2 rfl rfl HR3.out rfl HSR.out (by unfold maxLen; omega) (by omega) hsz3 ?_; intro v' w4 hown' hgrow hlies; have HN := Lib.hid hown'; have HK5 := Lib.hid (HK4.out.grown hgrow fun k e => by have := rown_geU HR3.out e; omega); have HS5 := Lib.hid (HS4.out.grown hgrow fun k e => rown_geU HR3.out e); have hsz5 := hgrow.size; obtain ⟨va', m', vc', hv'⟩ := owns_sliceU hown'; obtain ⟨_, rfl⟩ := owns_lenU hown' hv'; subst hv'; clear hown' hgrow hlies))
              go_roundw
              case rel => exact ⟨q + 1, _, false, _, va', vc', rfl, by go_num, rfl, by simp [HL.out], HI2, Lib.hid (by simpa using HN.out), HS5, HK5, by omega⟩
              case measure => simp [intOf]; omega
    · have hqs : q = s.length := by have := HI.out.1; omega
      subst hqs
      have HX := Lib.hid HI.out.ends
      have hltI : ¬ (((p + 1 + s.length : Nat) : Int)) < (l.length : Int) := by omega
      have hltI2 : ¬ (p : Int) + 1 + (s.length : Int) < (l.length : Int) := by omega
      have HRx := HR
      have HRs := HR2
      have HKx := HK
      clear HR HR2 HK HI
      by_cases h1000 : 1000 < n
      · have hI : (1000 : Int) < (n : Int) := by omega
        have HE := Lib.hid (show Lx.textR (Lx.txt false s) = .bad 4 0 by rw [HX.out]; unfold Lx.textR; rw [if_neg (by simp), if_pos (by rw [← HL.out]; omega)])
        go_wp2_with fail
        refine (refuse_y _ 4 (p) _ (by omega)).mono ?_
        rintro e W9 ⟨rfl, k9⟩
        have hr9 := HRs.out.kept k9
        obtain ⟨⟨f0, f1, f2, f3⟩, f4, f5⟩ := hr9.froz
        obtain ⟨⟨c0, c1, c2, c3⟩, c4, c5⟩ := hr9.cel
        have HR9 := Lib.hid hr9
        have HK9 := Lib.hid (HKx.out.trans k9)
        clear hr9 k9
        go_wp2_with fail
        try rw [Exit.noGoto_ret]
        exact way_end (by rfl) HR9.out HK9.out rfl rfl (by rw [HE.out]; rfl)
      · have hI : ¬ (1000 : Int) < (n : Int) := by omega
        have HE := Lib.hid (show Lx.textR (Lx.txt false s) = .bad 5 0 by rw [HX.out]; unfold Lx.textR; rw [if_neg (by simp), if_neg (by rw [← HL.out]; omega), if_pos rfl])
        have hEQ : ((((p + 1 + s.length : Nat) : Int)) == (l.length : Int)) = true := by simp; omega
        have hEQ2 : (((p : Int) + 1 + (s.length : Int)) == (l.length : Int)) = true := by simp; omega
        go_wp2_with fail
        refine (refuse_y _ 5 (p) _ (by omega)).mono ?_
        rintro e W9 ⟨rfl, k9⟩
        have hr9 := HRs.out.kept k9
        obtain ⟨⟨f0, f1, f2, f3⟩, f4, f5⟩ := hr9.froz
        obtain ⟨⟨c0, c1, c2, c3⟩, c4, c5⟩ := hr9.cel
        have HR9 := Lib.hid hr9
        have HK9 := Lib.hid (HKx.out.trans k9)
        clear hr9 k9
        go_wp2_with fail
        try rw [Exit.noGoto_ret]
        exact way_end (by rfl) HR9.out HK9.out rfl rfl (by rw [HE.out]; rfl)

end Go.Proofs.YtfkmnpgpfmkjaaaGreatDoor
namespace Go.Proofs.YtfkmnpgpfmkjaaaGreatDoor
open Go.RowKit

theorem Only.putObj {S : Nat → Prop} {a w : World} (h : Only S a w) {l : Nat} (hl : S l ∨ a.heap.size ≤ l) (o : Obj) : Only S a (w.putObj l o) :=
  ⟨h.os, h.output, by have := h.size; simp [World.putObj]; omega, fun k hk hs => (World.putObj_heap_other (by rintro rfl; exact hl.elim hs (fun h => by omega))).trans (h.block k hk hs)⟩

theorem Only.same {S : Nat → Prop} {w w' : World} (h : Only S w w') {k : Nat} {o : Obj} (hk : w.heap[k]? = some o) (hs : ¬ S k) : w'.heap[k]? = some o :=
  (h.block k (Array.getElem?_eq_some_iff.1 hk).1 hs).trans hk

/-- An iterator's contract: it turns the blocks of It and the m ones that it makes first; what a round of the body turns lies in U, or is the loop's record. -/
def SeqOwn {α : Type} (F : Fence) (n : Nat) (P : Program) (g : Nat) (lb : Array Value) (encs : α → Array Value) (It U : Nat → Prop) (S Sp : List α → Prop) (G : List α → Prop) (m : Nat) (W : World) : Prop :=
  ∀ (l : Nat) (J Jx : List α → World → Prop), l + 1 = W.heap.size →
    (∀ s A B, J s A → Only (fun k => It k ∨ (W.heap.size ≤ k ∧ k < W.heap.size + m)) A B → J s B) → (∀ s A B, Jx s A → Only (fun k => It k ∨ (W.heap.size ≤ k ∧ k < W.heap.size + m)) A B → Jx s B) →
    (∀ pre x W1, J pre W1 → G (pre ++ [x]) → W.heap.size + m ≤ W1.heap.size → YieldAt F (n - 1) P l (encs x) W1 fun e W' =>
      (e = .returned (.bool true) ∧ J (pre ++ [x]) W' ∧ Only (fun k => U k ∨ k = l) W1 W') ∨ (e = .returned (.bool false) ∧ Jx (pre ++ [x]) W')) →
    J [] W →
    CallsIn F n P g (#[.func (.yield l) #[] #[]] ++ lb) W fun e W' => (∃ v, e = .returned v) ∧ ((∃ xs, S xs ∧ J xs W') ∨ (∃ pre, Sp pre ∧ Jx pre W'))

/-- How a round's body may be left. -/
def ownPostW {α : Type} (U : Nat → Prop) (I : List α → World → Prop) (Ix : Code → List α → World → Prop) (xs : List α) (W : World) : Exit → Act → World → Prop
  | .normal, _, W' => Only U W W' ∧ I xs W'
  | .ret, _, W' => Only U W W' ∧ Ix .ret xs W'
  | .exit id, _, W' => Only U W W' ∧ Ix (.exit id) xs W'
  | .goto t, _, W' => Only U W W' ∧ Ix (.goto t) xs W'
  | .panic _, _, _ => False
  | .outgrown, _, _ => False

section
variable {F : Fence} {n : Nat} {P : Program}
theorem wpIn_rangeFunc_ownW {α : Type} {g : Operand} {ps : Array Tmp} {assign body : Code} {Q : Exit → Act → World → Prop} {a : Act} {w : World}
    (hro : F.round = none) (h1 : 1 ≤ n) {gf : Nat} {lb : Array Value} (hg : a.eval g = .func (.func gf) #[] lb) (hFg : F.fn gf) (eg : ∀ args w, (callFunc gf args).run P w = .ok (.enter gf args) w)
    {encs : α → Array Value} {It U : Nat → Prop} {S Sp G : List α → Prop} {m : Nat}
    (hseq : ∀ W1, Kept w W1 → W1.heap.size = w.heap.size + 2 → SeqOwn F (n - 1) P gf lb encs It U S Sp G m W1)
    (hIt : ∀ k, It k → k < w.heap.size) (hU : ∀ k, U k → k ≠ w.heap.size ∧ k ≠ w.heap.size + 1) (hps : ∀ x, (encs x).size = ps.size)
    (I : List α → World → Prop) (Ix : Code → List α → World → Prop)
    (hI : ∀ s A B, I s A → Only (fun k => It k ∨ (w.heap.size ≤ k ∧ k < w.heap.size + 2 + m)) A B → I s B)
    (hIx : ∀ c s A B, Ix c s A → Only (fun k => It k ∨ (w.heap.size ≤ k ∧ k < w.heap.size + 2 + m)) A B → Ix c s B)
    (h0 : I [] w) (a₁ : α → Act)
    (hassign : ∀ (l : Nat) (x : α) (W : World) (K : Act → World → Prop), K (a₁ x) W →
      assign.wpIn (F.inRound l) (n - 1 - 1) P (Exit.then K (fun _ _ _ => False)) { tmps := (ps.zip (encs x)).foldl (fun t (p, v) => t.setIfInBounds p v) a.tmps, defers := [] } W)
    (hbody : ∀ (l : Nat) (pre : List α) (x : α) (W : World), l = w.heap.size + 1 → (∃ r, W.heap[l]? = some (.loop r)) → I pre W → G (pre ++ [x]) → w.heap.size + 2 + m ≤ W.heap.size → body.wpIn (F.inRound l) (n - 1 - 1) P (ownPostW U I Ix (pre ++ [x]) W) (a₁ x) W)
    (hdone : ∀ (D : Nat) (xs : List α) (W : World), D = w.heap.size → S xs → I xs W → W.heap[D]? = some (.deferred (some [])) → Q .normal { a with defers := { target := .collected D, args := #[] } :: a.defers } W)
    (hstop : ∀ (D : Nat) (c : Code) (pre : List α) (W : World), D = w.heap.size → Sp pre → Ix c pre W → W.heap[D]? = some (.deferred (some [])) → c.wpIn F n P Q { a with defers := { target := .collected D, args := #[] } :: a.defers } W) :
    (Code.rangeFunc g ps assign body).wpIn F n P Q a w := by
  refine wpIn_rangeFunc fun fn hfn => ?_
  rw [hro]
  obtain ⟨rc, hrc⟩ : ∃ rc : LoopState → Option Code → Loop, ∀ st pe, rc st pe = { state := st, pending := pe, fn, tmps := a.tmps, params := ps, assign, body, defers := w.heap.size } := ⟨fun st pe => _, fun _ _ => rfl⟩
  obtain ⟨W1, hW1⟩ : ∃ W1, (w.alloc (.deferred (some []))).alloc (.loop (rc .ready none)) = W1 := ⟨_, rfl⟩
  have hk1 : Kept w W1 := by rw [← hW1]; exact ((Kept.refl w).alloc _).alloc _
  have hs1 : W1.heap.size = w.heap.size + 2 := by rw [← hW1]; simp
  have hL1 : W1.heap[w.heap.size + 1]? = some (.loop (rc .ready none)) := by
    rw [← hW1]; have := heap_alloc_new (w.alloc (.deferred (some []))) (.loop (rc .ready none)); rwa [World.size_alloc] at this
  have hD1 : W1.heap[w.heap.size]? = some (.deferred (some [])) := by
    rw [← hW1]; exact (Below.heap_alloc _ _ _ (by simp)).trans (heap_alloc_new w _)
  have notl : ¬ (It (w.heap.size + 1) ∨ (W1.heap.size ≤ w.heap.size + 1 ∧ w.heap.size + 1 < W1.heap.size + m)) := fun h => h.elim (fun h => by have := hIt _ h; omega) (fun h => by omega)
  have notd : ¬ (It w.heap.size ∨ (W1.heap.size ≤ w.heap.size ∧ w.heap.size < W1.heap.size + m)) := fun h => h.elim (fun h => by have := hIt _ h; omega) (fun h => by omega)
  refine ⟨w.heap.size + 1, [{ target := .collected w.heap.size, args := #[] }], W1, { target := .fn (.func gf) lb, args := #[.func (.yield (w.heap.size + 1)) #[] #[]] }, W1, gf,
    #[.func (.yield (w.heap.size + 1)) #[] #[]] ++ lb, W1, by rw [← hW1, hrc]; exact run_enterLoop_outer _ _ _ _ _, ?_, ?_, ?_, fun _ => h1, ?_⟩
  · simp only [resolve, hg]
    simp [go_sem]
  · intro f' hf'; simp [Target.leads] at hf'; subst hf'; exact hFg
  · simp [invoke, go_sem, eg]
  · refine (hseq W1 hk1 hs1 (w.heap.size + 1)
      (fun pre W => I pre W ∧ W.heap[w.heap.size + 1]? = some (.loop (rc .ready none)) ∧ W.heap[w.heap.size]? = some (.deferred (some [])))
      (fun pre W => ∃ c, Ix c pre W ∧ W.heap[w.heap.size + 1]? = some (.loop (rc .done (some c))) ∧ W.heap[w.heap.size]? = some (.deferred (some [])))
      (by omega) ?abJ ?abJx ?round ⟨hI _ _ _ h0 (Only.of_kept hk1), hL1, hD1⟩).mono ?behind
    case abJ =>
      rintro s A B ⟨hi, hl, hd⟩ ho
      exact ⟨hI _ _ _ hi (ho.mono fun k _ h => h.imp id fun e => ⟨by omega, by omega⟩), ho.same hl notl, ho.same hd notd⟩
    case abJx =>
      rintro s A B ⟨c, hi, hl, hd⟩ ho
      exact ⟨c, hIx _ _ _ _ hi (ho.mono fun k _ h => h.imp id fun e => ⟨by omega, by omega⟩), ho.same hl notl, ho.same hd notd⟩
    case round =>
      rintro pre x W ⟨hi, hl, hd⟩ hlen hsz
      have hlt : w.heap.size + 1 < W.heap.size := (Array.getElem?_eq_some_iff.1 hl).1
      have hy := run_yield (P := P) (args := encs x) hl (by rw [hrc]; exact hps x)
      rw [hrc] at hy
      refine ⟨fn, _, assign, body, hy, roundIn_of_wpIn hfn (hassign _ x W _ ⟨_, run_beginRound hl (by rw [hrc]), ?_⟩)⟩
      have hl2 : (W.putObj (w.heap.size + 1) (.loop { rc .ready none with state := .busy })).heap[w.heap.size + 1]? = some (.loop { rc .ready none with state := .busy }) := World.putObj_heap_same hlt
      have hd2 : (W.putObj (w.heap.size + 1) (.loop { rc .ready none with state := .busy })).heap[w.heap.size]? = some (.deferred (some [])) := (World.putObj_heap_other (by omega)).trans hd
      refine wpIn_mono (hbody _ pre x _ rfl ⟨_, hl2⟩ (hI _ _ _ hi ((Only.refl _ _).putObj (.inl (.inr ⟨by omega, by omega⟩)) _)) hlen (by simp [World.putObj]; omega)) ?_
      have ends : ∀ (jump : Option Code) (W3 : World), Only U (W.putObj (w.heap.size + 1) (.loop { rc .ready none with state := .busy })) W3 →
          (Instr.endRound (w.heap.size + 1) jump).run P W3 = .ok (.bool jump.isNone) (W3.putObj (w.heap.size + 1) (.loop (rc (if jump.isNone then .ready else .done) jump))) ∧
          (W3.putObj (w.heap.size + 1) (.loop (rc (if jump.isNone then .ready else .done) jump))).heap[w.heap.size + 1]? = some (.loop (rc (if jump.isNone then .ready else .done) jump)) ∧
          (W3.putObj (w.heap.size + 1) (.loop (rc (if jump.isNone then .ready else .done) jump))).heap[w.heap.size]? = some (.deferred (some [])) ∧
          Only (fun k => U k ∨ k = w.heap.size + 1) W (W3.putObj (w.heap.size + 1) (.loop (rc (if jump.isNone then .ready else .done) jump))) := fun jump W3 ho => by
        have hl3 := ho.same hl2 (fun h => (hU _ h).2 rfl)
        have hd3 := ho.same hd2 (fun h => (hU _ h).1 rfl)
        have hr := run_endRound (P := P) jump hl3
        refine ⟨?_, World.putObj_heap_same (Array.getElem?_eq_some_iff.1 hl3).1, (World.putObj_heap_other (by omega)).trans hd3, ?_⟩
        · rw [hrc] at hr ⊢; exact hr
        · exact ((((Only.refl _ W).putObj (.inl (.inr rfl)) _).trans (ho.mono fun k _ h => .inl h))).putObj (.inl (.inr rfl)) _
      rintro e a3 W3 hp
      cases e with
      | normal =>
        obtain ⟨hr, hl4, hd4, ho4⟩ := ends none W3 hp.1
        exact ⟨_, _, hr, .inl ⟨rfl, ⟨hI _ _ _ hp.2 ((Only.refl _ _).putObj (.inl (.inr ⟨by omega, by omega⟩)) _), hl4, hd4⟩, ho4⟩⟩
      | ret =>
        obtain ⟨hr, hl4, hd4, ho4⟩ := ends (some .ret) W3 hp.1
        exact ⟨_, _, hr, .inr ⟨rfl, .ret, hIx _ _ _ _ hp.2 ((Only.refl _ _).putObj (.inl (.inr ⟨by omega, by omega⟩)) _), hl4, hd4⟩⟩
      | exit id =>
        obtain ⟨hr, hl4, hd4, ho4⟩ := ends (some (.exit id)) W3 hp.1
        exact ⟨_, _, hr, .inr ⟨rfl, .exit id, hIx _ _ _ _ hp.2 ((Only.refl _ _).putObj (.inl (.inr ⟨by omega, by omega⟩)) _), hl4, hd4⟩⟩
      | goto t =>
        obtain ⟨hr, hl4, hd4, ho4⟩ := ends (some (.goto t)) W3 hp.1
        exact ⟨_, _, hr, .inr ⟨rfl, .goto t, hIx _ _ _ _ hp.2 ((Only.refl _ _).putObj (.inl (.inr ⟨by omega, by omega⟩)) _), hl4, hd4⟩⟩
      | panic ch => exact hp.elim
      | outgrown => exact hp.elim
    case behind =>
      rintro e W2 ⟨⟨v, rfl⟩, (⟨xs, hS, hi, hl, hd⟩ | ⟨pre, hSp, c, hi, hl, hd⟩)⟩
      · refine ⟨none, _, by have := run_endLoop (P := P) hl (by rw [hrc]; simp); rw [hrc] at this; exact this, hdone _ xs _ rfl hS (hI _ _ _ hi ((Only.refl _ _).putObj (.inl (.inr ⟨by omega, by omega⟩)) _)) ((World.putObj_heap_other (by omega)).trans hd)⟩
      · refine ⟨some c, _, by have := run_endLoop (P := P) hl (by rw [hrc]; simp); rw [hrc] at this; exact this, hstop _ c pre _ rfl hSp (hIx _ _ _ _ hi ((Only.refl _ _).putObj (.inl (.inr ⟨by omega, by omega⟩)) _)) ((World.putObj_heap_other (by omega)).trans hd)⟩
end

end Go.Proofs.YtfkmnpgpfmkjaaaGreatDoor
namespace Go.Proofs.YtfkmnpgpfmkjaaaGreatDoor
open Go.ChangeShapes Go.WideShapes Go.ChangeAt Go.RowKit Go.Shelf
attribute [local go_sem] Oper.semAt_some

theorem sgn_results {fn : Func} {p u q : Tmp} (h : fn.results = #[.cell p 48, .cell u 3, .cell q 36]) (tmps : Array Value) (W : World) {g g' g3 : Nat} {k n po e a' : Value} {x : Value} {i : Int}
    (hp : tmps.getD p undef = .pointer (some ⟨g, 0, none⟩)) (hu : tmps.getD u undef = .pointer (some ⟨g3, 0, none⟩)) (hq : tmps.getD q undef = .pointer (some ⟨g', 0, none⟩))
    (hg : Blk W g 48 #[k, x, n, po]) (h3 : Blk W g3 3 #[.int .i64 i]) (hg' : Blk W g' 36 #[e, a']) :
    (results fn tmps).run Tryz.prog W = .ok (.tuple #[.agg #[k, x, n, po], .int .i64 i, .agg #[e, a']]) W := by
  have hp' : tmps[p]?.getD undef = .pointer (some ⟨g, 0, none⟩) := by simpa using hp
  have hu' : tmps[u]?.getD undef = .pointer (some ⟨g3, 0, none⟩) := by simpa using hu
  have hq' : tmps[q]?.getD undef = .pointer (some ⟨g', 0, none⟩) := by simpa using hq
  have e1 := run_loadVar_row (P := Tryz.prog) W g 48 48 #[k, x, n, po] (0, 0) _ hg Tryz.underlying48 (by rfl) (by kernel_rfl)
  have e2 := run_loadVar_row (P := Tryz.prog) W g' 36 36 #[e, a'] (0, 0) _ hg' Tryz.underlying36 (by rfl) (by kernel_rfl)
  have c3 := h3.cell 0
  simp at c3
  have e3 : (loadVar 3 ⟨g3, 0, none⟩).run Tryz.prog W = .ok (.int .i64 i) W := by simp [go_sem, c3]
  simp [results, h, hp', hq', hu', asAddr, e1, e2, e3]

/-- Within the loop: no sign so far stands there. -/
def SgnI (w : World) (a : Option Addr) (c : Nat) (l : List UInt8) (p : Nat) (pre : List ByteArray) (W : World) : Prop :=
  (Blk W w.heap.size 61 #[.slice a l.length c] ∧ Blk W (w.heap.size + 1) 3 #[.int .i64 p]) ∧
  (Blk W (w.heap.size + 1 + 1) 48 #[.int .i64 0, .string ⟨#[]⟩, .int .i64 0, .int .i64 0] ∧ Blk W (w.heap.size + 1 + 1 + 1) 3 #[.int .i64 0] ∧ Blk W (w.heap.size + 1 + 1 + 1 + 1) 36 #[.int .i64 0, .int .i64 0]) ∧
  Kept w W ∧ w.heap.size + 5 ≤ W.heap.size ∧ ∀ x ∈ pre, Lx.has (l.drop p) x = false

theorem SgnI.kept {w : World} {a : Option Addr} {c : Nat} {l : List UInt8} {p : Nat} {pre : List ByteArray} {W W' : World} (h : SgnI w a c l p pre W) (k : Kept W W') : SgnI w a c l p pre W' := by
  obtain ⟨⟨h1, h2⟩, ⟨h3, h4, h5⟩, h6, h7, h8⟩ := h
  exact ⟨⟨h1.kept k, h2.kept k⟩, ⟨h3.kept k, h4.kept k, h5.kept k⟩, h6.trans k, Nat.le_trans h7 k.size, h8⟩

theorem has_any (x : ByteArray) (a : Option Addr) (c : Nat) (l : List UInt8) (p : Nat) (w : World) (h : SrcAt w (.slice a l.length c) l) (hp : p ≤ l.length) :
    Calls Tryz.prog 81 #[.slice a l.length c, .int .i64 p, .string x] w fun r w' => r = .returned (.bool (Lx.has (l.drop p) x)) ∧ w' = w := by
  by_cases hx : 0 < x.size
  · exact has_c x a c l p w h hp hx
  · have hcap := h.cap
    unfold maxLen at hcap
    have e : x = ⟨#[]⟩ := by
      apply ByteArray.ext
      apply Array.toList_inj.1
      have : x.data.toList.length = 0 := by rw [Array.length_toList]; show x.size = 0; omega
      rw [List.eq_nil_of_length_eq_zero this]
    subst e
    have hv : Lx.has (l.drop p) ⟨#[]⟩ = true := rfl
    rw [hv]
    have hcv : ∀ (a' : Option Addr) (c' : Nat) (W : World), (convert 61 9 (.slice a' 0 c')).run Tryz.prog W = .ok (.string ⟨#[]⟩) W := fun a' c' W => by
      rw [run_convert_bytes_string (P := Tryz.prog) W 61 9 5 a' 0 c' (by kernel_rfl) (by kernel_rfl) (by kernel_rfl)]
      cases a' <;> rfl
    have hleI : (0 : Int) ≤ (l.length : Int) - (p : Int) := by omega
    clear h hx hv
    go_enter Tryz.func81, Tryz.ntmps81
    go_wp2
    all_goals go_ret
    all_goals exact ⟨rfl, rfl⟩

/-- One stands there. -/
def SgnX (w : World) (l : List UInt8) (p : Nat) (cd : Code) (pre : List ByteArray) (W : World) : Prop :=
  cd = .ret ∧ ∃ (pre' : List ByteArray) (x : ByteArray), pre = pre' ++ [x] ∧ (∀ y ∈ pre', Lx.has (l.drop p) y = false) ∧ Lx.has (l.drop p) x = true ∧
    Blk W (w.heap.size + 1 + 1) 48 #[.int .i64 7, .string x, .int .i64 0, .int .i64 p] ∧ Blk W (w.heap.size + 1 + 1 + 1) 3 #[.int .i64 ((p + x.size : Nat) : Int)] ∧ Blk W (w.heap.size + 1 + 1 + 1 + 1) 36 #[.int .i64 0, .int .i64 0] ∧ Kept w W

theorem sgnI_from (w : World) (a : Option Addr) (c : Nat) (l : List UInt8) (p : Nat) (B : Nat) (hB : w.heap.size ≤ B) : OwnFrom B (SgnI w a c l p) := by
  rintro pre X Y row ⟨⟨h1, h2⟩, ⟨h3, h4, h5⟩, h6, h7, h8⟩ hg hr
  exact ⟨⟨h1.grown hg fun r e => (hr r e).2, h2.grown hg fun r e => (hr r e).2⟩, ⟨h3.grown hg fun r e => (hr r e).2, h4.grown hg fun r e => (hr r e).2, h5.grown hg fun r e => (hr r e).2⟩, h6.grown hg (fun k e => Nat.le_trans hB (hr k e).1), Nat.le_trans h7 hg.size, h8⟩
theorem sgnX_from (w : World) (l : List UInt8) (p : Nat) (cd : Code) (B : Nat) (hB : w.heap.size ≤ B) : OwnFrom B (SgnX w l p cd) := by
  rintro pre X Y row ⟨h0, pre', x, h1, h2, h3, h4, h5, h6, h7⟩ hg hr
  exact ⟨h0, pre', x, h1, h2, h3, h4.grown hg fun r e => (hr r e).2, h5.grown hg fun r e => (hr r e).2, h6.grown hg fun r e => (hr r e).2, h7.grown hg (fun k e => Nat.le_trans hB (hr k e).1)⟩

theorem find_at {P : ByteArray → Bool} {l pre : List ByteArray} {x : ByteArray} (h : pre ++ [x] <+: l) (h1 : ∀ y ∈ pre, P y = false) (h2 : P x = true) : l.find? P = some x := by
  obtain ⟨t, rfl⟩ := h
  rw [List.append_assoc, List.find?_append]
  rw [show pre.find? P = none from List.find?_eq_none.2 (fun y hy => by rw [h1 y hy]; decide)]
  simp [h2]

theorem sgnI_new (w : World) (a : Option Addr) (c : Nat) (l : List UInt8) (p : Nat) {W : World}
    (hW : ((((w.alloc (.cells #[.slice a l.length c] 61)).alloc (.cells #[.int .i64 p] 3)).alloc (.cells #[.int .i64 0, .string ⟨#[]⟩, .int .i64 0, .int .i64 0] 48)).alloc (.cells #[.int .i64 0] 3)).alloc (.cells #[.int .i64 0, .int .i64 0] 36) = W) :
    SgnI w a c l p [] W ∧ W.heap.size = w.heap.size + 5 := by
  subst hW
  have b1 := Blk.new w 61 #[.slice a l.length c]
  have b2 := Blk.new (w.alloc (.cells #[.slice a l.length c] 61)) 3 #[.int .i64 p]
  have b3 := Blk.new ((w.alloc (.cells #[.slice a l.length c] 61)).alloc (.cells #[.int .i64 p] 3)) 48 #[.int .i64 0, .string ⟨#[]⟩, .int .i64 0, .int .i64 0]
  have b4 := Blk.new (((w.alloc (.cells #[.slice a l.length c] 61)).alloc (.cells #[.int .i64 p] 3)).alloc (.cells #[.int .i64 0, .string ⟨#[]⟩, .int .i64 0, .int .i64 0] 48)) 3 #[.int .i64 0]
  have b5 := Blk.new ((((w.alloc (.cells #[.slice a l.length c] 61)).alloc (.cells #[.int .i64 p] 3)).alloc (.cells #[.int .i64 0, .string ⟨#[]⟩, .int .i64 0, .int .i64 0] 48)).alloc (.cells #[.int .i64 0] 3)) 36 #[.int .i64 0, .int .i64 0]
  simp only [World.size_alloc] at b2 b3 b4 b5
  refine ⟨⟨⟨(((b1.alloc _).alloc _).alloc _).alloc _, ((b2.alloc _).alloc _).alloc _⟩, ⟨(b3.alloc _).alloc _, b4.alloc _, b5⟩, (((((Kept.refl w).alloc _).alloc _).alloc _).alloc _).alloc _, by simp, by simp⟩, by simp⟩

/-- What the walk reads. -/
theorem SgnI.cel {w : World} {a : Option Addr} {c : Nat} {l : List UInt8} {p : Nat} {pre : List ByteArray} {W : World} (h : SgnI w a c l p pre W) :
    (W.cell? ⟨w.heap.size, 0, none⟩ = some (.slice a l.length c) ∧ W.cell? ⟨w.heap.size + 1, 0, none⟩ = some (.int .i64 p)) ∧
    (W.cell? ⟨w.heap.size + 1 + 1, 0, none⟩ = some (.int .i64 0) ∧ W.cell? ⟨w.heap.size + 1 + 1, 1, none⟩ = some (.string ⟨#[]⟩) ∧ W.cell? ⟨w.heap.size + 1 + 1, 2, none⟩ = some (.int .i64 0) ∧ W.cell? ⟨w.heap.size + 1 + 1, 3, none⟩ = some (.int .i64 0)) ∧
    W.cell? ⟨w.heap.size + 1 + 1 + 1, 0, none⟩ = some (.int .i64 0) ∧ (W.cell? ⟨w.heap.size + 1 + 1 + 1 + 1, 0, none⟩ = some (.int .i64 0) ∧ W.cell? ⟨w.heap.size + 1 + 1 + 1 + 1, 1, none⟩ = some (.int .i64 0)) := by
  obtain ⟨⟨h1, h2⟩, ⟨h3, h4, h5⟩, _⟩ := h
  exact ⟨⟨h1.cell 0, h2.cell 0⟩, ⟨h3.cell 0, h3.cell 1, h3.cell 2, h3.cell 3⟩, h4.cell 0, h5.cell 0, h5.cell 1⟩
theorem SgnI.froz {w : World} {a : Option Addr} {c : Nat} {l : List UInt8} {p : Nat} {pre : List ByteArray} {W : World} (h : SgnI w a c l p pre W) :
    (W.frozen? ⟨w.heap.size + 1 + 1, 0, none⟩ = false ∧ W.frozen? ⟨w.heap.size + 1 + 1, 1, none⟩ = false ∧ W.frozen? ⟨w.heap.size + 1 + 1, 2, none⟩ = false ∧ W.frozen? ⟨w.heap.size + 1 + 1, 3, none⟩ = false) ∧
    W.frozen? ⟨w.heap.size + 1 + 1 + 1, 0, none⟩ = false ∧ (W.frozen? ⟨w.heap.size + 1 + 1 + 1 + 1, 0, none⟩ = false ∧ W.frozen? ⟨w.heap.size + 1 + 1 + 1 + 1, 1, none⟩ = false) := by
  obtain ⟨⟨h1, h2⟩, ⟨h3, h4, h5⟩, _⟩ := h
  exact ⟨⟨h3.frozen 0, h3.frozen 1, h3.frozen 2, h3.frozen 3⟩, h4.frozen 0, h5.frozen 0, h5.frozen 1⟩

/-- The results' blocks written. -/
def put7 (W : World) (g2 g3 g4 : Nat) (k : Int) (x : ByteArray) (v po i e a : Int) : World :=
  ((((((W.setCell ⟨g2, 0, none⟩ (.int .i64 k)).setCell ⟨g2, 1, none⟩ (.string x)).setCell ⟨g2, 2, none⟩ (.int .i64 v)).setCell ⟨g2, 3, none⟩ (.int .i64 po)).setCell ⟨g3, 0, none⟩ (.int .i64 i)).setCell ⟨g4, 0, none⟩ (.int .i64 e)).setCell ⟨g4, 1, none⟩ (.int .i64 a)

theorem put7_keeps (W : World) (g2 g3 g4 : Nat) (k : Int) (x : ByteArray) (v po i e a : Int) : KeepsOthers W (put7 W g2 g3 g4 k x v po i e a) :=
  ((((((KeepsOthers.setCell W _ _).trans (KeepsOthers.setCell _ _ _)).trans (KeepsOthers.setCell _ _ _)).trans (KeepsOthers.setCell _ _ _)).trans (KeepsOthers.setCell _ _ _)).trans (KeepsOthers.setCell _ _ _)).trans (KeepsOthers.setCell _ _ _)

theorem put7_only (W : World) (g2 g3 g4 : Nat) (k : Int) (x : ByteArray) (v po i e a : Int) : Only (fun g => g = g2 ∨ g = g3 ∨ g = g4) W (put7 W g2 g3 g4 k x v po i e a) :=
  (((((((Only.refl _ W).setCell (.inl (.inl rfl)) _).setCell (.inl (.inl rfl)) _).setCell (.inl (.inl rfl)) _).setCell (.inl (.inl rfl)) _).setCell (.inl (.inr (.inl rfl))) _).setCell (.inl (.inr (.inr rfl))) _).setCell (.inl (.inr (.inr rfl))) _

theorem put7_blk {W : World} {g2 g3 g4 : Nat} {z0 z1 z2 z3 z4 z5 z6 : Value} (h2 : Blk W g2 48 #[z0, z1, z2, z3]) (h3 : Blk W g3 3 #[z4]) (h4 : Blk W g4 36 #[z5, z6]) (n1 : g2 ≠ g3) (n2 : g2 ≠ g4) (n3 : g3 ≠ g4) (k : Int) (x : ByteArray) (v po i e a : Int) :
    Blk (put7 W g2 g3 g4 k x v po i e a) g2 48 #[.int .i64 k, .string x, .int .i64 v, .int .i64 po] ∧ Blk (put7 W g2 g3 g4 k x v po i e a) g3 3 #[.int .i64 i] ∧ Blk (put7 W g2 g3 g4 k x v po i e a) g4 36 #[.int .i64 e, .int .i64 a] := by
  obtain ⟨W1, hW1⟩ : ∃ W1, (((W.setCell ⟨g2, 0, none⟩ (.int .i64 k)).setCell ⟨g2, 1, none⟩ (.string x)).setCell ⟨g2, 2, none⟩ (.int .i64 v)).setCell ⟨g2, 3, none⟩ (.int .i64 po) = W1 := ⟨_, rfl⟩
  have o1 : Only (· = g2) W W1 := by rw [← hW1]; exact ((((Only.refl _ W).put 0 _).put 1 _).put 2 _).put 3 _
  have b2 : Blk W1 g2 48 #[.int .i64 k, .string x, .int .i64 v, .int .i64 po] := by rw [← hW1]; exact (((h2.put 0 (.int .i64 k)).put 1 (.string x)).put 2 (.int .i64 v)).put 3 (.int .i64 po)
  obtain ⟨W2, hW2⟩ : ∃ W2, W1.setCell ⟨g3, 0, none⟩ (.int .i64 i) = W2 := ⟨_, rfl⟩
  have o2 : Only (· = g3) W1 W2 := by rw [← hW2]; exact (Only.refl _ W1).put 0 _
  have b3 : Blk W2 g3 3 #[.int .i64 i] := by rw [← hW2]; exact (h3.only o1 (fun h => n1 h.symm)).put 0 (.int .i64 i)
  obtain ⟨W3, hW3⟩ : ∃ W3, (W2.setCell ⟨g4, 0, none⟩ (.int .i64 e)).setCell ⟨g4, 1, none⟩ (.int .i64 a) = W3 := ⟨_, rfl⟩
  have o3 : Only (· = g4) W2 W3 := by rw [← hW3]; exact ((Only.refl _ W2).put 0 _).put 1 _
  have b4 : Blk W3 g4 36 #[.int .i64 e, .int .i64 a] := by rw [← hW3]; exact (((h4.only o1 (fun h => n2 h.symm)).only o2 (fun h => n3 h.symm)).put 0 (.int .i64 e)).put 1 (.int .i64 a)
  unfold put7
  rw [hW1, hW2, hW3]
  exact ⟨(b2.only o2 n1).only o3 n2, b3.only o3 n3, b4⟩

theorem SgnI.found {w : World} {a : Option Addr} {c : Nat} {l : List UInt8} {p : Nat} {pre : List ByteArray} {W : World} (h : SgnI w a c l p pre W) {x : ByteArray} (hx : Lx.has (l.drop p) x = true) :
    SgnX w l p .ret (pre ++ [x]) (put7 W (w.heap.size + 1 + 1) (w.heap.size + 1 + 1 + 1) (w.heap.size + 1 + 1 + 1 + 1) 7 x 0 p ((p : Int) + (x.size : Int)) 0 0).drew := by
  obtain ⟨⟨h1, h2⟩, ⟨h3, h4, h5⟩, h6, h7, h8⟩ := h
  obtain ⟨b1, b2, b3⟩ := put7_blk h3 h4 h5 (by omega) (by omega) (by omega) 7 x 0 p ((p : Int) + (x.size : Int)) 0 0
  have ho := put7_only W (w.heap.size + 1 + 1) (w.heap.size + 1 + 1 + 1) (w.heap.size + 1 + 1 + 1 + 1) 7 x 0 p ((p : Int) + (x.size : Int)) 0 0
  exact ⟨rfl, pre, x, rfl, h8, hx, b1.drew, b2.drew, b3.drew, (h6.only ho rfl (fun k hk => by omega)).drew⟩

/-- Behind the loop: no sign stands there. -/
theorem SgnI.fin {w : World} {a : Option Addr} {c : Nat} {l : List UInt8} {p D : Nat} {pre : List ByteArray} {W : World} (h : SgnI w a c l p pre W) (hD : w.heap.size + 5 < D) (hK : W.heap[D]? = some (.deferred (some []))) :
    let W' := put7 W (w.heap.size + 1 + 1) (w.heap.size + 1 + 1 + 1) (w.heap.size + 1 + 1 + 1 + 1) 0 ⟨#[]⟩ 0 0 p 5 p
    Blk (W'.putObj D (.deferred none)) (w.heap.size + 1 + 1) 48 #[.int .i64 0, .string ⟨#[]⟩, .int .i64 0, .int .i64 0] ∧ Blk (W'.putObj D (.deferred none)) (w.heap.size + 1 + 1 + 1) 3 #[.int .i64 p] ∧ Blk (W'.putObj D (.deferred none)) (w.heap.size + 1 + 1 + 1 + 1) 36 #[.int .i64 5, .int .i64 p] ∧
      W'.heap[D]? = some (.deferred (some [])) ∧ Kept w (W'.putObj D (.deferred none)) := by
  intro W'
  obtain ⟨⟨h1, h2⟩, ⟨h3, h4, h5⟩, h6, h7, h8⟩ := h
  obtain ⟨b1, b2, b3⟩ := put7_blk h3 h4 h5 (by omega) (by omega) (by omega) 0 ⟨#[]⟩ 0 0 p 5 p
  have ho := put7_only W (w.heap.size + 1 + 1) (w.heap.size + 1 + 1 + 1) (w.heap.size + 1 + 1 + 1 + 1) 0 ⟨#[]⟩ 0 0 p 5 p
  have hd : Only (· = D) W' (W'.putObj D (.deferred none)) := (Only.refl (· = D) W').putObj (.inl rfl) _
  exact ⟨b1.only hd (by omega), b2.only hd (by omega), b3.only hd (by omega), ho.same hK (by omega), (h6.only ho rfl (fun k hk => by omega)).only hd rfl (fun k hk => by omega)⟩

set_option maxHeartbeats 8000000 in
theorem sign_c (a : Option Addr) (c : Nat) (l : List UInt8) (p : Nat) (w : World) (h : SrcAt w (.slice a l.length c) l) (hT : Tb w) (hp : p < l.length) (hl : l.length ≤ 20000) :
    Calls Tryz.prog 86 #[.slice a l.length c, .int .i64 p] w fun r w' => r = .returned (wayV p (Lx.sign (l.drop p))) ∧ Kept w w' := by
  have hcap := h.cap
  unfold maxLen at hcap
  obtain ⟨W1, hW1⟩ : ∃ W1, ((((w.alloc (.cells #[.slice a l.length c] 61)).alloc (.cells #[.int .i64 p] 3)).alloc (.cells #[.int .i64 0, .string ⟨#[]⟩, .int .i64 0, .int .i64 0] 48)).alloc (.cells #[.int .i64 0] 3)).alloc (.cells #[.int .i64 0, .int .i64 0] 36) = W1 := ⟨_, rfl⟩
  obtain ⟨hI1, hsz1⟩ := sgnI_new w a c l p hW1
  have HI1 := Lib.hid hI1
  have HT := Lib.hid hT
  have HS := Lib.hid h
  have HW := Lib.hid hW1
  have HSZ := Lib.hid hsz1
  obtain ⟨R, hR⟩ : ∃ R, Lx.sign (l.drop p) = R := ⟨_, rfl⟩
  rw [hR]
  have HRS := Lib.hid hR
  clear hR
  clear h hT hW1 hI1 hsz1
  refine (callsIn_wide (n := 3)).1 (callsIn_of_wp_marks Tryz.func86 rfl trivial (wpIn_wide.2 ?_) rfl)
  simp only [Tryz.ntmps86, List.size_toArray, List.length_cons, List.length_nil, Nat.reduceAdd, Nat.reduceSub, Array.replicate_succ, Array.replicate_zero, List.push_toArray, List.append_toArray, List.nil_append, List.cons_append]
  go_wp2_with (rw [HW.out])
  refine ((callsIn_wide (n := 1)).1 (fseq_in Fence.wide 1 trivial rfl Lx.sgs _)).mono ?_
  rintro e w' ⟨rfl, rfl⟩
  go_wp2_with fail
  have b6 := Blk.new W1 9 #[.string Lx.sgs]
  have hk1 : Kept W1 (W1.alloc (.cells #[.string Lx.sgs] 9)) := (Kept.refl W1).alloc _
  have hT1 := HT.out.kept HI1.out.2.2.1
  have hT0 := hT1.kept hk1
  have hI0 : SgnI w a c l p [] (W1.alloc (.cells #[.string Lx.sgs] 9)) := by
    obtain ⟨⟨h1, h2⟩, ⟨h3, h4, h5⟩, h6, h7, h8⟩ := HI1.out
    exact ⟨⟨h1.kept hk1, h2.kept hk1⟩, ⟨h3.kept hk1, h4.kept hk1, h5.kept hk1⟩, h6.trans hk1, Nat.le_trans h7 hk1.size, h8⟩
  have hlt := hT1.lt
  refine wpIn_wide.1 (wpIn_rangeFunc_ownG (F := Fence.wide) (n := 3) rfl (by omega) (gf := 120) (lb := #[.pointer (some ⟨W1.heap.size, 0, none⟩)]) rfl trivial (enters_of Tryz.func120 (by kernel_rfl) rfl)
    (fseq_stops Fence.wide (3 - 1) trivial rfl (by omega) W1.heap.size Lx.sgs Lx.size_sgs Lx.ascii_sgs _ hT0 (by simp) (b6.cell 0)) kp3_t (kp3_b hT0 (by simp)) (Below.refl _ _) (fun _ => rfl)
    (SgnI w a c l p) (SgnX w l p) (sgnI_from w a c l p _ (by have := HSZ.out; simp; omega)) (fun c => sgnX_from w l p c _ (by have := HSZ.out; simp; omega))
    hI0
    (fun x => { tmps := #[.slice a l.length c, .int .i64 p, .pointer (some ⟨w.heap.size, 0, none⟩), .pointer (some ⟨w.heap.size + 1, 0, none⟩), .pointer (some ⟨w.heap.size + 1 + 1, 0, none⟩), .pointer (some ⟨w.heap.size + 1 + 1 + 1, 0, none⟩), .pointer (some ⟨w.heap.size + 1 + 1 + 1 + 1, 0, none⟩), .string x, .func (.func 120) #[] #[.pointer (some ⟨W1.heap.size, 0, none⟩)], .string x, undef, undef, undef, undef, undef, undef, undef, undef, undef, undef, undef, undef, undef, undef, undef, undef, undef], defers := [] }) ?assign ?body ?done ?stop)
  case assign =>
    intro l x W K hK
    gi_wp2
    exact hK
  case body =>
    rintro lr pre x W hI hlt'
    have HI := Lib.hid hI
    have HSM := Lib.hid (src_kept HS.out hI.2.2.1)
    obtain ⟨⟨c1, c2⟩, _⟩ := hI.cel
    clear hI b6 hk1 hT1 hT0 hI0 HW
    have HH := Lib.hid (has_any x a c l p W HSM.out (by omega))
    cases hh : Lx.has (l.drop p) x with
    | false =>
      rw [hh] at HH
      have HI2 := Lib.hid (show SgnI w a c l p (pre ++ [x]) W by
        obtain ⟨h1, h2, h3, h4, h5⟩ := HI.out
        exact ⟨h1, h2, h3, h4, fun y hy => by
          rcases List.mem_append.1 hy with h | h
          · exact h5 y h
          · rw [List.mem_singleton] at h; subst h; exact hh⟩)
      clear hh
      gi_wp2
      refine ⟨trivial, (CallsIn.inRound lr (callsIn_wide.2 HH.out)).mono ?_⟩
      rintro e w2 ⟨rfl, rfl⟩
      gi_wp2
      exact ⟨KeepsFrom.refl _ _, ⟨Nat.le_refl _, fun _ _ => rfl⟩, HI2.out⟩
    | true =>
      rw [hh] at HH
      obtain ⟨⟨f0, f1, f2, f3⟩, f4, f5, f6⟩ := HI.out.froz
      gi_wp2
      refine ⟨trivial, (CallsIn.inRound lr (callsIn_wide.2 HH.out)).mono ?_⟩
      rintro e w2 ⟨rfl, rfl⟩
      obtain ⟨_, hd0, hd1, hd2⟩ := HI.out.cel
      obtain ⟨g1, ⟨g2, g3, g4, g5⟩, g6, ⟨g7, g8⟩, _⟩ : (w2.drew.cell? ⟨w.heap.size + 1, 0, none⟩ = some (.int .i64 p)) ∧ (w2.drew.cell? ⟨w.heap.size + 1 + 1, 0, none⟩ = some (.int .i64 0) ∧ w2.drew.cell? ⟨w.heap.size + 1 + 1, 1, none⟩ = some (.string ⟨#[]⟩) ∧ w2.drew.cell? ⟨w.heap.size + 1 + 1, 2, none⟩ = some (.int .i64 0) ∧ w2.drew.cell? ⟨w.heap.size + 1 + 1, 3, none⟩ = some (.int .i64 0)) ∧
        w2.drew.cell? ⟨w.heap.size + 1 + 1 + 1, 0, none⟩ = some (.int .i64 0) ∧ (w2.drew.cell? ⟨w.heap.size + 1 + 1 + 1 + 1, 0, none⟩ = some (.int .i64 0) ∧ w2.drew.cell? ⟨w.heap.size + 1 + 1 + 1 + 1, 1, none⟩ = some (.int .i64 0)) ∧ True := ⟨c2, hd0, hd1, hd2, trivial⟩
      have HX := Lib.hid (HI.out.found hh)
      have hxl := (Lx.has_take hh).1
      rw [List.length_drop] at hxl
      have hwr : IntKind.i64.wrap ((p : Int) + (x.size : Int)) = (p : Int) + (x.size : Int) := IntWalk.i64_in _ (by omega)
      clear hh HI HSM HH HS HT hd0 hd1 hd2
      gi_wp2
      refine wpIn_region_of_any (by kernel_rfl) (by kernel_rfl) (by rintro ⟨_, _, h⟩; exact h) ?_
      change wpAny _ _ _ _ _ _ _ (World.drew _)
      refine wpAny_take (i := 0) (v := ?_) rfl (by kernel_rfl) (by kernel_rfl) (by kernel_rfl) (fun _ _ _ h => h) (Or.inl ⟨by rfl, ?_⟩) ?_
      rotate_left
      · intro w; go_simp; try with_reducible rfl
      refine wpAny_take (i := 4) (v := ?_) rfl (by kernel_rfl) (by kernel_rfl) (by kernel_rfl) (fun _ _ _ h => h) (Or.inl ⟨by rfl, ?_⟩) ?_
      rotate_left
      · intro w; go_simp; try with_reducible rfl
      refine wpAny_take (i := 5) (v := ?_) rfl (by kernel_rfl) (by kernel_rfl) (by kernel_rfl) (fun _ _ _ h => h) (Or.inl ⟨by rfl, ?_⟩) ?_
      rotate_left
      · intro w; go_simp; try with_reducible rfl
      refine wpAny_take (i := 7) (v := ?_) rfl (by kernel_rfl) (by kernel_rfl) (by kernel_rfl) (fun _ _ _ h => h) (Or.inl ⟨by rfl, ?_⟩) ?_
      rotate_left
      · intro w; go_simp; try with_reducible rfl
      refine wpAny_ready (rs := [1, 3]) (by kernel_rfl) (by simp) ?_
      refine AllReady.cons rfl (fun K hK => ?_) ?_
      · go_simp
        refine hK _ _ ?_; clear hK K
        refine wpAny_take (i := 2) (v := ?_) rfl (by kernel_rfl) (by kernel_rfl) (by kernel_rfl) (fun _ _ _ h => h) (Or.inl ⟨by rfl, ?_⟩) ?_
        rotate_left
        · intro w; go_simp; try with_reducible rfl
        refine wpAny_ready (rs := [3, 8]) (by kernel_rfl) (by simp) ?_
        refine AllReady.cons rfl (fun K hK => ?_) ?_
        · go_simp
          refine hK _ _ ?_; clear hK K
          refine wpAny_take (i := 6) (v := ?_) rfl (by kernel_rfl) (by kernel_rfl) (by kernel_rfl) (fun _ _ _ h => h) (Or.inl ⟨by rfl, ?_⟩) ?_
          rotate_left
          · intro w; go_simp; try with_reducible rfl
          refine wpAny_ready (rs := [8]) (by kernel_rfl) (by simp) ?_
          refine AllReady.cons rfl (fun K hK => ?_) ?_
          · go_simp
            refine hK _ _ ?_; clear hK K
            refine wpAny_ready (rs := [9]) (by kernel_rfl) (by simp) ?_
            refine AllReady.cons rfl (fun K hK => ?_) ?_
            · go_simp
              refine hK _ _ ?_; clear hK K
              refine wpAny_ready (rs := [10]) (by kernel_rfl) (by simp) ?_
              refine AllReady.cons rfl (fun K hK => ?_) ?_
              · go_simp
                refine hK _ _ ?_; clear hK K
                refine wpAny_done (by kernel_rfl) ?_ _
                gi_wp2
                exact ⟨((put7_keeps _ _ _ _ _ _ _ _ _ _ _).trans (KeepsOthers.drew _)).from _, HX.out⟩
              exact AllReady.nil
            exact AllReady.nil
          exact AllReady.nil
        refine AllReady.cons rfl (fun K hK => ?_) ?_
        · go_simp
          refine hK _ _ ?_; clear hK K
          refine wpAny_ready (rs := [3]) (by kernel_rfl) (by simp) ?_
          refine AllReady.cons rfl (fun K hK => ?_) ?_
          · go_simp
            refine hK _ _ ?_; clear hK K
            refine wpAny_take (i := 6) (v := ?_) rfl (by kernel_rfl) (by kernel_rfl) (by kernel_rfl) (fun _ _ _ h => h) (Or.inl ⟨by rfl, ?_⟩) ?_
            rotate_left
            · intro w; go_simp; try with_reducible rfl
            refine wpAny_ready (rs := [9]) (by kernel_rfl) (by simp) ?_
            refine AllReady.cons rfl (fun K hK => ?_) ?_
            · go_simp
              refine hK _ _ ?_; clear hK K
              refine wpAny_ready (rs := [10]) (by kernel_rfl) (by simp) ?_
              refine AllReady.cons rfl (fun K hK => ?_) ?_
              · go_simp
                refine hK _ _ ?_; clear hK K
                refine wpAny_done (by kernel_rfl) ?_ _
                gi_wp2
                exact ⟨((put7_keeps _ _ _ _ _ _ _ _ _ _ _).trans (KeepsOthers.drew _)).from _, HX.out⟩
              exact AllReady.nil
            exact AllReady.nil
          exact AllReady.nil
        exact AllReady.nil
      refine AllReady.cons rfl (fun K hK => ?_) ?_
      · go_simp
        refine hK _ _ ?_; clear hK K
        refine wpAny_take (i := 6) (v := ?_) rfl (by kernel_rfl) (by kernel_rfl) (by kernel_rfl) (fun _ _ _ h => h) (Or.inl ⟨by rfl, ?_⟩) ?_
        rotate_left
        · intro w; go_simp; try with_reducible rfl
        refine wpAny_ready (rs := [1]) (by kernel_rfl) (by simp) ?_
        refine AllReady.cons rfl (fun K hK => ?_) ?_
        · go_simp
          refine hK _ _ ?_; clear hK K
          refine wpAny_take (i := 2) (v := ?_) rfl (by kernel_rfl) (by kernel_rfl) (by kernel_rfl) (fun _ _ _ h => h) (Or.inl ⟨by rfl, ?_⟩) ?_
          rotate_left
          · intro w; go_simp; try with_reducible rfl
          refine wpAny_ready (rs := [8]) (by kernel_rfl) (by simp) ?_
          refine AllReady.cons rfl (fun K hK => ?_) ?_
          · go_simp
            refine hK _ _ ?_; clear hK K
            refine wpAny_ready (rs := [9]) (by kernel_rfl) (by simp) ?_
            refine AllReady.cons rfl (fun K hK => ?_) ?_
            · go_simp
              refine hK _ _ ?_; clear hK K
              refine wpAny_ready (rs := [10]) (by kernel_rfl) (by simp) ?_
              refine AllReady.cons rfl (fun K hK => ?_) ?_
              · go_simp
                refine hK _ _ ?_; clear hK K
                refine wpAny_done (by kernel_rfl) ?_ _
                gi_wp2
                exact ⟨((put7_keeps _ _ _ _ _ _ _ _ _ _ _).trans (KeepsOthers.drew _)).from _, HX.out⟩
              exact AllReady.nil
            exact AllReady.nil
          exact AllReady.nil
        exact AllReady.nil
      exact AllReady.nil
  case done =>
    rintro D ys W hD hys hI hK
    subst hys
    rw [Lx.flds_sgs] at hI
    have HI := Lib.hid hI
    obtain ⟨⟨c1, c2⟩, ⟨d0, d1, d2, d3⟩, d4, d5, d6⟩ := hI.cel
    obtain ⟨⟨f0, f1, f2, f3⟩, f4, f5, f6⟩ := hI.froz
    have HE := Lib.hid (show R = .bad 5 0 by
      rw [← HRS.out]
      unfold Lx.sign
      rw [List.find?_eq_none.2 (fun y hy => by rw [hI.2.2.2.2 y hy]; decide)])
    clear hI
    go_wp2_with fail
    refine (refuse_y _ 5 p _ (by omega)).mono ?_
    rintro e W2 ⟨rfl, k2⟩
    have HI2 := Lib.hid (HI.out.kept k2)
    have hK2 := (k2.block D (Array.getElem?_eq_some_iff.1 hK).1).trans hK
    clear c1 c2 d0 d1 d2 d3 d4 d5 d6 f0 f1 f2 f3 f4 f5 f6 HI k2 hK
    have hDl : W1.heap.size + 1 ≤ D := by simpa using hD
    have HD := Lib.hid hDl
    clear hD hDl
    obtain ⟨_, ⟨d0, d1, d2, d3⟩, d4, d5, d6⟩ := HI2.out.cel
    obtain ⟨⟨f0, f1, f2, f3⟩, f4, f5, f6⟩ := HI2.out.froz
    go_wp2_with fail
    have HF := Lib.hid (HI2.out.fin (by have := HD.out; have := HSZ.out; omega) hK2)
    obtain ⟨hb1, hb2, hb3, hb4, hb5⟩ := HF.out
    refine ⟨by simp, .inl ⟨_, _, rfl, run_takeDeferred hb4, ?_⟩⟩
    exact ⟨_, sgn_results (by rfl) _ _ rfl rfl rfl hb1 hb2 hb3, by rw [HE.out]; rfl, hb5⟩
  case stop =>
    rintro D cd pre W hD hpre ⟨rfl, pre', x, rfl, h2, h3, h4, h5, h6, h7⟩ hK
    have HE := Lib.hid (show R = .tok 7 x 0 x.size by
      rw [← HRS.out]
      unfold Lx.sign
      rw [find_at (by rw [← Lx.flds_sgs]; exact hpre) h2 h3])
    gi_wp2
    refine ⟨by simp, .inl ⟨_, _, rfl, run_takeDeferred hK, ?_⟩⟩
    have hDl : W1.heap.size + 1 ≤ D := by simpa using hD
    have hz := HSZ.out
    have ho : Only (· = D) W (W.putObj D (.deferred none)) := (Only.refl (· = D) W).putObj (.inl rfl) _
    exact ⟨_, sgn_results (by rfl) _ _ rfl rfl rfl (h4.only ho (by omega)) (h5.only ho (by omega)) (h6.only ho (by omega)), by rw [HE.out]; rfl, h7.only ho rfl (fun k hk => by omega)⟩

end Go.Proofs.YtfkmnpgpfmkjaaaGreatDoor
namespace Go.Proofs.YtfkmnpgpfmkjaaaGreatDoor
open Go.RowKit

/-- An iterator's contract: it turns nothing that was there; what a round of the body turns is told by U at the round's world, or is the loop's record. -/
def SeqOwnU {α : Type} (F : Fence) (n : Nat) (P : Program) (g : Nat) (lb : Array Value) (encs : α → Array Value) (U : World → Nat → Prop) (S Sp : List α → Prop) (G : List α → Prop) (W : World) : Prop :=
  ∀ (l : Nat) (J Jx : List α → World → Prop), l + 1 = W.heap.size →
    (∀ s A B, J s A → Kept A B → J s B) → (∀ s A B, Jx s A → Kept A B → Jx s B) →
    (∀ pre x W1, J pre W1 → G (pre ++ [x]) → W.heap.size ≤ W1.heap.size → YieldAt F (n - 1) P l (encs x) W1 fun e W' =>
      (e = .returned (.bool true) ∧ J (pre ++ [x]) W' ∧ Only (fun k => U W1 k ∨ k = l) W1 W') ∨ (e = .returned (.bool false) ∧ Jx (pre ++ [x]) W')) →
    J [] W →
    CallsIn F n P g (#[.func (.yield l) #[] #[]] ++ lb) W fun e W' => (∃ v, e = .returned v) ∧ ((∃ xs, S xs ∧ J xs W') ∨ (∃ pre, Sp pre ∧ Jx pre W'))

/-- How a round's body may be left. -/
def ownPostU {α : Type} (U : World → Nat → Prop) (I : List α → World → Prop) (Ix : Code → List α → World → Prop) (xs : List α) (W : World) : Exit → Act → World → Prop
  | .normal, _, W' => Only (U W) W W' ∧ I xs W'
  | .ret, _, W' => Only (U W) W W' ∧ Ix .ret xs W'
  | .exit id, _, W' => Only (U W) W W' ∧ Ix (.exit id) xs W'
  | .goto t, _, W' => Only (U W) W W' ∧ Ix (.goto t) xs W'
  | .panic _, _, _ => False
  | .outgrown, _, _ => False

theorem Only.viaU {U : World → Nat → Prop} {W0 W Wb W3 W4 : World} {l : Nat} (hloc : ∀ A B k, A.heap[k]? = B.heap[k]? → U B k → U A k) (hk : Kept W0 W) (hb : Only (· = l) W Wb) (ho : Only (U Wb) Wb W3) (h4 : Only (· = l) W3 W4) :
    Only (fun k => U W0 k ∨ k = l) W0 W4 := by
  refine ⟨h4.os.trans (ho.os.trans (hb.os.trans hk.os)), h4.output.trans (ho.output.trans (hb.output.trans hk.output)), Nat.le_trans hk.size (Nat.le_trans hb.size (Nat.le_trans ho.size h4.size)), fun k h hs => ?_⟩
  have hkl : ¬ k = l := fun e => hs (.inr e)
  have e1 := hk.block k h
  have e2 := (hb.block k (Nat.lt_of_lt_of_le h hk.size) hkl).trans e1
  have e3 := ho.block k (Nat.lt_of_lt_of_le h (Nat.le_trans hk.size hb.size)) (fun u => hs (.inl (hloc _ _ k e2.symm u)))
  exact (h4.block k (Nat.lt_of_lt_of_le h (Nat.le_trans hk.size (Nat.le_trans hb.size ho.size))) hkl).trans (e3.trans e2)

section
variable {F : Fence} {n : Nat} {P : Program}
theorem wpIn_rangeFunc_ownU {α : Type} {g : Operand} {ps : Array Tmp} {assign body : Code} {Q : Exit → Act → World → Prop} {a : Act} {w : World}
    (hro : F.round = none) (h1 : 1 ≤ n) {gf : Nat} {lb : Array Value} (hg : a.eval g = .func (.func gf) #[] lb) (hFg : F.fn gf) (eg : ∀ args w, (callFunc gf args).run P w = .ok (.enter gf args) w)
    {encs : α → Array Value} {U : World → Nat → Prop} {S Sp G : List α → Prop}
    (hseq : ∀ W1, Kept w W1 → W1.heap.size = w.heap.size + 2 → SeqOwnU F (n - 1) P gf lb encs U S Sp G W1)
    (hloc : ∀ A B k, A.heap[k]? = B.heap[k]? → U B k → U A k) (hUl : ∀ W r, W.heap[w.heap.size + 1]? = some (.loop r) → ¬ U W (w.heap.size + 1)) (hUd : ∀ W, W.heap[w.heap.size]? = some (.deferred (some [])) → ¬ U W w.heap.size) (hps : ∀ x, (encs x).size = ps.size)
    (I : List α → World → Prop) (Ix : Code → List α → World → Prop)
    (hI : ∀ s A B, I s A → Only (fun k => w.heap.size ≤ k ∧ k < w.heap.size + 2) A B → I s B)
    (hIx : ∀ c s A B, Ix c s A → Only (fun k => w.heap.size ≤ k ∧ k < w.heap.size + 2) A B → Ix c s B)
    (h0 : I [] w) (a₁ : α → World → Act) (wa : α → World → World) (hwa : ∀ x W, Kept W (wa x W))
    (hassign : ∀ (l : Nat) (x : α) (W : World) (K : Act → World → Prop), K (a₁ x W) (wa x W) →
      assign.wpIn (F.inRound l) (n - 1 - 1) P (Exit.then K (fun _ _ _ => False)) { tmps := (ps.zip (encs x)).foldl (fun t (p, v) => t.setIfInBounds p v) a.tmps, defers := [] } W)
    (hbody : ∀ (l : Nat) (pre : List α) (x : α) (W0 W : World), l = w.heap.size + 1 → l < W0.heap.size → Only (· = l) (wa x W0) W → (∃ r, W.heap[l]? = some (.loop r)) → I pre W → G (pre ++ [x]) → w.heap.size + 2 ≤ W.heap.size → body.wpIn (F.inRound l) (n - 1 - 1) P (ownPostU U I Ix (pre ++ [x]) W) (a₁ x W0) W)
    (hdone : ∀ (D : Nat) (xs : List α) (W : World), D = w.heap.size → S xs → I xs W → W.heap[D]? = some (.deferred (some [])) → Q .normal { a with defers := { target := .collected D, args := #[] } :: a.defers } W)
    (hstop : ∀ (D : Nat) (c : Code) (pre : List α) (W : World), D = w.heap.size → Sp pre → Ix c pre W → W.heap[D]? = some (.deferred (some [])) → c.wpIn F n P Q { a with defers := { target := .collected D, args := #[] } :: a.defers } W) :
    (Code.rangeFunc g ps assign body).wpIn F n P Q a w := by
  refine wpIn_rangeFunc fun fn hfn => ?_
  rw [hro]
  obtain ⟨rc, hrc⟩ : ∃ rc : LoopState → Option Code → Loop, ∀ st pe, rc st pe = { state := st, pending := pe, fn, tmps := a.tmps, params := ps, assign, body, defers := w.heap.size } := ⟨fun st pe => _, fun _ _ => rfl⟩
  obtain ⟨W1, hW1⟩ : ∃ W1, (w.alloc (.deferred (some []))).alloc (.loop (rc .ready none)) = W1 := ⟨_, rfl⟩
  have hk1 : Kept w W1 := by rw [← hW1]; exact ((Kept.refl w).alloc _).alloc _
  have hs1 : W1.heap.size = w.heap.size + 2 := by rw [← hW1]; simp
  have hL1 : W1.heap[w.heap.size + 1]? = some (.loop (rc .ready none)) := by
    rw [← hW1]; have := heap_alloc_new (w.alloc (.deferred (some []))) (.loop (rc .ready none)); rwa [World.size_alloc] at this
  have hD1 : W1.heap[w.heap.size]? = some (.deferred (some [])) := by
    rw [← hW1]; exact (Below.heap_alloc _ _ _ (by simp)).trans (heap_alloc_new w _)
  refine ⟨w.heap.size + 1, [{ target := .collected w.heap.size, args := #[] }], W1, { target := .fn (.func gf) lb, args := #[.func (.yield (w.heap.size + 1)) #[] #[]] }, W1, gf,
    #[.func (.yield (w.heap.size + 1)) #[] #[]] ++ lb, W1, by rw [← hW1, hrc]; exact run_enterLoop_outer _ _ _ _ _, ?_, ?_, ?_, fun _ => h1, ?_⟩
  · simp only [resolve, hg]
    simp [go_sem]
  · intro f' hf'; simp [Target.leads] at hf'; subst hf'; exact hFg
  · simp [invoke, go_sem, eg]
  · refine (hseq W1 hk1 hs1 (w.heap.size + 1)
      (fun pre W => I pre W ∧ W.heap[w.heap.size + 1]? = some (.loop (rc .ready none)) ∧ W.heap[w.heap.size]? = some (.deferred (some [])))
      (fun pre W => ∃ c, Ix c pre W ∧ W.heap[w.heap.size + 1]? = some (.loop (rc .done (some c))) ∧ W.heap[w.heap.size]? = some (.deferred (some [])))
      (by omega) ?abJ ?abJx ?round ⟨hI _ _ _ h0 (Only.of_kept hk1), hL1, hD1⟩).mono ?behind
    case abJ =>
      rintro s A B ⟨hi, hl, hd⟩ ho
      exact ⟨hI _ _ _ hi (Only.of_kept ho), (ho.block _ (Array.getElem?_eq_some_iff.1 hl).1).trans hl, (ho.block _ (Array.getElem?_eq_some_iff.1 hd).1).trans hd⟩
    case abJx =>
      rintro s A B ⟨c, hi, hl, hd⟩ ho
      exact ⟨c, hIx _ _ _ _ hi (Only.of_kept ho), (ho.block _ (Array.getElem?_eq_some_iff.1 hl).1).trans hl, (ho.block _ (Array.getElem?_eq_some_iff.1 hd).1).trans hd⟩
    case round =>
      rintro pre x W0 ⟨hi0, hl0, hd0⟩ hlen hsz
      have hlt0 : w.heap.size + 1 < W0.heap.size := (Array.getElem?_eq_some_iff.1 hl0).1
      have hy := run_yield (P := P) (args := encs x) hl0 (by rw [hrc]; exact hps x)
      rw [hrc] at hy
      obtain ⟨W, hW⟩ : ∃ W, W = wa x W0 := ⟨_, rfl⟩
      have hkW : Kept W0 W := by rw [hW]; exact hwa x W0
      have hl : W.heap[w.heap.size + 1]? = some (.loop (rc .ready none)) := (hkW.block _ hlt0).trans hl0
      have hd : W.heap[w.heap.size]? = some (.deferred (some [])) := (hkW.block _ (by omega)).trans hd0
      have hi : I pre W := hI _ _ _ hi0 (Only.of_kept hkW)
      have hlt : w.heap.size + 1 < W.heap.size := (Array.getElem?_eq_some_iff.1 hl).1
      have hszW := hkW.size
      refine ⟨fn, _, assign, body, hy, roundIn_of_wpIn hfn (hassign _ x W0 _ ⟨_, by rw [← hW]; exact run_beginRound hl (by rw [hrc]), ?_⟩)⟩
      have hl2 : (W.putObj (w.heap.size + 1) (.loop { rc .ready none with state := .busy })).heap[w.heap.size + 1]? = some (.loop { rc .ready none with state := .busy }) := World.putObj_heap_same hlt
      have hd2 : (W.putObj (w.heap.size + 1) (.loop { rc .ready none with state := .busy })).heap[w.heap.size]? = some (.deferred (some [])) := (World.putObj_heap_other (by omega)).trans hd
      have hob : Only (· = w.heap.size + 1) (wa x W0) (W.putObj (w.heap.size + 1) (.loop { rc .ready none with state := .busy })) := by rw [← hW]; exact (Only.refl (· = w.heap.size + 1) W).putObj (.inl rfl) _
      refine wpIn_mono (hbody _ pre x W0 _ rfl hlt0 hob ⟨_, hl2⟩ (hI _ _ _ hi ((Only.refl _ _).putObj (.inl ⟨by omega, by omega⟩) _)) hlen (by simp [World.putObj]; omega)) ?_
      have ends : ∀ (jump : Option Code) (W3 : World), Only (U (W.putObj (w.heap.size + 1) (.loop { rc .ready none with state := .busy }))) (W.putObj (w.heap.size + 1) (.loop { rc .ready none with state := .busy })) W3 →
          (Instr.endRound (w.heap.size + 1) jump).run P W3 = .ok (.bool jump.isNone) (W3.putObj (w.heap.size + 1) (.loop (rc (if jump.isNone then .ready else .done) jump))) ∧
          (W3.putObj (w.heap.size + 1) (.loop (rc (if jump.isNone then .ready else .done) jump))).heap[w.heap.size + 1]? = some (.loop (rc (if jump.isNone then .ready else .done) jump)) ∧
          (W3.putObj (w.heap.size + 1) (.loop (rc (if jump.isNone then .ready else .done) jump))).heap[w.heap.size]? = some (.deferred (some [])) ∧
          Only (fun k => U W0 k ∨ k = w.heap.size + 1) W0 (W3.putObj (w.heap.size + 1) (.loop (rc (if jump.isNone then .ready else .done) jump))) := fun jump W3 ho => by
        have hl3 := ho.same hl2 (hUl _ _ hl2)
        have hd3 := ho.same hd2 (hUd _ hd2)
        have hr := run_endRound (P := P) jump hl3
        refine ⟨?_, World.putObj_heap_same (Array.getElem?_eq_some_iff.1 hl3).1, (World.putObj_heap_other (by omega)).trans hd3, ?_⟩
        · rw [hrc] at hr ⊢; exact hr
        · exact Only.viaU hloc hkW ((Only.refl (· = w.heap.size + 1) W).putObj (.inl rfl) _) ho ((Only.refl (· = w.heap.size + 1) W3).putObj (.inl rfl) _)
      rintro e a3 W3 hp
      cases e with
      | normal =>
        obtain ⟨hr, hl4, hd4, ho4⟩ := ends none W3 hp.1
        exact ⟨_, _, hr, .inl ⟨rfl, ⟨hI _ _ _ hp.2 ((Only.refl _ _).putObj (.inl ⟨by omega, by omega⟩) _), hl4, hd4⟩, ho4⟩⟩
      | ret =>
        obtain ⟨hr, hl4, hd4, ho4⟩ := ends (some .ret) W3 hp.1
        exact ⟨_, _, hr, .inr ⟨rfl, .ret, hIx _ _ _ _ hp.2 ((Only.refl _ _).putObj (.inl ⟨by omega, by omega⟩) _), hl4, hd4⟩⟩
      | exit id =>
        obtain ⟨hr, hl4, hd4, ho4⟩ := ends (some (.exit id)) W3 hp.1
        exact ⟨_, _, hr, .inr ⟨rfl, .exit id, hIx _ _ _ _ hp.2 ((Only.refl _ _).putObj (.inl ⟨by omega, by omega⟩) _), hl4, hd4⟩⟩
      | goto t =>
        obtain ⟨hr, hl4, hd4, ho4⟩ := ends (some (.goto t)) W3 hp.1
        exact ⟨_, _, hr, .inr ⟨rfl, .goto t, hIx _ _ _ _ hp.2 ((Only.refl _ _).putObj (.inl ⟨by omega, by omega⟩) _), hl4, hd4⟩⟩
      | panic ch => exact hp.elim
      | outgrown => exact hp.elim
    case behind =>
      rintro e W2 ⟨⟨v, rfl⟩, (⟨xs, hS, hi, hl, hd⟩ | ⟨pre, hSp, c, hi, hl, hd⟩)⟩
      · refine ⟨none, _, by have := run_endLoop (P := P) hl (by rw [hrc]; simp); rw [hrc] at this; exact this, hdone _ xs _ rfl hS (hI _ _ _ hi ((Only.refl _ _).putObj (.inl ⟨by omega, by omega⟩) _)) ((World.putObj_heap_other (by omega)).trans hd)⟩
      · refine ⟨some c, _, by have := run_endLoop (P := P) hl (by rw [hrc]; simp); rw [hrc] at this; exact this, hstop _ c pre _ rfl hSp (hIx _ _ _ _ hi ((Only.refl _ _).putObj (.inl ⟨by omega, by omega⟩) _)) ((World.putObj_heap_other (by omega)).trans hd)⟩
end

end Go.Proofs.YtfkmnpgpfmkjaaaGreatDoor
namespace Go.Proofs.YtfkmnpgpfmkjaaaGreatDoor
open Go.ChangeShapes Go.WideShapes Go.ChangeAt Go.RowKit Go.Shelf
attribute [local go_sem] Oper.semAt_some

namespace Lx
theorem word_bad {s : List UInt8} {e : Int} {o : Nat} (h : word s = .bad e o) : e ≠ 0 := by
  unfold word wordR at h
  split at h
  · injection h; omega
  · cases h
theorem number_bad {s : List UInt8} {e : Int} {o : Nat} (h : number s = .bad e o) : e ≠ 0 := by
  unfold number numR at h
  repeat' split at h
  all_goals first | (injection h; omega) | cases h
theorem text_bad {s : List UInt8} {e : Int} {o : Nat} (h : text s = .bad e o) : e ≠ 0 := by
  unfold text textR at h
  repeat' split at h
  all_goals first | (injection h; omega) | cases h
theorem sign_bad {s : List UInt8} {e : Int} {o : Nat} (h : sign s = .bad e o) : e ≠ 0 := by
  unfold sign at h
  split at h
  · cases h
  · injection h; omega
theorem tok_bad {s : List UInt8} {e : Int} {o : Nat} (h : tok s = .bad e o) : e ≠ 0 := by
  unfold tok tokK at h
  generalize kd (s.headD 0) = q at h
  by_cases h2 : q = 2
  · rw [if_pos h2] at h; exact word_bad h
  · rw [if_neg h2] at h
    by_cases h3 : q = 3
    · rw [if_pos h3] at h; exact number_bad h
    · rw [if_neg h3] at h
      by_cases h4 : q = 4
      · rw [if_pos h4] at h; exact text_bad h
      · rw [if_neg h4] at h; exact sign_bad h

theorem seqF_end {l : List UInt8} {g p : Nat} (h : ¬ p + skip false (l.drop p) < l.length) : seqF g p (l.drop p) = [] := by
  cases g with
  | zero => rfl
  | succ g =>
    rw [seqF, if_pos]
    rw [List.drop_drop, List.length_drop]; omega
end Lx

theorem seq_step {l : List UInt8} (g p : Nat) (h : p + Lx.skip false (l.drop p) < l.length) :
    ∃ (kk : Int) (x : ByteArray) (v po e a : Int) (en : Nat), wayV (p + Lx.skip false (l.drop p)) (Lx.tok (l.drop (p + Lx.skip false (l.drop p)))) = .tuple #[tagg kk x v po, .int .i64 (en : Int), fagg e a] ∧
      Lx.seqF (g + 1) p (l.drop p) = (⟨kk, x, v, po⟩, e, a) :: (if e = 0 then Lx.seqF g en (l.drop en) else []) ∧ (e = 0 → p + Lx.skip false (l.drop p) < en ∧ en ≤ l.length) := by
  have hne : ¬ ((l.drop p).drop (Lx.skip false (l.drop p))).length = 0 := by rw [List.drop_drop, List.length_drop]; omega
  rw [Lx.seqF, if_neg hne, List.drop_drop]
  generalize p + Lx.skip false (l.drop p) = q at *
  cases ht : Lx.tok (l.drop q) with
  | bad e o =>
    have he := Lx.tok_bad ht
    exact ⟨0, ⟨#[]⟩, 0, 0, e, ((q + o : Nat) : Int), q + o, rfl, by rw [if_neg he]; rfl, fun h => absurd h he⟩
  | tok k x v len =>
    have hl := Lx.tok_len (by rw [List.length_drop]; omega) ht
    rw [List.length_drop] at hl
    exact ⟨k, x, v, q, 0, 0, q + len, rfl, by rw [if_pos rfl]; show _ :: Lx.seqF g (q + len) ((l.drop q).drop len) = _; rw [List.drop_drop], fun _ => by omega⟩

theorem tokens_c (a : Option Addr) (c : Nat) (l : List UInt8) (w : World) :
    Calls Tryz.prog 26 #[.slice a l.length c] w fun e w' => e = .returned (.func (.func 42) #[] #[.pointer (some ⟨w.heap.size, 0, none⟩)]) ∧ w' = w.alloc (.cells #[.slice a l.length c] 61) := by
  go_enter Tryz.func26, Tryz.ntmps26
  go_wp2_with fail
  go_ret
  exact ⟨rfl, rfl⟩

/-- Whichever way it is. -/
theorem way_c (a : Option Addr) (c : Nat) (l : List UInt8) (p : Nat) (w : World) (h : SrcAt w (.slice a l.length c) l) (hT : Tb w) (hE : Er w) (hp : p < l.length) (hl : l.length ≤ 20000) (F : Nat)
    (hF : (if Lx.kd l[p] = 2 then 83 else if Lx.kd l[p] = 3 then 84 else if Lx.kd l[p] = 4 then 85 else 86) = F) :
    Calls Tryz.prog F #[.slice a l.length c, .int .i64 p] w fun r w' => r = .returned (wayV p (Lx.tok (l.drop p))) ∧ Kept w w' := by
  subst hF
  have ht : Lx.tok (l.drop p) = Lx.tokK (Lx.kd l[p]) (l.drop p) := by unfold Lx.tok; rw [drop_at hp]; rfl
  rw [ht]
  unfold Lx.tokK
  by_cases h2 : Lx.kd l[p] = 2
  · rw [if_pos h2, if_pos h2]; exact word_c a c l p w h hT hp h2 hl
  · rw [if_neg h2, if_neg h2]
    by_cases h3 : Lx.kd l[p] = 3
    · rw [if_pos h3, if_pos h3]; exact number_c a c l p w h hE hp h3 hl
    · rw [if_neg h3, if_neg h3]
      by_cases h4 : Lx.kd l[p] = 4
      · rw [if_pos h4, if_pos h4]; exact text_c a c l p w h hT hp hl
      · rw [if_neg h4, if_neg h4]; exact sign_c a c l p w h hT hp hl

theorem way_enters (q F : Nat) (hF : (if q = 2 then 83 else if q = 3 then 84 else if q = 4 then 85 else 86) = F) :
    ∀ args w, (callFunc F args).run Tryz.prog w = .ok (.enter F args) w := by
  subst hF
  by_cases h2 : q = 2
  · rw [if_pos h2]; exact enters_of Tryz.func83 (by kernel_rfl) rfl
  · rw [if_neg h2]
    by_cases h3 : q = 3
    · rw [if_pos h3]; exact enters_of Tryz.func84 (by kernel_rfl) rfl
    · rw [if_neg h3]
      by_cases h4 : q = 4
      · rw [if_pos h4]; exact enters_of Tryz.func85 (by kernel_rfl) rfl
      · rw [if_neg h4]; exact enters_of Tryz.func86 (by kernel_rfl) rfl

abbrev encQ : Lx.Q → Array Value := fun q => #[tagg q.1.kind q.1.text q.1.n q.1.pos, fagg q.2.1 q.2.2]

set_option maxHeartbeats 8000000 in
theorem tokens1_u (n : Nat) (hn : 1 ≤ n) (a : Option Addr) (c : Nat) (l : List UInt8) (w0 : World) (bs : Nat) (U : World → Nat → Prop) (W1 : World)
    (hS : SrcAt w0 (.slice a l.length c) l) (hT : Tb w0) (hE : Er w0) (hl : l.length ≤ 20000) (hk : Kept w0 W1) (hb : Blk W1 bs 61 #[.slice a l.length c]) (h1 : w0.heap.size ≤ bs) (hb1 : bs + 1 < W1.heap.size)
    (hU1 : ∀ W k, U W k → w0.heap.size ≤ k) (hU2 : ∀ W, Blk W bs 61 #[.slice a l.length c] → ¬ U W bs) (hU3 : ∀ W g cs, Blk W g 36 cs → W1.heap.size ≤ g → ¬ U W g) :
    SeqOwnU Fence.wide n Tryz.prog 42 #[.pointer (some ⟨bs, 0, none⟩)] encQ U (· = Lx.seq l) (· <+: Lx.seq l) (· <+: Lx.seq l) W1 := by
  intro lr J Jx hlr abJ abX hY h0
  have c0 := hb.cell 0
  simp at c0
  refine callsIn_of_wp Tryz.func42 rfl trivial ?_ rfl
  simp only [Tryz.ntmps42, List.size_toArray, List.length_cons, List.length_nil, Nat.reduceAdd, Nat.reduceSub, Array.replicate_succ, Array.replicate_zero, List.push_toArray, List.append_toArray, List.nil_append, List.cons_append]
  have HSK := Lib.hid (skip_c a c l 0 W1 (src_kept hS hk) (Nat.zero_le _))
  have HABJ := Lib.hid abJ
  have HABX := Lib.hid abX
  have HY := Lib.hid hY
  have H0 := Lib.hid h0
  have HK := Lib.hid hk
  have HB := Lib.hid hb
  have HU1 := Lib.hid hU1
  have HU2 := Lib.hid hU2
  have HU3 := Lib.hid hU3
  have HS := Lib.hid hS
  have HT := Lib.hid hT
  have HE := Lib.hid hE
  clear abJ abX hY h0 hk hb hU1 hU2 hU3 hS hT hE
  gi_wp2
  refine ⟨trivial, (callsIn_wide.2 HSK.out).mono ?_⟩
  rintro e w2 ⟨rfl, k2⟩
  have HJ2 := Lib.hid (HABJ.out _ _ _ H0.out k2)
  have HK2 := Lib.hid (HK.out.trans k2)
  have HB2 := Lib.hid (HB.out.kept k2)
  have hz2 := k2.size
  clear k2 H0 HSK c0
  gi_wp2
  gi_loopg [3] (l.length + 1) (fun g i3 wr => ∃ (pre : List Lx.Q) (p : Nat), i3 = .int .i64 ((p + Lx.skip false (l.drop p) : Nat) : Int) ∧ Hid (p ≤ l.length ∧ l.length < g + p ∧ Lx.seq l = pre ++ Lx.seqF g p (l.drop p)) ∧ Hid (J pre wr) ∧ Hid (Kept w0 wr) ∧ Hid (Blk wr bs 61 #[.slice a l.length c]) ∧ W1.heap.size ≤ wr.heap.size)
  case atStart => exact ⟨[], 0, by simp, Lib.hid ⟨Nat.zero_le _, by omega, rfl⟩, HJ2, HK2, HB2, hz2⟩
  case round =>
    clear HJ2 HK2 HB2 hz2
    obtain ⟨pre, p, rfl, HP, HJ, HKr, HBr, hz⟩ := hrel
    have b0 := HBr.out.cell 0
    simp at b0
    have hkp : p + Lx.skip false (l.drop p) ≤ l.length := by
      have h1 := Lx.skip_le false (l.drop p)
      have h2 := HP.out.1
      rw [List.length_drop] at h1; omega
    obtain ⟨q, hq⟩ : ∃ q, p + Lx.skip false (l.drop p) = q := ⟨_, rfl⟩
    rw [hq] at hkp ⊢
    have HQ := Lib.hid hq
    clear hq
    by_cases hlt : q < l.length
    · have hltI : (q : Int) < (l.length : Int) := by omega
      obtain ⟨g, rfl⟩ : ∃ g, gk = g + 1 := ⟨gk - 1, by have := HP.out; have := HQ.out; omega⟩
      have HSr := Lib.hid (src_kept HS.out HKr.out)
      have HWO := Lib.hid (wayOf_c a c l q wr HSr.out hlt)
      obtain ⟨F, hF⟩ : ∃ F, (if Lx.kd l[q] = 2 then 83 else if Lx.kd l[q] = 3 then 84 else if Lx.kd l[q] = 4 then 85 else 86) = F := ⟨_, rfl⟩
      rw [hF] at HWO
      have HWY := Lib.hid (way_c a c l q wr HSr.out (HT.out.kept HKr.out) (HE.out.kept HKr.out) hlt hl F hF)
      have hent := way_enters _ F hF
      clear hF
      obtain ⟨kk, x, v, po, ev, av, en, hv, hsq, hen⟩ := seq_step g p (by rw [HQ.out]; exact hlt)
      rw [HQ.out] at hv hen
      rw [hv] at HWY
      have HSQ := Lib.hid (show Lx.seq l = (pre ++ [(⟨kk, x, v, po⟩, ev, av)]) ++ (if ev = 0 then Lx.seqF g en (l.drop en) else []) by rw [HP.out.2.2, hsq]; simp)
      have HEN := Lib.hid hen
      clear hv hsq hen
      gi_wp2
      refine ⟨trivial, (callsIn_wide.2 HWO.out).mono ?_⟩
      rintro e w3 ⟨rfl, rfl⟩
      clear HWO
      gi_wp2
      refine ⟨trivial, (callsIn_wide.2 HWY.out).mono ?_⟩
      rintro e w4 ⟨rfl, k4⟩
      obtain ⟨W5, hW5⟩ : ∃ W5, (w4.alloc (.cells #[.int .i64 kk, .string x, .int .i64 v, .int .i64 po] 48)).alloc (.cells #[.int .i64 ev, .int .i64 av] 36) = W5 := ⟨_, rfl⟩
      have k45 : Kept w4 W5 := by rw [← hW5]; exact ((Kept.refl w4).alloc _).alloc _
      have hb5 : Blk W5 w4.heap.size 48 #[.int .i64 kk, .string x, .int .i64 v, .int .i64 po] ∧ Blk W5 (w4.heap.size + 1) 36 #[.int .i64 ev, .int .i64 av] := by
        rw [← hW5]
        refine ⟨(Blk.new _ _ _).alloc _, ?_⟩
        have := Blk.new (w4.alloc (.cells #[.int .i64 kk, .string x, .int .i64 v, .int .i64 po] 48)) 36 #[.int .i64 ev, .int .i64 av]
        simpa using this
      have HJ5 := Lib.hid (HABJ.out _ _ _ HJ.out (k4.trans k45))
      have HK5 := Lib.hid (HKr.out.trans (k4.trans k45))
      have HB5 := Lib.hid (HBr.out.kept (k4.trans k45))
      have hz4 := k4.size
      have hz5 := k45.size
      have HW5 := Lib.hid hW5
      obtain ⟨d0, d1, d2, d3⟩ : W5.cell? ⟨w4.heap.size, 0, none⟩ = some (.int .i64 kk) ∧ W5.cell? ⟨w4.heap.size, 1, none⟩ = some (.string x) ∧ W5.cell? ⟨w4.heap.size, 2, none⟩ = some (.int .i64 v) ∧ W5.cell? ⟨w4.heap.size, 3, none⟩ = some (.int .i64 po) := ⟨hb5.1.cell 0, hb5.1.cell 1, hb5.1.cell 2, hb5.1.cell 3⟩
      obtain ⟨d4, d5⟩ : W5.cell? ⟨w4.heap.size + 1, 0, none⟩ = some (.int .i64 ev) ∧ W5.cell? ⟨w4.heap.size + 1, 1, none⟩ = some (.int .i64 av) := ⟨hb5.2.cell 0, hb5.2.cell 1⟩
      have HF5 := Lib.hid hb5.2
      obtain ⟨fn, tmps, assign, body, hy, hR⟩ := HY.out pre (⟨kk, x, v, po⟩, ev, av) W5 HJ5.out ⟨_, HSQ.out.symm⟩ (by omega)
      clear hW5 k45 hb5 k4 HJ HKr HBr HWY HSr b0
      gi_wp2_with (rw [HW5.out])
      refine hR.mono ?_
      rintro e W6 (⟨rfl, hJ6, hk6⟩ | ⟨rfl, hJx6⟩)
      · have hgF := HU3.out W5 (w4.heap.size + 1) _ HF5.out (by omega)
        have hF6 := HF5.out.only hk6 (fun h => h.elim hgF (by omega))
        have hB6 := HB5.out.only hk6 (fun h => h.elim (HU2.out _ HB5.out) (by omega))
        have HK6 := Lib.hid (HK5.out.only hk6 rfl (fun k h => h.elim (HU1.out _ k) (by omega)))
        have hz6 := hk6.size
        have b6 := hB6.cell 0
        simp at b6
        have q4 : W6.cell? ⟨w4.heap.size + 1, 0, none⟩ = some (.int .i64 ev) := hF6.cell 0
        have HB6 := Lib.hid hB6
        have HJ6 := Lib.hid hJ6
        clear hgF hF6 hB6 hk6 hJ6 d0 d1 d2 d3 d4 d5 HJ5 HK5 HB5 HF5 hR HY
        by_cases he : ev = 0
        · subst he
          obtain ⟨hen1, hen2⟩ := HEN.out rfl
          have HSK := Lib.hid (skip_c a c l en W6 (src_kept HS.out HK6.out) hen2)
          gi_wp2
          refine ⟨trivial, (callsIn_wide.2 HSK.out).mono ?_⟩
          rintro e w7 ⟨rfl, k7⟩
          gi_wp2
          gi_roundg g
          case measure => omega
          case rel => exact ⟨_, en, by go_num, Lib.hid ⟨hen2, by have := HP.out; have := HQ.out; omega, by rw [HSQ.out]; simp⟩, Lib.hid (HABJ.out _ _ _ HJ6.out k7), Lib.hid (HK6.out.trans k7), Lib.hid (HB6.out.kept k7), by have := k7.size; omega⟩
        · have he1 : (ev == 0) = false := by simp [he]
          have he2 : (ev != 0) = true := by simp [he]
          gi_wp2
          refine bodyPost_ret (results_none rfl _ _ _) rfl ?_
          exact ⟨⟨_, rfl⟩, .inl ⟨_, by rw [HSQ.out, if_neg he, List.append_nil], HJ6.out⟩⟩
      · gi_wp2
        refine bodyPost_ret (results_none rfl _ _ _) rfl ?_
        exact ⟨⟨_, rfl⟩, .inr ⟨_, ⟨_, HSQ.out.symm⟩, hJx6⟩⟩
    · obtain rfl : q = l.length := by omega
      have hltI : ¬ (l.length : Int) < (l.length : Int) := by omega
      gi_wp2
      refine bodyPost_end (results_none rfl _ _ _) rfl ?_
      have e : Lx.seq l = pre := by rw [HP.out.2.2, Lx.seqF_end (by rw [HQ.out]; omega), List.append_nil]
      exact ⟨⟨_, rfl⟩, .inl (by first | exact ⟨pre, e.symm, HJ.out⟩ | (rw [e]; exact HJ.out))⟩

end Go.Proofs.YtfkmnpgpfmkjaaaGreatDoor
namespace Go.Proofs.YtfkmnpgpfmkjaaaGreatDoor
open Go.ChangeShapes Go.WideShapes Go.ChangeAt Go.RowKit Go.Shelf
attribute [local go_sem] Oper.semAt_some

theorem addr_plainT (b o j : Nat) : (⟨b, o, none⟩ : Addr).add j = ⟨b, o + j, none⟩ := by
  unfold Addr.add
  split
  · rename_i h; rw [h]; rfl
  · rfl

theorem owns_tks {w : World} {base n : Nat} {v : Value} {l : List Lx.T} (hn : n = l.length) (h : w.ownsRow base 48 4 v n (l.flatMap tCells)) : TksAt w v l := by
  subst hn
  rcases h.2 with ⟨rfl, hl0⟩ | ⟨g, cap, cur, rfl, hg1, hg2, hg3, hg4, hg5, hg6⟩
  · obtain rfl : l = [] := List.eq_nil_of_length_eq_zero hl0
    exact Row.nil
  · refine ⟨_, cap, rfl, hg3, hg4, fun i x hx => ⟨g, 0, rfl, ?_⟩⟩
    have c0 := h.cells (g := g) rfl _ _ (flat_at tCells tCells_len l i 0 x hx (by omega))
    have c1 := h.cells (g := g) rfl _ _ (flat_at tCells tCells_len l i 1 x hx (by omega))
    have c2 := h.cells (g := g) rfl _ _ (flat_at tCells tCells_len l i 2 x hx (by omega))
    have c3 := h.cells (g := g) rfl _ _ (flat_at tCells tCells_len l i 3 x hx (by omega))
    rw [addr_plainT] at c0 c1 c2 c3
    exact ⟨by simpa using c0, by simpa [Nat.add_assoc] using c1, by simpa [Nat.add_assoc] using c2, by simpa [Nat.add_assoc] using c3⟩

theorem owns_onlyT {w w' : World} {S : Nat → Prop} {base k n : Nat} {e : TypeId} {v : Value} {xs : List Value} (h : w.ownsRow base e k v n xs) (ho : Only S w w') (hs : ∀ g, base ≤ g → ¬ S g) : w'.ownsRow base e k v n xs := by
  refine ⟨h.1, ?_⟩
  rcases h.2 with h | ⟨g, cap, cur, rfl, hb, hg, r⟩
  · exact .inl h
  · exact .inr ⟨g, cap, cur, rfl, hb, ho.same hg (hs g hb), r⟩
theorem owns_keptT {w w' : World} {base k n : Nat} {e : TypeId} {v : Value} {xs : List Value} (h : w.ownsRow base e k v n xs) (ho : Kept w w') : w'.ownsRow base e k v n xs :=
  owns_onlyT (S := fun _ => False) h (Only.of_kept ho) (fun _ _ h => h)
theorem owns_valT {w : World} {base k n : Nat} {e : TypeId} {v : Value} {xs : List Value} (h : w.ownsRow base e k v n xs) : ∃ a c, v = .slice a n c := by
  rcases h.2 with ⟨rfl, rfl⟩ | ⟨g, cap, cur, rfl, _⟩
  · exact ⟨_, _, rfl⟩
  · exact ⟨_, _, rfl⟩
theorem rown_T {w : World} {base k n : Nat} {e : TypeId} {v : Value} {xs : List Value} (h : w.ownsRow base e k v n xs) {g : Nat} (hg : v.ownBlock = some g) : base ≤ g ∧ ∃ cs fr, w.heap[g]? = some (.cells cs e fr) := by
  rcases h.2 with ⟨rfl, _⟩ | ⟨g', cap, cur, rfl, hb, hgg, _⟩
  · cases hg
  · obtain rfl : g' = g := Option.some.inj hg
    exact ⟨hb, _, _, hgg⟩

/-- What a round of Lex's loop may turn: the results, the list's box, blocks of tokens. -/
def LexU (n g : Nat) (W : World) (k : Nat) : Prop := k = n ∨ k = n + 1 ∨ k = g ∨ (n ≤ k ∧ ∃ cs fr, W.heap[k]? = some (.cells cs 48 fr))

/-- Within the loop: the tokens so far, none a fault. -/
def LexI (w : World) (g : Nat) (pre : List Lx.Q) (W : World) : Prop :=
  (Blk W w.heap.size 40 #[.slice none 0 0] ∧ Blk W (w.heap.size + 1) 36 #[.int .i64 0, .int .i64 0]) ∧
  (∃ (n : Nat) (a' : Option Addr) (c' : Nat), Blk W g 40 #[.slice a' n c'] ∧ n = pre.length ∧ W.ownsRow (w.heap.size + 6) 48 4 (.slice a' n c') n ((pre.map (·.1)).flatMap tCells)) ∧
  Kept w W ∧ w.heap.size + 4 ≤ W.heap.size ∧ ∀ q ∈ pre, q.2 = (0, 0)

/-- Left at a fault. -/
def LexX (w : World) (cd : Code) (pre : List Lx.Q) (W : World) : Prop :=
  cd = .ret ∧ ∃ (pre' : List Lx.Q) (q : Lx.Q), pre = pre' ++ [q] ∧ (∀ q ∈ pre', q.2 = (0, 0)) ∧ q.2.1 ≠ 0 ∧
    Blk W w.heap.size 40 #[.slice none 0 0] ∧ Blk W (w.heap.size + 1) 36 #[.int .i64 q.2.1, .int .i64 q.2.2] ∧ Kept w W

theorem LexI.only {w : World} {g : Nat} {pre : List Lx.Q} {A B : World} (hg : g = w.heap.size + 2) (h : LexI w g pre A) (ho : Only (fun k => w.heap.size + 4 ≤ k ∧ k < w.heap.size + 6) A B) : LexI w g pre B := by
  obtain ⟨⟨h1, h2⟩, ⟨n, a', c', h3, h4, h5⟩, h6, h7, h8⟩ := h
  exact ⟨⟨h1.only ho (by omega), h2.only ho (by omega)⟩, ⟨n, a', c', h3.only ho (by omega), h4, owns_onlyT h5 ho (fun g hg => by omega)⟩, h6.only ho rfl (fun k hk => by omega), Nat.le_trans h7 ho.size, h8⟩
theorem LexX.only {w : World} {cd : Code} {pre : List Lx.Q} {A B : World} (h : LexX w cd pre A) (ho : Only (fun k => w.heap.size + 4 ≤ k ∧ k < w.heap.size + 6) A B) : LexX w cd pre B := by
  obtain ⟨h0, pre', q, h1, h2, h3, h4, h5, h6⟩ := h
  exact ⟨h0, pre', q, h1, h2, h3, h4.only ho (by omega), h5.only ho (by omega), h6.only ho rfl (fun k hk => by omega)⟩

namespace Lx
theorem resOf_good : ∀ (l : List Q), (∀ q ∈ l, q.2 = (0, 0)) → resOf l = (l.map (·.1), 0, 0)
  | [], _ => rfl
  | (x, e, a) :: q, h => by
    have h1 : (e, a) = (0, 0) := h (x, e, a) (by simp)
    injection h1 with h1 h2
    subst h1 h2
    have h3 := resOf_good q (fun y hy => h y (by simp [hy]))
    rw [resOf, if_pos rfl, h3, if_pos rfl]
    rfl
theorem resOf_bad : ∀ (l : List Q) (q : Q), (∀ q ∈ l, q.2 = (0, 0)) → q.2.1 ≠ 0 → ∀ r, resOf (l ++ q :: r) = ([], q.2.1, q.2.2)
  | [], (x, e, a), _, h, r => by rw [List.nil_append, resOf, if_neg h]
  | (x, e, a) :: l, q, h, hq, r => by
    have h1 : (e, a) = (0, 0) := h (x, e, a) (by simp)
    injection h1 with h1 h2
    subst h1 h2
    have h3 := resOf_bad l q (fun y hy => h y (by simp [hy])) hq r
    rw [List.cons_append, resOf, if_pos rfl, h3, if_neg hq]
end Lx

theorem lex_results {fn : Func} {p q : Tmp} (h : fn.results = #[.cell p 40, .cell q 36]) (tmps : Array Value) (W : World) {g g' : Nat} {e a' : Value} {a : Option Addr} {n c : Nat}
    (hp : tmps.getD p undef = .pointer (some ⟨g, 0, none⟩)) (hq : tmps.getD q undef = .pointer (some ⟨g', 0, none⟩))
    (hg : Blk W g 40 #[.slice a n c]) (hg' : Blk W g' 36 #[e, a']) :
    (results fn tmps).run Tryz.prog W = .ok (.tuple #[.slice a n c, .agg #[e, a']]) W := by
  have hp' : tmps[p]?.getD undef = .pointer (some ⟨g, 0, none⟩) := by simpa using hp
  have hq' : tmps[q]?.getD undef = .pointer (some ⟨g', 0, none⟩) := by simpa using hq
  have e2 := run_loadVar_row (P := Tryz.prog) W g' 36 36 #[e, a'] (0, 0) _ hg' Tryz.underlying36 (by rfl) (by kernel_rfl)
  have c3 := hg.cell 0
  simp at c3
  have e3 : (loadVar 40 ⟨g, 0, none⟩).run Tryz.prog W = .ok (.slice a n c) W := by simp [go_sem, c3]
  simp [results, h, hp', hq', asAddr, e2, e3]

/-- What Lex answers. -/
def LexPost (l : List UInt8) (w : World) (e : Ending) (w' : World) : Prop :=
  ∃ (a' : Option Addr) (c' : Nat), e = .returned (.tuple #[.slice a' (Lx.lex l).1.length c', fagg (Lx.lex l).2.1 (Lx.lex l).2.2]) ∧ TksAt w' (.slice a' (Lx.lex l).1.length c') (Lx.lex l).1 ∧ Kept w w'

theorem LexPost.long {l : List UInt8} {w w' : World} (h : 20000 < l.length) (k : Kept w w') : LexPost l w (.returned (.tuple #[.slice none 0 0, fagg 4 20000])) w' := by
  have e : Lx.lex l = ([], 4, 20000) := by unfold Lx.lex; rw [if_pos h]
  unfold LexPost
  rw [e]
  exact ⟨none, 0, rfl, Row.nil, k⟩
theorem LexPost.bad {l : List UInt8} {w w' : World} (h : ¬ 20000 < l.length) {pre : List Lx.Q} {q : Lx.Q} (hp : pre ++ [q] <+: Lx.seq l) (h1 : ∀ q ∈ pre, q.2 = (0, 0)) (h2 : q.2.1 ≠ 0) (k : Kept w w') : LexPost l w (.returned (.tuple #[.slice none 0 0, fagg q.2.1 q.2.2])) w' := by
  have e : Lx.lex l = ([], q.2.1, q.2.2) := by
    unfold Lx.lex
    rw [if_neg h]
    obtain ⟨r, hr⟩ := hp
    rw [← hr, List.append_assoc]
    exact Lx.resOf_bad pre q h1 h2 r
  unfold LexPost
  rw [e]
  exact ⟨none, 0, rfl, Row.nil, k⟩
theorem LexPost.good {l : List UInt8} {w w' W : World} (h : ¬ 20000 < l.length) {a' : Option Addr} {n c' base : Nat} (h1 : ∀ q ∈ Lx.seq l, q.2 = (0, 0)) (hn : n = (Lx.seq l).length) (hr : w'.ownsRow base 48 4 (.slice a' n c') n (((Lx.seq l).map (·.1)).flatMap tCells)) (k : Kept w w') :
    LexPost l w (.returned (.tuple #[.slice a' n c', fagg 0 0])) w' := by
  have e : Lx.lex l = ((Lx.seq l).map (·.1), 0, 0) := by unfold Lx.lex; rw [if_neg h]; exact Lx.resOf_good _ h1
  have hn' : n = ((Lx.seq l).map (·.1)).length := by rw [List.length_map]; exact hn
  unfold LexPost
  rw [e]
  show ∃ a'_1 c'_1, Ending.returned (.tuple #[.slice a' n c', fagg 0 0]) = .returned (.tuple #[.slice a'_1 ((Lx.seq l).map (·.1)).length c'_1, fagg 0 0]) ∧ _
  rw [← hn']
  exact ⟨a', c', rfl, owns_tks hn' hr, k⟩

/-- What Lex answers; its tokens lie in a row of one's own. -/
def LexPost2 (l : List UInt8) (w : World) (e : Ending) (w' : World) : Prop :=
  LexPost l w e w' ∧ ∃ (a' : Option Addr) (c' base : Nat), e = .returned (.tuple #[.slice a' (Lx.lex l).1.length c', fagg (Lx.lex l).2.1 (Lx.lex l).2.2]) ∧ w.heap.size ≤ base ∧ base ≤ w'.heap.size ∧ w'.ownsRow base 48 4 (.slice a' (Lx.lex l).1.length c') (Lx.lex l).1.length ((Lx.lex l).1.flatMap tCells)
theorem LexPost2.long {l : List UInt8} {w w' : World} (h : 20000 < l.length) (k : Kept w w') : LexPost2 l w (.returned (.tuple #[.slice none 0 0, fagg 4 20000])) w' := by
  refine ⟨LexPost.long h k, ?_⟩
  have e : Lx.lex l = ([], 4, 20000) := by unfold Lx.lex; rw [if_pos h]
  rw [e]
  exact ⟨none, 0, w.heap.size, rfl, Nat.le_refl _, k.size, World.ownsRow_nil _ _ _ _⟩
theorem LexPost2.bad {l : List UInt8} {w w' : World} (h : ¬ 20000 < l.length) {pre : List Lx.Q} {q : Lx.Q} (hp : pre ++ [q] <+: Lx.seq l) (h1 : ∀ q ∈ pre, q.2 = (0, 0)) (h2 : q.2.1 ≠ 0) (k : Kept w w') : LexPost2 l w (.returned (.tuple #[.slice none 0 0, fagg q.2.1 q.2.2])) w' := by
  refine ⟨LexPost.bad h hp h1 h2 k, ?_⟩
  have e : Lx.lex l = ([], q.2.1, q.2.2) := by
    unfold Lx.lex
    rw [if_neg h]
    obtain ⟨r, hr⟩ := hp
    rw [← hr, List.append_assoc]
    exact Lx.resOf_bad pre q h1 h2 r
  rw [e]
  exact ⟨none, 0, w.heap.size, rfl, Nat.le_refl _, k.size, World.ownsRow_nil _ _ _ _⟩
theorem LexPost2.good {l : List UInt8} {w w' W : World} (h : ¬ 20000 < l.length) {a' : Option Addr} {n c' base : Nat} (h1 : ∀ q ∈ Lx.seq l, q.2 = (0, 0)) (hn : n = (Lx.seq l).length) (hr : w'.ownsRow base 48 4 (.slice a' n c') n (((Lx.seq l).map (·.1)).flatMap tCells)) (k : Kept w w') (hb : w.heap.size ≤ base) :
    LexPost2 l w (.returned (.tuple #[.slice a' n c', fagg 0 0])) w' := by
  refine ⟨LexPost.good (W := W) h h1 hn hr k, ?_⟩
  have e : Lx.lex l = ((Lx.seq l).map (·.1), 0, 0) := by unfold Lx.lex; rw [if_neg h]; exact Lx.resOf_good _ h1
  have hn' : n = ((Lx.seq l).map (·.1)).length := by rw [List.length_map]; exact hn
  rw [e]
  show ∃ a'_1 c'_1 base, Ending.returned (.tuple #[.slice a' n c', fagg 0 0]) = .returned (.tuple #[.slice a'_1 ((Lx.seq l).map (·.1)).length c'_1, fagg 0 0]) ∧ _
  rw [← hn']
  refine ⟨a', c', w.heap.size, rfl, Nat.le_refl _, k.size, hr.1, hr.2.imp id ?_⟩
  rintro ⟨g, cap, cur, e1, h1, h2⟩
  exact ⟨g, cap, cur, e1, Nat.le_trans hb h1, h2⟩

/-- The results' blocks written. -/
def put3 (W : World) (n : Nat) (v : Value) (e a : Int) : World := ((W.setCell ⟨n, 0, none⟩ v).setCell ⟨n + 1, 0, none⟩ (.int .i64 e)).setCell ⟨n + 1, 1, none⟩ (.int .i64 a)
theorem put3_only (W : World) (n : Nat) (v : Value) (e a : Int) : Only (fun k => k = n ∨ k = n + 1) W (put3 W n v e a) :=
  (((Only.refl _ W).setCell (.inl (.inl rfl)) _).setCell (.inl (.inr rfl)) _).setCell (.inl (.inr rfl)) _
theorem put3_blk {W : World} {n : Nat} {z0 z1 z2 : Value} (h1 : Blk W n 40 #[z0]) (h2 : Blk W (n + 1) 36 #[z1, z2]) (v : Value) (e a : Int) :
    Blk (put3 W n v e a) n 40 #[v] ∧ Blk (put3 W n v e a) (n + 1) 36 #[.int .i64 e, .int .i64 a] := by
  have o1 : Only (· = n) W (W.setCell ⟨n, 0, none⟩ v) := (Only.refl _ W).put 0 _
  have b2 := ((h2.only o1 (by omega)).put 0 (.int .i64 e)).put 1 (.int .i64 a)
  exact ⟨Blk.only (cs := #[v]) (h1.put 0 v) (((Only.refl (· = n + 1) (W.setCell ⟨n, 0, none⟩ v)).put 0 (.int .i64 e)).put 1 (.int .i64 a)) (by omega), b2⟩

theorem LexI.found {w : World} {g : Nat} {pre : List Lx.Q} {W : World} (h : LexI w g pre W) (x : Lx.Q) (hx : x.2.1 ≠ 0) :
    Only (LexU w.heap.size g W) W (put3 W w.heap.size (.slice none 0 0) x.2.1 x.2.2).drew ∧ LexX w .ret (pre ++ [x]) (put3 W w.heap.size (.slice none 0 0) x.2.1 x.2.2).drew := by
  obtain ⟨⟨h1, h2⟩, _, h6, h7, h8⟩ := h
  obtain ⟨b1, b2⟩ := put3_blk h1 h2 (.slice none 0 0) x.2.1 x.2.2
  have ho := put3_only W w.heap.size (.slice none 0 0) x.2.1 x.2.2
  exact ⟨(ho.mono fun k _ h => h.elim .inl fun h => .inr (.inl h)).drew, rfl, pre, x, rfl, h8, hx, b1.drew, b2.drew, (h6.only ho rfl (fun k hk => by omega)).drew⟩

theorem LexI.next {w : World} {g : Nat} {pre : List Lx.Q} {W W3 W4 : World} {x : Lx.Q} {a' : Option Addr} {m c' : Nat} {v1 : Option Addr} {v2 : Nat} (hg : g = w.heap.size + 2)
    (h1 : Blk W w.heap.size 40 #[.slice none 0 0]) (h2 : Blk W (w.heap.size + 1) 36 #[.int .i64 0, .int .i64 0]) (h3 : Blk W g 40 #[.slice a' m c']) (hm : m = pre.length)
    (h5 : W.ownsRow (w.heap.size + 6) 48 4 (.slice a' m c') m ((pre.map (·.1)).flatMap tCells)) (h6 : Kept w W) (h7 : w.heap.size + 6 ≤ W.heap.size) (h8 : ∀ q ∈ pre, q.2 = (0, 0)) (hx : x.2 = (0, 0))
    (k3 : Kept W W3) (hown : W4.ownsRow (w.heap.size + 6) 48 4 (.slice v1 (m + 1) v2) (m + 1) ((pre.map (·.1)).flatMap tCells ++ tCells x.1)) (hgrow : W3.grownBy W4 (Value.slice a' m c').ownBlock) :
    Only (LexU w.heap.size g W) W (W4.setCell ⟨g, 0, none⟩ (.slice v1 (m + 1) v2)) ∧ LexI w g (pre ++ [x]) (W4.setCell ⟨g, 0, none⟩ (.slice v1 (m + 1) v2)) := by
  have o3 : Only (fun k => k = g ∨ (w.heap.size + 6 ≤ k ∧ ∃ cs fr, W.heap[k]? = some (.cells cs 48 fr))) W (W4.setCell ⟨g, 0, none⟩ (.slice v1 (m + 1) v2)) :=
    ((Only.of_kept k3).grown hgrow (fun k e => .inl (.inr (rown_T h5 e)))).setCell (.inl (.inl rfl)) _
  have o4 : Only (fun k => w.heap.size + 6 ≤ k) W W4 := (Only.of_kept k3).grown hgrow (fun k e => .inl (rown_T h5 e).1)
  have og : Only (· = g) W4 (W4.setCell ⟨g, 0, none⟩ (.slice v1 (m + 1) v2)) := (Only.refl _ W4).put 0 _
  refine ⟨o3.mono fun k _ h => ?_, ⟨(h1.only o4 (by omega)).only og (by omega), (h2.only o4 (by omega)).only og (by omega)⟩, ⟨m + 1, v1, v2, (h3.only o4 (by omega)).put 0 _, by simp [hm], ?_⟩, h6.only o3 rfl (fun k hk => ?_), Nat.le_trans (by omega) o3.size, ?_⟩
  · rcases h with h | ⟨h, h'⟩
    · exact .inr (.inr (.inl h))
    · exact .inr (.inr (.inr ⟨by omega, h'⟩))
  · have := owns_onlyT hown og (fun k hk => by omega)
    simpa using this
  · rcases hk with h | ⟨h, _⟩ <;> omega
  · intro q hq
    rcases List.mem_append.1 hq with h | h
    · exact h8 q h
    · rw [List.mem_singleton] at h; subst h; exact hx

namespace Lx
theorem seqF_zero : ∀ (g p : Nat) (s : List UInt8), ∀ q ∈ seqF g p s, q.2.1 = 0 → q.2 = (0, 0)
  | 0, _, _, q, h, _ => by simp [seqF] at h
  | g + 1, p, s, q, h, h0 => by
    rw [seqF] at h
    by_cases he : (s.drop (skip false s)).length = 0
    · rw [if_pos he] at h; cases h
    · rw [if_neg he] at h
      cases ht : tok (s.drop (skip false s)) with
      | bad e o =>
        rw [ht] at h
        have hb := tok_bad ht
        have h : q ∈ [((zeroT, e, ((p + skip false s + o : Nat) : Int)) : Q)] := h
        rw [List.mem_singleton] at h
        subst h
        exact absurd h0 hb
      | tok k x v len =>
        rw [ht] at h
        have h : q ∈ ((⟨k, x, v, ((p + skip false s : Nat) : Int)⟩, 0, 0) : Q) :: seqF g (p + skip false s + len) ((s.drop (skip false s)).drop len) := h
        rcases List.mem_cons.1 h with rfl | h
        · rfl
        · exact seqF_zero g _ _ q h h0
end Lx

theorem seq_len (l : List UInt8) : (Lx.seq l).length ≤ l.length + 1 := Lx.seqF_len _ _ _

set_option maxHeartbeats 8000000 in
theorem lex_o (a : Option Addr) (c : Nat) (l : List UInt8) (w : World) (h : SrcAt w (.slice a l.length c) l) (hT : Tb w) (hE : Er w) :
    Calls Tryz.prog 18 #[.slice a l.length c] w (LexPost2 l w) := by
  obtain ⟨i0, hi, hz0, hzz1, hzz2⟩ := info_parts info_tok
  have hcap := h.cap
  unfold maxLen at hcap
  obtain ⟨W1, hW1⟩ : ∃ W1, (w.alloc (.cells #[.slice none 0 0] 40)).alloc (.cells #[.int .i64 0, .int .i64 0] 36) = W1 := ⟨_, rfl⟩
  have k1 : Kept w W1 := by rw [← hW1]; exact ((Kept.refl w).alloc _).alloc _
  have hs1 : W1.heap.size = w.heap.size + 2 := by rw [← hW1]; simp
  have hb1 : Blk W1 w.heap.size 40 #[.slice none 0 0] ∧ Blk W1 (w.heap.size + 1) 36 #[.int .i64 0, .int .i64 0] := by
    rw [← hW1]
    refine ⟨(Blk.new _ _ _).alloc _, ?_⟩
    have := Blk.new (w.alloc (.cells #[.slice none 0 0] 40)) 36 #[.int .i64 0, .int .i64 0]
    simpa using this
  have HB1 := Lib.hid hb1
  have HS1 := Lib.hid hs1
  have HW := Lib.hid hW1
  have HK1 := Lib.hid k1
  have HS := Lib.hid h
  have HT := Lib.hid hT
  have HE := Lib.hid hE
  refine (callsIn_wide (n := 3)).1 (callsIn_of_wp_marks Tryz.func18 rfl trivial (wpIn_wide.2 ?_) rfl)
  simp only [Tryz.ntmps18, List.size_toArray, List.length_cons, List.length_nil, Nat.reduceAdd, Nat.reduceSub, Array.replicate_succ, Array.replicate_zero, List.push_toArray, List.append_toArray, List.nil_append, List.cons_append]
  obtain ⟨c0, d0, d1⟩ : W1.cell? ⟨w.heap.size, 0, none⟩ = some (.slice none 0 0) ∧ W1.cell? ⟨w.heap.size + 1, 0, none⟩ = some (.int .i64 0) ∧ W1.cell? ⟨w.heap.size + 1, 1, none⟩ = some (.int .i64 0) := ⟨hb1.1.cell 0, hb1.2.cell 0, hb1.2.cell 1⟩
  obtain ⟨f0, f1, f2⟩ : W1.frozen? ⟨w.heap.size, 0, none⟩ = false ∧ W1.frozen? ⟨w.heap.size + 1, 0, none⟩ = false ∧ W1.frozen? ⟨w.heap.size + 1, 1, none⟩ = false := ⟨hb1.1.frozen 0, hb1.2.frozen 0, hb1.2.frozen 1⟩
  clear h hT hE hW1 k1 hs1 hb1
  by_cases hlong : 20000 < l.length
  · have hlI : (20000 : Int) < (l.length : Int) := by omega
    go_wp2_with (rw [HW.out])
    obtain ⟨b1, b2⟩ := put3_blk HB1.out.1 HB1.out.2 (.slice none 0 0) 4 20000
    exact ⟨_, lex_results (by rfl) _ _ rfl rfl b1 b2, LexPost2.long hlong (HK1.out.only (put3_only W1 w.heap.size (.slice none 0 0) 4 20000) rfl (fun k hk => by omega))⟩
  · have hlI : ¬ (20000 : Int) < (l.length : Int) := by omega
    obtain ⟨W2, hW2⟩ : ∃ W2, W1.alloc (.cells #[.slice none 0 0] 40) = W2 := ⟨_, rfl⟩
    have k2 : Kept W1 W2 := by rw [← hW2]; exact (Kept.refl W1).alloc _
    have hs2 : W2.heap.size = w.heap.size + 3 := by rw [← hW2]; simp [HS1.out]
    have hb2 : Blk W2 W1.heap.size 40 #[.slice none 0 0] := by rw [← hW2]; exact Blk.new W1 _ _
    have HW2 := Lib.hid hW2
    have HS2 := Lib.hid hs2
    have HB2 := Lib.hid hb2
    have HK2 := Lib.hid k2
    clear hW2 c0 d0 d1 f0 f1 f2 hs2 hb2 k2
    go_wp2_with (first | rw [HW.out] | rw [HW2.out])
    refine (tokens_c a c l W2).mono ?_
    rintro e w' ⟨rfl, rfl⟩
    obtain ⟨W3, hW3⟩ : ∃ W3, W2.alloc (.cells #[.slice a l.length c] 61) = W3 := ⟨_, rfl⟩
    have k3 : Kept W2 W3 := by rw [← hW3]; exact (Kept.refl W2).alloc _
    have hs3 : W3.heap.size = w.heap.size + 4 := by rw [← hW3]; simp [HS2.out]
    have hb3 : Blk W3 W2.heap.size 61 #[.slice a l.length c] := by rw [← hW3]; exact Blk.new W2 _ _
    have k13 := HK2.out.trans k3
    have HKw := Lib.hid (HK1.out.trans k13)
    have HB3 := Lib.hid hb3
    have HS3 := Lib.hid hs3
    have hI0 : LexI w W1.heap.size [] W3 := ⟨⟨HB1.out.1.kept k13, HB1.out.2.kept k13⟩, ⟨0, none, 0, HB2.out.kept k3, rfl, World.ownsRow_nil _ _ _ _⟩, HKw.out, by have := HS3.out; omega, by simp⟩
    have HI0 := Lib.hid hI0
    have hg1 : Hid (W1.heap.size = w.heap.size + 2) := HS1
    have hg2 : Hid (W2.heap.size = w.heap.size + 3) := HS2
    clear hI0 hb3 hs3 k3 k13
    rw [hW3]
    clear hW3
    go_wp2_with fail
    refine wpIn_wide.1 (wpIn_rangeFunc_ownU (F := Fence.wide) (n := 3) rfl (by omega) (gf := 42) (lb := #[.pointer (some ⟨W2.heap.size, 0, none⟩)]) rfl trivial (enters_of Tryz.func42 (by kernel_rfl) rfl)
      (encs := encQ) (U := LexU w.heap.size W1.heap.size) (S := (· = Lx.seq l)) (Sp := (· <+: Lx.seq l)) (G := (· <+: Lx.seq l))
      (fun Wq hkq hsq => tokens1_u (3 - 1) (by omega) a c l w W2.heap.size _ Wq HS.out HT.out HE.out (by omega) (HKw.out.trans hkq) (HB3.out.kept hkq) (by have := HS2.out; omega) (by have := HS2.out; have := HS3.out; omega) ?u1 ?u2 ?u3)
      ?loc ?ul ?ud (fun _ => rfl) (LexI w W1.heap.size) (LexX w) (fun s A B h ho => h.only HS1.out (ho.mono fun k _ h => by have := HS3.out; omega)) (fun cd s A B h ho => h.only (ho.mono fun k _ h => by have := HS3.out; omega))
      HI0.out
      (fun x W => { tmps := #[.slice a l.length c, undef, .pointer (some ⟨w.heap.size, 0, none⟩), .pointer (some ⟨w.heap.size + 1, 0, none⟩), .pointer (some ⟨W1.heap.size, 0, none⟩), .pointer (some ⟨W.heap.size, 0, none⟩), .pointer (some ⟨W.heap.size + 1, 0, none⟩), .slice a l.length c, .int .i64 l.length, .bool false, undef, .slice a l.length c, .func (.func 42) #[] #[.pointer (some ⟨W2.heap.size, 0, none⟩)], tagg x.1.kind x.1.text x.1.n x.1.pos, fagg x.2.1 x.2.2, undef, undef, undef, undef, undef, undef, undef, undef, undef, undef], defers := [] })
      (fun x W => (W.alloc (.cells #[.int .i64 x.1.kind, .string x.1.text, .int .i64 x.1.n, .int .i64 x.1.pos] 48)).alloc (.cells #[.int .i64 x.2.1, .int .i64 x.2.2] 36)) (fun x W => ((Kept.refl W).alloc _).alloc _) ?assign ?body ?done ?stop)
    case u1 => intro W k h; have := HS1.out; rcases h with h | h | h | ⟨h, _⟩ <;> omega
    case u2 =>
      intro W hb h
      have h1 := HS1.out
      have h2 := HS2.out
      rcases h with h | h | h | ⟨_, cs, fr, h⟩
      · omega
      · omega
      · omega
      · rw [hb] at h; cases h
    case u3 =>
      intro W g cs hb hgz h
      have h1 := HS1.out
      have h3 := HS3.out
      rcases h with h | h | h | ⟨_, cs, fr, h⟩
      · omega
      · omega
      · omega
      · rw [hb] at h; cases h
    case loc =>
      intro A B k e h
      rcases h with h | h | h | ⟨h, cs, fr, h'⟩
      · exact .inl h
      · exact .inr (.inl h)
      · exact .inr (.inr (.inl h))
      · exact .inr (.inr (.inr ⟨h, cs, fr, e.trans h'⟩))
    case ul =>
      intro W r hr h
      have h1 := HS1.out
      have h3 := HS3.out
      rcases h with h | h | h | ⟨_, cs, fr, h⟩
      · omega
      · omega
      · omega
      · rw [hr] at h; cases h
    case ud =>
      intro W hr h
      have h1 := HS1.out
      have h3 := HS3.out
      rcases h with h | h | h | ⟨_, cs, fr, h⟩
      · omega
      · omega
      · omega
      · rw [hr] at h; cases h
    case assign =>
      intro lr x W K hK
      gi_wp2
      exact hK
    case body =>
      intro lr pre x W0 W hlr hl0 hob hloop hI hG hsz
      have h3z := HS3.out
      have hb5 : Blk W W0.heap.size 48 #[.int .i64 x.1.kind, .string x.1.text, .int .i64 x.1.n, .int .i64 x.1.pos] := ((Blk.new W0 _ _).alloc _).only hob (by omega)
      have hb6 : Blk W (W0.heap.size + 1) 36 #[.int .i64 x.2.1, .int .i64 x.2.2] := by
        have := Blk.new (W0.alloc (.cells #[.int .i64 x.1.kind, .string x.1.text, .int .i64 x.1.n, .int .i64 x.1.pos] 48)) 36 #[.int .i64 x.2.1, .int .i64 x.2.2]
        rw [World.size_alloc] at this
        exact this.only hob (by omega)
      obtain ⟨e5, e6, e7, e8⟩ : W.cell? ⟨W0.heap.size, 0, none⟩ = some (.int .i64 x.1.kind) ∧ W.cell? ⟨W0.heap.size, 1, none⟩ = some (.string x.1.text) ∧ W.cell? ⟨W0.heap.size, 2, none⟩ = some (.int .i64 x.1.n) ∧ W.cell? ⟨W0.heap.size, 3, none⟩ = some (.int .i64 x.1.pos) := ⟨hb5.cell 0, hb5.cell 1, hb5.cell 2, hb5.cell 3⟩
      obtain ⟨q0, q1⟩ : W.cell? ⟨W0.heap.size + 1, 0, none⟩ = some (.int .i64 x.2.1) ∧ W.cell? ⟨W0.heap.size + 1, 1, none⟩ = some (.int .i64 x.2.2) := ⟨hb6.cell 0, hb6.cell 1⟩
      have HI := Lib.hid hI
      have HG := Lib.hid hG
      have hplen : pre.length ≤ 20001 := by
        have h1 := hG.length_le
        have h2 := seq_len l
        simp at h1; omega
      by_cases hx : x.2.1 = 0
      · have hxx : x.2 = (0, 0) := Lx.seqF_zero _ _ _ x (hG.subset (by simp)) hx
        obtain ⟨⟨h1, h2⟩, ⟨m, a', c', h3, h4, h5⟩, h6, h7, h8⟩ := hI
        obtain ⟨W4, hW4⟩ : ∃ W4, W.alloc (.cells #[.int .i64 x.1.kind, .string x.1.text, .int .i64 x.1.n, .int .i64 x.1.pos] 48) = W4 := ⟨_, rfl⟩
        have k4 : Kept W W4 := by rw [← hW4]; exact (Kept.refl W).alloc _
        have hb7 : Blk W4 W.heap.size 48 #[.int .i64 x.1.kind, .string x.1.text, .int .i64 x.1.n, .int .i64 x.1.pos] := by rw [← hW4]; exact Blk.new W _ _
        have HCL : Hid (∀ j u, (tCells x.1)[j]? = some u → W4.cell? ((⟨W.heap.size, 0, none⟩ : Addr).add j) = some u) := Lib.hid (fun j u hu => by
          rw [addr_plainT, Nat.zero_add, hb7.cell j]
          have : (#[Value.int .i64 x.1.kind, .string x.1.text, .int .i64 x.1.n, .int .i64 x.1.pos] : Array Value)[j]? = (tCells x.1)[j]? := by rw [← Array.getElem?_toList]; rfl
          rw [this, hu])
        have HR4 := Lib.hid (owns_keptT h5 k4)
        have HZ := Lib.hid (show w.heap.size + 6 ≤ W4.heap.size by have := k4.size; omega)
        have HN := Lib.hid (fun W5 v1 v2 ho hg => LexI.next (W4 := W5) (v1 := v1) (v2 := v2) HS1.out h1 h2 h3 h4 h5 h6 (by omega) h8 hxx k4 ho hg)
        have hml : m ≤ 20001 := by omega
        have c4 := h3.cell 0
        have f4 := h3.frozen 0
        simp at c4
        have HB4 := Lib.hid (h3.kept k4)
        have HW4 := Lib.hid hW4
        have HNE := Lib.hid (show ∀ k, (Value.slice a' m c').ownBlock = some k → W1.heap.size ≠ k from fun k hk => by have := (rown_T h5 hk).1; have := HS1.out; omega)
        rw [hx] at q0
        clear h1 h2 h3 h4 h5 h6 h7 h8 hb5 hb6 hb7 hW4 k4 hG hob hloop h3z
        gi_wp2_with (first | rw [HW4.out] | (gi_at_builtin; refine wpListIn_append_own _ rfl _ _ 40 rfl (w.heap.size + 6) 48 i0 (.agg #[.int .i64 0, .string ⟨#[]⟩, .int .i64 0, .int .i64 0]) 4 40 Tryz.underlying40 hi hz0 hzz1 hzz2 rfl (by decide) _ _ _ rfl HR4.out ⟨W.heap.size, 0, none⟩ 1 1 (tCells x.1) rfl rfl HCL.out (by intro u hu; simp [tCells] at hu; rcases hu with rfl | rfl | rfl | rfl <;> rfl) (by unfold maxLen; omega) (by omega) HZ.out ?_; intro v' w5 hown' hgrow hnn; obtain ⟨va, vc, rfl⟩ := owns_valT hown'; have hB5 : Blk w5 W1.heap.size 40 #[.slice a' m c'] := (hgrow.block _ HB4.out.lt (fun e => HNE.out _ e.symm rfl)).trans HB4.out; have g4 := hB5.frozen 0; have g5 := hB5.cell 0; simp at g5; have HO := Lib.hid hown'; have HGR := Lib.hid hgrow; clear hown' hgrow hnn hB5))
        exact HN.out _ _ _ HO.out HGR.out
      · have he1 : (x.2.1 == 0) = false := by simp [hx]
        have he2 : (x.2.1 != 0) = true := by simp [hx]
        obtain ⟨⟨h1, h2⟩, _⟩ := hI
        have HX := Lib.hid (HI.out.found x hx)
        obtain ⟨c0, d0, d1⟩ : W.drew.cell? ⟨w.heap.size, 0, none⟩ = some (.slice none 0 0) ∧ W.drew.cell? ⟨w.heap.size + 1, 0, none⟩ = some (.int .i64 0) ∧ W.drew.cell? ⟨w.heap.size + 1, 1, none⟩ = some (.int .i64 0) := ⟨h1.cell 0, h2.cell 0, h2.cell 1⟩
        obtain ⟨s0, s1, s2⟩ : W.cell? ⟨w.heap.size, 0, none⟩ = some (.slice none 0 0) ∧ W.cell? ⟨w.heap.size + 1, 0, none⟩ = some (.int .i64 0) ∧ W.cell? ⟨w.heap.size + 1, 1, none⟩ = some (.int .i64 0) := ⟨h1.cell 0, h2.cell 0, h2.cell 1⟩
        obtain ⟨f0, f1, f2⟩ : W.frozen? ⟨w.heap.size, 0, none⟩ = false ∧ W.frozen? ⟨w.heap.size + 1, 0, none⟩ = false ∧ W.frozen? ⟨w.heap.size + 1, 1, none⟩ = false := ⟨h1.frozen 0, h2.frozen 0, h2.frozen 1⟩
        obtain ⟨r0, r1⟩ : W.drew.cell? ⟨W0.heap.size + 1, 0, none⟩ = some (.int .i64 x.2.1) ∧ W.drew.cell? ⟨W0.heap.size + 1, 1, none⟩ = some (.int .i64 x.2.2) := ⟨q0, q1⟩
        have hnn : w.heap.size ≠ W0.heap.size + 1 := by omega
        have hnn2 : w.heap.size + 1 ≠ W0.heap.size + 1 := by omega
        clear h1 h2 hb5 hb6 hG hob hloop HI HG h3z
        gi_wp2
        refine wpIn_region_of_any (by kernel_rfl) (by kernel_rfl) (by rintro ⟨_, _, h⟩; exact h) ?_
        change wpAny _ _ _ _ _ _ _ (World.drew _)
        refine wpAny_ready (rs := [0, 1]) (by kernel_rfl) (by simp) ?_
        refine AllReady.cons rfl (fun K hK => ?_) ?_
        · go_simp
          refine hK _ _ ?_; clear hK K
          refine wpAny_ready (rs := [1]) (by kernel_rfl) (by simp) ?_
          refine AllReady.cons rfl (fun K hK => ?_) ?_
          · go_simp
            refine hK _ _ ?_; clear hK K
            refine wpAny_ready (rs := [2]) (by kernel_rfl) (by simp) ?_
            refine AllReady.cons rfl (fun K hK => ?_) ?_
            · go_simp
              refine hK _ _ ?_; clear hK K
              refine wpAny_done (by kernel_rfl) ?_ _
              gi_wp2
              exact HX.out
            exact AllReady.nil
          exact AllReady.nil
        refine AllReady.cons rfl (fun K hK => ?_) ?_
        · go_simp
          refine hK _ _ ?_; clear hK K
          refine wpAny_ready (rs := [0]) (by kernel_rfl) (by simp) ?_
          refine AllReady.cons rfl (fun K hK => ?_) ?_
          · go_simp
            refine hK _ _ ?_; clear hK K
            refine wpAny_ready (rs := [2]) (by kernel_rfl) (by simp) ?_
            refine AllReady.cons rfl (fun K hK => ?_) ?_
            · go_simp
              refine hK _ _ ?_; clear hK K
              refine wpAny_done (by kernel_rfl) ?_ _
              gi_wp2
              exact HX.out
            exact AllReady.nil
          exact AllReady.nil
        exact AllReady.nil
    case done =>
      rintro D xs W hD rfl hI hK
      obtain ⟨⟨h1, h2⟩, ⟨m, a', c', h3, h4, h5⟩, h6, h7, h8⟩ := hI
      have h1z := HS1.out
      have h3z := HS3.out
      obtain ⟨b1, b2⟩ := put3_blk h1 h2 (.slice a' m c') 0 0
      have ho := put3_only W w.heap.size (.slice a' m c') 0 0
      have hK2 := ho.same hK (by omega)
      have hd : Only (· = D) (put3 W w.heap.size (.slice a' m c') 0 0) ((put3 W w.heap.size (.slice a' m c') 0 0).putObj D (.deferred none)) := (Only.refl (· = D) _).putObj (.inl rfl) _
      have HE1 := Lib.hid (b1.only hd (by omega))
      have HE2 := Lib.hid (b2.only hd (by omega))
      have HE3 := Lib.hid (LexPost2.good (w' := (put3 W w.heap.size (.slice a' m c') 0 0).putObj D (.deferred none)) (W := W) (by omega) h8 h4 (owns_onlyT (owns_onlyT h5 ho (fun g hg => by omega)) hd (fun g hg => by omega)) ((h6.only ho rfl (fun k hk => by omega)).only hd rfl (fun k hk => by omega)) (by omega))
      obtain ⟨c0, d0, d1⟩ : W.cell? ⟨w.heap.size, 0, none⟩ = some (.slice none 0 0) ∧ W.cell? ⟨w.heap.size + 1, 0, none⟩ = some (.int .i64 0) ∧ W.cell? ⟨w.heap.size + 1, 1, none⟩ = some (.int .i64 0) := ⟨h1.cell 0, h2.cell 0, h2.cell 1⟩
      obtain ⟨f0, f1, f2⟩ : W.frozen? ⟨w.heap.size, 0, none⟩ = false ∧ W.frozen? ⟨w.heap.size + 1, 0, none⟩ = false ∧ W.frozen? ⟨w.heap.size + 1, 1, none⟩ = false := ⟨h1.frozen 0, h2.frozen 0, h2.frozen 1⟩
      have c4 := h3.cell 0
      simp at c4
      have HK2 := Lib.hid hK2
      clear h1 h2 h3 h4 h5 h6 h7 h8 b1 b2 ho hK hd hK2 h1z h3z hD
      go_wp2_with fail
      refine ⟨by simp, .inl ⟨_, _, rfl, run_takeDeferred HK2.out, ?_⟩⟩
      exact ⟨_, lex_results (by rfl) _ _ rfl rfl HE1.out HE2.out, HE3.out⟩
    case stop =>
      rintro D cd pre W hD hpre ⟨rfl, pre', q, rfl, h2, h3, h4, h5, h6⟩ hK
      have h1z := HS1.out
      have h3z := HS3.out
      have hd : Only (· = D) W (W.putObj D (.deferred none)) := (Only.refl (· = D) _).putObj (.inl rfl) _
      have HE1 := Lib.hid (h4.only hd (by omega))
      have HE2 := Lib.hid (h5.only hd (by omega))
      have HE3 := Lib.hid (LexPost2.bad (l := l) (by omega) hpre h2 h3 (h6.only hd rfl (fun k hk => by omega)))
      clear h1z h3z hD
      gi_wp2
      refine ⟨by simp, .inl ⟨_, _, rfl, run_takeDeferred hK, ?_⟩⟩
      exact ⟨_, lex_results (by rfl) _ _ rfl rfl HE1.out HE2.out, HE3.out⟩

theorem lex_c (a : Option Addr) (c : Nat) (l : List UInt8) (w : World) (h : SrcAt w (.slice a l.length c) l) (hT : Tb w) (hE : Er w) :
    Calls Tryz.prog 18 #[.slice a l.length c] w (LexPost l w) := (lex_o a c l w h hT hE).mono fun _ _ h => h.1

end Go.Proofs.YtfkmnpgpfmkjaaaGreatDoor
namespace Go.Proofs.YtfkmnpgpfmkjaaaGreatDoor
open Go.ChangeShapes Go.WideShapes Go.ChangeAt Go.RowKit
attribute [local go_sem] Oper.semAt_some
open Ps (O W)

namespace Lx
def okR (k : Int) (x : ByteArray) (v : Int) : Prop := (1 ≤ k ∧ k ≤ 7) ∧ x.size ≤ maxLen ∧ -9223372036854775808 ≤ v ∧ v ≤ 9223372036854775807
theorem tok_okR {s : List UInt8} {k : Int} {x : ByteArray} {v : Int} {len : Nat} (h : tok s = .tok k x v len) : okR k x v := by
  unfold tok tokK at h
  split at h
  · unfold word wordR at h
    split at h
    · cases h
    · rename_i h1
      injection h with h2 h3 h4 h5
      subst h2 h3 h4
      refine ⟨?_, by unfold maxLen; omega, by decide, by decide⟩
      split
      · decide
      · split <;> decide
  · split at h
    · unfold number numR at h
      split at h
      · split at h
        · cases h
        · split at h
          · cases h
          · rename_i h1 h2
            injection h with h2 h3 h4 h5
            subst h2 h3 h4
            simp only [Bool.or_eq_true, decide_eq_true_eq, not_or] at h1
            exact ⟨by decide, by decide, by omega, by omega⟩
      · split at h
        · cases h
        · split at h
          · cases h
          · rename_i h1 h2
            injection h with h2 h3 h4 h5
            subst h2 h3 h4
            unfold wrong at h1
            simp only [Bool.or_eq_true, decide_eq_true_eq, not_or] at h1
            exact ⟨by decide, by decide, by omega, by omega⟩
    · split at h
      · unfold text textR at h
        split at h
        · cases h
        · split at h
          · cases h
          · split at h
            · cases h
            · rename_i h1 h2 h3
              injection h with h2 h3 h4 h5
              subst h2 h3 h4
              refine ⟨by decide, ?_, by decide, by decide⟩
              show (Array.size _) ≤ maxLen
              rw [List.size_toArray]
              unfold maxLen; omega
      · unfold sign at h
        split at h
        · rename_i y hy
          injection h with h2 h3 h4 h5
          subst h2 h3 h4
          have hm := List.mem_of_find?_eq_some hy
          exact ⟨by decide, (show ∀ z ∈ sw, z.size ≤ maxLen by decide +kernel) _ hm, by decide, by decide⟩
        · cases h
theorem seqF_okR : ∀ (n p : Nat) (s : List UInt8), ∀ q ∈ seqF n p s, q.2.1 = 0 → okR q.1.kind q.1.text q.1.n
  | 0, _, _, q, hq, _ => by rw [seqF] at hq; cases hq
  | n + 1, p, s, q, hq, h0 => by
    rw [seqF] at hq
    split at hq
    · cases hq
    · split at hq
      · rename_i e o he
        rw [List.mem_singleton] at hq
        subst hq
        exact absurd h0 (tok_bad he)
      · rename_i k x v len he
        rcases List.mem_cons.1 hq with rfl | hq
        · exact tok_okR he
        · exact seqF_okR n _ _ q hq h0
theorem resOf_mem : ∀ (l : List Q) (t : T), t ∈ (resOf l).1 → ∃ q ∈ l, q.1 = t ∧ q.2.1 = 0
  | [], t, h => by rw [resOf] at h; cases h
  | (x, e, a) :: l, t, h => by
    rw [resOf] at h
    split at h
    · rename_i he
      split at h
      · rcases List.mem_cons.1 h with rfl | h
        · exact ⟨_, List.mem_cons_self, rfl, he⟩
        · obtain ⟨q, hq, h1⟩ := resOf_mem l t h
          exact ⟨q, List.mem_cons_of_mem _ hq, h1⟩
      · obtain ⟨q, hq, h1⟩ := resOf_mem l t h
        exact ⟨q, List.mem_cons_of_mem _ hq, h1⟩
    · cases h
theorem resOf_len : ∀ (l : List Q), (resOf l).1.length ≤ l.length
  | [] => by rw [resOf]; exact Nat.le_refl _
  | (x, e, a) :: l => by
    have := resOf_len l
    rw [resOf]
    split
    · split
      · simpa using this
      · rw [List.length_cons]; omega
    · simp
theorem lex_good (l : List UInt8) (n : Int) (h : (lex l).2.1 = 0) : Ps.Good ((lex l).1 ++ [Ps.theEndT n]) := by
  have hl : ¬ 20000 < l.length := fun hc => by unfold lex at h; rw [if_pos hc] at h; cases h
  have e : lex l = resOf (seq l) := by unfold lex; rw [if_neg hl]
  refine ⟨fun t ht => ?_, ?_, ⟨_, n, rfl⟩⟩
  · rcases List.mem_append.1 ht with ht | ht
    · rw [e] at ht
      obtain ⟨q, hq, rfl, h0⟩ := resOf_mem _ _ ht
      obtain ⟨h1, h2, h3⟩ := seqF_okR _ _ _ q hq h0
      exact ⟨⟨by omega, h1.2⟩, h2, h3⟩
    · rw [List.mem_singleton] at ht
      subst ht
      exact ⟨by show (0 : Int) ≤ 0 ∧ (0 : Int) ≤ 7; decide, Nat.zero_le _, by show (-9223372036854775808 : Int) ≤ 0; decide, by show (0 : Int) ≤ _; decide⟩
  · rw [e, List.length_append]
    have h1 := resOf_len (seq l)
    have h2 := seq_len l
    simp
    omega
end Lx

theorem levelOf_c (a : Option Addr) (n c : Nat) (w : World) : Calls Tryz.prog 73 #[.slice a n c] w fun e w' => e = .returned (.slice a n c) ∧ w' = w := by
  go_enter Tryz.func73, Tryz.ntmps73
  go_wp2_with fail
  go_ret
  exact ⟨rfl, rfl⟩

def levV (g : Nat) : Nat → Value
  | 0 => .slice (some ⟨g, 0, none⟩) 1 1
  | 1 => .slice (some ⟨g + 1, 0, none⟩) 1 1
  | 2 => .slice (some ⟨g + 2, 0, none⟩) 2 2
  | 3 => .slice (some ⟨g + 3, 0, none⟩) 2 2
  | 4 => .slice (some ⟨g + 4, 0, none⟩) 2 2
  | 5 => .slice (some ⟨g + 5, 0, none⟩) 3 3
  | _ => .slice none 0 0
theorem lev_results {fn : Func} {q : Tmp} (h : fn.results = #[.cell q 86]) (tmps : Array Value) (W : World) {g : Nat} {v0 v1 v2 v3 v4 v5 : Value}
    (hp : tmps.getD q undef = .pointer (some ⟨g, 0, none⟩)) (hg : Blk W g 86 #[v0, v1, v2, v3, v4, v5]) : (results fn tmps).run Tryz.prog W = .ok (.agg #[v0, v1, v2, v3, v4, v5]) W :=
  results_cell_row (P := Tryz.prog) h tmps W g 86 #[v0, v1, v2, v3, v4, v5] (0, 0) _ hp hg Tryz.underlying86 (by rfl) (by kernel_rfl)
theorem lev_row {D : Nat → Prop} {w : World} {g : Nat} {t : TypeId} (l : List ByteArray) (hb : Blk w g t (l.map Value.string).toArray) (hm : l.length ≤ 100) (hD : D g) : LvR D w (.slice (some ⟨g, 0, none⟩) l.length l.length) l :=
  ⟨_, _, rfl, Nat.le_refl _, short_len hm, fun i x hx => ⟨g, 0, rfl, hD, by rw [hb.cell]; simp [hx]⟩⟩
theorem blk_new {w : World} {t : TypeId} {cs : Array Value} {g : Nat} (h : w.heap.size = g) : Blk (w.alloc (.cells cs t)) g t cs := h ▸ Blk.new w t cs
set_option maxHeartbeats 1000000 in
theorem levels_c (w : World) : Calls Tryz.prog 36 #[] w fun e w' => e = .returned (.agg #[levV (w.heap.size + 1) 0, levV (w.heap.size + 1) 1, levV (w.heap.size + 1) 2, levV (w.heap.size + 1) 3, levV (w.heap.size + 1) 4, levV (w.heap.size + 1) 5]) ∧
    (∀ j, j < 6 → LvR (fun b => w.heap.size < b ∧ b < w.heap.size + 7) w' (levV (w.heap.size + 1) j) (Ps.levels j)) ∧ Kept w w' := by
  go_enter Tryz.func36, Tryz.ntmps36
  go_wp2_with (go_at_call 73; refine (levelOf_c _ _ _ _).mono ?_; rintro e w1 ⟨rfl, rfl⟩)
  refine bodyPost_ret (lev_results (by rfl) _ _ rfl ((((((((Blk.new _ _ _).alloc _).alloc _).alloc _).alloc _).alloc _).alloc _))) rfl ⟨rfl, fun j hj => ?_, (((((((Kept.refl w).alloc _).alloc _).alloc _).alloc _).alloc _).alloc _).alloc _⟩
  match j, hj with
  | 0, _ => exact lev_row [_] ((((((blk_new (by simp)).alloc _).alloc _).alloc _).alloc _).alloc _) (by decide) (by omega)
  | 1, _ => exact lev_row [_] (((((blk_new (by simp)).alloc _).alloc _).alloc _).alloc _) (by decide) (by omega)
  | 2, _ => exact lev_row [_, _] ((((blk_new (by simp)).alloc _).alloc _).alloc _) (by decide) (by omega)
  | 3, _ => exact lev_row [_, _] (((blk_new (by simp)).alloc _).alloc _) (by decide) (by omega)
  | 4, _ => exact lev_row [_, _] ((blk_new (by simp)).alloc _) (by decide) (by omega)
  | 5, _ => exact lev_row [_, _, _] (blk_new (by simp)) (by decide) (by omega)

theorem wpList_insertF {P : Program} {w : World} {ops : Array Oper} {rest : List Oper} {o : Oper} {a : Act} {Q : Exit → Act → World → Prop} {f : ByteArray → Option Value}
    (hg : o.guard = none) (m x v : Operand) (t : TypeId) (hop : o.op = Op.insert t m x v) (k e : TypeId) (K : Maps.Keyed P k) (ht : P.underlying t = some (.map k e)) (b n : Nat)
    (hm : a.eval m = .map (some b)) (h : MapF P k b n f w) (hn : n < maxLen) (s : ByteArray) (val : Value) (hx : a.eval x = .string s) (hv : a.eval v = val) (hkey : keyOf P k (.string s) = some (.string s.data.toList))
    (hK : ∀ w', MapF P k b (n + 1) (fun y => if y = s then some val else f y) w' → w.grownBy w' (some b) → wpList P ops Q rest (a.put o.dst undef) w') : wpList P ops Q (o :: rest) a w := by
  obtain ⟨D, h1, h2, h3⟩ := h
  refine wpList_insert_own w hg m x v t hop k e K ht b n D hm h1 hn (.string s) val (.string s.data.toList) hx hv hkey (fun w' ho hgr => hK w' ⟨_, ho, h2.put _ _, fun y => ?_⟩ hgr)
  by_cases hy : y = s
  · subst hy
    refine ⟨by rw [Maps.has_put_same (k := Lit.string y.data.toList) h2 trivial]; simp, fun u hu z => ?_⟩
    rw [Maps.atKey_put_same (k := Lit.string y.data.toList) h2 trivial]
    simp at hu
    rw [hu]
  · refine ⟨by rw [Maps.has_put_other (str_ne hy)]; simp [hy, (h3 y).1], fun u hu z => ?_⟩
    rw [Maps.atKey_put_other (str_ne hy)]
    simp [hy] at hu
    exact (h3 y).2 u hu z

set_option maxHeartbeats 2000000 in
theorem prims_c (w : World) : Calls Tryz.prog 35 #[] w fun e w' => e = .returned (.map (some w.heap.size)) ∧ MapF Tryz.prog 9 w.heap.size 20 wayF w' ∧ Kept w w' := by
  have law := Maps.string_keyed (P := Tryz.prog) Tryz.underlying9
  have h0 : MapF Tryz.prog 9 w.heap.size 0 (fun _ => none) (w.alloc (.map #[] 0)) := MapF.made w _ _
  have k0 : Kept w (w.alloc (.map #[] 0)) := (Kept.refl w).alloc _
  have HM := Lib.hid (And.intro h0 k0)
  have LAW := Lib.hid law
  clear h0 k0 law
  have hmm := @run_makeMap Tryz.prog
  go_enter Tryz.func35, Tryz.ntmps35
  go_wp2_with (refine wpList_insertF rfl _ _ _ 82 rfl 9 146 LAW.out Tryz.underlying82 _ _ rfl HM.out.1 (by unfold maxLen; omega) _ _ rfl rfl (WideMaps.keyOf_string_mk Tryz.underlying9 (by decide)) ?_; intro wn hn gn; replace HM := Lib.hid (And.intro hn (HM.out.2.grown gn (fun k e => by cases e; exact Nat.le_refl _))); clear hn gn)
  go_ret
  exact ⟨rfl, HM.out.1, HM.out.2⟩
end Go.Proofs.YtfkmnpgpfmkjaaaGreatDoor
namespace Go.Proofs.YtfkmnpgpfmkjaaaGreatDoor
open Go.ChangeShapes Go.WideShapes Go.ChangeAt Go.RowKit
attribute [local go_sem] Oper.semAt_some
open Ps (O W)

theorem src_tokP {W : World} {g : Nat} {n : Int} (h : Blk W g 48 #[.int .i64 0, .string ⟨#[]⟩, .int .i64 0, .int .i64 n]) : Src Tryz.prog 4 40 (.slice (some ⟨g, 0, none⟩) 1 1) 1 (tCells (Ps.theEndT n)) W := by
  refine Src.ofSlice W Tryz.underlying40 ⟨g, 0, none⟩ 1 1 _ rfl (fun j u hu => ?_) (fun u hu => ?_)
  · rw [Addr.add_lit, Nat.zero_add, h.cell j]
    simpa [tCells, Ps.theEndT] using hu
  · simp only [tCells, Ps.theEndT, List.mem_cons, List.not_mem_nil, or_false] at hu
    rcases hu with rfl | rfl | rfl | rfl <;> rfl
/-- A row of one's own as tokens in certain blocks. -/
theorem owns_tokB {D : Nat → Prop} {w : World} {base : Nat} {a : Option Addr} {n c : Nat} {l : List Lx.T} (hn : n = l.length) (h : w.ownsRow base 48 4 (.slice a n c) n (l.flatMap tCells)) (hD : ∀ k, base ≤ k → k < w.heap.size → D k) : Row 4 (TokB D) w (.slice a n c) l := by
  subst hn
  rcases h.2 with ⟨e, hl0⟩ | ⟨g, cap, cur, e, hg1, hg2, hg3, hg4, hg5, hg6⟩
  · obtain rfl : l = [] := List.eq_nil_of_length_eq_zero hl0
    injection e with e1 e2 e3
    subst e1 e3
    exact Row.nil
  · injection e with e1 e2 e3
    subst e1 e3
    refine ⟨_, c, rfl, hg3, hg4, fun i x hx => ⟨g, 0, rfl, hD g hg1 (Array.getElem?_eq_some_iff.1 hg2).1, ?_⟩⟩
    have c0 := h.cells (g := g) rfl _ _ (flat_at tCells tCells_len l i 0 x hx (by omega))
    have c1 := h.cells (g := g) rfl _ _ (flat_at tCells tCells_len l i 1 x hx (by omega))
    have c2 := h.cells (g := g) rfl _ _ (flat_at tCells tCells_len l i 2 x hx (by omega))
    have c3 := h.cells (g := g) rfl _ _ (flat_at tCells tCells_len l i 3 x hx (by omega))
    rw [addr_plainT] at c0 c1 c2 c3
    exact ⟨by simpa using c0, by simpa [Nat.add_assoc] using c1, by simpa [Nat.add_assoc] using c2, by simpa [Nat.add_assoc] using c3⟩

theorem row_to {α : Type} {k : Nat} {R R' : World → Nat → Nat → α → Prop} {w w' : World} {v : Value} {l : List α} (h : Row k R w v l) (hR : ∀ b o x, R w b o x → R' w' b o x) : Row k R' w' v l := by
  obtain ⟨a, c, e, h1, h2, h3⟩ := h
  exact ⟨a, c, e, h1, h2, fun i x hx => by obtain ⟨b, o, e, r⟩ := h3 i x hx; exact ⟨b, o, e, hR _ _ _ r⟩⟩
/-- What parserOf answers. -/
def PofPost (tk : List Lx.T) (er ea : Int) (n : Nat) (w : World) (e : Ending) (w' : World) : Prop :=
  (er ≠ 0 ∧ e = .panicked (refV er ea) ∧ Kept w w') ∨
  (er = 0 ∧ ∃ p : PP, e = .returned (.pointer (some ⟨p.B, 0, none⟩)) ∧ p.f = wayF ∧ Pst p (tk ++ [Ps.theEndT n]) w' ∧ (w.heap.size ≤ p.B ∧ p.L = w.heap.size) ∧ Kept w w')

set_option maxHeartbeats 4000000 in
theorem parserOf_c (a : Option Addr) (c : Nat) (l : List UInt8) (tk : List Lx.T) (er ea : Int) (hL : Lx.lex l = (tk, er, ea)) (w : World) (hs : SrcAt w (.slice a l.length c) l) (hT : Tb w) (hE : Er w) (hS : Sorts w) :
    Calls Tryz.prog 23 #[.slice a l.length c] w (PofPost tk er ea l.length w) := by
  have HLX := Lib.hid (show Calls Tryz.prog 18 #[.slice a l.length c] w (fun e w' => ∃ (a' : Option Addr) (c' base : Nat), e = .returned (.tuple #[.slice a' tk.length c', fagg er ea]) ∧ w.heap.size ≤ base ∧ base ≤ w'.heap.size ∧ w'.ownsRow base 48 4 (.slice a' tk.length c') tk.length (tk.flatMap tCells) ∧ Kept w w') from
    (lex_o a c l w hs hT hE).mono fun e w' h => by
      obtain ⟨⟨_, _, _, _, k⟩, a', c', base, h1, h2, h3, h4⟩ := h
      rw [hL] at h1 h4
      exact ⟨a', c', base, h1, h2, h3, h4, k⟩)
  have HS := Lib.hid hS
  obtain ⟨i0, hi, hi2⟩ := Option.map_eq_some_iff.1 info_tok
  simp only [Prod.mk.injEq] at hi2
  obtain ⟨hz0, hzz1, hzz2⟩ := hi2
  have HI := Lib.hid (And.intro hi (And.intro hz0 (And.intro hzz1 hzz2)))
  have HLL := Lib.hid (show er = 0 → tk.length ≤ 20001 from fun h => by
    have h0 : (Lx.lex l).2.1 = 0 := by rw [hL]; exact h
    have hl : ¬ 20000 < l.length := fun hc => by have e := hL; unfold Lx.lex at e; rw [if_pos hc] at e; injection e with _ e; injection e with e; omega
    have e : Lx.lex l = Lx.resOf (Lx.seq l) := by unfold Lx.lex; rw [if_neg hl]
    have h1 := Lx.resOf_len (Lx.seq l)
    have h2 := seq_len l
    rw [← e, hL] at h1
    dsimp only at h1
    omega)
  have HGD := Lib.hid (show er = 0 → Ps.Good (tk ++ [Ps.theEndT l.length]) from fun h => by
    have := Lx.lex_good l (l.length : Int) (by rw [hL]; exact h)
    rw [hL] at this
    exact this)
  have hll : l.length ≤ maxLen := by obtain ⟨_, _, e, h1, h2, _⟩ := hs; injection e; omega
  have HLM := Lib.hid hll
  clear hs hT hE hS hi hz0 hzz1 hzz2 hL hll
  go_enter Tryz.func23, Tryz.ntmps23
  go_wp2_with fail
  refine HLX.out.mono ?_
  rintro e w1 ⟨a', c', base, rfl, hb, hb2, ho, k1⟩
  have HK1 := Lib.hid k1
  have HO := Lib.hid ho
  have HBB := Lib.hid (And.intro hb hb2)
  clear ho hb hb2 k1 HLX
  by_cases h0 : er = 0
  · subst h0
    have HGD2 := Lib.hid (HGD.out rfl)
    have HLL2 := Lib.hid (HLL.out rfl)
    clear HGD HLL
    obtain ⟨V1, hV1⟩ : ∃ V, w1.alloc (.cells #[.int .i64 0, .int .i64 ea] 36) = V := ⟨_, rfl⟩
    obtain ⟨V2, hV2⟩ : ∃ V, V1.alloc (.cells #[.int .i64 0, .string ⟨#[]⟩, .int .i64 0, .int .i64 (l.length : Int)] 48) = V := ⟨_, rfl⟩
    have kv1 : Kept w1 V1 := by rw [← hV1]; exact (Kept.refl _).alloc _
    have kv2 : Kept V1 V2 := by rw [← hV2]; exact (Kept.refl _).alloc _
    have HRW := Lib.hid (owns_keptT (owns_keptT HO.out kv1) kv2)
    have HSR := Lib.hid (src_tokP (n := (l.length : Int)) (show Blk V2 V1.heap.size 48 _ by rw [← hV2]; exact Blk.new _ _ _))
    have HK2 := Lib.hid ((HK1.out.trans kv1).trans kv2)
    have HBZ := Lib.hid (show base ≤ V2.heap.size from Nat.le_trans HBB.out.2 (Nat.le_trans kv1.size kv2.size))
    have HF1 := Lib.hid (show V1.cell? ⟨w1.heap.size, 0, none⟩ = some (.int .i64 0) by rw [← hV1]; exact (Blk.new w1 36 #[.int .i64 0, .int .i64 ea]).cell 0)
    have HV1 := Lib.hid hV1
    have HV2 := Lib.hid hV2
    have HLB := Lib.hid (show tk.length + 1 ≤ maxLen by have := HLL2.out; unfold maxLen; omega)
    have HLC := Lib.hid (show (tk.length + 1) * 40 ≤ 140737488355328 by have := HLL2.out; omega)
    clear hV1 hV2 kv1 kv2
    have hf1 := HF1.out
    go_wp2_with (first | rw [HV1.out] | rw [HV2.out] | (at_builtin; refine wpList_apk rfl (.tmp 15) (.tmp 19) 40 40 rfl base 4 48 i0 _ 40 Tryz.underlying40 HI.out.1 HI.out.2.1 HI.out.2.2.1 HI.out.2.2.2 rfl rfl HRW.out rfl HSR.out HLB.out HLC.out HBZ.out ?_; intro v' w3 hown hgrow hlies; have HK3 := Lib.hid (HK2.out.grown hgrow (fun k hk => Nat.le_trans HBB.out.1 (rown_T HRW.out hk).1)); have HOW := Lib.hid hown; obtain ⟨va, vc, rfl⟩ := owns_valT hown; clear hown hgrow hlies) | (go_at_call 35; refine (prims_c _).mono ?_; rintro e w4 ⟨rfl, hm4, k4⟩; have HM4 := Lib.hid hm4; have HK4 := Lib.hid k4; clear hm4 k4) | (go_at_call 36; refine (levels_c _).mono ?_; rintro e w5 ⟨rfl, hl5, k5⟩; have HL5 := Lib.hid hl5; have HK5 := Lib.hid k5; clear hl5 k5))
    have h3 : Row 4 (TokB (fun k => w.heap.size ≤ k ∧ k < w3.heap.size)) w3 (.slice va (tk.length + 1) vc) (tk ++ [Ps.theEndT (l.length : Int)]) :=
      owns_tokB (by simp) (by rw [List.flatMap_append]; simpa using HOW.out) (fun k hk h => ⟨Nat.le_trans HBB.out.1 hk, h⟩)
    have s34 := HK4.out.size
    have s45 := HK5.out.size
    have kb : Kept w5 (w5.alloc (.cells (pC (.slice va (tk.length + 1) vc) ⟨w5.heap.size, w3.heap.size, w5.heap.size + 1, w.heap.size, levV (w4.heap.size + 1), wayF⟩) pT)) := (Kept.refl _).alloc _
    have hms : w3.heap.size < w4.heap.size := HM4.out.lt
    have hso : Sorts w5 := by
      obtain ⟨t, fr, h⟩ := HS.out
      exact ⟨t, fr, (((HK3.out.trans HK4.out).trans HK5.out).block _ (Array.getElem?_eq_some_iff.1 h).1).trans h⟩
    have hsl : 0 < w.heap.size := by obtain ⟨t, fr, h⟩ := HS.out; exact (Array.getElem?_eq_some_iff.1 h).1
    have hw5 : w.heap.size ≤ w5.heap.size := ((HK3.out.trans HK4.out).trans HK5.out).size
    have hst : Sta ⟨w5.heap.size, w3.heap.size, w5.heap.size + 1, w.heap.size, levV (w4.heap.size + 1), wayF⟩ w5 := by
      refine ⟨HM4.out.only (S := fun _ => False) (Only.of_kept HK5.out) (fun h => h), ⟨?_, ?_, .inl ?_⟩, ⟨hso, ?_, ?_, .inr rfl⟩, fun j hj => row_to (HL5.out j hj) fun b o x h => ⟨⟨?_, ?_, .inl ?_⟩, h.2⟩⟩
      · show w3.heap.size ≠ w5.heap.size; omega
      · show w3.heap.size < w5.heap.size + 1; omega
      · show w.heap.size ≤ w3.heap.size; exact HK3.out.size
      · show 0 ≠ w5.heap.size; omega
      · show 0 < w5.heap.size + 1; omega
      · have h1 := World.block_lt_of_cell? w5 ⟨b, o, none⟩ h.2
        show b ≠ w5.heap.size
        have h1 : b < w5.heap.size := h1
        omega
      · have h1 : b < w5.heap.size := World.block_lt_of_cell? w5 ⟨b, o, none⟩ h.2
        show b < w5.heap.size + 1
        omega
      · have h1 := h.1
        have h2 := HK3.out.size
        show w.heap.size ≤ b
        omega
    have h5 : Row 4 (TokB (PP.far ⟨w5.heap.size, w3.heap.size, w5.heap.size + 1, w.heap.size, levV (w4.heap.size + 1), wayF⟩)) w5 (.slice va (tk.length + 1) vc) (tk ++ [Ps.theEndT (l.length : Int)]) :=
      row_to (R := TokB (fun k => w.heap.size ≤ k ∧ k < w3.heap.size)) (toks_only (S := fun _ => False) h3 (Only.of_kept (HK4.out.trans HK5.out)) (fun _ _ h => h)) fun b o x h => ⟨⟨by have := h.1; show b ≠ w5.heap.size; omega, by have := h.1; show b < w5.heap.size + 1; omega, .inl h.1.1⟩, h.2⟩
    have hlen : (tk ++ [Ps.theEndT (l.length : Int)]).length = tk.length + 1 := by simp
    have HH := Lib.hid (show Pst ⟨w5.heap.size, w3.heap.size, w5.heap.size + 1, w.heap.size, levV (w4.heap.size + 1), wayF⟩ (tk ++ [Ps.theEndT (l.length : Int)]) (w5.alloc (.cells (pC (.slice va (tk.length + 1) vc) ⟨w5.heap.size, w3.heap.size, w5.heap.size + 1, w.heap.size, levV (w4.heap.size + 1), wayF⟩) pT)) from
      ⟨⟨va, vc, by rw [hlen]; exact Blk.new _ _ _, by rw [hlen]; exact toks_only (S := fun _ => False) h5 (Only.of_kept kb) (fun _ _ h => h)⟩, HGD2.out, hst.only (S := fun _ => False) (Only.of_kept kb) (fun _ _ h => h), by show w5.heap.size < w5.heap.size + 1; omega, by show w5.heap.size + 1 ≤ _; simp⟩)
    have HKF := Lib.hid (((HK3.out.trans HK4.out).trans HK5.out).trans kb)
    have HW5 := Lib.hid hw5
    clear h3 s34 s45 kb hms hso hsl hw5 hst h5 hlen
    go_ret
    exact .inr ⟨rfl, _, rfl, rfl, HH.out, ⟨HW5.out, rfl⟩, HKF.out⟩
  · have hb1 : (er == 0) = false := by simpa using h0
    have hb2 : (er != 0) = true := by simpa using h0
    have H0 := Lib.hid h0
    clear h0
    go_wp2_with fail
    exact ⟨rfl, .inl ⟨H0.out, rfl, HK1.out.alloc _⟩⟩
end Go.Proofs.YtfkmnpgpfmkjaaaGreatDoor
