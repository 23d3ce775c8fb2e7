/- The contract of latestFirst: all pairs of a relation, in some order; slices.SortedFunc at pairs. The contract of latestFirst: all pairs of a relation; the contract of strike: the pairs that do not hold are deleted; the contract of precise. The contracts of precise.Precise, Same and More: which type of a valid table is as precise as which one, and which of two is more so. -/
import Derived.Test.YthooiofaicdhgaaGreatDoorShelf
import Derived.Test.YthooiofaicdhgaaGreatDoorPrl
import Derived.StillTailTactics
import Derived.Deep.LoopGhost
import Derived.Test.YthooiofaicdhgaaGreatDoorSbt
import Derived.Test.YthooiofaicdhgaaGreatDoorChk
set_option linter.unusedSimpArgs false
set_option linter.unusedVariables false
set_option maxRecDepth 100000
namespace Go.Proofs.YthooiofaicdhgaaGreatDoor
open Go.ChangeShapes Go.WideShapes Go.ChangeAt Go.RowKit Go.Shelf Go.Sort

/-- Pairs of types that a key may be made of. -/
def FP := {p : Tab.P2 // Fine p}
theorem fine_none : Fine (⟨#[]⟩, ⟨#[]⟩) := ⟨Nat.zero_le _, Nat.zero_le _⟩
instance : Inhabited FP := ⟨⟨(⟨#[]⟩, ⟨#[]⟩), fine_none⟩⟩
def fCells (x : FP) : List Value := [.string x.1.1, .string x.1.2]
theorem fCells_len (x : FP) : (fCells x).length = 2 := rfl
def atV : Value → Int
  | .agg a => match a.toList with
    | [_, _, .int _ k] => k
    | _ => 0
  | _ => 0
def cmpI (a b : Int) : Int := if a < b then -1 else if b < a then 1 else 0
theorem cmpI_lt (a b : Int) : decide (cmpI a b < 0) = decide (a < b) := by
  unfold cmpI
  by_cases h : a < b
  · simp [h]
  · by_cases k : b < a <;> simp [h, k]
/-- When a pair was found. -/
def atP (D : List Tab.P2) (g : Tab.P2 → Value) (p : Tab.P2) : Int := if Tab.inP D p then atV (g p) else 0
def cfQ (h : Tab.P2 → Int) (x y : FP) : Int := cmpI (h y.1) (h x.1)
theorem ltQ (h : Tab.P2 → Int) (x y : FP) : ltOf (cfQ h) x y = decide (h y.1 < h x.1) := by
  show decide (cmpI _ _ < 0) = _
  exact cmpI_lt _ _
theorem swoQ (h : Tab.P2 → Int) : SWO (ltOf (cfQ h)) where
  irrefl x := by rw [ltQ]; simp
  trans x y z h1 h2 := by rw [ltQ] at *; simp only [decide_eq_true_eq] at *; omega
  ntrans x y z h1 h2 := by rw [ltQ] at *; simp only [decide_eq_false_iff_not] at *; omega

theorem cmpInt_c (a b : Int) (w : World) :
    Calls Tryz.prog 228 #[.int .i64 a, .int .i64 b] w fun e w' => e = .returned (.int .i64 (cmpI a b)) ∧ w' = w := by
  have ha : (a == a) = true := by simp
  have hb : (b == b) = true := by simp
  by_cases h : a < b
  · have hq : cmpI a b = -1 := by unfold cmpI; simp [h]
    rw [hq]
    clear hq
    go_enter Tryz.func228, Tryz.ntmps228
    go_wp2
    go_ret
    exact ⟨rfl, rfl⟩
  · by_cases k : b < a
    · have hq : cmpI a b = 1 := by unfold cmpI; simp [h, k]
      rw [hq]
      clear hq
      go_enter Tryz.func228, Tryz.ntmps228
      go_wp2
      go_ret
      exact ⟨rfl, rfl⟩
    · have hq : cmpI a b = 0 := by unfold cmpI; simp [h, k]
      rw [hq]
      clear hq
      go_enter Tryz.func228, Tryz.ntmps228
      go_wp2
      go_ret
      exact ⟨rfl, rfl⟩

/-- What a look-up in a relation tells, with when the pair was found. -/
theorem MapP.look_at {b n : Nat} {D : List Tab.P2} {g : Tab.P2 → Value} {W : World} (h : MapP b n D g W) (hg : ∀ q ∈ D, NdV (g q)) (s u : ByteArray) (hp : Fine (s, u)) :
    ∃ x a m c, (Instr.lookup 190 (.map (some b)) (.agg #[.string s, .string u]) false).run Tryz.prog W = .ok (.agg #[.bool x, .slice a m c, .int .i64 (atP D g (s, u))]) W := by
  have hl := h.look1 (t := 190) (e := 230) Tryz.underlying190 (zero_needs _) hp
  cases e : Tab.inP D (s, u) with
  | true =>
    obtain ⟨x, a, m, c, k, e'⟩ := hg _ (Tab.inP_iff.1 e)
    rw [e, e'] at hl
    refine ⟨x, a, m, c, ?_⟩
    have : atP D g (s, u) = k := by unfold atP; rw [e, e']; rfl
    rw [this]
    simpa using hl
  | false =>
    rw [e] at hl
    refine ⟨false, none, 0, 0, ?_⟩
    have : atP D g (s, u) = 0 := by unfold atP; rw [e]; rfl
    rw [this]
    simpa using hl

set_option maxHeartbeats 2000000 in
theorem cloQ_c (b n B : Nat) (D : List Tab.P2) (g : Tab.P2 → Value) (x1 x2 y1 y2 : ByteArray) (W : World) (hM : MapP b n D g W) (hg : ∀ q ∈ D, NdV (g q)) (hB : Blk W B 190 #[.map (some b)]) (hx : Fine (x1, x2)) (hy : Fine (y1, y2)) :
    Calls Tryz.prog 227 #[.agg #[.string x1, .string x2], .agg #[.string y1, .string y2], .pointer (some ⟨B, 0, none⟩)] W fun e w' =>
      e = .returned (.int .i64 (cmpI (atP D g (y1, y2)) (atP D g (x1, x2)))) ∧ ∃ q os', w' = Go.Sort.grow (W.drewN q) os' := by
  have HC := Lib.hid (fun w => cmpInt_c (atP D g (y1, y2)) (atP D g (x1, x2)) w)
  have k2 : Kept W ((W.alloc (.cells #[.string x1, .string x2] 117)).alloc (.cells #[.string y1, .string y2] 117)) := ((Kept.refl W).alloc _).alloc _
  have HG := Lib.hid (show ((W.alloc (.cells #[.string x1, .string x2] 117)).alloc (.cells #[.string y1, .string y2] 117)).drew = Go.Sort.grow (W.drewN 1) #[.cells #[.string x1, .string x2] 117, .cells #[.string y1, .string y2] 117] by
    rw [Go.Sort.alloc_eq_grow, Go.Sort.alloc_eq_grow, Go.Sort.grow_grow]; rfl)
  have hb1 := ((Blk.new W 117 #[.string x1, .string x2]).alloc (.cells #[.string y1, .string y2] 117))
  have hb2 := Blk.new (W.alloc (.cells #[.string x1, .string x2] 117)) 117 #[.string y1, .string y2]
  rw [World.size_alloc] at hb2
  have hB2 := hB.kept k2
  obtain ⟨xh, xa, xm, xc, hl1⟩ := (hM.kept k2.drew).look_at hg x1 x2 hx
  obtain ⟨yh, ya, ym, yc, hl2⟩ := (hM.kept k2.drew).look_at hg y1 y2 hy
  obtain ⟨W1, hW1⟩ : ∃ W1, (W.alloc (.cells #[.string x1, .string x2] 117)).alloc (.cells #[.string y1, .string y2] 117) = W1 := ⟨_, rfl⟩
  rw [hW1] at hb1 hb2 hB2 hl1 hl2 HG
  have HW := Lib.hid hW1
  have c0 := hb1.cell 0
  have c1 := hb1.cell 1
  have d0 := hb2.cell 0
  have d1 := hb2.cell 1
  have e0 := hB2.cell 0
  simp only [List.getElem?_toArray, List.getElem?_cons_zero, List.getElem?_cons_succ] at c0 c1 d0 d1 e0
  have hfd : ∀ (h : Bool) (a : Option Addr) (m c : Nat) (k : Int) (w : World), (Instr.field 230 (.agg #[.bool h, .slice a m c, .int .i64 k]) 2).run Tryz.prog w = .ok (.int .i64 k) w := fun _ _ _ _ _ _ => by kernel_rfl
  generalize cmpI (atP D g (y1, y2)) (atP D g (x1, x2)) = r at HC ⊢
  generalize atP D g (x1, x2) = px at *
  generalize atP D g (y1, y2) = py at *
  clear hM hg hB hx hy k2 hb1 hb2 hB2 hW1
  go_enter Tryz.func227, Tryz.ntmps227
  go_wp2_with fail
  rw [HW.out]
  go_still_tail 8, (by kernel_rfl)
  change wpList _ _ _ _ _ W1.drew
  clear c0 c1 d0 d1 e0 hl1 hl2
  go_wp2_with fail
  refine (HC.out _).mono ?_
  rintro e w1 ⟨rfl, rfl⟩
  go_wp2_with fail
  go_ret
  exact ⟨rfl, 1, _, HG.out⟩

theorem flat_getQ (ms : List FP) {j i : Nat} {x : FP} (hx : ms[j]? = some x) (hi : i < 2) : j * 2 + i < (flatK fCells 2 ms.toArray).size ∧ (flatK fCells 2 ms.toArray)[j * 2 + i]! = (fCells x)[i]! := by
  obtain ⟨hj, rfl⟩ := List.getElem?_eq_some_iff.1 hx
  have hs : j * 2 + i < ms.toArray.size * 2 := by simp; omega
  refine ⟨by simpa using hs, ?_⟩
  rw [get_flatK fCells 2 ms.toArray _ hs]
  have e1 : (j * 2 + i) / 2 = j := by omega
  have e2 : (j * 2 + i) % 2 = i := by omega
  rw [e1, e2]
  congr 2
  simp [hj]

theorem holds_rowQ {W : World} {n₁ b c : Nat} {ms : List FP} (h : W.ownsRow n₁ 117 2 (.slice (some ⟨b, 0, none⟩) ms.length c) ms.length (ms.flatMap fCells)) : HoldsK fCells 2 W b 0 ms.toArray ∧ b < W.heap.size := by
  · rcases h.2 with ⟨h0, _⟩ | ⟨g, cap, cur, hv, hb, hg, _⟩
    · cases h0
    · cases hv
      have hbk : Blk W b 117 cur := hg
      refine ⟨fun j hj => ?_, hbk.lt⟩
      have hj' : j < ms.length * 2 := by simpa using hj
      have hx : ms[j / 2]? = some ms[j / 2] := List.getElem?_eq_getElem (by omega)
      obtain ⟨_, hv⟩ := flat_getQ ms hx (i := j % 2) (Nat.mod_lt _ (by omega))
      have e : j / 2 * 2 + j % 2 = j := by omega
      rw [e] at hv
      have hf := flat_at fCells fCells_len ms (j / 2) (j % 2) _ hx (Nat.mod_lt _ (by omega))
      rw [e] at hf
      have hlt : j % 2 < (fCells ms[j / 2]).length := by rw [fCells_len]; exact Nat.mod_lt _ (by omega)
      rw [List.getElem?_eq_getElem hlt] at hf
      have hc := h.cells (g := b) rfl _ _ hf
      rw [addr_plain] at hc
      refine ⟨?_, hbk.frozen _⟩
      rw [hc, hv]
      rw [getElem!_pos (fCells ms[j / 2]) (j % 2) hlt]; rfl

theorem only_sortQ {W : World} {b n : Nat} {d : Array FP} {os : Array Obj} (hb : b < W.heap.size) : Only (· = b) W (sortWorldK fCells 2 W b 0 n d os) := by
  refine ⟨rfl, rfl, size_sortWorldK_c _ _ _ _ _ _ _ _, fun k hk hne => ?_⟩
  show (((putRowK fCells 2 (Sort.ahead W n) b 0 d).heap) ++ os)[k]? = _
  have hs : k < (putRowK fCells 2 (Sort.ahead W n) b 0 d).heap.size := by simpa [putRowK, putRow, mapBlock, Sort.ahead] using hk
  rw [Array.getElem?_append_left hs]
  have : b ≠ k := fun e => hne e.symm
  simp [putRowK, putRow, mapBlock, Sort.ahead, Array.getElem?_modify, this]

/-- What a sort leaves. -/
def SoQ (b c : Nat) (ms : List FP) (W W' : World) : Prop := ∃ ms' : List FP, ms'.Perm ms ∧ Only (· = b) W W' ∧ ∀ w'', Only (fun k => ¬ k = b) W' w'' → PrsAt w'' (.slice (some ⟨b, 0, none⟩) ms'.length c) (ms'.map (·.1))

theorem prs_of_holdsQ {W : World} {b c : Nat} {ms : List FP} (h : HoldsK fCells 2 W b 0 ms.toArray) (h1 : ms.length ≤ c) (h2 : c ≤ maxLen) (hb : b < W.heap.size) : ∀ w'', Only (fun k => ¬ k = b) W w'' → PrsAt w'' (.slice (some ⟨b, 0, none⟩) ms.length c) (ms.map (·.1)) := by
  intro w'' hw
  have hblk : w''.heap[b]? = W.heap[b]? := hw.block b hb (by simp)
  have cc : ∀ o, w''.cell? ⟨b, o, none⟩ = W.cell? ⟨b, o, none⟩ := fun o => World.cell?_of_block hblk
  refine ⟨_, c, by rw [List.length_map], by rw [List.length_map]; exact h1, h2, fun i p hp => ⟨b, 0, rfl, ?_⟩⟩
  rw [List.getElem?_map] at hp
  obtain ⟨x, hx, rfl⟩ := Option.map_eq_some_iff.1 hp
  have q : ∀ k, k < 2 → W.cell? ⟨b, 0 + (i * 2 + k), none⟩ = some (fCells x)[k]! := fun k hk => by
    obtain ⟨q1, q2⟩ := flat_getQ ms hx hk
    rw [(h _ q1).1, q2]; rfl
  have q0 := q 0 (by omega)
  have q1 := q 1 (by omega)
  refine ⟨by rw [cc]; simpa [fCells] using q0, ?_, x.2⟩
  rw [cc]
  have e : 0 + i * 2 + 1 = 0 + (i * 2 + 1) := by omega
  rw [e]
  simpa [fCells] using q1

theorem clo_laysQ (mb n B b size : Nat) (D : List Tab.P2) (g : Tab.P2 → Value) (W : World) (hM : MapP mb n D g W) (hg : ∀ q ∈ D, NdV (g q)) (hB : Blk W B 190 #[.map (some mb)]) (hb : b < W.heap.size) (h1 : mb ≠ b) (h2 : B ≠ b) :
    CmpLays Tryz.prog 227 #[.pointer (some ⟨B, 0, none⟩)] fCells 2 (cfQ (atP D g)) b 0 size W := fun m os dk _ x y => by
  have ho := only_sortQ (W := W) (n := m) (d := dk) (os := os) hb
  exact cloQ_c mb n B D g x.1.1 x.1.2 y.1.1 y.1.2 _ (hM.only ho h1) hg (hB.only ho h2) x.2 y.2

theorem pdq_cQ (mb n B b c : Nat) (D : List Tab.P2) (g : Tab.P2 → Value) (ms : List FP) (n₁ : Nat) (W : World) (hM : MapP mb n D g W) (hg : ∀ q ∈ D, NdV (g q)) (hB : Blk W B 190 #[.map (some mb)]) (h1 : mb ≠ b) (h2 : B ≠ b)
    (h : W.ownsRow n₁ 117 2 (.slice (some ⟨b, 0, none⟩) ms.length c) ms.length (ms.flatMap fCells)) (hs : ms.length ≤ 10000000) :
    Calls Tryz.prog 276 #[.slice (some ⟨b, 0, none⟩) ms.length c, .int .i64 0, .int .i64 ms.length, .int .i64 (Lib.bitLen ms.length : Nat), .func (.func 227) #[] #[.pointer (some ⟨B, 0, none⟩)]] W fun e w' => e = .returned (.tuple #[]) ∧ SoQ b c ms W w' := by
  have eg : ∀ args w, (callFunc 227 args).run Tryz.prog w = .ok (.enter 227 args) w := enters_of Tryz.func227 (by kernel_rfl) rfl
  obtain ⟨hH, hb⟩ := holds_rowQ h
  have hcap : ms.length ≤ c ∧ c ≤ maxLen := by
    rcases h.2 with ⟨h0, _⟩ | ⟨_, _, _, hv, _, _, h3, h4, _⟩
    · cases h0
    · cases hv
      exact ⟨h3, h4⟩
  have hlim : Lib.bitLen ms.toArray.size < 4611686018427387904 := Nat.lt_of_le_of_lt (Lib.bitLen_le _ 62 (by omega) (by simp; omega)) (by omega)
  have hp := AnyQ.pdqsortCmpFunc_all Tryz.pdqR 2 Tryz.isAgg117 Tryz.sizeOf117 fCells (cfQ (atP D g)) 227 #[.pointer (some ⟨B, 0, none⟩)] (swoQ (atP D g)) b 0 c ms.toArray W eg (clo_laysQ mb n B b _ D g W hM hg hB hb h1 h2)
    ⟨fCells_len, fun x v hv => by simp [fCells] at hv; rcases hv with rfl | rfl <;> rfl, hH, hb⟩ (ms.toArray.size + 1) 0 ms.toArray.size (Lib.bitLen ms.toArray.size) ms.toArray W (by omega) rfl (SWK.start hH) (Nat.zero_le _) (Nat.le_refl _) (by simp; omega) hlim (Or.inl rfl)
  change Calls Tryz.prog 276 _ _ _ at hp
  have hz : ms.toArray.size = ms.length := by simp
  rw [hz] at hp
  refine hp.mono ?_
  rintro e w' ⟨he, m, os, rfl⟩
  refine ⟨he, ?_⟩
  have hsrt := pdq_sorts (ltOf (cfQ (atP D g))) (swoQ (atP D g)) ms.toArray 0 ms.toArray.size (Lib.bitLen ms.toArray.size) true true (Nat.zero_le _) (Nat.le_refl _) (Or.inl rfl)
  rw [hz] at hsrt
  generalize pdq (ltOf (cfQ (atP D g))) ms.toArray 0 ms.length (Lib.bitLen ms.length) true true = d at hsrt
  obtain ⟨⟨p1, _, p3⟩, p4⟩ := hsrt
  rw [hz] at p1
  have hpm : d.toList.Perm ms := by
    have e1 : (d.extract 0 ms.length).toList = d.toList := by rw [← p1]; simp
    have e2 : (ms.toArray.extract 0 ms.length).toList = ms := by simp
    rw [e1, e2] at p3
    exact p3
  refine ⟨d.toList, hpm, only_sortQ hb, ?_⟩
  have hh : HoldsK fCells 2 (sortWorldK fCells 2 W b 0 m d os) b 0 d := holdsK_sortWorldK_c fCells 2 W b 0 ms.toArray d m os hH hb (by rw [p1]; simp)
  refine prs_of_holdsQ (ms := d.toList) (by simpa using hh) (by rw [hpm.length_eq]; exact hcap.1) hcap.2 ?_
  exact Nat.lt_of_lt_of_le hb (only_sortQ (W := W) (n := m) (d := d) (os := os) hb).size

theorem sort_cQ (mb n B b c : Nat) (D : List Tab.P2) (g : Tab.P2 → Value) (ms : List FP) (n₁ : Nat) (W : World) (hM : MapP mb n D g W) (hg : ∀ q ∈ D, NdV (g q)) (hB : Blk W B 190 #[.map (some mb)]) (h1 : mb ≠ b) (h2 : B ≠ b)
    (h : W.ownsRow n₁ 117 2 (.slice (some ⟨b, 0, none⟩) ms.length c) ms.length (ms.flatMap fCells)) (hs : ms.length ≤ 10000000) :
    Calls Tryz.prog 257 #[.slice (some ⟨b, 0, none⟩) ms.length c, .func (.func 227) #[] #[.pointer (some ⟨B, 0, none⟩)]] W fun e w' => e = .returned (.tuple #[]) ∧ SoQ b c ms W w' := by
  have HP := Lib.hid (pdq_cQ mb n B b c D g ms n₁ W hM hg hB h1 h2 h hs)
  have HB := Lib.hid (show ∀ w, Calls Tryz.prog 174 #[.int .u64 (ms.length : Int)] w fun e w' => e = .returned (.int .i64 (Lib.bitLen ms.length : Nat)) ∧ w' = w from fun w => by
    have := Any.bits_Len Tryz.lays125 (ms.length : Int) w (by omega) (by omega)
    change Calls Tryz.prog 174 _ _ _ at this
    simpa using this)
  have wr : IntKind.u64.wrap (ms.length : Int) = ms.length := by simp [IntKind.wrap, IntKind.bits, IntKind.signed]; omega
  generalize Lib.bitLen ms.length = bl at HP HB
  clear hM hg hB h
  go_enter Tryz.func257, Tryz.ntmps257
  go_wp2_with fail
  refine (HB.out _).mono ?_
  rintro e w1 ⟨rfl, rfl⟩
  go_wp2_with fail
  refine HP.out.mono ?_
  rintro e w1 ⟨rfl, hE⟩
  have HE := Lib.hid hE
  clear hE
  go_wp2_with fail
  refine bodyPost_end (results_none rfl _ _ _) rfl ?_
  exact ⟨rfl, HE.out⟩

theorem sort_nilQ (B : Nat) (W : World) :
    Calls Tryz.prog 257 #[.slice none 0 0, .func (.func 227) #[] #[.pointer (some ⟨B, 0, none⟩)]] W fun e w' => e = .returned (.tuple #[]) ∧ w' = W := by
  have HP := Lib.hid (show ∀ lim, Calls Tryz.prog 276 #[.slice none 0 0, .int .i64 0, .int .i64 0, .int .i64 lim, .func (.func 227) #[] #[.pointer (some ⟨B, 0, none⟩)]] W fun e w' => e = .returned (.tuple #[]) ∧ w' = W from fun lim =>
    AnyF.pdqsortCmpFunc_none Tryz.pdqR none 0 lim _ W)
  have HB := Lib.hid (show ∀ w, Calls Tryz.prog 174 #[.int .u64 0] w fun e w' => e = .returned (.int .i64 (Lib.bitLen 0 : Nat)) ∧ w' = w from fun w => by
    have := Any.bits_Len Tryz.lays125 0 w (by omega) (by omega)
    change Calls Tryz.prog 174 _ _ _ at this
    simpa using this)
  generalize Lib.bitLen 0 = bl at HB
  go_enter Tryz.func257, Tryz.ntmps257
  go_wp2_with fail
  refine (HB.out _).mono ?_
  rintro e w1 ⟨rfl, rfl⟩
  go_wp2_with fail
  refine (HP.out _).mono ?_
  rintro e w1 ⟨rfl, rfl⟩
  go_wp2_with fail
  refine bodyPost_end (results_none rfl _ _ _) rfl ?_
  exact ⟨rfl, rfl⟩

end Go.Proofs.YthooiofaicdhgaaGreatDoor

namespace Go.Proofs.YthooiofaicdhgaaGreatDoor
open Go.ChangeShapes Go.WideShapes Go.ChangeAt Go.RowKit Go.Shelf

theorem keysP_c (b : Nat) (w : World) :
    Calls Tryz.prog 226 #[.map (some b)] w fun e w' => e = .returned (.func (.func 258) #[] #[.pointer (some ⟨w.heap.size, 0, none⟩)]) ∧ w' = w.alloc (.cells #[.map (some b)] 190) := by
  go_enter Tryz.func226, Tryz.ntmps226
  go_wp2
  go_ret
  exact ⟨rfl, rfl⟩

theorem collectP_c (b nn Bm : Nat) (D : List Tab.P2) (g : Tab.P2 → Value) (w : World) (hM : MapP b nn D g w) (hbm : Blk w Bm 190 #[.map (some b)]) (hD : D.length ≤ 1000000) :
    Calls Tryz.prog 256 #[.func (.func 258) #[] #[.pointer (some ⟨Bm, 0, none⟩)]] w fun e w' =>
      ∃ (v : Value) (ps : List Tab.P2), e = .returned v ∧ ps.Perm D ∧ w'.ownsRow (w.heap.size + 4) 117 2 v ps.length (ps.flatMap qCells) ∧ Kept w w' := by
  have H := Lib.hid (appkeys_c b nn Bm D g w hM hbm hD)
  clear hM hbm
  go_enter Tryz.func256, Tryz.ntmps256
  go_wp2_with fail
  refine H.out.mono ?_
  rintro e w1 ⟨v, ps, rfl, hp, hrow, hK⟩
  have HR := Lib.hid hrow
  have HP := Lib.hid hp
  have hcs : v = .slice none 0 0 ∨ ∃ g cap n, v = .slice (some ⟨g, 0, none⟩) n cap := hrow.2.elim (fun h => .inl h.1) (fun ⟨g, cap, _, h, _⟩ => .inr ⟨g, cap, _, h⟩)
  clear hrow hp
  rcases hcs with rfl | ⟨g, cap, n, rfl⟩
  all_goals
    go_wp2_with fail
    go_ret
    exact ⟨_, ps, rfl, HP.out, HR.out, hK⟩

theorem fp_list : ∀ ps : List Tab.P2, (∀ p ∈ ps, Fine p) → ∃ ms : List FP, ms.map (·.1) = ps
  | [], _ => ⟨[], rfl⟩
  | p :: r, h => by
    obtain ⟨ms, hm⟩ := fp_list r fun q hq => h q (List.mem_cons_of_mem _ hq)
    exact ⟨(⟨p, h p (List.mem_cons_self ..)⟩ : FP) :: ms, congrArg (List.cons p) hm⟩
theorem fp_cells (ms : List FP) : ms.flatMap fCells = (ms.map (·.1)).flatMap qCells := by
  rw [List.flatMap_map]; rfl

/-- What latestFirst answers. -/
def LfOut (D : List Tab.P2) (w : World) (e : Ending) (w' : World) : Prop :=
  ∃ (a : Option Addr) (c : Nat) (ps : List Tab.P2), e = .returned (.slice a ps.length c) ∧ ps.Perm D ∧ (∀ w'', Only (fun k => k < w.heap.size) w' w'' → PrsAt w'' (.slice a ps.length c) ps) ∧ Kept w w'

theorem sortedF_c (b n Bm B : Nat) (D : List Tab.P2) (g : Tab.P2 → Value) (w : World) (hM : MapP b n D g w) (hg : ∀ q ∈ D, NdV (g q)) (hbm : Blk w Bm 190 #[.map (some b)]) (hB : Blk w B 190 #[.map (some b)]) (hD : D.length ≤ 1000000) :
    Calls Tryz.prog 225 #[.func (.func 258) #[] #[.pointer (some ⟨Bm, 0, none⟩)], .func (.func 227) #[] #[.pointer (some ⟨B, 0, none⟩)]] w fun e w' => LfOut D w e w' := by
  have HC := Lib.hid (collectP_c b n Bm D g w hM hbm hD)
  have HM := Lib.hid hM
  have HB := Lib.hid hB
  have HG := Lib.hid hg
  have hbl := hB.lt
  have hml := hM.lt
  clear hM hg hbm hB
  go_enter Tryz.func225, Tryz.ntmps225
  go_wp2_with fail
  refine HC.out.mono ?_
  rintro e w1 ⟨v, ps, rfl, hp, hrow, hK⟩
  have HP := Lib.hid hp
  have HK := Lib.hid hK
  have HF := Lib.hid (show ∀ p ∈ ps, Fine p from fun p h => HM.out.fine p (hp.mem_iff.1 h))
  have HLN := Lib.hid (show ps.length ≤ 1000000 by rw [hp.length_eq]; exact hD)
  have HR := Lib.hid hrow
  have hcs : (v = .slice none 0 0 ∧ ps.length = 0) ∨ ∃ g cap, v = .slice (some ⟨g, 0, none⟩) ps.length cap ∧ w.heap.size + 4 ≤ g := hrow.2.elim (fun h => .inl ⟨h.1, h.2⟩) (fun ⟨g, cap, _, h, h1, _⟩ => .inr ⟨g, cap, h, h1⟩)
  clear hrow hp hK
  rcases hcs with ⟨rfl, h0⟩ | ⟨gb, cap, rfl, hgb⟩
  · obtain rfl : ps = [] := List.eq_nil_of_length_eq_zero h0
    have HS := Lib.hid (fun W => sort_nilQ B W)
    clear h0
    go_wp2_with fail
    refine (HS.out _).mono ?_
    rintro e w2 ⟨rfl, rfl⟩
    go_wp2_with fail
    go_ret
    exact ⟨none, 0, [], rfl, HP.out, fun w'' _ => Row.nil, HK.out⟩
  · obtain ⟨ms, hms⟩ := fp_list ps HF.out
    have hlen : ms.length = ps.length := by rw [← hms]; simp
    have hrow' := HR.out
    rw [← hlen, ← hms, ← fp_cells] at hrow'
    have HS := Lib.hid (sort_cQ b n B gb cap D g ms (w.heap.size + 4) w1 (HM.out.kept HK.out) HG.out (HB.out.kept HK.out) (by omega) (by omega) hrow' (by rw [hlen]; have := HLN.out; omega))
    rw [hlen] at HS
    have HMS := Lib.hid hms
    have HLM := Lib.hid hlen
    clear hrow' hms hlen
    go_wp2_with fail
    refine HS.out.mono ?_
    rintro e w2 ⟨rfl, ms', hp', ho', hat⟩
    have HE := Lib.hid (show LfOut D w (.returned (.slice (some ⟨gb, 0, none⟩) ps.length cap)) w2 by
      have e1 : ms'.length = ps.length := by rw [hp'.length_eq, HLM.out]
      refine ⟨_, cap, ms'.map (·.1), by rw [List.length_map, e1], ?_, fun w'' hw => ?_, HK.out.onlyS ho' fun k e => by rw [e]; omega⟩
      · exact (hp'.map _).trans (by rw [HMS.out]; exact HP.out)
      · have := hat w'' (hw.mono fun k _ h e => by omega)
        rw [List.length_map]
        exact this)
    clear hp' ho' hat
    go_wp2_with fail
    go_ret
    exact HE.out

theorem latest_c (b n : Nat) (D : List Tab.P2) (g : Tab.P2 → Value) (w : World) (hM : MapP b n D g w) (hg : ∀ q ∈ D, NdV (g q)) (hD : D.length ≤ 1000000) :
    Calls Tryz.prog 197 #[.map (some b)] w fun e w' => LfOut D w e w' := by
  have k1 : Kept w (w.alloc (.cells #[.map (some b)] 190)) := (Kept.refl w).alloc _
  have k2 : Kept w ((w.alloc (.cells #[.map (some b)] 190)).alloc (.cells #[.map (some b)] 190)) := k1.alloc _
  have hb1 := Blk.new w 190 #[.map (some b)]
  have hb2 := Blk.new (w.alloc (.cells #[.map (some b)] 190)) 190 #[.map (some b)]
  rw [World.size_alloc] at hb2
  have HS := Lib.hid (sortedF_c b n (w.heap.size + 1) w.heap.size D g _ (hM.kept k2) hg hb2 (hb1.alloc _) hD)
  have HY := Lib.hid (keysP_c b (w.alloc (.cells #[.map (some b)] 190)))
  rw [World.size_alloc] at HY
  have HK := Lib.hid k2
  clear hM hg hb1 hb2 k1 k2
  go_enter Tryz.func197, Tryz.ntmps197
  go_wp2_with fail
  refine HY.out.mono ?_
  rintro e w1 ⟨rfl, rfl⟩
  go_wp2_with fail
  refine HS.out.mono ?_
  rintro e w2 ⟨a, c, ps, rfl, hp, hat, hk⟩
  have HE := Lib.hid (show LfOut D w (.returned (.slice a ps.length c)) w2 from ⟨a, c, ps, rfl, hp, fun w'' hw => hat w'' (hw.mono fun k _ h => by rw [World.size_alloc, World.size_alloc]; omega), HK.out.trans hk⟩)
  clear hp hat hk
  go_wp2_with fail
  go_ret
  exact HE.out

/-- What strike leaves. -/
structure StP (t : List Tab.C) (ls : ByteArray → List (Tab.Mb ByteArray)) (mb n : Nat) (K : List Tab.P2) (g : Tab.P2 → Value) (w : World) (D : List Tab.P2) (wr : World) : Prop where
  map : MapP mb n D g wr
  only : Only (· = mb) w wr
  left : Tab.Left t K D
theorem StP.keep {t : List Tab.C} {ls : ByteArray → List (Tab.Mb ByteArray)} {mb n : Nat} {K D : List Tab.P2} {g : Tab.P2 → Value} {w wr W : World} (h : StP t ls mb n K g w D wr) (k : Kept wr W) : StP t ls mb n K g w D W :=
  ⟨h.map.kept k, h.only.trans (Only.of_kept k), h.left⟩

def StOut (t : List Tab.C) (ls : ByteArray → List (Tab.Mb ByteArray)) (mb n : Nat) (K : List Tab.P2) (g : Tab.P2 → Value) (asked : Tab.P2) (w : World) (e : Ending) (w' : World) : Prop :=
  ∃ D, e = .returned (.tuple #[]) ∧ StP t ls mb n K g w D w' ∧ Tab.inP D asked = Tab.prec t asked

theorem wpList_delP {ops : Array Oper} {rest : List Oper} {o : Oper} {a : Act} {Q : Exit → Act → World → Prop} (w : World) (hg : o.guard = none) (m x : Operand)
    (hop : o.op = Op.call { callee := Callee.builtin Builtin.delete, args := #[m, x], argTypes := #[190, 117] }) {b n : Nat} {D : List Tab.P2} {g : Tab.P2 → Value} {p : Tab.P2}
    (hm : a.eval m = .map (some b)) (hM : MapP b n D g w) (hp : Fine p) (hx : a.eval x = .agg #[.string p.1, .string p.2])
    (hK : ∀ w', MapP b n (Tab.offP D p) g w' → w.grownBy w' (some b) → wpList Tryz.prog ops Q rest (a.put o.dst (.tuple #[])) w') : wpList Tryz.prog ops Q (o :: rest) a w := by
  refine wpList_plain hg fun K' hK' => ?_
  obtain ⟨w', hrun, r1, r2⟩ := hM.drop (t := 190) (e := 230) Tryz.underlying190 hp o.type
  unfold Oper.wp
  simp [execOp, hop, resolve, invoke, builtin, hm, hx, hrun, Result.andThen]
  exact hK' _ _ (hK w' r1 r2)

set_option maxHeartbeats 8000000 in
theorem strikeP_c (t : List Tab.C) (ls : ByteArray → List (Tab.Mb ByteArray)) (mb n : Nat) (K : List Tab.P2) (g : Tab.P2 → Value) (s u : ByteArray) (w : World) (hc : Tab.Cl t ls) (hK : Tab.Rel t ls K) (hM : MapP mb n K g w) (hnd : ∀ p ∈ K, NdAt ls (· = mb) w (g p) p) (hin : (s, u) ∈ K) (hKl : K.length ≤ 1000000) :
    Calls Tryz.prog 160 #[.map (some mb), .agg #[.string s, .string u]] w fun e w' => StOut t ls mb n K g (s, u) w e w' := by
  have hF := hM.fine _ hin
  have hml := hM.lt
  have hI0 : StP t ls mb n K g w K (w.alloc (.cells #[.string s, .string u] 117)) := (⟨hM, Only.refl _ _, ⟨fun p h => h, fun p h _ => h⟩⟩ : StP t ls mb n K g w K w).keep ((Kept.refl w).alloc _)
  have hB0 := Blk.new w 117 #[.string s, .string u]
  have HI0 := Lib.hid hI0
  have HB0 := Lib.hid hB0
  have HND := Lib.hid hnd
  have HK := Lib.hid hK
  have HG : Hid (∀ D : List Tab.P2, (∀ p ∈ D, p ∈ K) → ∀ q ∈ D, NdV (g q)) := Lib.hid fun D hD q hq => (hnd q (hD q hq)).ndv
  clear hM hnd hI0 hB0 hK
  go_enter Tryz.func160, Tryz.ntmps160
  go_wp2_with fail
  go_loopg [4] (2 * K.length + 2) (fun G q wr => ∃ (bf : Nat) (D : List Tab.P2), q = .int .i64 bf ∧ 2 * D.length + (if bf = D.length then 0 else 1) < G ∧ StP t ls mb n K g w D wr ∧ Blk wr w.heap.size 117 #[.string s, .string u] ∧ Hid (bf = D.length → ∀ p ∈ D, Tab.okN ls D p = true))
  case atStart => exact ⟨0, K, rfl, by split <;> omega, HI0.out, HB0.out, Lib.hid fun h p hp => by have := List.length_pos_of_mem hp; omega⟩
  case round =>
    obtain ⟨bf, D, rfl, hG, hI, hB, HD⟩ := hrel
    obtain ⟨wo, rfl⟩ : ∃ wo, wo = wr := ⟨_, rfl⟩
    have HI := Lib.hid hI
    have HB := Lib.hid hB
    have hlen : D.length ≤ 1000000 := by
      have := List.Nodup.length_le_of_subset hI.map.nodup hI.left.1
      omega
    have hln := hI.map.len (t := 190) (e := 230) Tryz.underlying190
    have b0 := hB.cell 0
    have b1 := hB.cell 1
    simp only [List.getElem?_toArray, List.getElem?_cons_zero, List.getElem?_cons_succ] at b0 b1
    have HH := Lib.hid (hasP_c mb n D g s u wo hI.map hF (HG.out D hI.left.1))
    clear hI hB
    by_cases hbf : bf = D.length
    · have hbfI : ((bf : Int) == (D.length : Int)) = true := by simp [hbf]
      have HO := Lib.hid (show StOut t ls mb n K g (s, u) w (.returned (.tuple #[])) wo from ⟨D, rfl, HI.out, HI.out.left.end hc HK.out (HD.out hbf) hin⟩)
      go_wp2_with fail
      refine bodyPost_end (results_none rfl _ _ _) rfl ?_
      exact HO.out
    · have hbfI : ((bf : Int) == (D.length : Int)) = false := by simp; omega
      obtain ⟨G, rfl⟩ : ∃ G, gk = G + 1 := ⟨gk - 1, by omega⟩
      rw [if_neg hbf] at hG
      cases hia : Tab.inP D (s, u) with
      | false =>
        rw [hia] at HH
        have HQ := Lib.hid (HI.out.left.gone hin (Tab.inP_no.1 hia))
        have HIA := Lib.hid hia
        clear hia
        go_wp2_with fail
        refine HH.out.mono ?_
        rintro e w1 ⟨rfl, k1⟩
        have HO := Lib.hid (show StOut t ls mb n K g (s, u) w (.returned (.tuple #[])) w1 from ⟨D, rfl, HI.out.keep k1, by rw [HIA.out, HQ.out]⟩)
        clear k1
        go_wp2_with fail
        refine bodyPost_end (results_none rfl _ _ _) rfl ?_
        exact HO.out
      | true =>
        rw [hia] at HH
        clear hia
        go_wp2_with fail
        refine HH.out.mono ?_
        rintro e w1 ⟨rfl, k1⟩
        have HI1 := Lib.hid (HI.out.keep k1)
        have HB1 := Lib.hid (HB.out.kept k1)
        have hln1 := HI1.out.map.len (t := 190) (e := 230) Tryz.underlying190
        have HL := Lib.hid (latest_c mb n D g w1 HI1.out.map (HG.out D HI1.out.left.1) hlen)
        have hmw1 := HI1.out.map.lt
        clear k1 hln b0 b1 hbfI
        go_wp2_with fail
        refine HL.out.mono ?_
        rintro e w2 ⟨a, c, ps, rfl, hp, hat, k2⟩
        have HP := Lib.hid hp
        have HAT := Lib.hid hat
        have HI2 := Lib.hid (HI1.out.keep k2)
        have HB2 := Lib.hid (HB1.out.kept k2)
        have hpl : ps.length ≤ 1000000 := by rw [hp.length_eq]; exact hlen
        clear hp hat k2 hln1
        go_wp2_with fail
        go_loopg [22] ps.length (fun H q wr => ∃ (j : Nat) (D' : List Tab.P2), H = ps.length - j ∧ j ≤ ps.length ∧ q = .int .i64 j ∧ StP t ls mb n K g w D' wr ∧ Only (· = mb) w2 wr ∧ Blk wr w.heap.size 117 #[.string s, .string u] ∧ Hid (Tab.Mid ls D D' ps j))
        case atStart => exact ⟨0, D, by omega, Nat.zero_le _, rfl, HI2.out, Only.refl _ _, HB2.out, Lib.hid Tab.Mid.start⟩
        case round =>
          obtain ⟨j, D', rfl, hj, rfl, hI, hO, hB, HMD⟩ := hrel
          obtain ⟨wm, rfl⟩ : ∃ wm, wm = wr := ⟨_, rfl⟩
          have HI3 := Lib.hid hI
          have HO3 := Lib.hid hO
          have HB3 := Lib.hid hB
          have hps := HAT.out wm (hO.mono fun k _ e => by rw [e]; exact hmw1)
          clear hI hO hB
          by_cases hjl : j < ps.length
          · have hjI : (j : Int) < (ps.length : Int) := by omega
            have hx : ps[j]? = some ps[j] := List.getElem?_eq_getElem hjl
            generalize ps[j] = p at hx
            obtain ⟨p1, p2⟩ := p
            obtain ⟨a', c', e, hpl2, hcm, hq⟩ := hps
            injection e with e1 _ e2
            subst e1 e2
            obtain ⟨pb, po, rfl, q0, q1, hpF⟩ := hq j _ hx
            unfold maxLen at hcm
            have HX := Lib.hid hx
            have HPF := Lib.hid hpF
            have k3 : Kept wm (wm.alloc (.cells #[.string p1, .string p2] 117)) := (Kept.refl wm).alloc _
            have hBp := Blk.new wm 117 #[.string p1, .string p2]
            have hl := ((HI3.out.map).kept k3).look1 (t := 190) (e := 230) Tryz.underlying190 (zero_needs _) hpF
            have HK3 := Lib.hid k3
            have HBP := Lib.hid hBp
            clear hx hq hpl2 k3 hBp
            cases hin2 : Tab.inP D' (p1, p2) with
            | false =>
              have hl' : (Instr.lookup 190 (.map (some mb)) (.agg #[.string p1, .string p2]) false).run Tryz.prog (wm.alloc (.cells #[.string p1, .string p2] 117)) = .ok (.agg #[.bool false, .slice none 0 0, .int .i64 0]) (wm.alloc (.cells #[.string p1, .string p2] 117)) := by
                rw [hin2] at hl
                simpa using hl
              have HN := Lib.hid (Tab.inP_no.1 hin2)
              have HMx := Lib.hid (HI3.out.map.kept (HK3.out.alloc (.cells #[.bool false, .slice none 0 0, .int .i64 0] 230)))
              clear hl hin2
              go_wp2_with (at_delete; refine wpList_delP _ rfl _ _ rfl rfl HMx.out HPF.out rfl ?_; intro w6 hm6 hg6; have hm6 := Tab.offP_no HN.out ▸ hm6; have HM6 := Lib.hid hm6; have HG6 := Lib.hid hg6; clear hm6 hg6)
              have HO6 := Lib.hid ((Only.of_kept (S := (· = mb)) (HK3.out.alloc (.cells #[.bool false, .slice none 0 0, .int .i64 0] 230))).grown HG6.out fun k e => by cases e; exact .inl rfl)
              go_roundg (ps.length - (j + 1))
              case measure => omega
              case rel => exact ⟨j + 1, D', rfl, by omega, by go_num, ⟨HM6.out, HI3.out.only.trans HO6.out, HI3.out.left⟩, HO3.out.trans HO6.out, HB3.out.only HO6.out (by omega), Lib.hid (HMD.out.keep HX.out fun h => absurd h HN.out)⟩
            | true =>
              have hpD := Tab.inP_iff.1 hin2
              obtain ⟨na, nc, nk, eg, hnat⟩ := HND.out _ (HI3.out.left.1 _ hpD)
              have hl' : (Instr.lookup 190 (.map (some mb)) (.agg #[.string p1, .string p2]) false).run Tryz.prog (wm.alloc (.cells #[.string p1, .string p2] 117)) = .ok (.agg #[.bool (Tab.hsv ls (p1, p2)), .slice na (Tab.need ls (p1, p2)).length nc, .int .i64 nk]) (wm.alloc (.cells #[.string p1, .string p2] 117)) := by
                rw [hin2, eg] at hl
                simpa using hl
              have HPD := Lib.hid hpD
              have HK4 := Lib.hid (HK3.out.alloc (.cells #[.bool (Tab.hsv ls (p1, p2)), .slice na (Tab.need ls (p1, p2)).length nc, .int .i64 nk] 230))
              have HMx := Lib.hid (HI3.out.map.kept HK4.out)
              have hB4 := HBP.out.alloc (.cells #[.bool (Tab.hsv ls (p1, p2)), .slice na (Tab.need ls (p1, p2)).length nc, .int .i64 nk] 230)
              have hpr4 := hnat _ (HI3.out.only.trans (Only.of_kept HK4.out))
              have HA := Lib.hid (all_c 161 (.map (some mb)) (Tab.inP D') _ enters_hasP (fun s u W hF kW => hasP_c mb n D' g s u W (HMx.out.kept kW) hF (HG.out D' HI3.out.left.1)) (Tab.need ls (p1, p2)) na nc _ hpr4 (Kept.refl _))
              have HBX := Lib.hid hB4
              have HOK := Lib.hid (show Tab.okN ls D' (p1, p2) = (Tab.hsv ls (p1, p2) && (Tab.need ls (p1, p2)).all (Tab.inP D')) from rfl)
              have x0 := hB4.cell 0
              have x1 := hB4.cell 1
              simp only [List.getElem?_toArray, List.getElem?_cons_zero, List.getElem?_cons_succ] at x0 x1
              clear hl hin2 eg hnat hpr4 hB4 hpD
              cases hhs : Tab.hsv ls (p1, p2) with
              | false =>
                rw [hhs] at hl' HMx HA HK4 x0 x1 HBX HOK
                clear hhs HA
                go_wp2_with (at_delete; refine wpList_delP _ rfl _ _ rfl rfl HMx.out HPF.out rfl ?_; intro w6 hm6 hg6; have HM6 := Lib.hid hm6; have HG6 := Lib.hid hg6; clear hm6 hg6)
                have HO6 := Lib.hid ((Only.of_kept (S := (· = mb)) HK4.out).grown HG6.out fun k e => by cases e; exact .inl rfl)
                go_roundg (ps.length - (j + 1))
                case measure => omega
                case rel => exact ⟨j + 1, Tab.offP D' (p1, p2), rfl, by omega, by go_num, ⟨HM6.out, HI3.out.only.trans HO6.out, HI3.out.left.off hc HK.out HOK.out⟩, HO3.out.trans HO6.out, HB3.out.only HO6.out (by omega), Lib.hid (HMD.out.off HI3.out.map.nodup HPD.out)⟩
              | true =>
                rw [hhs] at hl' HMx HA HK4 x0 x1 HBX HOK
                clear hhs
                cases hal : (Tab.need ls (p1, p2)).all (Tab.inP D') with
                | false =>
                  rw [hal] at HA HOK
                  clear hal
                  go_wp2_with fail
                  refine HA.out.mono ?_
                  rintro e w5 ⟨rfl, k5⟩
                  have hB5 := HBX.out.kept k5
                  have y0 := hB5.cell 0
                  have y1 := hB5.cell 1
                  simp only [List.getElem?_toArray, List.getElem?_cons_zero, List.getElem?_cons_succ] at y0 y1
                  have HM5 := Lib.hid (HMx.out.kept k5)
                  have HK5 := Lib.hid (HK4.out.trans k5)
                  clear k5 hB5
                  go_wp2_with (at_delete; refine wpList_delP _ rfl _ _ rfl rfl HM5.out HPF.out rfl ?_; intro w6 hm6 hg6; have HM6 := Lib.hid hm6; have HG6 := Lib.hid hg6; clear hm6 hg6)
                  have HO6 := Lib.hid ((Only.of_kept (S := (· = mb)) HK5.out).grown HG6.out fun k e => by cases e; exact .inl rfl)
                  go_roundg (ps.length - (j + 1))
                  case measure => omega
                  case rel => exact ⟨j + 1, Tab.offP D' (p1, p2), rfl, by omega, by go_num, ⟨HM6.out, HI3.out.only.trans HO6.out, HI3.out.left.off hc HK.out HOK.out⟩, HO3.out.trans HO6.out, HB3.out.only HO6.out (by omega), Lib.hid (HMD.out.off HI3.out.map.nodup HPD.out)⟩
                | true =>
                  rw [hal] at HA HOK
                  clear hal
                  go_wp2_with fail
                  refine HA.out.mono ?_
                  rintro e w5 ⟨rfl, k5⟩
                  have HK5 := Lib.hid (HK4.out.trans k5)
                  clear k5
                  go_wp2_with fail
                  go_roundg (ps.length - (j + 1))
                  case measure => omega
                  case rel => exact ⟨j + 1, D', rfl, by omega, by go_num, HI3.out.keep HK5.out, HO3.out.trans (Only.of_kept HK5.out), HB3.out.kept HK5.out, Lib.hid (HMD.out.keep HX.out fun _ => HOK.out)⟩
          · have hjI : ¬ (j : Int) < (ps.length : Int) := by omega
            obtain rfl : j = ps.length := by omega
            have HE := Lib.hid (show (D'.length = D.length ∧ ∀ p ∈ D', Tab.okN ls D' p = true) ∨ D'.length < D.length by
              rcases HMD.out with ⟨rfl, h⟩ | h
              · refine .inl ⟨rfl, fun p hp => h p ?_ hp⟩
                rw [List.take_length]
                exact HP.out.mem_iff.2 hp
              · exact .inr h)
            clear hps
            go_wp2_with fail
            go_roundg G
            case measure => omega
            case rel =>
              refine ⟨D.length, D', rfl, ?_, HI3.out, HB3.out, Lib.hid fun h => ?_⟩
              · rcases HE.out with ⟨h, _⟩ | h
                · rw [if_pos h.symm]; omega
                · rw [if_neg (by omega)]; omega
              · rcases HE.out with ⟨_, h2⟩ | h2
                · exact h2
                · omega

end Go.Proofs.YthooiofaicdhgaaGreatDoor

namespace Go.Proofs.YthooiofaicdhgaaGreatDoor.Tab

theorem ok_len8 {t : List C} (h : ok t = true) : t.length ≤ 40 := by
  have h := check_zero (of_decide_eq_true h)
  unfold check at h
  by_cases h0 : 40 < t.length
  · rw [if_pos h0] at h; exact absurd h (by decide)
  · omega
theorem sub_nil (s : ByteArray) : sub [] s s = decide (s ∈ basics) := by
  have h1 : ok [] = true := by decide +kernel
  have h2 : isC [] s = false := rfl
  have h3 : isT [] s = decide (s ∈ basics) := by unfold isT; rw [h2, Bool.or_false]
  have h4 : up [] s = [s] := by unfold up; rw [h2]; rfl
  unfold sub ats
  rw [h1, h3, h4]
  have h5 : decide (s ∈ [s]) = true := decide_eq_true (by simp)
  rw [h5]
  cases decide (s ∈ basics) <;> rfl

end Go.Proofs.YthooiofaicdhgaaGreatDoor.Tab

namespace Go.Proofs.YthooiofaicdhgaaGreatDoor
open Go.ChangeShapes Go.WideShapes Go.ChangeAt Go.RowKit

theorem small_nil : Small [] := ⟨by simp, fun c h => (by cases h), fun c h => (by cases h), fun c h => (by cases h)⟩

theorem isTypeP_c (t : List Tab.C) (v : Value) (s : ByteArray) (w : World) (hTb : Tb w) (h : Row 4 ClsAt w v t) :
    Calls Tryz.prog 155 #[v, .string s] w fun e w' => e = .returned (.bool (Tab.isT t s)) ∧ Kept w w' := by
  have HC := Lib.hid (tfind_c t v s w h)
  unfold FindPost at HC
  have HS := Lib.hid (sub_c [] none 0 s s w hTb Row.nil small_nil)
  rw [Tab.sub_nil] at HS
  have ht : Tab.isT t s = (decide (s ∈ Tab.basics) || (Tab.ix Tab.C.name t s).isSome) := rfl
  rw [ht]
  generalize Tab.num (Tab.ix Tab.C.name t s) = n at HC ⊢
  generalize (Tab.ix Tab.C.name t s).isSome = y at HC ⊢
  generalize decide (s ∈ Tab.basics) = z at HS ⊢
  obtain ⟨a, c, rfl, _⟩ := h
  clear ht hTb
  cases y with
  | true =>
    go_enter Tryz.func155, Tryz.ntmps155
    go_wp2_with fail
    refine HC.out.mono ?_
    rintro e w1 ⟨rfl, rfl⟩
    go_wp2_with fail
    go_ret
    exact ⟨by simp, Kept.refl _⟩
  | false =>
    go_enter Tryz.func155, Tryz.ntmps155
    go_wp2_with fail
    refine HC.out.mono ?_
    rintro e w1 ⟨rfl, rfl⟩
    go_wp2_with fail
    refine HS.out.mono ?_
    rintro e w1 ⟨rfl, k1⟩
    go_wp2_with fail
    go_ret
    exact ⟨by simp, k1⟩

theorem areTypesP_c (t : List Tab.C) (a : Option Addr) (cp : Nat) (s u : ByteArray) (w : World) (hTb : Tb w) (h : TabAt w (.slice a t.length cp) t) (hS : Small t) :
    Calls Tryz.prog 107 #[.slice a t.length cp, .string s, .string u] w fun e w' => e = .returned (.bool (Tab.ats t s u)) ∧ Kept w w' := by
  have H1 := Lib.hid (isTypeP_c t (.slice a t.length cp) s w hTb h)
  have H2 := Lib.hid (fun W (k : Kept w W) => isTypeP_c t (.slice a t.length cp) u W (hTb.kept k) (tab_kept h k))
  have H3 := Lib.hid (fun W (k : Kept w W) => check_c t a cp W (hTb.kept k) (tab_kept h k) hS)
  have hq : Tab.ats t s u = (Tab.isT t s && Tab.isT t u && Tab.ok t) := rfl
  rw [hq]
  clear hTb h hS hq
  cases x1 : Tab.isT t s with
  | false =>
    rw [x1] at H1
    clear x1 H2 H3
    go_enter Tryz.func107, Tryz.ntmps107
    go_wp2_with fail
    refine H1.out.mono ?_
    rintro e w1 ⟨rfl, k1⟩
    go_wp2_with fail
    go_ret
    exact ⟨rfl, k1⟩
  | true =>
    rw [x1] at H1
    cases x2 : Tab.isT t u with
    | false =>
      rw [x2] at H2
      clear x1 x2 H3
      go_enter Tryz.func107, Tryz.ntmps107
      go_wp2_with fail
      refine H1.out.mono ?_
      rintro e w1 ⟨rfl, k1⟩
      have HK := Lib.hid k1
      clear k1
      go_wp2_with fail
      refine (H2.out _ HK.out).mono ?_
      rintro e w2 ⟨rfl, k2⟩
      have HK2 := Lib.hid (HK.out.trans k2)
      clear k2
      go_wp2_with fail
      go_ret
      exact ⟨rfl, HK2.out⟩
    | true =>
      rw [x2] at H2
      obtain ⟨fe, fa, hfe⟩ : ∃ fe fa, Tab.check t = (fe, fa) := ⟨_, _, rfl⟩
      rw [hfe] at H3
      dsimp only at H3
      have hfd : ∀ w : World, (Instr.field 38 (.agg #[.int .i64 fe, .int .i64 fa]) 0).run Tryz.prog w = .ok (.int .i64 fe) w := fun _ => by kernel_rfl
      have hokd : Tab.ok t = decide (fe = 0) := by unfold Tab.ok; rw [hfe]
      rw [hokd]
      have hdd : (fe == 0) = decide (fe = 0) := by by_cases e : fe = 0 <;> simp [e]
      clear x1 x2 hfe hokd
      by_cases hz : fe = 0
      · subst hz
        clear hdd
        go_enter Tryz.func107, Tryz.ntmps107
        go_wp2_with fail
        refine H1.out.mono ?_
        rintro e w1 ⟨rfl, k1⟩
        have HK := Lib.hid k1
        clear k1
        go_wp2_with fail
        refine (H2.out _ HK.out).mono ?_
        rintro e w2 ⟨rfl, k2⟩
        have HK2 := Lib.hid (HK.out.trans k2)
        clear k2
        go_wp2_with fail
        refine (H3.out _ HK2.out).mono ?_
        rintro e w3 ⟨rfl, k3⟩
        have HK3 := Lib.hid (HK2.out.trans k3)
        clear k3
        go_wp2_with fail
        go_ret
        exact ⟨by rfl, HK3.out⟩
      · have hb : (fe == 0) = false := by simp [hz]
        rw [decide_eq_false hz]
        clear hdd
        go_enter Tryz.func107, Tryz.ntmps107
        go_wp2_with fail
        refine H1.out.mono ?_
        rintro e w1 ⟨rfl, k1⟩
        have HK := Lib.hid k1
        clear k1
        go_wp2_with fail
        refine (H2.out _ HK.out).mono ?_
        rintro e w2 ⟨rfl, k2⟩
        have HK2 := Lib.hid (HK.out.trans k2)
        clear k2
        go_wp2_with fail
        refine (H3.out _ HK2.out).mono ?_
        rintro e w3 ⟨rfl, k3⟩
        have HK3 := Lib.hid (HK2.out.trans k3)
        clear k3
        go_wp2_with fail
        go_ret
        exact ⟨by rfl, HK3.out⟩

set_option maxHeartbeats 4000000 in
theorem preciseP_c (t : List Tab.C) (ls : ByteArray → List (Tab.Mb ByteArray)) (cb : Nat) (s u : ByteArray) (w : World) (hc : Tab.Cl t ls) (hv : Tab.Valid t) (ht : t.length ≤ 40) (hC : ClM t ls cb w) (hs : s.size ≤ maxLen) (hu : u.size ≤ maxLen) :
    Calls Tryz.prog 109 #[.map (some cb), .agg #[.string s, .string u]] w fun e w' => e = .returned (.bool (Tab.pcs t (s, u))) ∧ Kept w w' := by
  have k1 : Kept w (w.alloc (.cells #[.string s, .string u] 117)) := (Kept.refl w).alloc _
  have hB := Blk.new w 117 #[.string s, .string u]
  have HB := Lib.hid hB
  have HK1 := Lib.hid k1
  have HC := Lib.hid hC
  have b0 := hB.cell 0
  have b1 := hB.cell 1
  simp only [List.getElem?_toArray, List.getElem?_cons_zero, List.getElem?_cons_succ] at b0 b1
  have HA := Lib.hid (always_c s u (w.alloc (.cells #[.string s, .string u] 117)))
  have HP := Lib.hid (show Tab.pcs t (s, u) = (Tab.alw (s, u) || Tab.prec t (s, u)) from rfl)
  obtain ⟨r, hr⟩ : ∃ r, r = Tab.pcs t (s, u) := ⟨_, rfl⟩
  rw [← hr] at HP ⊢
  clear hr k1 hB hC
  cases ha : Tab.alw (s, u) with
  | true =>
    rw [ha] at HA HP
    have HQ := Lib.hid (show r = true from HP.out)
    clear ha
    go_enter Tryz.func109, Tryz.ntmps109
    go_wp2_with fail
    refine HA.out.mono ?_
    rintro e w1 ⟨rfl, k1⟩
    have HK2 := Lib.hid (HK1.out.trans k1)
    clear k1
    go_wp2_with fail
    go_ret
    exact ⟨by rw [HQ.out]; rfl, HK2.out⟩
  | false =>
    rw [ha] at HA HP
    have HQ := Lib.hid (show r = Tab.prec t (s, u) from HP.out)
    clear ha
    have HH := Lib.hid (fun W (k : Kept w W) => have_c t ls cb s u W (HC.out.kept k) hs hu)
    cases hb : Tab.both t (s, u) with
    | false =>
      rw [hb] at HH
      have HN := Lib.hid (show Tab.prec t (s, u) = false by
        cases h : Tab.prec t (s, u) with
        | false => rfl
        | true => rw [Tab.pre_both (Tab.prec_iff.1 h)] at hb; cases hb)
      clear hb
      go_enter Tryz.func109, Tryz.ntmps109
      go_wp2_with fail
      refine HA.out.mono ?_
      rintro e w1 ⟨rfl, k1⟩
      have hB1 := HB.out.kept k1
      have x0 := hB1.cell 0
      have x1 := hB1.cell 1
      simp only [List.getElem?_toArray, List.getElem?_cons_zero, List.getElem?_cons_succ] at x0 x1
      have HK2 := Lib.hid (HK1.out.trans k1)
      clear k1 hB1
      go_wp2_with fail
      refine (HH.out _ HK2.out).mono ?_
      rintro e w2 ⟨rfl, k2⟩
      have HK3 := Lib.hid (HK2.out.trans k2)
      clear k2
      go_wp2_with fail
      go_ret
      exact ⟨by rw [HQ.out, HN.out]; rfl, HK3.out⟩
    | true =>
      rw [hb] at HH
      have HBT := Lib.hid hb
      clear hb
      go_enter Tryz.func109, Tryz.ntmps109
      go_wp2_with fail
      refine HA.out.mono ?_
      rintro e w1 ⟨rfl, k1⟩
      have hB1 := HB.out.kept k1
      have HB1 := Lib.hid hB1
      have x0 := hB1.cell 0
      have x1 := hB1.cell 1
      simp only [List.getElem?_toArray, List.getElem?_cons_zero, List.getElem?_cons_succ] at x0 x1
      have HK2 := Lib.hid (HK1.out.trans k1)
      clear k1 hB1
      go_wp2_with fail
      refine (HH.out _ HK2.out).mono ?_
      rintro e w2 ⟨rfl, k2⟩
      have hB2 := HB1.out.kept k2
      have HB2 := Lib.hid hB2
      have y0 := hB2.cell 0
      have y1 := hB2.cell 1
      simp only [List.getElem?_toArray, List.getElem?_cons_zero, List.getElem?_cons_succ] at y0 y1
      have HK3 := Lib.hid (HK2.out.trans k2)
      have HR := Lib.hid (relation_c t ls cb s u w2 hc hv ht (HC.out.kept HK3.out) ⟨hs, hu⟩ HBT.out)
      clear k2 hB2 x0 x1
      go_wp2_with fail
      refine HR.out.mono ?_
      rintro e w3 ⟨mb, D, g, rfl, hm, hrel, hin, hk3, hmb, hnd⟩
      have hlen : D.length ≤ 1000000 := by
        have h2 := Tab.pairs_le hm.nodup hrel.1
        have h3 : t.length * t.length ≤ 40 * 40 := Nat.mul_le_mul ht ht
        omega
      have HST := Lib.hid (strikeP_c t ls mb D.length D g s u w3 hc hrel hm hnd hin hlen)
      have hB3 := HB2.out.kept hk3
      have HB3 := Lib.hid hB3
      have z0 := hB3.cell 0
      have z1 := hB3.cell 1
      simp only [List.getElem?_toArray, List.getElem?_cons_zero, List.getElem?_cons_succ] at z0 z1
      have HK4 := Lib.hid (HK3.out.trans hk3)
      have HMB := Lib.hid hmb
      have HGV := Lib.hid (fun (D' : List Tab.P2) (hD : ∀ p ∈ D', p ∈ D) q (hq : q ∈ D') => (hnd q (hD q hq)).ndv)
      have hw2 := HK3.out.size
      have hbl := HB2.out.lt
      clear hm hrel hin hk3 hmb hnd y0 y1 hB3 hlen
      go_wp2_with fail
      refine HST.out.mono ?_
      rintro e w4 ⟨D', rfl, hst, hD'⟩
      have hB4 := HB3.out.only hst.only (by have := HMB.out; omega)
      have v0 := hB4.cell 0
      have v1 := hB4.cell 1
      simp only [List.getElem?_toArray, List.getElem?_cons_zero, List.getElem?_cons_succ] at v0 v1
      have HK5 := Lib.hid (HK4.out.onlyS hst.only fun k e => by rw [e]; have := HMB.out; omega)
      have HHP := Lib.hid (hasP_c mb D.length D' g s u w4 hst.map ⟨hs, hu⟩ (HGV.out D' hst.left.1))
      rw [hD'] at HHP
      clear hst hD' hB4 z0 z1
      go_wp2_with fail
      refine HHP.out.mono ?_
      rintro e w5 ⟨rfl, k5⟩
      have HK6 := Lib.hid (HK5.out.trans k5)
      clear k5
      go_wp2_with fail
      go_ret
      exact ⟨by rw [HQ.out]; rfl, HK6.out⟩

/-- All that the three calls do first. -/
def PreK (t : List Tab.C) (w : World) (cb : Nat) (W : World) : Prop := Kept w W ∧ ∀ W', Kept W W' → ∀ s u : ByteArray, s.size ≤ maxLen → u.size ≤ maxLen →
  Calls Tryz.prog 109 #[.map (some cb), .agg #[.string s, .string u]] W' fun e w' => e = .returned (.bool (Tab.pcs t (s, u))) ∧ Kept W' w'
theorem cls_pre {t : List Tab.C} {a : Option Addr} {cp : Nat} {s u : ByteArray} {w w1 : World} (h : TabAt w (.slice a t.length cp) t) (hS : Small t) (ho : Tab.ats t s u = true) (k1 : Kept w w1) :
    Calls Tryz.prog 108 #[.slice a t.length cp] w1 fun e w' => ∃ cb, e = .returned (.map (some cb)) ∧ PreK t w cb w' := by
  have hok : Tab.ok t = true := by unfold Tab.ats at ho; simp only [Bool.and_eq_true] at ho; exact ho.2
  have hv := Tab.ok_valid hok
  have ht := Tab.ok_len8 hok
  refine (classesOf_c t a cp w1 (tab_kept h k1) hS hv hS.len).mono ?_
  rintro e w2 ⟨cb, ls, rfl, hc, hC, k2⟩
  exact ⟨cb, rfl, k1.trans k2, fun W' kW s u hs hu => preciseP_c t ls cb s u W' hc hv ht (hC.kept kW) hs hu⟩

theorem precise_cc (t : List Tab.C) (a : Option Addr) (cp : Nat) (s u : ByteArray) (w : World) (hTb : Tb w) (h : TabAt w (.slice a t.length cp) t) (hS : Small t) (hs : s.size ≤ maxLen) (hu : u.size ≤ maxLen) :
    Calls Tryz.prog 39 #[.slice a t.length cp, .string s, .string u] w fun e w' => e = .returned (.bool (Tab.precise t s u)) ∧ Kept w w' := by
  have H1 := Lib.hid (areTypesP_c t a cp s u w hTb h hS)
  have hq : Tab.precise t s u = (Tab.ats t s u && Tab.pcs t (s, u)) := rfl
  rw [hq]
  cases x1 : Tab.ats t s u with
  | false =>
    rw [x1] at H1
    clear x1 hTb h hS hq
    go_enter Tryz.func39, Tryz.ntmps39
    go_wp2_with fail
    refine H1.out.mono ?_
    rintro e w1 ⟨rfl, k1⟩
    go_wp2_with fail
    go_ret
    exact ⟨rfl, k1⟩
  | true =>
    rw [x1] at H1
    have H2 := Lib.hid (fun w1 (k1 : Kept w w1) => cls_pre h hS x1 k1)
    clear x1 hTb h hS hq
    obtain ⟨r, hr⟩ : ∃ r, r = Tab.pcs t (s, u) := ⟨_, rfl⟩
    rw [← hr]
    have HR := Lib.hid hr
    clear hr
    go_enter Tryz.func39, Tryz.ntmps39
    go_wp2_with fail
    refine H1.out.mono ?_
    rintro e w1 ⟨rfl, k1⟩
    have HK1 := Lib.hid k1
    clear k1
    go_wp2_with fail
    refine (H2.out _ HK1.out).mono ?_
    rintro e w2 ⟨cb, rfl, hp⟩
    have HP := Lib.hid (hp.2 w2 (Kept.refl _) s u hs hu)
    rw [← HR.out] at HP
    have HK2 := Lib.hid hp.1
    clear hp
    go_wp2_with fail
    refine HP.out.mono ?_
    rintro e w3 ⟨rfl, k3⟩
    have HK3 := Lib.hid (HK2.out.trans k3)
    clear k3
    go_wp2_with fail
    go_ret
    exact ⟨by rfl, HK3.out⟩

theorem same_cc (t : List Tab.C) (a : Option Addr) (cp : Nat) (s u : ByteArray) (w : World) (hTb : Tb w) (h : TabAt w (.slice a t.length cp) t) (hS : Small t) (hs : s.size ≤ maxLen) (hu : u.size ≤ maxLen) :
    Calls Tryz.prog 41 #[.slice a t.length cp, .string s, .string u] w fun e w' => e = .returned (.bool (Tab.same t s u)) ∧ Kept w w' := by
  have H1 := Lib.hid (areTypesP_c t a cp s u w hTb h hS)
  have hq : Tab.same t s u = (Tab.ats t s u && (Tab.pcs t (s, u) && Tab.pcs t (u, s))) := by
    have e : Tab.ats t u s = Tab.ats t s u := by unfold Tab.ats; rw [Bool.and_comm (Tab.isT t u)]
    unfold Tab.same Tab.precise
    rw [e]
    cases Tab.ats t s u <;> simp
  rw [hq]
  cases x1 : Tab.ats t s u with
  | false =>
    rw [x1] at H1
    clear x1 hTb h hS hq
    go_enter Tryz.func41, Tryz.ntmps41
    go_wp2_with fail
    refine H1.out.mono ?_
    rintro e w1 ⟨rfl, k1⟩
    go_wp2_with fail
    go_ret
    exact ⟨rfl, k1⟩
  | true =>
    rw [x1] at H1
    have H2 := Lib.hid (fun w1 (k1 : Kept w w1) => cls_pre h hS x1 k1)
    clear x1 hTb h hS hq
    obtain ⟨r, hr⟩ : ∃ r, r = Tab.pcs t (s, u) := ⟨_, rfl⟩
    obtain ⟨q, hq⟩ : ∃ q, q = Tab.pcs t (u, s) := ⟨_, rfl⟩
    rw [← hr, ← hq]
    have HR := Lib.hid hr
    have HQ := Lib.hid hq
    clear hr hq
    cases r <;> (
      go_enter Tryz.func41, Tryz.ntmps41
      go_wp2_with fail
      refine H1.out.mono ?_
      rintro e w1 ⟨rfl, k1⟩
      have HK1 := Lib.hid k1
      clear k1
      go_wp2_with fail
      refine (H2.out _ HK1.out).mono ?_
      rintro e w2 ⟨cb, rfl, hp⟩
      have HP := Lib.hid (hp.2 w2 (Kept.refl _) s u hs hu)
      rw [← HR.out] at HP
      have HP2 := Lib.hid (fun W (k : Kept w2 W) => hp.2 W k u s hu hs)
      rw [← HQ.out] at HP2
      have HK2 := Lib.hid hp.1
      clear hp
      go_wp2_with fail
      refine HP.out.mono ?_
      rintro e w3 ⟨rfl, k3⟩
      have HK3 := Lib.hid k3
      have HKA := Lib.hid (HK2.out.trans k3)
      clear k3
      go_wp2_with fail
      first
      | (refine (HP2.out _ HK3.out).mono ?_
         rintro e w4 ⟨rfl, k4⟩
         have HK4 := Lib.hid (HKA.out.trans k4)
         clear k4
         go_wp2_with fail
         go_ret
         exact ⟨by rfl, HK4.out⟩)
      | (go_ret
         exact ⟨by rfl, HKA.out⟩))

theorem more_cc (t : List Tab.C) (a : Option Addr) (cp : Nat) (s u : ByteArray) (w : World) (hTb : Tb w) (h : TabAt w (.slice a t.length cp) t) (hS : Small t) (hs : s.size ≤ maxLen) (hu : u.size ≤ maxLen) :
    Calls Tryz.prog 43 #[.slice a t.length cp, .string s, .string u] w fun e w' => e = .returned (.int .i64 (Tab.more t s u)) ∧ Kept w w' := by
  have H1 := Lib.hid (areTypesP_c t a cp s u w hTb h hS)
  have hq : Tab.more t s u = if Tab.ats t s u then (if Tab.pcs t (s, u) = Tab.pcs t (u, s) then 0 else if Tab.pcs t (s, u) then 1 else -1) else 0 := by
    have e : Tab.ats t u s = Tab.ats t s u := by unfold Tab.ats; rw [Bool.and_comm (Tab.isT t u)]
    unfold Tab.more Tab.precise
    rw [e]
    cases Tab.ats t s u <;> simp
  obtain ⟨m, hm⟩ : ∃ m, m = Tab.more t s u := ⟨_, rfl⟩
  rw [← hm] at hq ⊢
  clear hm
  cases x1 : Tab.ats t s u with
  | false =>
    rw [x1] at H1 hq
    obtain rfl : m = 0 := by simpa using hq
    clear x1 hTb h hS hq
    go_enter Tryz.func43, Tryz.ntmps43
    go_wp2_with fail
    refine H1.out.mono ?_
    rintro e w1 ⟨rfl, k1⟩
    go_wp2_with fail
    go_ret
    exact ⟨rfl, k1⟩
  | true =>
    rw [x1] at H1 hq
    have H2 := Lib.hid (fun w1 (k1 : Kept w w1) => cls_pre h hS x1 k1)
    clear x1 hTb h hS
    obtain ⟨r, hr⟩ : ∃ r, r = Tab.pcs t (s, u) := ⟨_, rfl⟩
    obtain ⟨q, hq'⟩ : ∃ q, q = Tab.pcs t (u, s) := ⟨_, rfl⟩
    rw [← hr, ← hq'] at hq
    have HR := Lib.hid hr
    have HQ := Lib.hid hq'
    have HM := Lib.hid hq
    clear hr hq' hq
    cases r <;> cases q <;> (
      have hm := HM.out
      simp at hm
      subst hm
      go_enter Tryz.func43, Tryz.ntmps43
      go_wp2_with fail
      refine H1.out.mono ?_
      rintro e w1 ⟨rfl, k1⟩
      have HK1 := Lib.hid k1
      clear k1
      go_wp2_with fail
      refine (H2.out _ HK1.out).mono ?_
      rintro e w2 ⟨cb, rfl, hp⟩
      have HP := Lib.hid (hp.2 w2 (Kept.refl _) s u hs hu)
      rw [← HR.out] at HP
      have HP2 := Lib.hid (fun W (k : Kept w2 W) => hp.2 W k u s hu hs)
      rw [← HQ.out] at HP2
      have HK2 := Lib.hid hp.1
      clear hp
      go_wp2_with fail
      refine HP.out.mono ?_
      rintro e w3 ⟨rfl, k3⟩
      have HK3 := Lib.hid k3
      have HKA := Lib.hid (HK2.out.trans k3)
      clear k3
      go_wp2_with fail
      refine (HP2.out _ HK3.out).mono ?_
      rintro e w4 ⟨rfl, k4⟩
      have HK4 := Lib.hid (HKA.out.trans k4)
      clear k4
      go_wp2_with fail
      go_ret
      exact ⟨by rfl, HK4.out⟩)

end Go.Proofs.YthooiofaicdhgaaGreatDoor
