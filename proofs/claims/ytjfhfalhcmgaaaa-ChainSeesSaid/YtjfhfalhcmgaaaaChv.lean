/- The statements' helpers: turns, made, turned, mapped, behind. -/
import Derived.Test.YtjfhfalhcmgaaaaChq
import Derived.Test.YtjfhfalhcmgaaaaPkv
import Derived.StillTailTactics
set_option linter.unusedSimpArgs false
set_option linter.unusedVariables false
set_option maxRecDepth 100000
namespace Go.Proofs.Ytjfhfalhcmgaaaa
open Go.ChangeShapes Go.WideShapes Go.ChangeAt Go.RowKit

theorem flat_snoc (l : List Ly) (x : Ly) : l.flatMap lCells ++ [x].flatMap lCells = (l ++ [x]).flatMap lCells := by simp

/-- One layer more behind a row of one's own: what the walk asks of the layer's own block. -/
theorem prep (x : Ly) (hx : x.cls.size ≤ maxLen) (w W : World) (hk : Kept w W) {n : Nat} {v : Value} {xs : List Value} (hr : W.ownsRow w.heap.size 24 3 v n xs) :
    ∃ W3, W.alloc (.cells #[.bool x.out, .string x.cls, .int .i64 x.lab] 24) = W3 ∧ Hid (Src Try.prog 3 22 (.slice (some ⟨W.heap.size, 0, none⟩) 1 1) 1 (lCells x) W3) ∧
      Hid (W3.ownsRow w.heap.size 24 3 v n xs) ∧ Hid (Kept w W3) ∧ w.heap.size ≤ W3.heap.size ∧ Hid (Kept W W3) := by
  refine ⟨_, rfl, ?_, ?_, ?_, ?_, ?_⟩
  · have := src_lys (one_ly x hx (Blk.new W 24 #[.bool x.out, .string x.cls, .int .i64 x.lab]))
    refine Lib.hid ?_
    simpa using this
  · exact Lib.hid (owns_keptL hr ((Kept.refl W).alloc _))
  · exact Lib.hid (hk.alloc _)
  · have := hk.size; simp; omega
  · exact Lib.hid ((Kept.refl W).alloc _)

def cC : ByteArray := ⟨#[67]⟩
def cD : ByteArray := ⟨#[68]⟩
def turnV (i : Nat) : Ly := ⟨true, if i % 2 = 0 then cC else cD, i + 1⟩
def turnsV (n : Nat) : List Ly := (List.range n).map turnV
theorem turns_len (n : Nat) : (turnsV n).length = n := by simp [turnsV]
theorem turns_next (n : Nat) : turnsV n ++ [turnV n] = turnsV (n + 1) := by simp [turnsV, List.range_succ]

set_option maxHeartbeats 4000000 in
theorem turns_c (n : Nat) (w : World) (hn : n ≤ 100) : Calls Try.prog 28 #[.int .i64 n] w (OwnL w (turnsV n)) := by
  obtain ⟨i0, hi, hz0, hzz1, hzz2⟩ := info_parts info_layer
  go_enter Try.func28, Try.ntmps28
  go_wp2_with fail
  go_loopw [3, 4] (fun r i wq => ∃ (k : Nat) (a : Option Addr) (c : Nat), k ≤ n ∧ i = .int .i64 k ∧ r = .slice a k c ∧ Hid (wq.ownsRow w.heap.size 24 3 (.slice a k c) k ((turnsV k).flatMap lCells)) ∧ Kept w wq) (fun r i wq => n - (intOf i).toNat)
  case atStart => exact ⟨0, none, 0, by omega, rfl, rfl, Lib.hid (World.ownsRow_nil _ _ _ _), Kept.refl _⟩
  case round =>
    obtain ⟨k, a, c, hk, rfl, rfl, HR, hkp⟩ := hrel
    have HK := Lib.hid hkp
    clear hkp
    by_cases hlt : k < n
    · have hltI : (k : Int) < (n : Int) := by omega
      have HT := Lib.hid (turns_next k)
      obtain ⟨W1, hW1⟩ : ∃ W1, wr.alloc (.cells #[.string ⟨#[67]⟩, .string ⟨#[68]⟩] 9) = W1 := ⟨_, rfl⟩
      have k1 : Kept wr W1 := by rw [← hW1]; exact (Kept.refl wr).alloc _
      have b1 : Blk W1 wr.heap.size 9 #[.string ⟨#[67]⟩, .string ⟨#[68]⟩] := by rw [← hW1]; exact Blk.new wr _ _
      have c0 := b1.cell 0
      have c1 := b1.cell 1
      simp only [List.getElem?_toArray, List.getElem?_cons_zero, List.getElem?_cons_succ] at c0 c1
      have HK1 := Lib.hid k1
      have HW1 := Lib.hid hW1
      have HO := Lib.hid out_c
      clear hW1 k1 b1
      rcases (show k % 2 = 0 ∨ k % 2 = 1 by omega) with h2 | h2
      · have hm : ((k : Int).tmod 2) = 0 := by rw [show ((k : Int).tmod 2) = ((k % 2 : Nat) : Int) from (Int.ofNat_tmod _ _).symm]; omega
        have HX := Lib.hid (show turnV k = ⟨true, ⟨#[67]⟩, (k : Int) + 1⟩ by unfold turnV; rw [if_pos (by omega)]; rfl)
        clear h2
        go_wp2_with (rw [HW1.out])
        refine (HO.out _ _ _).mono ?_
        rintro e w2 ⟨rfl, k2⟩
        obtain ⟨W3, hW3, HSR, HR3, HK3, hsz3, _⟩ := prep ⟨true, ⟨#[67]⟩, (k : Int) + 1⟩ (show (⟨#[67]⟩ : ByteArray).size ≤ maxLen by decide) w w2 ((HK.out.trans HK1.out).trans k2) (owns_keptL HR.out (HK1.out.trans k2))
        have HW3 := Lib.hid hW3
        clear hW3 k2 c0 c1
        go_wp2_with (first | rw [HW3.out] | (at_builtin; refine wpList_apk rfl (.tmp 10) (.tmp 19) 22 22 rfl w.heap.size 3 24 i0 _ 32 Try.underlying22 hi hz0 hzz1 hzz2 rfl rfl HR3.out rfl HSR.out (by unfold maxLen; omega) (by omega) hsz3 ?_; intro v' w4 hown' hgrow hlies; have HN := Lib.hid hown'; have HK4 := Lib.hid (HK3.out.grown hgrow fun k e => rown_geL HR3.out e); obtain ⟨va', vc', rfl⟩ := owns_slice_nL hown'; clear hown' hgrow hlies))
        go_roundw
        case rel => exact ⟨k + 1, va', vc', by omega, by go_num, rfl, Lib.hid (by rw [← HT.out, ← flat_snoc, HX.out]; exact HN.out), HK4.out⟩
        case measure => simp [intOf]; omega
      · have hm : ((k : Int).tmod 2) = 1 := by rw [show ((k : Int).tmod 2) = ((k % 2 : Nat) : Int) from (Int.ofNat_tmod _ _).symm]; omega
        have HX := Lib.hid (show turnV k = ⟨true, ⟨#[68]⟩, (k : Int) + 1⟩ by unfold turnV; rw [if_neg (by omega)]; rfl)
        clear h2
        go_wp2_with (rw [HW1.out])
        refine (HO.out _ _ _).mono ?_
        rintro e w2 ⟨rfl, k2⟩
        obtain ⟨W3, hW3, HSR, HR3, HK3, hsz3, _⟩ := prep ⟨true, ⟨#[68]⟩, (k : Int) + 1⟩ (show (⟨#[68]⟩ : ByteArray).size ≤ maxLen by decide) w w2 ((HK.out.trans HK1.out).trans k2) (owns_keptL HR.out (HK1.out.trans k2))
        have HW3 := Lib.hid hW3
        clear hW3 k2 c0 c1
        go_wp2_with (first | rw [HW3.out] | (at_builtin; refine wpList_apk rfl (.tmp 10) (.tmp 19) 22 22 rfl w.heap.size 3 24 i0 _ 32 Try.underlying22 hi hz0 hzz1 hzz2 rfl rfl HR3.out rfl HSR.out (by unfold maxLen; omega) (by omega) hsz3 ?_; intro v' w4 hown' hgrow hlies; have HN := Lib.hid hown'; have HK4 := Lib.hid (HK3.out.grown hgrow fun k e => rown_geL HR3.out e); obtain ⟨va', vc', rfl⟩ := owns_slice_nL hown'; clear hown' hgrow hlies))
        go_roundw
        case rel => exact ⟨k + 1, va', vc', by omega, by go_num, rfl, Lib.hid (by rw [← HT.out, ← flat_snoc, HX.out]; exact HN.out), HK4.out⟩
        case measure => simp [intOf]; omega
    · obtain rfl : k = n := by omega
      have hltI : ¬ (k : Int) < (k : Int) := by omega
      go_wp2_with fail
      go_ret
      exact ⟨⟨a, c, by rw [turns_len]; rfl, by rw [turns_len]; exact HR.out⟩, HK.out⟩

theorem turned_next {l : List Ly} {k : Nat} {x : Ly} (h : l[k]? = some x) : (l.drop (k + 1)).reverse ++ [x] = (l.drop k).reverse := by
  rw [drop_at h]; simp

set_option maxHeartbeats 4000000 in
theorem turned_c (l : List Ly) (v : Value) (w : World) (h : LysAt w v l) (hl : l.length ≤ 1000) : Calls Try.prog 35 #[v] w (OwnL w l.reverse) := by
  obtain ⟨i0, hi, hz0, hzz1, hzz2⟩ := info_parts info_layer
  obtain ⟨la, lc, rfl, hlc, hcm, hat⟩ := h
  have HAT := Lib.hid hat
  clear hat
  unfold maxLen at hcm
  go_enter Try.func35, Try.ntmps35
  go_wp2_with fail
  go_loopw [3, 4] (fun r i wq => ∃ (k : Nat) (a : Option Addr) (c : Nat), k ≤ l.length ∧ i = .int .i64 ((k : Int) - 1) ∧ r = .slice a (l.length - k) c ∧ Hid (wq.ownsRow w.heap.size 24 3 (.slice a (l.length - k) c) (l.length - k) ((l.drop k).reverse.flatMap lCells)) ∧ Kept w wq) (fun r i wq => (intOf i + 1).toNat)
  case atStart => exact ⟨l.length, none, 0, by omega, by go_num, by rw [Nat.sub_self], Lib.hid (by rw [Nat.sub_self, List.drop_length]; exact World.ownsRow_nil _ _ _ _), Kept.refl _⟩
  case round =>
    obtain ⟨m, a, c, hk, rfl, rfl, HR, hkp⟩ := hrel
    have HK := Lib.hid hkp
    by_cases h0 : m = 0
    · subst h0
      have HRN := Lib.hid (show wr.ownsRow w.heap.size 24 3 (.slice a l.reverse.length c) l.reverse.length (l.reverse.flatMap lCells) by have := HR.out; rw [Nat.sub_zero, List.drop_zero] at this; rw [List.length_reverse]; exact this)
      rw [Nat.sub_zero]
      clear hkp
      go_wp2_with fail
      go_ret
      exact ⟨⟨a, c, by rw [List.length_reverse]; rfl, HRN.out⟩, HK.out⟩
    · obtain ⟨k, rfl⟩ : ∃ k, m = k + 1 := ⟨m - 1, by omega⟩
      have hkl : k < l.length := by omega
      have hx : l[k]? = some l[k] := List.getElem?_eq_getElem hkl
      generalize l[k] = x at hx
      have HT := Lib.hid (turned_next hx)
      obtain ⟨lb, lo, rfl, hly⟩ := HAT.out _ _ hx
      obtain ⟨x0, x1, x2, x3⟩ := hly.kept hkp
      have hge : (0 : Int) ≤ (k : Int) := by omega
      have hkI : (k : Int) < (l.length : Int) := by omega
      have hki : (((k + 1 : Nat) : Int)) - 1 = (k : Int) := by omega
      rw [hki]
      obtain ⟨W3, hW3, HSR, HR3, HK3, hsz3, _⟩ := prep x x3 w wr hkp HR.out
      have HW3 := Lib.hid hW3
      obtain ⟨n', hn'⟩ : ∃ n', l.length - (k + 1) = n' := ⟨_, rfl⟩
      have HN' := Lib.hid (show l.length - k = n' + 1 by omega)
      rw [hn'] at HR3 ⊢
      have hn1 : n' ≤ 1000 := by omega
      clear hW3 hx hly hkp h0 hki hn'
      go_wp2_with (first | rw [HW3.out] | (at_builtin; refine wpList_apk rfl (.tmp 12) (.tmp 17) 22 22 rfl w.heap.size 3 24 i0 _ 32 Try.underlying22 hi hz0 hzz1 hzz2 rfl rfl HR3.out rfl HSR.out (by unfold maxLen; omega) (by omega) hsz3 ?_; intro v' w4 hown' hgrow hlies; have HN := Lib.hid hown'; have HK4 := Lib.hid (HK3.out.grown hgrow fun k e => rown_geL HR3.out e); obtain ⟨va', vc', rfl⟩ := owns_slice_nL hown'; clear hown' hgrow hlies))
      go_roundw
      case rel => exact ⟨k, va', vc', by omega, by go_num, by rw [HN'.out], Lib.hid (by rw [HN'.out, ← HT.out, ← flat_snoc]; exact HN.out), HK4.out⟩
      case measure => simp [intOf]

/-! ### Chains by numbers -/
def clsV (j : Nat) : ByteArray := if j = 0 then ⟨#[65]⟩ else if j = 1 then ⟨#[66]⟩ else if j = 2 then ⟨#[67]⟩ else ⟨#[68]⟩
theorem clsV_small (j : Nat) : (clsV j).size ≤ maxLen := by unfold clsV; (repeat' split) <;> decide
theorem cls4 {j : Nat} (h : j < 4) : (#[Value.string ⟨#[65]⟩, .string ⟨#[66]⟩, .string ⟨#[67]⟩, .string ⟨#[68]⟩] : Array Value)[j]? = some (.string (clsV j)) := by
  rcases (show j = 0 ∨ j = 1 ∨ j = 2 ∨ j = 3 by omega) with rfl | rfl | rfl | rfl <;> rfl
def madeL (k i : Nat) : Ly := ⟨decide (k % 2 = 0), clsV (k / 2), (i : Int) + 1⟩
def madeV (ns : List Int) : List Ly := (List.range ns.length).map fun i => madeL (pickN (ns.getD i 0) 8) i
def madeT (ns : List Int) (k : Nat) : List Ly := (List.range k).map fun i => madeL (pickN (ns.getD i 0) 8) i
theorem made_len (ns : List Int) : (madeV ns).length = ns.length := by simp [madeV]
theorem made_next (ns : List Int) (k : Nat) : madeT ns k ++ [madeL (pickN (ns.getD k 0) 8) k] = madeT ns (k + 1) := by simp [madeT, List.range_succ]
theorem made_mem {ns : List Int} {x : Ly} (h : x ∈ madeV ns) : ∃ j, j < 4 ∧ x.cls = clsV j := by
  simp only [madeV, List.mem_map] at h
  obtain ⟨i, _, rfl⟩ := h
  exact ⟨_, by have := pickN_lt (ns.getD i 0) (n := 8) (by omega); omega, rfl⟩

def IntR (w : World) (b o : Nat) (x : Int) : Prop := w.cell? ⟨b, o, none⟩ = some (.int .i64 x) ∧ -9223372036854775808 ≤ x ∧ x ≤ 9223372036854775807
abbrev IntsAt (w : World) (v : Value) (l : List Int) : Prop := Row 1 IntR w v l
theorem ints_kept {w w' : World} {v : Value} {l : List Int} (h : IntsAt w v l) (k : Kept w w') : IntsAt w' v l := h.mono fun _ _ _ r => ⟨k.cell r.1, r.2⟩

set_option maxHeartbeats 4000000 in
theorem made_c (ns : List Int) (v : Value) (w : World) (h : IntsAt w v ns) (hl : ns.length ≤ 1000) : Calls Try.prog 32 #[v] w (OwnL w (madeV ns)) := by
  obtain ⟨i0, hi, hz0, hzz1, hzz2⟩ := info_parts info_layer
  obtain ⟨la, lc, rfl, hlc, hcm, hat⟩ := h
  have HAT := Lib.hid hat
  clear hat
  unfold maxLen at hcm
  go_enter Try.func32, Try.ntmps32
  go_wp2_with fail
  go_loopw [3, 4] (fun r i wq => ∃ (k : Nat) (a : Option Addr) (c : Nat), k ≤ ns.length ∧ i = .int .i64 k ∧ r = .slice a k c ∧ Hid (wq.ownsRow w.heap.size 24 3 (.slice a k c) k ((madeT ns k).flatMap lCells)) ∧ Kept w wq) (fun r i wq => ns.length - (intOf i).toNat)
  case atStart => exact ⟨0, none, 0, by omega, rfl, rfl, Lib.hid (World.ownsRow_nil _ _ _ _), Kept.refl _⟩
  case round =>
    obtain ⟨k, a, c, hk, rfl, rfl, HR, hkp⟩ := hrel
    have HK := Lib.hid hkp
    by_cases hlt : k < ns.length
    · have hltI : (k : Int) < (ns.length : Int) := by omega
      have hx : ns[k]? = some ns[k] := List.getElem?_eq_getElem hlt
      have HT := Lib.hid (made_next ns k)
      rw [show ns.getD k 0 = ns[k] by rw [List.getD_eq_getElem?_getD, hx]; rfl] at HT
      generalize ns[k] = x at hx HT
      obtain ⟨lb, lo, rfl, hly⟩ := HAT.out _ _ hx
      obtain ⟨x0, x1, x2⟩ := hly
      have y0 := hkp.cell x0
      rw [Nat.mul_one] at y0
      have HP := Lib.hid (fun W => pick_v x 8 W (by omega) (by omega) x1 x2)
      obtain ⟨q, hq⟩ : ∃ q, pickN x 8 = q := ⟨_, rfl⟩
      have hq8 : q < 8 := by rw [← hq]; exact pickN_lt x (by omega)
      rw [hq] at HP HT
      obtain ⟨j, hj⟩ : ∃ j, q / 2 = j := ⟨_, rfl⟩
      have hj4 : j < 4 := by omega
      obtain ⟨b, hb⟩ : ∃ b, decide (q % 2 = 0) = b := ⟨_, rfl⟩
      have hd : ((q : Int).tdiv 2) = (j : Int) := by rw [show ((q : Int).tdiv 2) = ((q / 2 : Nat) : Int) from (Int.ofNat_tdiv _ _).symm, hj]
      have hm1 : ((q : Int).tmod 2 == 0) = b := by
        rw [show ((q : Int).tmod 2) = ((q % 2 : Nat) : Int) from (Int.ofNat_tmod _ _).symm, ← hb]
        rcases (show q % 2 = 0 ∨ q % 2 = 1 by omega) with e | e <;> rw [e] <;> rfl
      have hm3 : ((q : Int) % 2 == 0) = b := by
        rw [← hb]
        rcases (show q % 2 = 0 ∨ q % 2 = 1 by omega) with e | e
        · rw [show (q : Int) % 2 = 0 by omega, e]; rfl
        · rw [show (q : Int) % 2 = 1 by omega, e]; rfl
      have hm2 : decide ((q : Int).tmod 2 = 0) = b := by rw [← hm1]; rfl
      have hjI : (j : Int) < 4 := by omega
      have HX := Lib.hid (show madeL q k = ⟨b, clsV j, (k : Int) + 1⟩ by unfold madeL; rw [hj, hb])
      obtain ⟨W1, hW1⟩ : ∃ W1, wr.alloc (.cells #[.string ⟨#[65]⟩, .string ⟨#[66]⟩, .string ⟨#[67]⟩, .string ⟨#[68]⟩] 9) = W1 := ⟨_, rfl⟩
      have k1 : Kept wr W1 := by rw [← hW1]; exact (Kept.refl wr).alloc _
      have b1 : Blk W1 wr.heap.size 9 #[.string ⟨#[65]⟩, .string ⟨#[66]⟩, .string ⟨#[67]⟩, .string ⟨#[68]⟩] := by rw [← hW1]; exact Blk.new wr _ _
      have c0 := b1.cell j
      rw [cls4 hj4] at c0
      obtain ⟨W3, hW3, HSR, HR3, HK3, hsz3, _⟩ := prep ⟨b, clsV j, (k : Int) + 1⟩ (clsV_small j) w W1 (HK.out.trans k1) (owns_keptL HR.out k1)
      have s1 : W1.heap.size = wr.heap.size + 1 := by rw [← hW1]; simp
      rw [s1] at HSR
      have HW := Lib.hid (And.intro hW1 hW3)
      clear hW1 hW3 k1 b1 hx hkp hj hq hb x0
      generalize clsV j = cl at *
      go_wp2_with fail
      refine (HP.out _).mono ?_
      rintro e w2 ⟨rfl, rfl⟩
      go_wp2_with (first | rw [HW.out.1] | rw [HW.out.2] | (at_builtin; refine wpList_apk rfl (.tmp 17) (.tmp 29) 22 22 rfl w.heap.size 3 24 i0 _ 32 Try.underlying22 hi hz0 hzz1 hzz2 rfl rfl HR3.out rfl HSR.out (by unfold maxLen; omega) (by omega) hsz3 ?_; intro v' w4 hown' hgrow hlies; have HN := Lib.hid hown'; have HK4 := Lib.hid (HK3.out.grown hgrow fun k e => rown_geL HR3.out e); obtain ⟨va', vc', rfl⟩ := owns_slice_nL hown'; clear hown' hgrow hlies))
      go_roundw
      case rel => exact ⟨k + 1, va', vc', by omega, by go_num, rfl, Lib.hid (by rw [← HT.out, ← flat_snoc, HX.out]; exact HN.out), HK4.out⟩
      case measure => simp [intOf]; omega
    · obtain rfl : k = ns.length := by omega
      have hltI : ¬ (ns.length : Int) < (ns.length : Int) := by omega
      clear hkp
      go_wp2_with fail
      go_ret
      exact ⟨⟨a, c, by rw [made_len]; rfl, by rw [made_len]; exact HR.out⟩, HK.out⟩

end Go.Proofs.Ytjfhfalhcmgaaaa
