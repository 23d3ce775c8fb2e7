import Derived.Test.YtegcgflhgfmkpaaGreatDoorUTkm
import Derived.Test.YtegcgflhgfmkpaaGreatDoorUw14
import Derived.Test.YtegcgflhgfmkpaaGreatDoorUw4
import Derived.Lib.Strings
set_option linter.unusedSimpArgs false
set_option linter.unusedVariables false
set_option maxRecDepth 100000
set_option maxHeartbeats 16000000
namespace Go.Proofs.YtegcgflhgfmkpaaGreatDoor
open Lib (hid)
open _root_.Go.Proofs.Tryz
open Go.ChangeShapes Go.WideShapes Go.ChangeAt Go.RowKit Go.Shelf
attribute [local go_sem] Oper.semAt_some
abbrev encU : UInt8 -> Value := fun c => .int .u8 c.toNat
theorem info_u8 : (prog.info? 5).map (fun i => (i.zero, i.size, i.bytes)) = some (some (.int .u8 0), 1, 1) := by kernel_rfl
def TxtI (s : List UInt8) (q : Nat) (esc : Bool) (pre : List UInt8) : Prop :=
 q <= s.length /\ (Lx.txt false s) = (pre ++ (Lx.txt esc (s.drop q)).1, q + (Lx.txt esc (s.drop q)).2.1, (Lx.txt esc (s.drop q)).2.2)
theorem TxtI.start (s : List UInt8) : TxtI s 0 false [] := ⟨Nat.zero_le _, by simp⟩
theorem TxtI.len {s : List UInt8} {q : Nat} {esc : Bool} {pre : List UInt8} (h : TxtI s q esc pre) : pre.length <= s.length := by
 have h1 := (Lx.txt_len false s).2.2.1;have h2 := (Lx.txt_len false s).1;have e := h.2;have e1 : (Lx.txt false s).1.length = pre.length + (Lx.txt esc (s.drop q)).1.length := by rw [e]; simp
 omega
theorem TxtI.esc_ok {s : List UInt8} {q : Nat} {pre : List UInt8} (h : TxtI s q true pre) (hq : q < s.length) {m : UInt8} (hm : Lx.meant s[q] = some m) : TxtI s (q + 1) false (pre ++ [m]) := by
 obtain ⟨h1, h2⟩ := h;refine ⟨by omega, ?_⟩;rw [h2, List.drop_eq_getElem_cons hq, Lx.txt, hm];simp only [Prod.mk.injEq];exact ⟨by simp, by omega, trivial⟩
theorem TxtI.esc_bad {s : List UInt8} {q : Nat} {pre : List UInt8} (h : TxtI s q true pre) (hq : q < s.length) (hm : Lx.meant s[q] = none) : Lx.txt false s = (pre, q, 1) := by
 obtain ⟨h1, h2⟩ := h;rw [h2, List.drop_eq_getElem_cons hq, Lx.txt, hm];simp
theorem TxtI.opens {s : List UInt8} {q : Nat} {pre : List UInt8} (h : TxtI s q false pre) (hq : q < s.length) (hm : s[q].toNat = 92) : TxtI s (q + 1) true pre := by
 obtain ⟨h1, h2⟩ := h;refine ⟨by omega, ?_⟩;rw [h2, List.drop_eq_getElem_cons hq, Lx.txt, if_pos hm];simp only [Prod.mk.injEq];exact ⟨trivial, by omega, trivial⟩
theorem TxtI.shuts {s : List UInt8} {q : Nat} {pre : List UInt8} (h : TxtI s q false pre) (hq : q < s.length) (h0 : s[q].toNat ≠ 92) (hm : s[q].toNat = 34) : Lx.txt false s = (pre, q, 0) := by
 obtain ⟨h1, h2⟩ := h;rw [h2, List.drop_eq_getElem_cons hq, Lx.txt, if_neg h0, if_pos hm];simp
theorem TxtI.goes {s : List UInt8} {q : Nat} {pre : List UInt8} (h : TxtI s q false pre) (hq : q < s.length) (h0 : s[q].toNat ≠ 92) (h1 : s[q].toNat ≠ 34) (hp : Lx.pr s[q] = true) : TxtI s (q + 1) false (pre ++ [s[q]]) := by
 obtain ⟨h2, h3⟩ := h;refine ⟨by omega, ?_⟩;rw [h3, List.drop_eq_getElem_cons hq, Lx.txt, if_neg h0, if_neg h1, if_pos hp];simp only [Prod.mk.injEq];exact ⟨by simp, by omega, trivial⟩
theorem TxtI.bad {s : List UInt8} {q : Nat} {pre : List UInt8} (h : TxtI s q false pre) (hq : q < s.length) (h0 : s[q].toNat ≠ 92) (h1 : s[q].toNat ≠ 34) (hp : Lx.pr s[q] = false) : Lx.txt false s = (pre, q, 1) := by
 obtain ⟨h2, h3⟩ := h;rw [h3, List.drop_eq_getElem_cons hq, Lx.txt, if_neg h0, if_neg h1, hp];simp
theorem TxtI.ends {s : List UInt8} {esc : Bool} {pre : List UInt8} (h : TxtI s s.length esc pre) : Lx.txt false s = (pre, s.length, 2) := by
 obtain ⟨h1, h2⟩ := h;rw [h2, List.drop_of_length_le (Nat.le_refl _)]
 cases esc <;> simp [Lx.txt]
theorem kd_quote (c : UInt8) : ((Lx.kd c : Int) == 4) = decide (c.toNat = 34) := by
 have hn := c.toNat_lt;unfold Lx.kd;by_cases h1 : c.toNat = 32 ∨ c.toNat = 9 ∨ c.toNat = 10 ∨ c.toNat = 13
 ·rw [if_pos h1, decide_eq_false (by omega)]; rfl
 ·rw [if_neg h1];by_cases h2 : (97 <= c.toNat /\ c.toNat <= 122) ∨ (65 <= c.toNat /\ c.toNat <= 90)
  ·rw [if_pos h2, decide_eq_false (by omega)]; rfl
  ·rw [if_neg h2];by_cases h3 : 48 <= c.toNat /\ c.toNat <= 57
   ·rw [if_pos h3, decide_eq_false (by omega)]; rfl
   ·rw [if_neg h3];by_cases h4 : c.toNat = 34
    ·rw [if_pos h4, decide_eq_true h4]; rfl
    ·rw [if_neg h4, decide_eq_false h4]; rfl
theorem own_text {n₁ n : Nat} {W : World} {v : Value} {pre : List UInt8} (hn : n = pre.length) (h : W.ownsRow n₁ 5 1 v n (pre.map encU)) : (convert 57 9 v).run prog W = .ok (.string ⟨pre.toArray⟩) W := by
 subst hn;rcases h.2 with ⟨rfl, h0⟩ | ⟨g, cap, cur, rfl, hg1, hg2, hg3, hg4, hg5, hg6⟩
 ·obtain rfl : pre = [] := List.eq_nil_of_length_eq_zero h0;have := run_convert_bytes_string (P := prog) W 57 9 5 none 0 0 (by kernel_rfl) (by kernel_rfl) (by kernel_rfl);rw [this]
  rfl
 ·exact run_convert_bytes_back (P := prog) W 57 9 5 ⟨g, 0, none⟩ cap pre (by kernel_rfl) (by kernel_rfl) (by kernel_rfl) (fun j hj => by
   have := h.cells (g := g) rfl j (encU pre[j]) (by rw [List.getElem?_map, List.getElem?_eq_getElem hj]; rfl)
   simpa using this)
theorem rown_geU {W : World} {n₁ n k : Nat} {v : Value} {xs : List Value} (h : W.ownsRow n₁ 5 1 v n xs) (e : v.ownBlock = some k) : n₁ <= k := by
 rcases h.2 with ⟨rfl, _⟩ | ⟨g, cap, cur, rfl, hb, _⟩
 ·simp [Value.ownBlock] at e
 ·simp [Value.ownBlock] at e; omega
theorem Res2.grown {n : Nat} {W w' : World} (h : Res2 n W) {row : Option Nat} (hg : W.grownBy w' row) (hr : ∀ k, row = some k -> n + 2 <= k) : Res2 n w' := by
 have o : Only (fun k => n + 2 <= k) W w' := (Only.refl _ W).grown hg (fun k e => .inl (hr k e));exact ⟨h.1.only o (by omega), h.2.only o (by omega)⟩
theorem owns_keptU {W W' : World} {n₁ n : Nat} {v : Value} {xs : List Value} (h : W.ownsRow n₁ 5 1 v n xs) (k : Kept W W') : W'.ownsRow n₁ 5 1 v n xs := by
 refine ⟨h.1, h.2.imp id fun ⟨g, cap, cur, h1, h2, h3, h4⟩ => ⟨g, cap, cur, h1, h2, (k.block g (Array.getElem?_eq_some_iff.1 h3).1).trans h3, h4⟩⟩
theorem prepU {W : World} {n₁ n : Nat} {v : Value} {xs : List Value} (x : Int) (h : W.ownsRow n₁ 5 1 v n xs) (hn : n₁ <= W.heap.size) :
  ∃ W3, W.alloc (.cells #[.int .u8 x] 5) = W3 /\ Hid (Src prog 1 57 (.slice (some ⟨W.heap.size, 0, none⟩) 1 1) 1 [.int .u8 x] W3) /\ Hid (W3.ownsRow n₁ 5 1 v n xs) /\ Hid (Kept W W3) /\ n₁ <= W3.heap.size := by
 have k : Kept W (W.alloc (.cells #[.int .u8 x] 5)) := (Kept.refl W).alloc _;exact ⟨_, rfl, hid (Src.ofSlice (P := prog) (size := 1) (tx := 57) _ underlying57 ⟨W.heap.size, 0, none⟩ 1 1 [.int .u8 x] rfl (cell_one_new W _ _) (by simp [Value.oneCell'])), hid (owns_keptU h k), hid k, Nat.le_trans hn k.size⟩
theorem wayV_tok {k : Int} {x : ByteArray} {v i : Int} {p len : Nat} (hi : i = ((p + len : Nat) : Int)) : .tuple #[tagg k x v p, .int .i64 i, fagg 0 0] = wayV p (.tok k x v len) := by
 subst hi; rfl
theorem refuse_y (i : Int) (e : Int) (q : Nat) (w : World) (hi : i = (q : Int)) : Calls prog 172 #[.int .i64 e, .int .i64 i] w fun r w' => r = .returned (badV e (q : Int)) /\ Kept w w' := by
 subst hi; exact refuse_c e q w
theorem owns_sliceU {W : World} {n₁ n : Nat} {v : Value} {xs : List Value} (h : W.ownsRow n₁ 5 1 v n xs) : ∃ a m c, v = .slice a m c :=
 h.2.elim (fun h => ⟨none, 0, 0, h.1⟩) (fun ⟨g, cap, _, h, _⟩ => ⟨_, _, _, h⟩)
theorem owns_lenU {W : World} {n₁ n m c : Nat} {a : Option Addr} {v : Value} {xs : List Value} (h : W.ownsRow n₁ 5 1 v n xs) (e : v = .slice a m c) : True /\ n = m := by
 subst e;rcases h.2 with ⟨e, h0⟩ | ⟨g, cap, cur, e, _⟩
 ·cases e; exact ⟨trivial, h0⟩
 ·cases e; exact ⟨trivial, rfl⟩
theorem text_c (a : Option Addr) (c : Nat) (l : List UInt8) (p : Nat) (w : World) (h : SrcAt w (.slice a l.length c) l) (hT : Tb w) (hp : p < l.length) (hl : l.length <= 20000) :
  Calls prog 161 #[.slice a l.length c, .int .i64 p] w fun r w' => r = .returned (wayV p (Lx.text (l.drop p))) /\ Kept w w' := by
 obtain ⟨i0, hi, hz0, hzz1, hzz2⟩ := info_parts info_u8;have hcap := h.cap;unfold maxLen at hcap;obtain ⟨s, hs⟩ : ∃ s, l.drop (p + 1) = s := ⟨_, rfl⟩;have hsl : s.length + p + 1 = l.length := by rw [<- hs, List.length_drop]; omega
 have HV : Hid (Lx.text (l.drop p) = Lx.textR (Lx.txt false s)) := hid (by unfold Lx.text; rw [drop_at hp, List.tail_cons, hs]);have HAT : Hid (∀ q (hq : q < s.length) (wr : World), Kept w wr -> ∃ b o, a = some ⟨b, o, none⟩ /\ wr.cell? ⟨b, o + (p + 1 + q), none⟩ = some (.int .u8 s[q].toNat)) := hid (by
  intro q hq wr hk;obtain ⟨b, o, e, y⟩ := h.at (i := p + 1 + q) (by omega);refine ⟨b, o, e, ?_⟩;have es : s[q] = l[p + 1 + q]'(by omega) := by simp only [<- hs, List.getElem_drop]
  rw [es];exact hk.cell y)
 obtain ⟨W1, hW1⟩ : ∃ W1, (w.alloc (.cells #[.int .i64 0, .string ⟨#[]⟩, .int .i64 0, .int .i64 0] 70)).alloc (.cells #[.int .i64 0, .int .i64 0] 29) = W1 := ⟨_, rfl⟩;have k1 : Kept w W1 := by rw [<- hW1]; exact ((Kept.refl w).alloc _).alloc _
 have HR1 := hid (show Res2 w.heap.size W1 by rw [<- hW1]; exact Res2.new w);have hsz1 : w.heap.size + 2 <= W1.heap.size := by rw [<- hW1]; simp
 have HW := hid hW1;have HK1 := hid k1;have HT := hid hT;rw [HV.o];clear h hT hs hW1 k1;go_enter func161, ntmps161;go_wp2_with (rw [HW.o]);go_step3
 go_wp2_with (rw [HW.o]);go_step3
 go_wp2_with fail;go_loopw [7, 8, 9] (fun v i e wr => ∃ (q n : Nat) (esc : Bool) (pre : List UInt8) (a' : Option Addr) (c' : Nat), v = .slice a' n c' /\ i = .int .i64 ((p + 1 + q : Nat) : Int) /\ e = .bool esc /\ n = pre.length /\ Hid (TxtI s q esc pre) /\ Hid (wr.ownsRow (w.heap.size + 2) 5 1 (.slice a' n c') n (pre.map encU)) /\ Hid (Res2 w.heap.size wr) /\ Hid (Kept w wr) /\ w.heap.size + 2 <= wr.heap.size)
  (fun v i e wr => l.length - (intOf i).toNat)
 case atStart => exact ⟨0, 0, false, [], none, 0, rfl, rfl, rfl, rfl, hid (TxtI.start s), hid (World.ownsRow_nil _ _ _ _), HR1, HK1, hsz1⟩
 case round =>
  obtain ⟨q, n, esc, pre, a', c', rfl, rfl, rfl, hn, HI, HR, HR2, HK, hsz⟩ := hrel;have hpl : n <= 20000 := by have := HI.o.len; omega
  have HL := hid hn;clear hn;clear HR1 HK1 hsz1 HW;by_cases hq : q < s.length
  ·have hltI : (((p + 1 + q : Nat) : Int)) < (l.length : Int) := by omega
   have hltI2 : (p : Int) + 1 + (q : Int) < (l.length : Int) := by omega
   obtain ⟨b, o, rfl, y0⟩ := HAT.o q hq wr HK.o;have HM := hid (lmeant_c s[q] wr (HT.o.kept HK.o));have HC := hid (lkind_c s[q] wr);have HP := hid (lpr_c s[q] wr);have hkq := kd_quote s[q]
   cases esc with
   | true =>
    cases hm : Lx.meant s[q] with
    | none =>
     have HX := HI.o.esc_bad hq hm;have HE := hid (show Lx.textR (Lx.txt false s) = .bad 5 (q + 1) by rw [HX]; unfold Lx.textR; rw [if_pos rfl]);rw [hm] at HM;clear HX hm HC HP hkq;generalize s[q] = ch at *;go_wp2_with fail;refine HM.o.mono ?_;rintro e w1 ⟨rfl, k1⟩;have HR4 := hid (HR2.o.kept k1);have HK4 := hid (HK.o.trans k1);clear k1;go_wp2_with fail;refine (refuse_y _ 5 (p + (q + 1)) _ (by omega)).mono ?_;rintro e W9 ⟨rfl, k9⟩;have hr9 := HR4.o.kept k9;obtain ⟨⟨f0, f1, f2, f3⟩, f4, f5⟩ := hr9.froz;obtain ⟨⟨c0, c1, c2, c3⟩, c4, c5⟩ := hr9.cel;have HR9 := hid hr9;have HK9 := hid (HK4.o.trans k9);clear hr9 k9;go_wp2_with fail
     try rw [Exit.noGoto_ret]
     exact way_end (by rfl) HR9.o HK9.o rfl rfl (by rw [HE.o]; rfl)
    | some m =>
     have HI2 := hid (HI.o.esc_ok hq hm);rw [hm] at HM;clear hm HC HP hkq;generalize s[q] = ch at *;have hmn := m.toNat_lt;go_wp2_with fail;refine HM.o.mono ?_;rintro e w1 ⟨rfl, k1⟩;have HR4 := hid (owns_keptU HR.o k1);have HS3 := hid (HR2.o.kept k1);have HKa := hid (HK.o.trans k1);have hsza := k1.size;clear k1 HM;obtain ⟨W3, hW3, HSR, HR3, HK3, hsz3⟩ := prepU ((m.toNat : Int)) HR4.o (show w.heap.size + 2 <= w1.heap.size by omega);have HW3 := hid hW3;have HK4 := hid (HKa.o.trans HK3.o);have HS4 := hid (HS3.o.kept HK3.o);clear hW3;go_wp2_with (first | rw [HW3.o] | (at_builtin; refine wpList_apk rfl (.tmp 56) (.tmp 58) 57 57 rfl (w.heap.size + 2) 1 5 i0 _ 1 underlying57 hi hz0 hzz1 hzz2 rfl rfl HR3.o rfl HSR.o (by unfold maxLen; omega) (by omega) hsz3 ?_; intro v' w4 hown' hgrow hlies; have HN := hid hown'; have HK5 := hid (HK4.o.grown hgrow fun k e => by have := rown_geU HR3.o e; omega); have HS5 := hid (HS4.o.grown hgrow fun k e => rown_geU HR3.o e); have hsz5 := hgrow.size; obtain ⟨va', m', vc', hv'⟩ := owns_sliceU hown'; obtain ⟨_, rfl⟩ := owns_lenU hown' hv'; subst hv'; clear hown' hgrow hlies));go_roundw
     case rel => exact ⟨q + 1, _, false, _, va', vc', rfl, by go_num, rfl, by simp [HL.o], HI2, hid (by simpa using HN.o), HS5, HK5, by omega⟩
     case measure => simp [intOf]; omega
   | false =>
    by_cases h92 : s[q].toNat = 92
    ·have HI2 := hid (HI.o.opens hq h92);rw [h92] at y0;clear HM HC HP hkq h92;go_wp2_with fail;go_roundw
     case rel => exact ⟨q + 1, n, true, pre, a', c', rfl, by go_num, rfl, HL.o, HI2, HR, HR2, HK, hsz⟩
     case measure => simp [intOf]; omega
    ·have e92 : ((s[q].toNat : Int) == 92) = false := by simp; omega
     by_cases h34 : s[q].toNat = 34
     ·have HX := hid (HI.o.shuts hq h92 h34);rw [decide_eq_true h34] at hkq;generalize Lx.kd s[q] = kk at *;clear HM HP h34 h92 HI;generalize s[q].toNat = ch at *;have HRx := HR;have HRs := HR2;have HKx := HK;clear HR HR2 HK;go_wp2_with fail;refine HC.o.mono ?_;rintro e w1 ⟨rfl, rfl⟩;clear HC;by_cases h1000 : 1000 < n
      ·have hI : (1000 : Int) < (n : Int) := by omega
       have HE := hid (show Lx.textR (Lx.txt false s) = .bad 4 0 by rw [HX.o]; unfold Lx.textR; rw [if_neg (by simp), if_pos (by rw [<- HL.o]; omega)]);go_wp2_with fail;refine (refuse_y _ 4 (p) _ (by omega)).mono ?_;rintro e W9 ⟨rfl, k9⟩;have hr9 := HRs.o.kept k9;obtain ⟨⟨f0, f1, f2, f3⟩, f4, f5⟩ := hr9.froz;obtain ⟨⟨c0, c1, c2, c3⟩, c4, c5⟩ := hr9.cel;have HR9 := hid hr9;have HK9 := hid (HKx.o.trans k9);clear hr9 k9;go_wp2_with fail
       try rw [Exit.noGoto_ret]
       exact way_end (by rfl) HR9.o HK9.o rfl rfl (by rw [HE.o]; rfl)
      ·have hI : ¬ (1000 : Int) < (n : Int) := by omega
       have HE := hid (show Lx.textR (Lx.txt false s) = .tok 6 ⟨pre.toArray⟩ 0 (q + 2) by rw [HX.o]; unfold Lx.textR; rw [if_neg (by simp), if_neg (by rw [<- HL.o]; omega), if_neg (by simp)]);have hEQ : ((((p + 1 + q : Nat) : Int)) == (l.length : Int)) = false := by simp; omega
       have hEQ2 : (((p : Int) + 1 + (q : Int)) == (l.length : Int)) = false := by simp; omega
       have hcv := own_text HL.o HRx.o;obtain ⟨⟨f0, f1, f2, f3⟩, f4, f5⟩ := HRs.o.froz;obtain ⟨⟨c0, c1, c2, c3⟩, c4, c5⟩ := HRs.o.cel;go_wp2_with fail
       try rw [Exit.noGoto_ret]
       exact way_end (by rfl) HRs.o HKx.o rfl rfl (by rw [HE.o]; exact wayV_tok (by omega))
     ·rw [decide_eq_false h34] at hkq;generalize Lx.kd s[q] = kk at *
      cases hpr : Lx.pr s[q] with
      | false =>
       have HX := HI.o.bad hq h92 h34 hpr;have HE := hid (show Lx.textR (Lx.txt false s) = .bad 5 (q + 1) by rw [HX]; unfold Lx.textR; rw [if_pos rfl]);rw [hpr] at HP;clear HX hpr HM h92 h34;generalize s[q].toNat = ch at *;go_wp2_with fail;refine HC.o.mono ?_;rintro e w1 ⟨rfl, rfl⟩;go_wp2_with fail;refine HP.o.mono ?_;rintro e w1 ⟨rfl, rfl⟩;clear HC HP;go_wp2_with fail;refine (refuse_y _ 5 (p + (q + 1)) _ (by omega)).mono ?_;rintro e W9 ⟨rfl, k9⟩;have hr9 := HR2.o.kept k9;obtain ⟨⟨f0, f1, f2, f3⟩, f4, f5⟩ := hr9.froz;obtain ⟨⟨c0, c1, c2, c3⟩, c4, c5⟩ := hr9.cel;have HR9 := hid hr9;have HK9 := hid (HK.o.trans k9);clear hr9 k9;go_wp2_with fail
       try rw [Exit.noGoto_ret]
       exact way_end (by rfl) HR9.o HK9.o rfl rfl (by rw [HE.o]; rfl)
      | true =>
       have HI2 := hid (HI.o.goes hq h92 h34 hpr);rw [hpr] at HP;clear hpr HM h92 h34;generalize s[q] = ch at *;have hmn := ch.toNat_lt;obtain ⟨W3, hW3, HSR, HR3, HK3, hsz3⟩ := prepU ((ch.toNat : Int)) HR.o (show w.heap.size + 2 <= wr.heap.size by omega);have HW3 := hid hW3;have HK4 := hid (HK.o.trans HK3.o);have HS4 := hid (HR2.o.kept HK3.o);clear hW3;clear HR HR2;go_wp2_with fail;refine HC.o.mono ?_;rintro e w1 ⟨rfl, rfl⟩;go_wp2_with fail;refine HP.o.mono ?_;rintro e w1 ⟨rfl, rfl⟩;clear HC HP;go_wp2_with (first | rw [HW3.o] | (at_builtin; refine wpList_apk rfl (.tmp 56) (.tmp 58) 57 57 rfl (w.heap.size + 2) 1 5 i0 _ 1 underlying57 hi hz0 hzz1 hzz2 rfl rfl HR3.o rfl HSR.o (by unfold maxLen; omega) (by omega) hsz3 ?_; intro v' w4 hown' hgrow hlies; have HN := hid hown'; have HK5 := hid (HK4.o.grown hgrow fun k e => by have := rown_geU HR3.o e; omega); have HS5 := hid (HS4.o.grown hgrow fun k e => rown_geU HR3.o e); have hsz5 := hgrow.size; obtain ⟨va', m', vc', hv'⟩ := owns_sliceU hown'; obtain ⟨_, rfl⟩ := owns_lenU hown' hv'; subst hv'; clear hown' hgrow hlies));go_roundw
       case rel => exact ⟨q + 1, _, false, _, va', vc', rfl, by go_num, rfl, by simp [HL.o], HI2, hid (by simpa using HN.o), HS5, HK5, by omega⟩
       case measure => simp [intOf]; omega
  ·have hqs : q = s.length := by have := HI.o.1; omega
   subst hqs;have HX := hid HI.o.ends;have hltI : ¬ (((p + 1 + s.length : Nat) : Int)) < (l.length : Int) := by omega
   have hltI2 : ¬ (p : Int) + 1 + (s.length : Int) < (l.length : Int) := by omega
   have HRx := HR;have HRs := HR2;have HKx := HK;clear HR HR2 HK HI;by_cases h1000 : 1000 < n
   ·have hI : (1000 : Int) < (n : Int) := by omega
    have HE := hid (show Lx.textR (Lx.txt false s) = .bad 4 0 by rw [HX.o]; unfold Lx.textR; rw [if_neg (by simp), if_pos (by rw [<- HL.o]; omega)]);go_wp2_with fail;refine (refuse_y _ 4 (p) _ (by omega)).mono ?_;rintro e W9 ⟨rfl, k9⟩;have hr9 := HRs.o.kept k9;obtain ⟨⟨f0, f1, f2, f3⟩, f4, f5⟩ := hr9.froz;obtain ⟨⟨c0, c1, c2, c3⟩, c4, c5⟩ := hr9.cel;have HR9 := hid hr9;have HK9 := hid (HKx.o.trans k9);clear hr9 k9;go_wp2_with fail
    try rw [Exit.noGoto_ret]
    exact way_end (by rfl) HR9.o HK9.o rfl rfl (by rw [HE.o]; rfl)
   ·have hI : ¬ (1000 : Int) < (n : Int) := by omega
    have HE := hid (show Lx.textR (Lx.txt false s) = .bad 5 0 by rw [HX.o]; unfold Lx.textR; rw [if_neg (by simp), if_neg (by rw [<- HL.o]; omega), if_pos rfl]);have hEQ : ((((p + 1 + s.length : Nat) : Int)) == (l.length : Int)) = true := by simp; omega
    have hEQ2 : (((p : Int) + 1 + (s.length : Int)) == (l.length : Int)) = true := by simp; omega
    go_wp2_with fail;refine (refuse_y _ 5 (p) _ (by omega)).mono ?_;rintro e W9 ⟨rfl, k9⟩;have hr9 := HRs.o.kept k9;obtain ⟨⟨f0, f1, f2, f3⟩, f4, f5⟩ := hr9.froz;obtain ⟨⟨c0, c1, c2, c3⟩, c4, c5⟩ := hr9.cel;have HR9 := hid hr9;have HK9 := hid (HKx.o.trans k9);clear hr9 k9;go_wp2_with fail
    try rw [Exit.noGoto_ret]
    exact way_end (by rfl) HR9.o HK9.o rfl rfl (by rw [HE.o]; rfl)
end Go.Proofs.YtegcgflhgfmkpaaGreatDoor
