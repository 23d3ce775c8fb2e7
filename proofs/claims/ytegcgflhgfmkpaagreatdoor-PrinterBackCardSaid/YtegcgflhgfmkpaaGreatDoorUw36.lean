/- Texts. -/
import Derived.Test.YtegcgflhgfmkpaaGreatDoorUTkm
import Derived.Test.YtegcgflhgfmkpaaGreatDoorUw4
set_option linter.unusedSimpArgs false
set_option linter.unusedVariables false
set_option maxRecDepth 100000
set_option maxHeartbeats 16000000
namespace Go.Proofs.YtegcgflhgfmkpaaGreatDoor
open Lib (hid)
open Go.ChangeShapes Go.WideShapes Go.ChangeAt Go.RowKit
def capN (c most : Int) : Int := if c <= most then c else most + 1
theorem capN_le {c most : Int} (h0 : 0 <= c) (h : 0 <= most) : 0 <= capN c most /\ capN c most <= most + 1 := by unfold capN; split <;> omega
theorem capN_next {c d most : Int} (hc : capN c most <= most) (hd : 0 <= d) : capN c most + capN d (most - capN c most) = capN (c + d) most := by
 unfold capN at *
 split at hc
 ·rename_i h
  rw [if_pos h]
  split <;> split <;> omega
 ·omega
theorem capN_full {c d most : Int} (hc : ¬ capN c most <= most) (hd : c <= d) : capN c most = capN d most := by
 unfold capN at *
 split at hc
 ·omega
 ·rename_i h
  rw [if_neg h, if_neg (by omega)]
theorem many_c (x : Nd) : ∀ (ad : Option Addr) (ck : Nat) (most : Int) (w : World), 0 <= most -> most <= 1000000 -> KidsAt w (.slice ad x.kids.length ck) x.kids ->
  Calls Tryz.prog 16 #[ndV x (.slice ad x.kids.length ck), .int .i64 most] w fun e w' => e = .returned (.int .i64 (capN (x.count : Nat) most)) /\ Kept w w' := by
 refine Nd.ind (P := fun x => ∀ (ad : Option Addr) (ck : Nat) (most : Int) (w : World), 0 <= most -> most <= 1000000 -> KidsAt w (.slice ad x.kids.length ck) x.kids ->
  Calls Tryz.prog 16 #[ndV x (.slice ad x.kids.length ck), .int .i64 most] w fun e w' => e = .returned (.int .i64 (capN (x.count : Nat) most)) /\ Kept w w') (fun x ih ad ck most w h0 h1 hk => ?_) x
 obtain ⟨W1, hW1⟩ : ∃ W1, w.alloc (.cells #[.int .i64 x.kind, .string x.text, .string x.typ, .string x.frm, .int .i64 x.n, .slice ad x.kids.length ck] 24) = W1 := ⟨_, rfl⟩;have k1 := kpA hW1;have hb : Blk W1 w.heap.size 24 (ndC x (.slice ad x.kids.length ck)).toArray := by rw [<- hW1]; exact Blk.new _ _ _
 have hcap : x.kids.length <= maxLen := Row.len hk;have HCX := hid (Nd.count_eq x);obtain ⟨_, _, e0, _, _, hat⟩ := KidsD.kept hk k1;injection e0 with e1 e2 e3;subst e1 e3;clear e2;have HAT := hid hat;have HB := hid hb;have HIH := hid ih;have HW1 := hid hW1;have HK1 := hid k1;obtain ⟨l, hl⟩ : ∃ l, x.kids = l := ⟨_, rfl⟩;obtain ⟨C, hC⟩ : ∃ C : Nat, x.count = C := ⟨_, rfl⟩;rw [hC] at HCX ⊢;rw [hl] at HAT HB HIH HW1 HCX hcap ⊢;have HL := hid hl;clear hat hb ih hW1 k1 hk hl hC;unfold maxLen at hcap;go_enter Tryz.func16, Tryz.ntmps16;go_wp2_with fail;rw [HW1.o];go_loopw [5, 6] (fun m i wr => ∃ (k : Nat) (q : Int), m = .int .i64 q /\ i = .int .i64 k /\ k <= l.length /\ Hid (q = capN (1 + (Nd.countL (l.take k) : Nat)) most) /\ Kept W1 wr) (fun m i wr => l.length - (intOf i).toNat)
 case atStart => exact ⟨0, 1, rfl, rfl, Nat.zero_le _, hid (by unfold capN; rw [List.take_zero, Nd.countL_nil]; split <;> omega), Kept.refl _⟩
 case round =>
  obtain ⟨k, q, rfl, rfl, hkl, HQ, hkp⟩ := hrel;have hb := HB.o.kept hkp;have e5 := hb.cell 5;simp only [ndC, List.getElem?_toArray, List.getElem?_cons_zero, List.getElem?_cons_succ] at e5;have HK := hid hkp;have hq : 0 <= q /\ q <= most + 1 := by rw [HQ.o]; exact capN_le (by omega) h0
  by_cases hlt : k < l.length
  ·have hltI : (k : Int) < (l.length : Int) := by omega
   by_cases hm : q <= most
   ·have hx : l[k]? = some l[k] := List.getElem?_eq_getElem hlt;generalize hy : l[k] = y at hx;obtain ⟨b, o, rfl, hn⟩ := HAT.o k y hx;obtain ⟨ya, yc, ⟨n0, n1, n2, n3, n4, n5⟩, _, hyk, _⟩ := (hn.kept hkp).cells;have HC := hid (HIH.o y (List.mem_of_getElem? hx) ya yc (most - q) wr (by omega) (by omega) hyk);obtain ⟨v, hv⟩ : ∃ v, capN (y.count : Nat) (most - q) = v := ⟨_, rfl⟩;have hv2 : 0 <= v /\ v <= most + 1 := by have := capN_le (c := (y.count : Nat)) (most := most - q) (by omega) (by omega); omega
    rw [hv] at HC;have HQ2 := hid (show q + v = capN (1 + (Nd.countL (l.take (k + 1)) : Nat)) most by
     rw [List.take_add_one, hx, Nd.countL_app];simp only [Option.toList_some];rw [Nd.countL_cons, Nd.countL_nil, <- hv, HQ.o, capN_next (by rw [<- HQ.o]; exact hm) (by omega)]
     congr 1
     push_cast
     omega)
    clear hx hy hn hyk hkp hb hv;go_wp2_with fail;refine HC.o.mono ?_;rintro e w2 ⟨rfl, k2⟩;have HK2 := hid (HK.o.trans k2);clear k2;go_wp2_with fail;go_roundw
    case rel => exact ⟨k + 1, q + v, by go_num, by go_num, by omega, HQ2, HK2.o⟩
    case measure => simp [intOf]; omega
   ·have HE := hid (show q = capN (C : Nat) most by
     rw [HQ.o];refine capN_full (by rw [<- HQ.o]; exact hm) ?_;rw [HCX.o];have := Nd.countL_app (l.take k) (l.drop k);rw [List.take_append_drop] at this
     omega)
    clear hb hkp;go_wp2_with fail;go_ret;exact ⟨congrArg (fun z => Ending.returned (.int .i64 z)) HE.o, HK1.o.trans HK.o⟩
  ·obtain rfl : k = l.length := by omega
   have hltI : ¬ (l.length : Int) < (l.length : Int) := by omega
   have HE := hid (show q = capN (C : Nat) most by rw [HQ.o, HCX.o, List.take_length]; congr 1);clear hb hkp;go_wp2_with fail;go_ret;exact ⟨congrArg (fun z => Ending.returned (.int .i64 z)) HE.o, HK1.o.trans HK.o⟩
end Go.Proofs.YtegcgflhgfmkpaaGreatDoor
namespace Go.Proofs.YtegcgflhgfmkpaaGreatDoor
open Lib (hid)
open _root_.Go.Proofs.Tryz
open Go.ChangeShapes Go.WideShapes Go.ChangeAt Go.RowKit
def ownT (x : Nd) : Bool := decide (1100 < wrap64 (wrap64 ((x.text.size : Int) + x.typ.size) + x.frm.size))
def longT (x : Nd) : Bool := (x.all 0).any fun p => ownT p.2
def longTL (l : List Nd) : Bool := (Nd.allL l 0).any fun p => ownT p.2
theorem any_all (x : Nd) : ∀ a b, (x.all a).any (fun p => ownT p.2) = (x.all b).any fun p => ownT p.2 := by
 refine Nd.ind (P := fun x => ∀ a b, (x.all a).any (fun p => ownT p.2) = (x.all b).any fun p => ownT p.2) (fun x ih a b => ?_) x;rw [Nd.all_eq, Nd.all_eq, List.any_cons, List.any_cons]
 congr 1
 have : ∀ (l : List Nd) (a b : Nat), (∀ y ∈ l, ∀ a b, (y.all a).any (fun p => ownT p.2) = (y.all b).any fun p => ownT p.2) -> (Nd.allL l a).any (fun p => ownT p.2) = (Nd.allL l b).any fun p => ownT p.2 := by
  intro l
  induction l with
  | nil => intros; simp [Nd.allL_nil]
  | cons y r ihr =>
   intro a b h;rw [Nd.allL_cons, Nd.allL_cons, List.any_append, List.any_append, h y (by simp) a b, ihr a b (fun z hz => h z (List.mem_cons_of_mem _ hz))]
 exact this _ _ _ ih
theorem any_allL : ∀ (l : List Nd) (a : Nat), (Nd.allL l a).any (fun p => ownT p.2) = longTL l
 | [], a => by simp [longTL, Nd.allL_nil]
 | x :: r, a => by unfold longTL; rw [Nd.allL_cons, Nd.allL_cons, List.any_append, List.any_append, any_all x a 0, any_allL r a, longTL]
theorem longT_eq (x : Nd) : longT x = (ownT x || longTL x.kids) := by unfold longT; rw [Nd.all_eq, List.any_cons, any_allL]
theorem longTL_nil : longTL [] = false := by simp [longTL, Nd.allL_nil]
theorem longTL_cons (x : Nd) (r : List Nd) : longTL (x :: r) = (longT x || longTL r) := by unfold longTL longT; rw [Nd.allL_cons, List.any_append]
theorem longTL_app (l m : List Nd) : longTL (l ++ m) = (longTL l || longTL m) := by unfold longTL; rw [Nd.allL_app, List.any_append]
theorem longT_c (x : Nd) : ∀ (ad : Option Addr) (ck : Nat) (w : World), x.ok1 -> KidsAt w (.slice ad x.kids.length ck) x.kids ->
  Calls prog 17 #[ndV x (.slice ad x.kids.length ck)] w fun e w' => e = .returned (.bool (longT x)) /\ Kept w w' := by
 refine Nd.ind (P := fun x => ∀ (ad : Option Addr) (ck : Nat) (w : World), x.ok1 -> KidsAt w (.slice ad x.kids.length ck) x.kids ->
  Calls prog 17 #[ndV x (.slice ad x.kids.length ck)] w fun e w' => e = .returned (.bool (longT x)) /\ Kept w w') (fun x ih ad ck w hok hk => ?_) x
 obtain ⟨W1, hW1⟩ : ∃ W1, w.alloc (.cells #[.int .i64 x.kind, .string x.text, .string x.typ, .string x.frm, .int .i64 x.n, .slice ad x.kids.length ck] 24) = W1 := ⟨_, rfl⟩;have k1 := kpA hW1;have hb : Blk W1 w.heap.size 24 (ndC x (.slice ad x.kids.length ck)).toArray := by rw [<- hW1]; exact Blk.new _ _ _
 have hcap : x.kids.length <= maxLen := Row.len hk;obtain ⟨_, _, ht, hy, hf⟩ := hok;have HCX := hid (longT_eq x);obtain ⟨_, _, e0, _, _, hat⟩ := KidsD.kept hk k1;injection e0 with e1 e2 e3;subst e1 e3;clear e2;have HAT := hid hat;have HB := hid hb;have HIH := hid ih;have HW1 := hid hW1;have HK1 := hid k1;obtain ⟨l, hl⟩ : ∃ l, x.kids = l := ⟨_, rfl⟩;rw [hl] at HAT HB HIH HW1 HCX hcap ⊢;clear hat hb ih hW1 k1 hk hl;unfold maxLen at hcap ht hy hf;have e1 := HB.o.cell 1;have e2 := HB.o.cell 2;have e3 := HB.o.cell 3;simp only [ndC, List.getElem?_toArray, List.getElem?_cons_zero, List.getElem?_cons_succ] at e1 e2 e3;by_cases hown : 1100 < wrap64 (wrap64 ((x.text.size : Int) + x.typ.size) + x.frm.size)
 ·have HV := hid (show longT x = true by rw [HCX.o]; unfold ownT; rw [decide_eq_true hown]; rfl);have hI : (1100 : Int) < wrap64 (wrap64 ((x.text.size : Int) + x.typ.size) + x.frm.size) := hown;clear hown;go_enter func17, ntmps17;go_wp2_with (first | rw [HW1.o]);go_ret;exact ⟨by rw [HV.o]; rfl, HK1.o⟩
 ·have HV := hid (show longT x = longTL l by rw [HCX.o]; unfold ownT; rw [decide_eq_false hown]; rfl);have hI : wrap64 (wrap64 ((x.text.size : Int) + x.typ.size) + x.frm.size) <= 1100 := by omega
  clear hown;go_enter func17, ntmps17;go_wp2_with (first | rw [HW1.o]);go_loopw [3] (fun i wr => ∃ (k : Nat), i = .int .i64 k /\ k <= l.length /\ Hid (longTL (l.take k) = false) /\ Kept W1 wr) (fun i wr => l.length - (intOf i).toNat)
  case atStart => exact ⟨0, rfl, Nat.zero_le _, hid (by rw [List.take_zero]; exact longTL_nil), Kept.refl _⟩
  case round =>
   obtain ⟨k, rfl, hkl, HQ, hkp⟩ := hrel;have hb := HB.o.kept hkp;have e5 := hb.cell 5;simp only [ndC, List.getElem?_toArray, List.getElem?_cons_zero, List.getElem?_cons_succ] at e5;have HK := hid hkp;clear hb;by_cases hlt : k < l.length
   ·have hltI : (k : Int) < (l.length : Int) := by omega
    have hx : l[k]? = some l[k] := List.getElem?_eq_getElem hlt;generalize hy : l[k] = y at hx;obtain ⟨b, o, rfl, hn⟩ := HAT.o k y hx;obtain ⟨ya, yc, ⟨n0, n1, n2, n3, n4, n5⟩, hyok, hyk, _⟩ := (hn.kept hkp).cells;have HC := hid (HIH.o y (List.mem_of_getElem? hx) ya yc wr hyok hyk);have HX := hid hx;clear hx hy hn hyk hkp hyok
    cases hv : longT y with
    | true =>
     rw [hv] at HC;have HR := hid (show longT x = true by
      rw [HV.o, <- List.take_append_drop (k + 1) l, longTL_app, List.take_add_one, HX.o, longTL_app];simp only [Option.toList_some];rw [longTL_cons, hv]
      simp)
     clear hv;go_wp2_with fail;refine HC.o.mono ?_;rintro e w2 ⟨rfl, k2⟩;have HK2 := hid (HK.o.trans k2);clear k2;go_wp2_with fail;go_ret;exact ⟨by rw [HR.o]; rfl, HK1.o.trans HK2.o⟩
    | false =>
     rw [hv] at HC;have HR := hid (show longTL (l.take (k + 1)) = false by
      rw [List.take_add_one, HX.o, longTL_app];simp only [Option.toList_some];rw [longTL_cons, hv, longTL_nil, HQ.o]
      rfl)
     clear hv;go_wp2_with fail;refine HC.o.mono ?_;rintro e w2 ⟨rfl, k2⟩;have HK2 := hid (HK.o.trans k2);clear k2;go_wp2_with fail;go_roundw
     case rel => exact ⟨k + 1, by go_num, by omega, HR, HK2.o⟩
     case measure => simp [intOf]; omega
   ·obtain rfl : k = l.length := by omega
    have hltI : ¬ (l.length : Int) < (l.length : Int) := by omega
    have HE := hid (show longT x = false by have := HQ.o; rw [List.take_length] at this; rw [HV.o, this]);clear hkp;go_wp2_with fail;go_ret;exact ⟨by rw [HE.o]; rfl, HK1.o.trans HK.o⟩
def longN (x : Nd) : Bool := decide (300 < x.count) || longT x
theorem longN_c (x : Nd) (ad : Option Addr) (ck : Nat) (w : World) (hok : x.ok1) (hk : KidsAt w (.slice ad x.kids.length ck) x.kids) :
  Calls prog 5 #[ndV x (.slice ad x.kids.length ck)] w fun e w' => e = .returned (.bool (longN x)) /\ Kept w w' := by
 obtain ⟨W1, hW1⟩ : ∃ W1, w.alloc (.cells #[.int .i64 x.kind, .string x.text, .string x.typ, .string x.frm, .int .i64 x.n, .slice ad x.kids.length ck] 24) = W1 := ⟨_, rfl⟩;have k1 := kpA hW1;have hb : Blk W1 w.heap.size 24 (ndC x (.slice ad x.kids.length ck)).toArray := by rw [<- hW1]; exact Blk.new _ _ _
 have HB := hid hb;have HC := hid (many_c x ad ck 300 W1 (by decide) (by decide) (KidsD.kept hk k1));have HL := hid (fun W (k : Kept w W) => longT_c x ad ck W hok (KidsD.kept hk k));have HW1 := hid hW1;have HK1 := hid k1;have a0 := HB.o.cell 0;have a1 := HB.o.cell 1;have a2 := HB.o.cell 2;have a3 := HB.o.cell 3;have a4 := HB.o.cell 4;have a5 := HB.o.cell 5;simp only [ndC, List.getElem?_toArray, List.getElem?_cons_zero, List.getElem?_cons_succ] at a0 a1 a2 a3 a4 a5;clear hW1 k1 hb hk hok;obtain ⟨c, hc⟩ : ∃ c, capN (x.count : Nat) 300 = c := ⟨_, rfl⟩;rw [hc] at HC;by_cases hbig : 300 < x.count
 ·have hgt : c > 300 := by rw [<- hc]; unfold capN; rw [if_neg (by omega)]; omega
  have HV := hid (show longN x = true by unfold longN; rw [decide_eq_true hbig]; rfl);clear hbig hc;go_enter func5, ntmps5;go_wp2_with (rw [HW1.o]);refine HC.o.mono ?_;rintro e w2 ⟨rfl, k2⟩;have HK2 := hid (HK1.o.trans k2);clear k2 a0 a1 a2 a3 a4 a5;go_wp2_with fail;go_ret;exact ⟨by rw [HV.o]; rfl, HK2.o⟩
 ·have hgt : ¬ c > 300 := by rw [<- hc]; unfold capN; rw [if_pos (by omega)]; omega
  have HV := hid (show (decide (300 < c) || longT x) = longN x by unfold longN; rw [decide_eq_false hbig, decide_eq_false (by omega : ¬ (300 : Int) < c)]);clear hbig hc;go_enter func5, ntmps5;go_wp2_with (rw [HW1.o]);refine HC.o.mono ?_;rintro e w2 ⟨rfl, k2⟩;have HK2 := hid (HK1.o.trans k2);replace a0 := k2.cell a0;replace a1 := k2.cell a1;replace a2 := k2.cell a2;replace a3 := k2.cell a3;replace a4 := k2.cell a4;replace a5 := k2.cell a5;clear k2;go_wp2_with fail;refine (HL.o w2 HK2.o).mono ?_;rintro e w3 ⟨rfl, k3⟩;have HK3 := hid (HK2.o.trans k3);clear k3 a0 a1 a2 a3 a4 a5;go_wp2_with fail;go_ret;exact ⟨congrArg (fun z => Ending.returned (.bool z)) HV.o, HK3.o⟩
end Go.Proofs.YtegcgflhgfmkpaaGreatDoor
