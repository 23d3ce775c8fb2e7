/- Texts. -/
import Derived.Test.YtegcgflhgfmkpaaGreatDoorUTkm
import Derived.Test.YtegcgflhgfmkpaaGreatDoorUw0
import Derived.Test.YtegcgflhgfmkpaaGreatDoorUw30
import Derived.Test.YtegcgflhgfmkpaaGreatDoorUw32
import Derived.Test.YtegcgflhgfmkpaaGreatDoorUw6
import Derived.Test.YtegcgflhgfmkpaaGreatDoorUw29
set_option linter.unusedSimpArgs false
set_option linter.unusedVariables false
set_option maxRecDepth 100000
set_option maxHeartbeats 16000000
namespace Go.Proofs.YtegcgflhgfmkpaaGreatDoor
open Lib (hid)
open Go.ChangeShapes Go.WideShapes Go.ChangeAt Go.RowKit Go.Shelf
attribute [local go_sem] Oper.semAt_some
theorem sameN_c (x : Nd) : ∀ (ad : Option Addr) (ck : Nat) (bd : Option Addr) (dk : Nat) (w : World), KidsAt w (.slice ad x.kids.length ck) x.kids -> KidsAt w (.slice bd x.kids.length dk) x.kids ->
  Calls Tryz.prog 25 #[ndV x (.slice ad x.kids.length ck), ndV x (.slice bd x.kids.length dk)] w fun e w' => e = .returned (.bool true) /\ Kept w w' := by
 refine Nd.ind (P := fun x => ∀ (ad : Option Addr) (ck : Nat) (bd : Option Addr) (dk : Nat) (w : World), KidsAt w (.slice ad x.kids.length ck) x.kids -> KidsAt w (.slice bd x.kids.length dk) x.kids ->
  Calls Tryz.prog 25 #[ndV x (.slice ad x.kids.length ck), ndV x (.slice bd x.kids.length dk)] w fun e w' => e = .returned (.bool true) /\ Kept w w') (fun x ih ad ck bd dk w hk hk2 => ?_) x
 obtain ⟨W1, hW1⟩ : ∃ W1, (w.alloc (.cells #[.int .i64 x.kind, .string x.text, .string x.typ, .string x.frm, .int .i64 x.n, .slice ad x.kids.length ck] 24)).alloc (.cells #[.int .i64 x.kind, .string x.text, .string x.typ, .string x.frm, .int .i64 x.n, .slice bd x.kids.length dk] 24) = W1 := ⟨_, rfl⟩;have k1 : Kept w W1 := by rw [<- hW1]; exact ((Kept.refl w).alloc _).alloc _
 have ha : Blk W1 w.heap.size 24 (ndC x (.slice ad x.kids.length ck)).toArray := by rw [<- hW1]; exact (Blk.new _ _ _).alloc _
 have hb : Blk W1 (w.heap.size + 1) 24 (ndC x (.slice bd x.kids.length dk)).toArray := by rw [<- hW1]; exact Blk.at (by simp)
 have hcap : x.kids.length <= maxLen := Row.len hk;obtain ⟨_, _, e0, _, _, hat⟩ := KidsD.kept hk k1;injection e0 with e1 e2 e3;subst e1 e3;clear e2;obtain ⟨_, _, e0, _, _, hbt⟩ := KidsD.kept hk2 k1;injection e0 with e1 e2 e3;subst e1 e3;clear e2;have HAT := hid hat;have HBT := hid hbt;have HA := hid ha;have HB := hid hb;have HIH := hid ih;have HW1 := hid hW1;have HK1 := hid k1;obtain ⟨l, hl⟩ : ∃ l, x.kids = l := ⟨_, rfl⟩;rw [hl] at HAT HBT HA HB HIH HW1 hcap ⊢;have a0 := HA.o.cell 0;have a1 := HA.o.cell 1;have a2 := HA.o.cell 2;have a3 := HA.o.cell 3;have a4 := HA.o.cell 4;have a5 := HA.o.cell 5;have b0 := HB.o.cell 0;have b1 := HB.o.cell 1;have b2 := HB.o.cell 2;have b3 := HB.o.cell 3;have b4 := HB.o.cell 4;have b5 := HB.o.cell 5;simp only [ndC, List.getElem?_toArray, List.getElem?_cons_zero, List.getElem?_cons_succ] at a0 a1 a2 a3 a4 a5 b0 b1 b2 b3 b4 b5;clear hat hbt ha hb ih hW1 k1 hk hk2 hl;unfold maxLen at hcap;go_enter Tryz.func25, Tryz.ntmps25;go_wp2_with (rw [HW1.o]);clear a0 a1 a2 a3 a4 a5 b0 b1 b2 b3 b4 b5;go_loopw [5] (fun i wr => ∃ k : Nat, i = .int .i64 k /\ k <= l.length /\ Kept W1 wr) (fun i wr => l.length - (intOf i).toNat)
 case atStart => exact ⟨0, rfl, Nat.zero_le _, Kept.refl _⟩
 case round =>
  obtain ⟨k, rfl, hkl, hkp⟩ := hrel;have a5 := (HA.o.kept hkp).cell 5;have b5 := (HB.o.kept hkp).cell 5;simp only [ndC, List.getElem?_toArray, List.getElem?_cons_zero, List.getElem?_cons_succ] at a5 b5;have HK := hid hkp;by_cases hlt : k < l.length
  ·have hltI : (k : Int) < (l.length : Int) := by omega
   have hx : l[k]? = some l[k] := List.getElem?_eq_getElem hlt;generalize hy : l[k] = y at hx;obtain ⟨b, o, rfl, hn⟩ := HAT.o k y hx;obtain ⟨b', o', rfl, hn'⟩ := HBT.o k y hx;obtain ⟨ya, yc, ⟨n0, n1, n2, n3, n4, n5⟩, _, hyk, _⟩ := (hn.kept hkp).cells;obtain ⟨za, zc, ⟨m0, m1, m2, m3, m4, m5⟩, _, hzk, _⟩ := (hn'.kept hkp).cells;have HC := hid (fun W (k2 : Kept wr W) => HIH.o y (List.mem_of_getElem? hx) ya yc za zc W (KidsD.kept hyk k2) (KidsD.kept hzk k2));clear hx hy hn hn' hyk hzk hkp;have HH := hid (show ∀ W, Kept wr W -> (fun W => W.cell? ⟨w.heap.size, 5, none⟩ = some (.slice (some ⟨b, o, none⟩) l.length ck) /\ W.cell? ⟨w.heap.size + 1, 5, none⟩ = some (.slice (some ⟨b', o', none⟩) l.length dk) /\
    W.cell? ⟨b, o + k * 6, none⟩ = some (.int .i64 y.kind) /\ W.cell? ⟨b, o + k * 6 + 1, none⟩ = some (.string y.text) /\ W.cell? ⟨b, o + k * 6 + 2, none⟩ = some (.string y.typ) /\ W.cell? ⟨b, o + k * 6 + 3, none⟩ = some (.string y.frm) /\ W.cell? ⟨b, o + k * 6 + 4, none⟩ = some (.int .i64 y.n) /\ W.cell? ⟨b, o + k * 6 + 5, none⟩ = some (.slice ya y.kids.length yc) /\
    W.cell? ⟨b', o' + k * 6, none⟩ = some (.int .i64 y.kind) /\ W.cell? ⟨b', o' + k * 6 + 1, none⟩ = some (.string y.text) /\ W.cell? ⟨b', o' + k * 6 + 2, none⟩ = some (.string y.typ) /\ W.cell? ⟨b', o' + k * 6 + 3, none⟩ = some (.string y.frm) /\ W.cell? ⟨b', o' + k * 6 + 4, none⟩ = some (.int .i64 y.n) /\ W.cell? ⟨b', o' + k * 6 + 5, none⟩ = some (.slice za y.kids.length zc) /\ Kept wr W) W
    from fun W k => ⟨k.cell a5, k.cell b5, k.cell n0, k.cell n1, k.cell n2, k.cell n3, k.cell n4, k.cell n5, k.cell m0, k.cell m1, k.cell m2, k.cell m3, k.cell m4, k.cell m5, k⟩)
   have hz : (k : Int).toNat = k := by simp
   go_wp2_with fail;refine wp_region_held_drew (S := fun W => W.cell? ⟨w.heap.size, 5, none⟩ = some (.slice (some ⟨b, o, none⟩) l.length ck) /\ W.cell? ⟨w.heap.size + 1, 5, none⟩ = some (.slice (some ⟨b', o', none⟩) l.length dk) /\
    W.cell? ⟨b, o + k * 6, none⟩ = some (.int .i64 y.kind) /\ W.cell? ⟨b, o + k * 6 + 1, none⟩ = some (.string y.text) /\ W.cell? ⟨b, o + k * 6 + 2, none⟩ = some (.string y.typ) /\ W.cell? ⟨b, o + k * 6 + 3, none⟩ = some (.string y.frm) /\ W.cell? ⟨b, o + k * 6 + 4, none⟩ = some (.int .i64 y.n) /\ W.cell? ⟨b, o + k * 6 + 5, none⟩ = some (.slice ya y.kids.length yc) /\
    W.cell? ⟨b', o' + k * 6, none⟩ = some (.int .i64 y.kind) /\ W.cell? ⟨b', o' + k * 6 + 1, none⟩ = some (.string y.text) /\ W.cell? ⟨b', o' + k * 6 + 2, none⟩ = some (.string y.typ) /\ W.cell? ⟨b', o' + k * 6 + 3, none⟩ = some (.string y.frm) /\ W.cell? ⟨b', o' + k * 6 + 4, none⟩ = some (.int .i64 y.n) /\ W.cell? ⟨b', o' + k * 6 + 5, none⟩ = some (.slice za y.kids.length zc) /\ Kept wr W) (by kernel_rfl) (HH.o _ (Kept.refl wr).drew) (fun hHeld0 => ?_)
   clear a5 b5 n0 n1 n2 n3 n4 n5 m0 m1 m2 m3 m4 m5;refine nkH 0 ?_;refine nkH 1 ?_;refine nkH 2 ?_;refine nkH 3 ?_;refine nkH 4 ?_;refine nkH 5 ?_;refine nkH 6 ?_;refine nkH 7 ?_;refine nkH 8 ?_;refine nkH 9 ?_;refine r1H 10 (fun K hK => ?_);go_simp;go_at_call 25
   refine (HC.o _ (Kept.refl wr).drew).mono ?_;rintro e w2 ⟨rfl, k2⟩;replace k2 := hid ((Kept.refl wr).drew.trans k2);refine hK.out _ _ (HH.o _ k2.out) (fun hHeld1 => ?_);clear hK K;clear hHeld0;refine nkH 11 ?_;refine wpAnyH_done (by kernel_rfl) ?_ _;go_wp2_with fail;go_roundw
   case rel => exact ⟨k + 1, by go_num, by omega, HK.o.trans k2.out⟩
   case measure => simp [intOf]; omega
  ·obtain rfl : k = l.length := by omega
   have hltI : ¬ (l.length : Int) < (l.length : Int) := by omega
   clear hkp;go_wp2_with fail;go_ret;exact ⟨rfl, HK1.o.trans HK.o⟩
end Go.Proofs.YtegcgflhgfmkpaaGreatDoor
namespace Go.Proofs.YtegcgflhgfmkpaaGreatDoor
open Ps (O En AlN Al1 is mem)
theorem chkF_zero : ∀ (l : List (Nat × Nd)) (k : Nat), (chkF k l).1 = 0 -> chkF k l = (0, 0)
 | [], k, _ => rfl
 | p :: r, k, h => by
  rw [chkF] at h ⊢
  split at h
  ·cases h
  ·rename_i h1
   rw [if_neg h1]
   split at h
   ·rename_i h2; exact absurd h h2
   ·rename_i h2
    rw [if_neg h2];exact chkF_zero r _ h
theorem check_zero {x : Nd} (h : (checkE x).1 = 0) : checkE x = (0, 0) := by
 unfold checkE at h ⊢
 split at h
 ·rename_i h1; exact absurd h h1
 ·rename_i h1
  rw [if_neg h1];exact chkF_zero _ _ h
theorem par_make {l : List UInt8} {L : List Lx.T} {x : Nd} (h : Lx.lex l = (L, 0, 0)) (h1 : Ps.whole (L ++ [Ps.theEndT (l.length : Int)]) = .ok x []) (hc : (checkE x).1 = 0) : parseP l = .tree x := by
 unfold parseP parseT;rw [h]
 show (if (0 : Int) = 0 then (match Ps.whole (L ++ [Ps.theEndT (l.length : Int)]) with
  | .bad q => PR.fault 5 q
  | .ok x _ => if (checkE x).1 = 0 then .tree x else .fault (checkE x).1 0) else .fault 0 0) = .tree x
 rw [if_pos rfl, h1]
 show (if (checkE x).1 = 0 then PR.tree x else .fault (checkE x).1 0) = .tree x
 rw [if_pos hc]
theorem AlN.app : ∀ (a a' b b' : List Lx.T) (m : Nat), a.length = a'.length -> AlN a.length a a' -> AlN m b b' -> AlN (a.length + m) (a ++ b) (a' ++ b')
 | [], [], b, b', m, _, _, h => by rw [show ([] : List Lx.T).length + m = m by simp]; exact h
 | t :: r, t' :: r', b, b', m, e, h1, h2 => by
  rw [show (t :: r).length + m = (r.length + m) + 1 by simp; omega];exact ⟨h1.1, AlN.app r r' b b' m (by simpa using e) h1.2 h2⟩
 | [], _ :: _, _, _, _, e, _, _ => by simp at e
 | _ :: _, [], _, _, _, e, _, _ => by simp at e
theorem aln_placed : ∀ (p : Nat) (r : List Lx.T), AlN r.length r (Lx.placed p r)
 | _, [] => trivial
 | p, x :: r => ⟨⟨rfl, rfl, rfl⟩, aln_placed _ r⟩
theorem aln_end (n m : Int) : AlN 1 [Ps.theEndT n] [Ps.theEndT m] := ⟨⟨rfl, rfl, rfl⟩, trivial⟩
theorem whole_like {a a' : List Lx.T} {n m : Int} {x : Nd} (hl : a.length = a'.length) (h : AlN a.length a a') (hw : Ps.whole (a ++ [Ps.theEndT n]) = .ok x []) : Ps.whole (a' ++ [Ps.theEndT m]) = .ok x [] := by
 have hA := AlN.app a a' _ _ 1 hl h (aln_end n m);rcases Ps.whole_d (l' := a' ++ [Ps.theEndT m]) (show En (a ++ [Ps.theEndT n]) from ⟨_, _, rfl, rfl⟩) with ⟨y, h1, h2⟩ | ⟨i, _, h1, _⟩
 ·rw [hw] at h1;injection h1 with h1;subst h1;exact h2 (by rw [List.length_append]; exact hA)
 ·rw [hw] at h1; cases h1
theorem join_par {L : List Lx.T} {n : Int} {x : Nd} (hx : ∀ t ∈ L, Lx.isTok t = true) (hl : (Lx.joinB L).length <= 20000) (hw : Ps.whole (L ++ [Ps.theEndT n]) = .ok x []) (hc : (checkE x).1 = 0) : parseP (Lx.joinB L) = .tree x :=
 par_make (Lx.joined_lex hx hl) (whole_like (Lx.placed_len 0 L).symm (aln_placed 0 L) hw) hc
end Go.Proofs.YtegcgflhgfmkpaaGreatDoor
namespace Go.Proofs.YtegcgflhgfmkpaaGreatDoor
open Ps (O En AlN Al1 is mem kDot kOpen kShut kEq kComma kSemi kLeft kRight kColon kAny)
theorem chkF_all : ∀ (l : List (Nat × Nd)) (k : Nat), (chkF k l).1 = 0 -> ∀ p ∈ l, nodeE p.2 = 0
 | [], _, _, p, hp => by cases hp
 | q :: r, k, h, p, hp => by
  rw [chkF] at h
  split at h
  ·cases h
  ·split at h
   ·rename_i h2; exact absurd h h2
   ·rename_i h2
    rcases List.mem_cons.1 hp with rfl | hp
    ·simpa using h2
    ·exact chkF_all r _ h p hp
theorem mem_allL {y : Nd} : ∀ {l : List Nd} {a : Nat} {p : Nat × Nd}, y ∈ l -> p ∈ y.all a -> p ∈ Nd.allL l a
 | x :: r, a, p, hy, hp => by
  rw [Nd.allL_cons, List.mem_append];rcases List.mem_cons.1 hy with rfl | hy
  ·exact .inl hp
  ·exact .inr (mem_allL hy hp)
theorem wf_all (x : Nd) : ∀ a, (∀ p ∈ x.all a, nodeE p.2 = 0) -> Wf x := by
 refine Nd.ind (P := fun x => ∀ a, (∀ p ∈ x.all a, nodeE p.2 = 0) -> Wf x) (fun x ih a h => ?_) x;rw [Nd.all_eq] at h;exact .mk x (node_sh (h (a, x) (by simp))) fun y hy => ih y hy (a + 1) fun p hp => h p (List.mem_cons_of_mem _ (mem_allL hy hp))
theorem check_wf {x : Nd} (h : (checkE x).1 = 0) : Wf x /\ x.kind = 1 /\ x.count <= 5000 := by
 unfold checkE at h
 split at h
 ·rename_i h1; exact absurd h h1
 ·rename_i h1
  refine ⟨wf_all x 0 (chkF_all _ _ h), ?_, ?_⟩
  ·rw [Nd.all_eq, chkF] at h
   split at h
   ·cases h
   ·rename_i h2
    exact Decidable.byContradiction fun hc => h2 ⟨rfl, hc⟩
  ·unfold sizeE at h1
   split at h1
   ·exact absurd (show ((12 : Int), (0 : Int)).1 ≠ 0 by decide) h1
   ·omega
namespace Pr
open Lx (spl isTok)
def All (l : List T) : Prop := ∀ t ∈ l, isTok t = true
theorem all_nil : All [] := fun t h => by cases h
theorem all_cons {t : T} {l : List T} (h : isTok t = true) (k : All l) : All (t :: l) := fun u hu => by
 rcases List.mem_cons.1 hu with rfl | hu
 ·exact h
 ·exact k u hu
theorem all_app {l m : List T} (h : All l) (k : All m) : All (l ++ m) := fun u hu => by
 rcases List.mem_append.1 hu with hu | hu
 ·exact h u hu
 ·exact k u hu
theorem sg_ok {x : ByteArray} (h : x ∈ Lx.sw) : isTok (sgn x) = true := Lx.isTok_sgns x h
theorem ky_ok {x : ByteArray} (h : x ∈ Wrd.ws) : isTok (key x) = true := Lx.isTok_keys x h
theorem nm_ok {x : ByteArray} (h : Wrd.name x = true) : isTok (nam x) = true := Lx.isTok_name h
theorem cl_ok {x : ByteArray} (h : Wrd.cls x = true) : isTok (tk 2 x 0) = true := Lx.isTok_cls h
theorem ty_ok {y : ByteArray} (h : Wrd.typ y = true) : isTok (typT y) = true := by
 rcases typ_three h with hb | rfl | hc
 ·have : typT y = key y := by unfold typT; rw [hb, if_pos rfl]
  rw [this];unfold isBase at hb;simp only [Bool.or_eq_true, decide_eq_true_eq] at hb;rcases hb with (((rfl | rfl) | rfl) | rfl) | rfl <;> exact ky_ok (by simp [Wrd.ws, Nd.text])
 ·exact sg_ok (by simp [Lx.sw, Nd.text])
 ·rw [typT_cls hc]; exact cl_ok hc
theorem tc_ok {y : ByteArray} (h : Wrd.cls y = true) : isTok (typT y) = true := by rw [typT_cls h]; exact cl_ok h
theorem ann_ok {y om : ByteArray} (h : y = om ∨ isTok (typT y) = true) : All (ann y om) := by
 unfold ann;by_cases hy : y = om
 ·rw [if_pos hy]; exact all_nil
 ·rw [if_neg hy];exact all_cons (sg_ok (by simp [Lx.sw, Nd.text])) (all_cons (h.resolve_left hy) all_nil)
theorem sep_ok {s : List T} (hs : All s) : ∀ {l : List Kd}, (∀ p ∈ l, All p.2) -> All (sep s l)
 | [], _ => all_nil
 | [p], h => h p (by simp)
 | p :: q :: r, h => all_app (all_app (h p (by simp)) hs) (sep_ok hs (l := q :: r) fun z hz => h z (List.mem_cons_of_mem _ hz))
theorem brk_ok {l : List Kd} (h : ∀ p ∈ l, All p.2) : All (brk l) := all_app (all_cons (sg_ok (by simp [Lx.sw, Nd.text])) (sep_ok (all_cons (sg_ok (by simp [Lx.sw, Nd.text])) all_nil) h)) (all_cons (sg_ok (by simp [Lx.sw, Nd.text])) all_nil)
theorem at_ok {i : Int} {p : Kd} (h : All p.2) : All (at1 i p) := by
 unfold at1
 split
 ·exact all_app (all_cons (sg_ok (by simp [Lx.sw, Nd.text])) h) (all_cons (sg_ok (by simp [Lx.sw, Nd.text])) all_nil)
 ·exact h
theorem ct_ok {t : ByteArray} (h : contsB t = true) (hs : t.size <= 1000) : isTok (tk 6 t 0) = true := by
 refine Lx.isTok_str (fun c hc => ?_) hs;unfold contsB at h;exact List.all_eq_true.1 h c hc
theorem op_in {t : ByteArray} (h : hasW wBin t = true) : t ∈ Lx.sw := by
 have h : Wrd.has (Wrd.flds wBin) t = true := h;rw [flds_bin] at h;unfold Wrd.has at h;simp only [List.any_cons, List.any_nil, Bool.or_eq_true, decide_eq_true_eq, Bool.or_false] at h;rcases h with rfl | rfl | rfl | rfl | rfl | rfl | rfl | rfl | rfl | rfl | rfl <;> simp [Lx.sw, Nd.text]
theorem toks_ok (x : Nd) : Wf x -> All (toks x) := by
 refine Nd.ind (P := fun x => Wf x -> All (toks x)) (fun x ih hw => ?_) x;have hk : ∀ y ∈ x.kids, All (toks y) := fun y hy => ih y hy (hw.kid hy);have hs := hw.sh;clear ih hw;have hm : ∀ l : List Nd, (∀ y ∈ l, All (toks y)) -> ∀ p ∈ l.map kdN, All p.2 := by
  intro l hl p hp;obtain ⟨y, hy, rfl⟩ := List.mem_map.1 hp;exact hl y hy
 rw [toks_eq]
 cases hs with
 | prog cs b h1 h2 =>
  show All (sep [] ((cs ++ [b]).map kdN).dropLast ++ key ⟨#[109, 97, 105, 110]⟩ :: (lastK ((cs ++ [b]).map kdN)).2)
  rw [List.map_append, List.map_cons, List.map_nil, List.dropLast_concat, lastK, List.getLastD_concat];exact all_app (sep_ok all_nil (hm cs fun y hy => hk y (by simp [Nd.kids, hy]))) (all_cons (ky_ok (by simp [Wrd.ws, Nd.text])) (hk b (by simp [Nd.kids])))
 | clas t y fs ms ht hy h1 h2 => exact all_app (all_app (all_cons (ky_ok (by simp [Wrd.ws, Nd.text])) (all_cons (tc_ok ht) (ann_ok (hy.imp id tc_ok)))) (all_cons (sg_ok (by simp [Lx.sw, Nd.text])) (sep_ok all_nil (hm _ hk)))) (all_cons (sg_ok (by simp [Lx.sw, Nd.text])) all_nil)
 | field t y ht hy => exact all_app (all_cons (ky_ok (by simp [Wrd.ws, Nd.text])) (all_cons (nm_ok ht) (ann_ok (.inr (ty_ok hy))))) (all_cons (sg_ok (by simp [Lx.sw, Nd.text])) all_nil)
 | method t y ps b ht hy h1 h2 =>
  show All (key ⟨#[100, 101, 102]⟩ :: nam t :: brk ((ps ++ [b]).map kdN).dropLast ++ ann y kAny ++ (lastK ((ps ++ [b]).map kdN)).2)
  rw [List.map_append, List.map_cons, List.map_nil, List.dropLast_concat, lastK, List.getLastD_concat];exact all_app (all_app (all_cons (ky_ok (by simp [Wrd.ws, Nd.text])) (all_cons (nm_ok ht) (brk_ok (hm ps fun y hy => hk y (by simp [Nd.kids, hy]))))) (ann_ok (.inr (ty_ok hy)))) (hk b (by simp [Nd.kids]))
 | param t y ht hy => exact all_cons (nm_ok ht) (ann_ok (.inr (ty_ok hy)))
 | block l h => exact all_app (all_cons (sg_ok (by simp [Lx.sw, Nd.text])) (sep_ok (all_cons (sg_ok (by simp [Lx.sw, Nd.text])) all_nil) (hm _ hk))) (all_cons (sg_ok (by simp [Lx.sw, Nd.text])) all_nil)
 | int n h => exact all_cons (Lx.isTok_int h) all_nil
 | real n h => exact all_cons (Lx.isTok_real h) all_nil
 | noNum t h => rcases h with rfl | rfl <;> exact all_cons (ky_ok (by simp [Wrd.ws, Nd.text])) all_nil
 | bool n h => rcases h with rfl | rfl <;> exact all_cons (ky_ok (by simp [Wrd.ws, Nd.text])) all_nil
 | str t h hs => exact all_cons (ct_ok h hs) all_nil
 | unit => exact brk_ok (fun p hp => by cases hp)
 | none y hy => exact all_cons (ky_ok (by simp [Wrd.ws, Nd.text])) (all_cons (tc_ok hy) all_nil)
 | this => exact all_cons (ky_ok (by simp [Wrd.ws, Nd.text])) all_nil
 | var t ht => exact all_cons (nm_ok ht) all_nil
 | let_ t y a ht hy h => exact all_app (all_cons (ky_ok (by simp [Wrd.ws, Nd.text])) (all_cons (nm_ok ht) (ann_ok (.inr (ty_ok hy))))) (all_cons (sg_ok (by simp [Lx.sw, Nd.text])) (hk a (by simp [Nd.kids])))
 | set t a ht h => exact all_cons (nm_ok ht) (all_cons (sg_ok (by simp [Lx.sw, Nd.text])) (hk a (by simp [Nd.kids])))
 | get t a ht h => exact all_app (at_ok (hk a (by simp [Nd.kids]))) (all_cons (sg_ok (by simp [Lx.sw, Nd.text])) (all_cons (nm_ok ht) all_nil))
 | put t a b ht h h2 => exact all_app (at_ok (hk a (by simp [Nd.kids]))) (all_cons (sg_ok (by simp [Lx.sw, Nd.text])) (all_cons (nm_ok ht) (all_cons (sg_ok (by simp [Lx.sw, Nd.text])) (hk b (by simp [Nd.kids])))))
 | call t a l ht h hl => exact all_app (at_ok (hk a (by simp [Nd.kids]))) (all_cons (sg_ok (by simp [Lx.sw, Nd.text])) (all_cons (nm_ok ht) (brk_ok (hm l fun y hy => hk y (by simp [Nd.kids, hy])))))
 | super t l ht hl => exact all_cons (ky_ok (by simp [Wrd.ws, Nd.text])) (all_cons (sg_ok (by simp [Lx.sw, Nd.text])) (all_cons (nm_ok ht) (brk_ok (hm _ hk))))
 | new y l hy hl => exact all_cons (ky_ok (by simp [Wrd.ws, Nd.text])) (all_cons (tc_ok hy) (brk_ok (hm _ hk)))
 | cond a b c h h1 h2 => exact all_app (all_app (all_cons (ky_ok (by simp [Wrd.ws, Nd.text])) (hk a (by simp [Nd.kids]))) (hk b (by simp [Nd.kids]))) (all_cons (ky_ok (by simp [Wrd.ws, Nd.text])) (hk c (by simp [Nd.kids])))
 | loop a b h h1 => exact all_cons (ky_ok (by simp [Wrd.ws, Nd.text])) (sep_ok all_nil (hm _ hk))
 | un t a ht h => exact all_cons (sg_ok (by rcases ht with rfl | rfl <;> simp [Lx.sw, Nd.text])) (at_ok (hk a (by simp [Nd.kids])))
 | bin t a b ht h h2 => exact all_app (at_ok (hk a (by simp [Nd.kids]))) (all_cons (sg_ok (op_in ht)) (at_ok (hk b (by simp [Nd.kids]))))
 | read => exact all_cons (ky_ok (by simp [Wrd.ws, Nd.text])) (brk_ok (fun p hp => by cases hp))
 | print a h => exact all_cons (ky_ok (by simp [Wrd.ws, Nd.text])) (brk_ok (hm _ hk))
 | as_ y a hy h => exact all_app (all_cons (sg_ok (by simp [Lx.sw, Nd.text])) (hk a (by simp [Nd.kids]))) (all_cons (sg_ok (by simp [Lx.sw, Nd.text])) (all_cons (ty_ok hy) (all_cons (sg_ok (by simp [Lx.sw, Nd.text])) all_nil)))
 | conv t a ht h => exact all_cons (ky_ok (by rcases ht with rfl | rfl | rfl <;> simp [Wrd.ws, Nd.text])) (brk_ok (hm _ hk))
theorem back_par {x : Nd} (hc : (checkE x).1 = 0) (hl : (Lx.joinB (toks x)).length <= 20000) : parseP (Lx.joinB (toks x)) = .tree x := by
 obtain ⟨hw, h1, _⟩ := check_wf hc;exact join_par (toks_ok x hw) hl (whole_toks hw h1 0) hc
end Pr
namespace Pr
open Lx (isTok)
def wt (t : T) : Nat := (Lx.spl t).data.toList.length + 1
def W (l : List T) : Nat := (l.map wt).sum
theorem W_app (l m : List T) : W (l ++ m) = W l + W m := by unfold W; rw [List.map_append, List.sum_append]
theorem W_cons (t : T) (l : List T) : W (t :: l) = wt t + W l := by unfold W; rw [List.map_cons, List.sum_cons]
theorem W_len : ∀ l : List T, l.length <= W l
 | [] => Nat.zero_le _
 | t :: l => by rw [W_cons, List.length_cons]; have := W_len l; unfold wt; omega
theorem W_join (l : List T) : (Lx.joinB l).length <= W l := by
 have h := Lx.joinB_sum l;have e : (l.map fun y => (Lx.spl y).data.toList.length + 1).sum = W l := rfl;omega
theorem wt_word {k : Int} {x : ByteArray} (hk : k ≠ 4 /\ k ≠ 5 /\ k ≠ 6) (h : x.size <= 20) : wt (tk k x 0) <= 23 := by
 have e : Lx.spl (tk k x 0) = x := by
  show (if k = 4 then _ else if k = 5 then _ else if k = 6 then _ else x) = x
  rw [if_neg hk.1, if_neg hk.2.1, if_neg hk.2.2]
 unfold wt;rw [e, Array.length_toList]
 show x.size + 1 <= 23
 omega
theorem sw_le : ∀ x ∈ Lx.sw, x.size <= 20 := by decide +kernel
theorem ws_le : ∀ x ∈ Wrd.ws, x.size <= 20 := by decide +kernel
theorem sg_w {x : ByteArray} (h : x ∈ Lx.sw) : wt (sgn x) <= 23 := wt_word (by decide) (sw_le x h)
theorem ky_w {x : ByteArray} (h : x ∈ Wrd.ws) : wt (key x) <= 23 := wt_word (by decide) (ws_le x h)
theorem name_le {x : ByteArray} (h : Wrd.name x = true) : x.size <= 20 := by
 unfold Wrd.name at h;rw [Bool.and_eq_true] at h;exact (Lx.spelt_parts h.1).1
theorem cls_le {x : ByteArray} (h : Wrd.cls x = true) : x.size <= 20 := (Lx.spelt_parts (show Wrd.spelt x 1 = true from h)).1
theorem nm_w {x : ByteArray} (h : Wrd.name x = true) : wt (nam x) <= 23 := wt_word (by decide) (name_le h)
theorem ty_w {y : ByteArray} (h : Wrd.typ y = true) : wt (typT y) <= 23 := by
 rcases typ_three h with hb | rfl | hc
 ·have : typT y = key y := by unfold typT; rw [hb, if_pos rfl]
  rw [this];unfold isBase at hb;simp only [Bool.or_eq_true, decide_eq_true_eq] at hb;rcases hb with (((rfl | rfl) | rfl) | rfl) | rfl <;> exact ky_w (by simp [Wrd.ws])
 ·exact sg_w (by simp [Lx.sw])
 ·rw [typT_cls hc]; exact wt_word (by decide) (cls_le hc)
theorem tc_w {y : ByteArray} (h : Wrd.cls y = true) : wt (typT y) <= 23 := by rw [typT_cls h]; exact wt_word (by decide) (cls_le h)
theorem it_w {n : Int} (h : 0 <= n /\ n <= 9223372036854775807) : wt (tk 4 Ps.e0 n) <= 23 := by
 have := Lib.itoa_length_le n (by omega) h.2
 show (Lib.itoa n).length + 1 <= 23
 omega
theorem rl_w {n : Int} (h : 0 <= n /\ n <= 9007199254740992) : wt (tk 5 Ps.e0 n) <= 23 := by
 have := Lib.itoa_length_le n (by omega) (by omega)
 show (Lib.itoa n ++ [114]).length + 1 <= 23
 rw [List.length_append, List.length_singleton];omega
theorem st_w {t : ByteArray} (hs : t.size <= 1000) : wt (tk 6 t 0) <= 2003 := by
 have h1 := Lx.flat_le t.data.toList;have h2 : t.data.toList.length = t.size := by rw [Array.length_toList]; rfl
 show (34 :: t.data.toList.flatMap Lx.spelt ++ [34]).length + 1 <= 2003
 rw [List.length_append, List.length_cons, List.length_singleton];omega
theorem wb_nil : W [] <= 0 := Nat.le_refl _
theorem wb_nil0 : W [] <= 23 := Nat.zero_le _
theorem wb_cons {t : T} {l : List T} {n : Nat} (h : wt t <= 23) (k : W l <= n) : W (t :: l) <= n + 23 := by rw [W_cons]; omega
theorem wb_app {l m : List T} {a b : Nat} (h : W l <= a) (k : W m <= b) : W (l ++ m) <= a + b := by rw [W_app]; omega
def S (l : List Kd) : Nat := (l.map fun p => W p.2 + 69).sum
theorem S_nil : S [] = 0 := rfl
theorem S_cons (p : Kd) (l : List Kd) : S (p :: l) = W p.2 + 69 + S l := by unfold S; rw [List.map_cons, List.sum_cons]
def kS (l : List Nd) : Nat := S (l.map kdN)
theorem S_map (l : List Nd) : S (l.map kdN) = kS l := rfl
theorem kS_nil : kS [] = 0 := rfl
theorem kS_cons (x : Nd) (l : List Nd) : kS (x :: l) = W (toks x) + 69 + kS l := S_cons _ _
theorem kS_app : ∀ l m : List Nd, kS (l ++ m) = kS l + kS m
 | [], m => by rw [kS_nil, List.nil_append]; omega
 | x :: l, m => by rw [List.cons_append, kS_cons, kS_cons, kS_app l m]; omega
theorem ann_w {y om : ByteArray} (h : y = om ∨ isTok (typT y) = true) (hw : y = om ∨ wt (typT y) <= 23) : W (ann y om) <= 46 := by
 unfold ann;by_cases hy : y = om
 ·rw [if_pos hy]; exact Nat.zero_le _
 ·rw [if_neg hy];exact wb_cons (sg_w (by simp [Lx.sw])) (wb_cons (hw.resolve_left hy) wb_nil)
theorem sep_w {s : List T} (hs : W s <= 23) : ∀ (l : List Kd), W (sep s l) <= S l
 | [] => Nat.zero_le _
 | [p] => by rw [S_cons]; show W p.2 <= _; omega
 | p :: q :: r => by
  have := sep_w hs (q :: r);rw [S_cons, sep, W_app, W_app];omega
theorem brk_w (l : List Kd) : W (brk l) <= S l + 46 := by
 have h := sep_w (s := [sgn kComma]) (wb_cons (sg_w (by simp [Lx.sw])) wb_nil) l;have := wb_app (wb_cons (sg_w (x := kOpen) (by simp [Lx.sw])) h) (wb_cons (sg_w (x := kShut) (by simp [Lx.sw])) wb_nil);exact Nat.le_trans this (by omega)
theorem at_w {i : Int} {p : Kd} {n : Nat} (h : W p.2 <= n) : W (at1 i p) <= n + 46 := by
 unfold at1
 split
 ·have := wb_app (wb_cons (sg_w (x := kOpen) (by simp [Lx.sw])) h) (wb_cons (sg_w (x := kShut) (by simp [Lx.sw])) wb_nil);exact Nat.le_trans this (by omega)
 ·omega
theorem kS_le : ∀ l : List Nd, (∀ y ∈ l, W (toks y) + 69 <= 2100 * y.count) -> kS l <= 2100 * Nd.countL l
 | [], _ => Nat.zero_le _
 | x :: l, h => by
  have h1 := h x (by simp);have h2 := kS_le l fun y hy => h y (List.mem_cons_of_mem _ hy);rw [kS_cons, Nd.countL_cons];omega
theorem own_w (x : Nd) (hw : Wf x) : W (toks x) <= 2003 + kS x.kids := by
 have hs := hw.sh;clear hw;rw [toks_eq]
 cases hs with
 | prog cs b h1 h2 =>
  show W (sep [] ((cs ++ [b]).map kdN).dropLast ++ key ⟨#[109, 97, 105, 110]⟩ :: (lastK ((cs ++ [b]).map kdN)).2) <= _
  rw [List.map_append, List.map_cons, List.map_nil, List.dropLast_concat, lastK, List.getLastD_concat];refine Nat.le_trans (wb_app (sep_w wb_nil0 (cs.map kdN)) (wb_cons (ky_w (by simp [Wrd.ws, Nd.text])) (Nat.le_refl _))) ?_;simp only [Nd.kids, kdN, kd, S_map, S_nil, S_cons, kS_nil, kS_cons, kS_app, List.getD_cons_zero, List.getD_cons_succ, List.map_cons, List.map_nil];omega
 | clas t y fs ms ht hy h1 h2 =>
  refine Nat.le_trans (wb_app (wb_app (wb_cons (ky_w (by simp [Wrd.ws, Nd.text])) (wb_cons (tc_w ht) (ann_w (hy.imp id tc_ok) (hy.imp id tc_w)))) (wb_cons (sg_w (by simp [Lx.sw, Nd.text])) (sep_w wb_nil0 ((fs ++ ms).map kdN)))) (wb_cons (sg_w (by simp [Lx.sw, Nd.text])) wb_nil)) ?_;simp only [Nd.kids, kdN, kd, S_map, S_nil, S_cons, kS_nil, kS_cons, kS_app, List.getD_cons_zero, List.getD_cons_succ, List.map_cons, List.map_nil];omega
 | field t y ht hy =>
  refine Nat.le_trans (wb_app (wb_cons (ky_w (by simp [Wrd.ws, Nd.text])) (wb_cons (nm_w ht) (ann_w (.inr (ty_ok hy)) (.inr (ty_w hy))))) (wb_cons (sg_w (by simp [Lx.sw, Nd.text])) wb_nil)) ?_;simp only [Nd.kids, kdN, kd, S_map, S_nil, S_cons, kS_nil, kS_cons, kS_app, List.getD_cons_zero, List.getD_cons_succ, List.map_cons, List.map_nil];omega
 | method t y ps b ht hy h1 h2 =>
  show W (key ⟨#[100, 101, 102]⟩ :: nam t :: brk ((ps ++ [b]).map kdN).dropLast ++ ann y kAny ++ (lastK ((ps ++ [b]).map kdN)).2) <= _
  rw [List.map_append, List.map_cons, List.map_nil, List.dropLast_concat, lastK, List.getLastD_concat];refine Nat.le_trans (wb_app (wb_app (wb_cons (ky_w (by simp [Wrd.ws, Nd.text])) (wb_cons (nm_w ht) (brk_w (ps.map kdN)))) (ann_w (.inr (ty_ok hy)) (.inr (ty_w hy)))) (Nat.le_refl _)) ?_;simp only [Nd.kids, kdN, kd, S_map, S_nil, S_cons, kS_nil, kS_cons, kS_app, List.getD_cons_zero, List.getD_cons_succ, List.map_cons, List.map_nil];omega
 | param t y ht hy =>
  refine Nat.le_trans (wb_cons (nm_w ht) (ann_w (.inr (ty_ok hy)) (.inr (ty_w hy)))) ?_;simp only [Nd.kids, kdN, kd, S_map, S_nil, S_cons, kS_nil, kS_cons, kS_app, List.getD_cons_zero, List.getD_cons_succ, List.map_cons, List.map_nil];omega
 | block l h =>
  refine Nat.le_trans (wb_app (wb_cons (sg_w (by simp [Lx.sw, Nd.text])) (sep_w (wb_cons (sg_w (x := kSemi) (by simp [Lx.sw])) wb_nil) (l.map kdN))) (wb_cons (sg_w (by simp [Lx.sw, Nd.text])) wb_nil)) ?_;simp only [Nd.kids, kdN, kd, S_map, S_nil, S_cons, kS_nil, kS_cons, kS_app, List.getD_cons_zero, List.getD_cons_succ, List.map_cons, List.map_nil];omega
 | int n h =>
  refine Nat.le_trans (wb_cons (it_w h) wb_nil) ?_;simp only [Nd.kids, kdN, kd, S_map, S_nil, S_cons, kS_nil, kS_cons, kS_app, List.getD_cons_zero, List.getD_cons_succ, List.map_cons, List.map_nil];omega
 | real n h =>
  refine Nat.le_trans (wb_cons (rl_w h) wb_nil) ?_;simp only [Nd.kids, kdN, kd, S_map, S_nil, S_cons, kS_nil, kS_cons, kS_app, List.getD_cons_zero, List.getD_cons_succ, List.map_cons, List.map_nil];omega
 | noNum t h =>
  rcases h with rfl | rfl <;> exact Nat.le_trans ((wb_cons (ky_w (by simp [Wrd.ws, Nd.text])) wb_nil) : W [key _] <= _) (by decide +revert)
 | bool n h =>
  rcases h with rfl | rfl <;> exact Nat.le_trans ((wb_cons (ky_w (by simp [Wrd.ws, Nd.text])) wb_nil) : W [key _] <= _) (by decide +revert)
 | str t h hs =>
  show W [tk 6 t 0] <= _
  rw [W_cons];have := st_w hs;have e : W [] = 0 := rfl;omega
 | unit =>
  refine Nat.le_trans (brk_w []) ?_;simp only [Nd.kids, kdN, kd, S_map, S_nil, S_cons, kS_nil, kS_cons, kS_app, List.getD_cons_zero, List.getD_cons_succ, List.map_cons, List.map_nil];omega
 | none y hy =>
  refine Nat.le_trans (wb_cons (ky_w (by simp [Wrd.ws, Nd.text])) (wb_cons (tc_w hy) wb_nil)) ?_;simp only [Nd.kids, kdN, kd, S_map, S_nil, S_cons, kS_nil, kS_cons, kS_app, List.getD_cons_zero, List.getD_cons_succ, List.map_cons, List.map_nil];omega
 | this =>
  refine Nat.le_trans (wb_cons (ky_w (by simp [Wrd.ws, Nd.text])) wb_nil) ?_;simp only [Nd.kids, kdN, kd, S_map, S_nil, S_cons, kS_nil, kS_cons, kS_app, List.getD_cons_zero, List.getD_cons_succ, List.map_cons, List.map_nil];omega
 | var t ht =>
  refine Nat.le_trans (wb_cons (nm_w ht) wb_nil) ?_;simp only [Nd.kids, kdN, kd, S_map, S_nil, S_cons, kS_nil, kS_cons, kS_app, List.getD_cons_zero, List.getD_cons_succ, List.map_cons, List.map_nil];omega
 | let_ t y a ht hy h =>
  refine Nat.le_trans (wb_app (wb_cons (ky_w (by simp [Wrd.ws, Nd.text])) (wb_cons (nm_w ht) (ann_w (.inr (ty_ok hy)) (.inr (ty_w hy))))) (wb_cons (sg_w (by simp [Lx.sw, Nd.text])) (Nat.le_refl _))) ?_;simp only [Nd.kids, kdN, kd, S_map, S_nil, S_cons, kS_nil, kS_cons, kS_app, List.getD_cons_zero, List.getD_cons_succ, List.map_cons, List.map_nil];omega
 | set t a ht h =>
  refine Nat.le_trans (wb_cons (nm_w ht) (wb_cons (sg_w (by simp [Lx.sw, Nd.text])) (Nat.le_refl _))) ?_;simp only [Nd.kids, kdN, kd, S_map, S_nil, S_cons, kS_nil, kS_cons, kS_app, List.getD_cons_zero, List.getD_cons_succ, List.map_cons, List.map_nil];omega
 | get t a ht h =>
  refine Nat.le_trans (wb_app (at_w (Nat.le_refl _)) (wb_cons (sg_w (by simp [Lx.sw, Nd.text])) (wb_cons (nm_w ht) wb_nil))) ?_;simp only [Nd.kids, kdN, kd, S_map, S_nil, S_cons, kS_nil, kS_cons, kS_app, List.getD_cons_zero, List.getD_cons_succ, List.map_cons, List.map_nil];omega
 | put t a b ht h h2 =>
  refine Nat.le_trans (wb_app (at_w (Nat.le_refl _)) (wb_cons (sg_w (by simp [Lx.sw, Nd.text])) (wb_cons (nm_w ht) (wb_cons (sg_w (by simp [Lx.sw, Nd.text])) (Nat.le_refl _))))) ?_;simp only [Nd.kids, kdN, kd, S_map, S_nil, S_cons, kS_nil, kS_cons, kS_app, List.getD_cons_zero, List.getD_cons_succ, List.map_cons, List.map_nil];omega
 | call t a l ht h hl =>
  refine Nat.le_trans (wb_app (at_w (Nat.le_refl _)) (wb_cons (sg_w (by simp [Lx.sw, Nd.text])) (wb_cons (nm_w ht) (brk_w (l.map kdN))))) ?_;simp only [Nd.kids, kdN, kd, S_map, S_nil, S_cons, kS_nil, kS_cons, kS_app, List.getD_cons_zero, List.getD_cons_succ, List.map_cons, List.map_nil];omega
 | super t l ht hl =>
  refine Nat.le_trans (wb_cons (ky_w (by simp [Wrd.ws, Nd.text])) (wb_cons (sg_w (by simp [Lx.sw, Nd.text])) (wb_cons (nm_w ht) (brk_w (l.map kdN))))) ?_;simp only [Nd.kids, kdN, kd, S_map, S_nil, S_cons, kS_nil, kS_cons, kS_app, List.getD_cons_zero, List.getD_cons_succ, List.map_cons, List.map_nil];omega
 | new y l hy hl =>
  refine Nat.le_trans (wb_cons (ky_w (by simp [Wrd.ws, Nd.text])) (wb_cons (tc_w hy) (brk_w (l.map kdN)))) ?_;simp only [Nd.kids, kdN, kd, S_map, S_nil, S_cons, kS_nil, kS_cons, kS_app, List.getD_cons_zero, List.getD_cons_succ, List.map_cons, List.map_nil];omega
 | cond a b c h h1 h2 =>
  refine Nat.le_trans (wb_app (wb_app (wb_cons (ky_w (by simp [Wrd.ws, Nd.text])) (Nat.le_refl _)) (Nat.le_refl _)) (wb_cons (ky_w (by simp [Wrd.ws, Nd.text])) (Nat.le_refl _))) ?_;simp only [Nd.kids, kdN, kd, S_map, S_nil, S_cons, kS_nil, kS_cons, kS_app, List.getD_cons_zero, List.getD_cons_succ, List.map_cons, List.map_nil];omega
 | loop a b h h1 =>
  refine Nat.le_trans (wb_cons (ky_w (by simp [Wrd.ws, Nd.text])) (sep_w wb_nil0 ([a, b].map kdN))) ?_;simp only [Nd.kids, kdN, kd, S_map, S_nil, S_cons, kS_nil, kS_cons, kS_app, List.getD_cons_zero, List.getD_cons_succ, List.map_cons, List.map_nil];omega
 | un t a ht h =>
  refine Nat.le_trans (wb_cons (sg_w (by rcases ht with rfl | rfl <;> simp [Lx.sw, Nd.text])) (at_w (Nat.le_refl _))) ?_;simp only [Nd.kids, kdN, kd, S_map, S_nil, S_cons, kS_nil, kS_cons, kS_app, List.getD_cons_zero, List.getD_cons_succ, List.map_cons, List.map_nil];omega
 | bin t a b ht h h2 =>
  refine Nat.le_trans (wb_app (at_w (Nat.le_refl _)) (wb_cons (sg_w (op_in ht)) (at_w (Nat.le_refl _)))) ?_;simp only [Nd.kids, kdN, kd, S_map, S_nil, S_cons, kS_nil, kS_cons, kS_app, List.getD_cons_zero, List.getD_cons_succ, List.map_cons, List.map_nil];omega
 | read =>
  refine Nat.le_trans (wb_cons (ky_w (by simp [Wrd.ws, Nd.text])) (brk_w [])) ?_;simp only [Nd.kids, kdN, kd, S_map, S_nil, S_cons, kS_nil, kS_cons, kS_app, List.getD_cons_zero, List.getD_cons_succ, List.map_cons, List.map_nil];omega
 | print a h =>
  refine Nat.le_trans (wb_cons (ky_w (by simp [Wrd.ws, Nd.text])) (brk_w ([a].map kdN))) ?_;simp only [Nd.kids, kdN, kd, S_map, S_nil, S_cons, kS_nil, kS_cons, kS_app, List.getD_cons_zero, List.getD_cons_succ, List.map_cons, List.map_nil];omega
 | as_ y a hy h =>
  refine Nat.le_trans (wb_app (wb_cons (sg_w (by simp [Lx.sw, Nd.text])) (Nat.le_refl _)) (wb_cons (sg_w (by simp [Lx.sw, Nd.text])) (wb_cons (ty_w hy) (wb_cons (sg_w (by simp [Lx.sw, Nd.text])) wb_nil)))) ?_;simp only [Nd.kids, kdN, kd, S_map, S_nil, S_cons, kS_nil, kS_cons, kS_app, List.getD_cons_zero, List.getD_cons_succ, List.map_cons, List.map_nil];omega
 | conv t a ht h =>
  refine Nat.le_trans (wb_cons (ky_w (by rcases ht with rfl | rfl | rfl <;> simp [Wrd.ws, Nd.text])) (brk_w ([a].map kdN))) ?_;simp only [Nd.kids, kdN, kd, S_map, S_nil, S_cons, kS_nil, kS_cons, kS_app, List.getD_cons_zero, List.getD_cons_succ, List.map_cons, List.map_nil];omega
theorem toks_w (x : Nd) : Wf x -> W (toks x) + 69 <= 2100 * x.count := by
 refine Nd.ind (P := fun x => Wf x -> W (toks x) + 69 <= 2100 * x.count) (fun x ih hw => ?_) x;have h1 := own_w x hw;have h2 := kS_le x.kids fun y hy => ih y hy (hw.kid hy);rw [Nd.count_eq];omega
end Pr
end Go.Proofs.YtegcgflhgfmkpaaGreatDoor
namespace Go.Proofs.YtegcgflhgfmkpaaGreatDoor
open Go.ChangeShapes Go.WideShapes Go.ChangeAt Go.RowKit Go.Shelf
attribute [local go_sem] Oper.semAt_some
structure PTab (w : World) : Prop where
 tb : Tb w
 er : Er w
 so : Sorts w
theorem PTab.kept {w w' : World} (h : PTab w) (k : Kept w w') : PTab w' := ⟨h.tb.kept k, h.er.kept k, by obtain ⟨t, fr, h⟩ := h.so; exact ⟨t, fr, (k.block _ (Array.getElem?_eq_some_iff.1 h).1).trans h⟩⟩
structure Mk (w : World) (x : Nd) (v : Value) : Prop where
 ok : x.ok1
 kids : ∃ a c, v = .slice a x.kids.length c /\ KidsAt w (.slice a x.kids.length c) x.kids
theorem Mk.kept {w w' : World} {x : Nd} {v : Value} (h : Mk w x v) (k : Kept w w') : Mk w' x v := ⟨h.ok, by obtain ⟨a, c, e, h2⟩ := h.kids; exact ⟨a, c, e, KidsD.kept h2 k⟩⟩
def Ks (w : World) (v : Value) (l : List Nd) : Prop := ∃ a c, v = .slice a l.length c /\ KidsAt w (.slice a l.length c) l
theorem Ks.kept {w w' : World} {l : List Nd} {v : Value} (h : Ks w v l) (k : Kept w w') : Ks w' v l := by obtain ⟨a, c, e, h2⟩ := h; exact ⟨a, c, e, KidsD.kept h2 k⟩
theorem Ks.nil (w : World) : Ks w (.slice none 0 0) [] := ⟨none, 0, rfl, Row.nil⟩
theorem lit_kids {X : World} (ks : List (Nd × Value)) {cs : Array Value} {g n : Nat} (hg : g = X.heap.size) (hn : n = ks.length) (hcs : cs = (ks.flatMap fun p => ndC p.1 p.2).toArray) (hm : ks.length <= 100) (h : ∀ q ∈ ks, Mk X q.1 q.2) :
  Ks (X.alloc (.cells cs nT)) (.slice (some ⟨g, 0, none⟩) n n) (ks.map (·.1)) := by
 subst hg hn hcs;have hl := flat_len (fun p : Nd × Value => ndC p.1 p.2) ndC_len ks;have hb : Blk (X.alloc (.cells (ks.flatMap fun p => ndC p.1 p.2).toArray nT)) X.heap.size nT (ks.flatMap fun p => ndC p.1 p.2).toArray := Blk.new _ _ _;refine ⟨_, ks.length, by rw [List.length_map], _, _, rfl, by rw [List.length_map]; exact Nat.le_refl _, by unfold maxLen; omega, fun i y hy => ⟨X.heap.size, 0, rfl, ?_⟩⟩;rw [List.getElem?_map] at hy;obtain ⟨q, hq, rfl⟩ := Option.map_eq_some_iff.1 hy;obtain ⟨hok, a, c, e, hk⟩ := h q (List.mem_of_getElem? hq);refine NdD.shut (ad := a) (c := c) (fun j u hu => ?_) hok (KidsD.kept hk ((Kept.refl X).alloc _)) trivial;rw [<- e] at hu;have hj : j < 6 := by
  rcases Nat.lt_or_ge j 6 with h | h
  ·exact h
  ·rw [List.getElem?_eq_none (by rw [ndC_len]; exact h)] at hu; cases hu
 rw [hb.cell];have := (flat_at (fun p : Nd × Value => ndC p.1 p.2) ndC_len ks i j q hq hj).trans hu
 simpa [Nat.add_assoc] using this
theorem two_boxes (w : World) (x : Nd) (v : Value) (e a : Int) {Z6 Z7 Z8 : World} (h6 : (w.alloc (.cells pzN nT)).alloc (.cells #[.int .i64 0, .int .i64 0] 29) = Z6) (h7 : put6n Z6 w.heap.size x v = Z7) (h8 : (Z7.setCell ⟨w.heap.size + 1, 0, none⟩ (.int .i64 e)).setCell ⟨w.heap.size + 1, 1, none⟩ (.int .i64 a) = Z8) :
  Blk Z6 w.heap.size nT pzN /\ Blk Z7 (w.heap.size + 1) 29 #[.int .i64 0, .int .i64 0] /\ Blk Z8 w.heap.size nT (ndA x v) /\ Blk Z8 (w.heap.size + 1) 29 #[.int .i64 e, .int .i64 a] /\ Kept w Z8 := by
 have b6 : Blk Z6 w.heap.size nT pzN := by rw [<- h6]; exact (Blk.new _ _ _).alloc _
 have c6 : Blk Z6 (w.heap.size + 1) 29 #[.int .i64 0, .int .i64 0] := by rw [<- h6]; exact blk_new (by simp)
 have k6 : Kept w Z6 := by rw [<- h6]; exact ((Kept.refl _).alloc _).alloc _
 have o7 : Only (· = w.heap.size) Z6 Z7 := by rw [<- h7]; exact put6n_only _ _ _ _
 have b7 : Blk Z7 w.heap.size nT (ndA x v) := by rw [<- h7]; exact put6n_blk b6 x v
 have c7 := c6.only o7 (by omega);have o8 : Only (· = w.heap.size + 1) Z7 Z8 := by rw [<- h8]; exact ((Only.refl _ _).put 0 _).put 1 _
 have c8 : Blk Z8 (w.heap.size + 1) 29 #[.int .i64 e, .int .i64 a] := by
  rw [<- h8];have := (c7.put 0 (.int .i64 e)).put 1 (.int .i64 a)
  simpa using this
 exact ⟨b6, c7, b7.only o8 (by omega), c8, (k6.only o7 rfl (fun k hk => by omega)).only o8 rfl (fun k hk => by omega)⟩
end Go.Proofs.YtegcgflhgfmkpaaGreatDoor
