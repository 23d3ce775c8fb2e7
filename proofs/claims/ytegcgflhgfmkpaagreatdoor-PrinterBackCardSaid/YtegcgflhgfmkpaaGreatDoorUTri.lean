import Derived.Test.YtegcgflhgfmkpaaGreatDoorUTkm
import Derived.Test.YtegcgflhgfmkpaaGreatDoorUTrw
import Derived.Test.YtegcgflhgfmkpaaGreatDoorUw18
import Derived.OwnWalkIn
import Derived.TacticsInMore
import Derived.LoopNIn
import Derived.LoopIn
import Derived.Sort.LoopGhostIn
set_option linter.unusedSimpArgs false
set_option linter.unusedVariables false
set_option maxRecDepth 100000
set_option maxHeartbeats 16000000
namespace Go.Proofs.YtegcgflhgfmkpaaGreatDoor
open Lib (hid)
open _root_.Go.Proofs.Tryz
open Go.ChangeShapes Go.WideShapes Go.ChangeAt Go.RowKit
attribute [local go_sem] Oper.semAt_some
abbrev ItN := (Nat × Nat) × (Nat × Nat) × Nd
abbrev encN : ItN -> Array Value := fun i => #[.agg #[.int .i64 i.1.1, .int .i64 i.1.2], .pointer (some ⟨i.2.1.1, i.2.1.2, none⟩)]
def plN (i : ItN) : Nat × Nd := (i.1.2, i.2.2)
def itOk (x : Nd) (pre : List ItN) : Prop := pre.map plN <+: x.all 0 /\ ∀ (i : Nat) (it : ItN), pre[i]? = some it -> it.1.1 = i
def itAll (x : Nd) (pre : List ItN) : Prop := pre.map plN = x.all 0 /\ ∀ (i : Nat) (it : ItN), pre[i]? = some it -> it.1.1 = i
def itG (x : Nd) (d : Nat) (pre : List ItN) (W : World) (O : Nat -> Prop) : Prop :=
 itOk x pre /\ ∀ p it, pre = p ++ [it] -> ∃ D : Nat -> Prop, NdD D W it.2.1.1 it.2.1.2 it.2.2 /\ (∀ k, O k -> ¬ D k) /\ (∀ k, D k -> ¬ (d <= k /\ k < d + 2))
theorem itG.stay {x : Nd} {d : Nat} {pre : List ItN} {A B : World} {O : Nat -> Prop} (h : itG x d pre A O) (k : Only (fun k => d <= k /\ k < d + 2) A B) : itG x d pre B O :=
 ⟨h.1, fun p it e => by obtain ⟨D, h1, h2, h3⟩ := h.2 p it e; exact ⟨D, h1.only k h3, h2, h3⟩⟩
def restR (rs : List Rw) : List (Nat × Nd) := rs.reverse.flatMap fun r => Nd.allL r.2.1 r.2.2
theorem restR_snoc (rs : List Rw) (r : Rw) : restR (rs ++ [r]) = Nd.allL r.2.1 r.2.2 ++ restR rs := by unfold restR; simp
theorem restR_app (rs ts : List Rw) : restR (rs ++ ts) = restR ts ++ restR rs := by unfold restR; simp [List.flatMap_append]
theorem restR_more (rs : List Rw) (b o c : Nat) (x : Nd) (r : List Nd) (a : Nat) (ad : Option Addr) (ck : Nat) (s : Value) :
  restR (rs ++ [(s, x :: r, a)]) = (a, x) :: restR (rs ++ moreR b o c x r a ad ck) := by
 rw [restR_snoc, restR_app, Nd.allL_cons, Nd.all_eq];unfold moreR restR;by_cases h1 : r = [] <;> by_cases h2 : x.kids = [] <;> simp [h1, h2, Nd.allL_nil]
theorem allL_ne {l : List Nd} (h : l ≠ []) (a : Nat) : 0 < (Nd.allL l a).length := by
 cases l with
 | nil => exact absurd rfl h
 | cons x r => rw [Nd.allL_cons, Nd.all_eq]; simp
theorem restR_len : ∀ (rs : List Rw), (∀ r ∈ rs, r.2.1 ≠ []) -> rs.length <= (restR rs).length := by
 intro rs h
 induction rs with
 | nil => simp
 | cons r t ih =>
  have e : restR (r :: t) = restR t ++ Nd.allL r.2.1 r.2.2 := by
   have := restR_app [r] t;rw [show restR [r] = Nd.allL r.2.1 r.2.2 by unfold restR; simp] at this;exact this
  rw [e, List.length_append, List.length_cons];have h1 := ih fun q hq => h q (List.mem_cons_of_mem _ hq);have h2 := allL_ne (h r (by simp)) r.2.2;omega
theorem nodes_c (x : Nd) (ad : Option Addr) (ck : Nat) (w : World) :
  Calls prog 22 #[ndV x (.slice ad x.kids.length ck)] w fun e w' => e = .returned (.func (.func 35) #[] #[.pointer (some ⟨w.heap.size, 0, none⟩)]) /\ w' = w.alloc (.cells (ndC x (.slice ad x.kids.length ck)).toArray 24) := by
 go_enter func22, ntmps22;go_wp2_with fail;go_ret;exact ⟨rfl, rfl⟩
def RowsOk (D : Nat -> Prop) (w : World) (m : Nat) (rs : List Rw) : Prop := ∀ r ∈ rs, r.2.1 ≠ [] /\ KidsD D w r.1 r.2.1 /\ r.2.2 <= m
theorem RowsOk.only {D : Nat -> Prop} {S : Nat -> Prop} {w w' : World} {m : Nat} {rs : List Rw} (h : RowsOk D w m rs) (k : Only S w w') (hs : ∀ k, D k -> ¬ S k) : RowsOk D w' m rs := fun r hr => ⟨(h r hr).1, (h r hr).2.1.only k hs, (h r hr).2.2⟩
theorem RowsOk.more {D : Nat -> Prop} {w : World} {m b o c a : Nat} {rs : List Rw} {x : Nd} {r : List Nd} {ad : Option Addr} {ck : Nat} (h : RowsOk D w m rs) (h1 : KidsD D w (.slice (some ⟨b, o + 6, none⟩) r.length (c - 1)) r) (h2 : KidsD D w (.slice ad x.kids.length ck) x.kids) (ha : a <= m) :
  RowsOk D w (m + 1) (rs ++ moreR b o c x r a ad ck) := by
 intro q hq;rcases List.mem_append.1 hq with hq | hq
 ·exact ⟨(h q hq).1, (h q hq).2.1, Nat.le_succ_of_le (h q hq).2.2⟩
 ·unfold moreR at hq;rcases List.mem_append.1 hq with hq | hq
  ·split at hq
   ·cases hq
   ·rename_i hne; obtain rfl := List.mem_singleton.1 hq; exact ⟨hne, h1, Nat.le_succ_of_le ha⟩
  ·split at hq
   ·cases hq
   ·rename_i hne; obtain rfl := List.mem_singleton.1 hq; exact ⟨hne, h2, Nat.succ_le_succ ha⟩
theorem nodes1_o (n : Nat) (hn : 1 <= n) (x : Nd) (ad : Option Addr) (ck bs b0 d : Nat) (W1 : World) (hb : Blk W1 bs 24 (ndC x (.slice ad x.kids.length ck)).toArray) (hok : x.ok1)
  (hk : KidsD (· < b0) W1 (.slice ad x.kids.length ck) x.kids) (hd : d + 2 = W1.heap.size) (hbd : b0 <= d) (hcnt : x.count <= 1000000000) :
  SeqOwnO Fence.wide n prog 35 #[.pointer (some ⟨bs, 0, none⟩)] encN (itAll x) (itOk x) (itG x d) b0 W1 := by
 intro l J Jx O0 hl hO0 abJ abX hY h0;have c0 := hb.cell 0;have c1 := hb.cell 1;have c2 := hb.cell 2;have c3 := hb.cell 3;have c4 := hb.cell 4;have c5 := hb.cell 5;simp only [ndC, List.getElem?_toArray, List.getElem?_cons_zero, List.getElem?_cons_succ] at c0 c1 c2 c3 c4 c5;have HWO := hid (walkOf_c x ad ck W1);have HABJ := hid abJ;have HABX := hid abX;have HY := hid hY;have H0 := hid h0;have HK := hid hk;have HOK := hid hok;have HO0 := hid hO0;clear abJ abX hY h0 hk hb hO0;refine callsIn_of_wp func35 rfl trivial ?_ rfl;simp only [ntmps35, List.size_toArray, List.length_cons, List.length_nil, Nat.reduceAdd, Nat.reduceSub, Array.replicate_succ, Array.replicate_zero, List.push_toArray, List.append_toArray, List.nil_append, List.cons_append]
 gi_wp2
 refine ⟨trivial, (callsIn_wide.2 HWO.o).mono ?_⟩;rintro e w2 ⟨B, g, R, rfl, hB1, hBR, hRg, hgw, hw12, hB, hW, k2⟩;clear c0 c1 c2 c3 c4 c5 HWO;have HJ2 := hid (HABJ.o _ _ _ _ H0.o (Only.of_kept k2));have hBn : NdD (fun k => k < b0 ∨ k = B) w2 B 0 x := blk_node HOK.o ((HK.o.kept k2).mono fun _ _ h => .inl h) hB (.inr rfl);have HR2 := hid (show RowsOk (fun k => k < b0 ∨ k = B) w2 0 [(.slice (some ⟨B, 0, none⟩) 1 1, [x], 0)] from fun r hr => by
  obtain rfl := List.mem_singleton.1 hr;exact ⟨by simp, KidsD.one hBn (Nat.le_refl _) (by decide), Nat.le_refl _⟩)
 have HW2 := hid hW;have HA2 := hid (show x.all 0 = ([] : List ItN).map plN ++ restR [(.slice (some ⟨B, 0, none⟩) 1 1, [x], 0)] by unfold restR; simp [Nd.allL_cons, Nd.allL_nil]);have hc := Nd.count_all x 0;have HC := hid hc;clear hc hBn hB hW k2 H0
 gi_wp2
 gi_loopg [4] (x.count + 1) (fun q i4 wr => ∃ (pre : List ItN) (rs : List Rw) (v : Value) (O : Nat -> Prop), i4 = .int .i64 (pre.length : Int) /\ Hid (∀ (i : Nat) (it : ItN), pre[i]? = some it -> it.1.1 = i) /\ Hid (x.all 0 = pre.map plN ++ restR rs) /\ Hid (J pre wr O) /\ Hid (WalkAt wr R g v rs) /\
  Hid (RowsOk (fun k => k < b0 ∨ k = B) wr pre.length rs) /\ Hid (∀ k, O k -> b0 <= k /\ k ≠ B /\ k ≠ g /\ k < wr.heap.size /\ k ≠ l) /\ Hid (∀ k, v.ownBlock = some k -> B < k /\ ¬ O k) /\ Hid (W1.heap.size <= wr.heap.size /\ g < wr.heap.size /\ R <= wr.heap.size) /\ Hid (x.count < q + pre.length))
 case atStart =>
  refine ⟨[], _, _, O0, by simp, hid (fun i it h => by simp at h), HA2, HJ2, HW2, HR2, hid (fun k hk => ?_), hid (fun k hk => ?_), hid ⟨by omega, by omega, by omega⟩, hid (by simp)⟩
  ·have := HO0.o k hk; omega
  ·have e : R = k := by simpa [Value.ownBlock] using hk
   subst e;exact ⟨hBR, fun ho => by have := (HO0.o _ ho).2; omega⟩
 case round =>
  clear HJ2 HW2 HR2 HA2;obtain ⟨pre, rs, v, O, rfl, HI, HA, HJ, HWK, HRW, HO, HV, HZ, HQ⟩ := hrel;rcases List.eq_nil_or_concat rs with hrs | ⟨rs0, r, hrs⟩
  ·subst hrs;have HNX := hid (next_end g R v wr HWK.o)
   gi_wp2
   refine ⟨trivial, (callsIn_wide.2 HNX.o).mono ?_⟩;rintro e w3 ⟨rfl, rfl⟩
   gi_wp2
   refine ⟨by first | trivial | exact fun _ _ => trivial, ?_⟩
   gi_wp2
   refine bodyPost_ret (results_none rfl _ _ _) rfl ?_;have hal := HA.o;rw [show restR [] = [] from rfl, List.append_nil] at hal;exact ⟨⟨_, rfl⟩, .inl ⟨pre, O, ⟨hal.symm, HI.o⟩, HJ.o⟩⟩
  ·rw [List.concat_eq_append] at hrs;subst hrs;obtain ⟨hne, hkd, hab⟩ := HRW.o r (by simp);obtain ⟨rv, rl, ra⟩ := r;dsimp only at hne hkd hab;obtain ⟨y, ys, rfl⟩ : ∃ y ys, rl = y :: ys := by cases rl with
    | nil => exact absurd rfl hne
    | cons y ys => exact ⟨y, ys, rfl⟩
   obtain ⟨ra', rc, rfl, _⟩ := id hkd;obtain ⟨b, o, rfl, hnl, hnc, hcm, hy, hys⟩ := hkd.head;obtain ⟨kad, kc, ⟨_, _, _, _, _, hk5⟩, hyok, hyk, hyD⟩ := hy.cells;have hwS : ∀ k, (k < b0 ∨ k = B) -> ¬ walkS g v k := fun k hk hs => by
    rcases hs with e | e
    ·omega
    ·have := (HV.o k e).1; omega
   have HX := hid (show PerS (walkS g v) wr (fun W => W.cell? ⟨b, o + 5, none⟩ = some (.slice kad y.kids.length kc)) from fun w' hw' => by
    show w'.cell? _ = _
    rw [World.cell?_of_block (w := wr) (a := ⟨b, o + 5, none⟩) (hw'.block b hy.lt (hwS b hyD))]; exact hk5)
   have hall := HA.o;have hlen := restR_len (rs0 ++ [(.slice (some ⟨b, o, none⟩) (y :: ys).length rc, y :: ys, ra)]) (fun q hq => (HRW.o q hq).1);have hlen2 := congrArg List.length hall;rw [HC.o, List.length_append, List.length_map] at hlen2;rw [List.length_append, List.length_singleton] at hlen;have HNX := hid (next_c g R v rs0 b o rc ra y ys kad kc wr HWK.o HX.o hnc (by have := HZ.o.2.2; omega) (by omega) (by omega));obtain ⟨it, hit⟩ : ∃ it : ItN, it = ((pre.length, ra), (b, o), y) := ⟨_, rfl⟩;have HIT := hid (show encN it = #[.agg #[.int .i64 (pre.length : Int), .int .i64 (ra : Int)], .pointer (some ⟨b, o, none⟩)] by rw [hit]);have HA2 := hid (show x.all 0 = (pre ++ [it]).map plN ++ restR (rs0 ++ moreR b o rc y ys ra kad kc) by rw [HA.o, restR_more rs0 b o rc y ys ra kad kc, List.map_append, hit]; simp [plN]);have HI2 := hid (show ∀ (i : Nat) (q : ItN), (pre ++ [it])[i]? = some q -> q.1.1 = i from fun i q hq => by
    rw [List.getElem?_append] at hq
    split at hq
    ·exact HI.o i q hq
    ·have h0 : i - pre.length = 0 := by
      have := (List.getElem?_eq_some_iff.1 hq).1;simp at this; omega
     rw [h0] at hq;simp at hq;subst hq;rw [hit]; dsimp only; omega)
   have HY1 := hid hy;have HYS := hid hys;have HYK := hid hyk;have HWS := hid hwS;have HAB := hid hab;have HL2 := hid (show pre.length < x.count by
    have : 0 < (restR (rs0 ++ [(.slice (some ⟨b, o, none⟩) (y :: ys).length rc, y :: ys, ra)])).length := by rw [restR_more rs0 b o rc y ys ra kad kc]; simp
    omega)
   have hpl : pre.length <= 1000000000 := by have := HL2.o; omega
   have HIT2 := hid hit;clear hit hne hkd hab hnl hnc hcm hy hys hyk hk5 hyok hyD hwS hall hlen hlen2 HA
   gi_wp2
   refine ⟨trivial, (callsIn_wide.2 HNX.o).mono ?_⟩;rintro e w3 ⟨rfl, v', hwk3, ho3, hv3⟩;have hOS : Only (fun k => W1.heap.size <= k /\ ¬ O k) wr w3 := ho3.mono fun k hk hs => by
    rcases hs with e | e
    ·exact ⟨by omega, fun h => (HO.o k h).2.2.1 e⟩
    ·have := HV.o k e; exact ⟨by omega, this.2⟩
   have HJ3 := hid (HABJ.o _ _ _ _ HJ.o hOS);have HWK3 := hid hwk3;have HRW3 := hid (RowsOk.more (a := ra) (b := b) (o := o) (c := rc) (x := y) (r := ys) (ad := kad) (ck := kc) ((show RowsOk (fun k => k < b0 ∨ k = B) wr pre.length rs0 from fun q hq => HRW.o q (List.mem_append_left _ hq)).only ho3 HWS.o) (HYS.o.only ho3 HWS.o) (HYK.o.only ho3 HWS.o) HAB.o);have HG := hid (show itG x d (pre ++ [it]) w3 O from ⟨⟨⟨_, HA2.o.symm⟩, HI2.o⟩, fun p q hpq => by
    obtain ⟨_, e⟩ := List.append_inj' hpq rfl;injection e with e;subst e;refine ⟨fun k => k < b0 ∨ k = B, by rw [HIT2.o]; exact HY1.o.only ho3 HWS.o, fun k hk hD => ?_, fun k hD => by omega⟩;have := HO.o k hk
    omega⟩)
   have hz3 := ho3.size;have HO3 := hid (show ∀ k, O k -> k < w3.heap.size /\ k ≠ l from fun k hk => ⟨by have := (HO.o k hk).2.2.2.1; omega, (HO.o k hk).2.2.2.2⟩);have HV3 := hid (show ∀ k, v'.ownBlock = some k -> B < k /\ ¬ O k from fun k hk => by
    rcases hv3 k hk with e | e
    ·exact HV.o k e
    ·exact ⟨by have := HZ.o; omega, fun h => by have := (HO.o k h).2.2.2.1; omega⟩)
   obtain ⟨fn, tmps, assign, body, hyy, hR⟩ := HY.o pre it w3 O HJ3.o HG.o (by have := HZ.o.1; omega) HO3.o;rw [HIT.o] at hyy;clear hwk3 ho3 hv3 hOS HNX HX HJ HWK HRW HJ3
   gi_wp2
   refine hR.mono ?_;rintro e W6 (⟨rfl, O2, hJ6, ho6, hO2⟩ | ⟨rfl, hJx6⟩)
   ·have hg3 : g < w3.heap.size := by have := HZ.o.2.1; omega
    have hz6 := ho6.size;have hDO : ∀ k, (k < b0 ∨ k = B) -> ¬ (O k ∨ k = l) := fun k hk hs => by
     rcases hs with e | e
     ·have := HO.o k e; omega
     ·omega
    have HW6 := hid (show WalkAt W6 R g v' (rs0 ++ moreR b o rc y ys ra kad kc) from ⟨HWK3.o.1.only ho6 (fun h => h.elim (fun h => (HO.o g h).2.2.1 rfl) (fun h => by omega)), owns_only HWK3.o.2 ho6 (fun k hk h => h.elim (HV3.o k hk).2 (fun h => by have := (HV3.o k hk).1; omega))⟩);have HR6 := hid (HRW3.o.only ho6 hDO);have HJ6 := hid hJ6;have HO6 := hid (show ∀ k, O2 k -> b0 <= k /\ k ≠ B /\ k ≠ g /\ k < W6.heap.size /\ k ≠ l from fun k hk => by
     rcases hO2 k hk with e | ⟨e1, e2⟩
     ·have := HO.o k e; have := (HO3.o k e).1; exact ⟨by omega, by omega, by omega, by omega, by omega⟩
     ·exact ⟨by omega, by omega, by omega, by omega, by omega⟩)
    have hRv := HWK3.o.2;have HV6 := hid (show ∀ k, v'.ownBlock = some k -> B < k /\ ¬ O2 k from fun k hk => ⟨(HV3.o k hk).1, fun h => by
     rcases hO2 k h with e | ⟨e1, e2⟩
     ·exact (HV3.o k hk).2 e
     ·have hlt : k < w3.heap.size := by
       rcases hRv.2 with ⟨rfl, _⟩ | ⟨gg, cap, cur, rfl, _, hh, _⟩
       ·simp [Value.ownBlock] at hk
       ·have : gg = k := by simpa [Value.ownBlock] using hk
        subst this;exact (Array.getElem?_eq_some_iff.1 hh).1
      omega⟩)
    obtain ⟨g', rfl⟩ : ∃ g', gk = g' + 1 := ⟨gk - 1, by have := HQ.o; have := HL2.o; omega⟩;clear hR hyy hJ6 ho6 hO2 hRv hDO HY HG HO3
    gi_wp2
    gi_roundg g'
    case measure => omega
    case rel =>
     refine ⟨pre ++ [it], _, v', O2, ?_, HI2, HA2, HJ6, HW6, ?_, HO6, HV6, hid ⟨by have := HZ.o; omega, by omega, by have := HZ.o; omega⟩, hid (by rw [List.length_append]; have := HQ.o; simp; omega)⟩
     ·rw [List.length_append]; simp
     ·rw [List.length_append]; exact HR6
   ·gi_wp2
    refine bodyPost_ret (results_none rfl _ _ _) rfl ?_;exact ⟨⟨_, rfl⟩, .inr ⟨_, ⟨⟨_, HA2.o.symm⟩, HI2.o⟩, hJx6⟩⟩
end Go.Proofs.YtegcgflhgfmkpaaGreatDoor
