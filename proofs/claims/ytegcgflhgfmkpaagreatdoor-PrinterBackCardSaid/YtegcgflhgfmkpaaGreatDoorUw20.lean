/- Texts. -/
import Derived.Test.YtegcgflhgfmkpaaGreatDoorUTkm
import Derived.Test.YtegcgflhgfmkpaaGreatDoorULx3
import Derived.Test.YtegcgflhgfmkpaaGreatDoorULx5
import Derived.Test.YtegcgflhgfmkpaaGreatDoorUw18
import Derived.OwnWalkIn
import Derived.TacticsInMore
import Derived.LoopNIn
import Derived.LoopIn
import Derived.Sort.LoopGhostIn
import Derived.Test.YtegcgflhgfmkpaaGreatDoorUw0
import Derived.Test.YtegcgflhgfmkpaaGreatDoorUTkr
set_option linter.unusedSimpArgs false
set_option linter.unusedVariables false
set_option maxRecDepth 100000
set_option maxHeartbeats 16000000
namespace Go.Proofs.YtegcgflhgfmkpaaGreatDoor
open Lib (hid)
open _root_.Go.Proofs.Tryz
open Go.ChangeShapes Go.WideShapes Go.ChangeAt Go.RowKit Go.Shelf
attribute [local go_sem] Oper.semAt_some
namespace Lx
theorem word_bad {s : List UInt8} {e : Int} {o : Nat} (h : word s = .bad e o) : e ≠ 0 := by
 unfold word wordR at h
 split at h
 ·injection h; omega
 ·cases h
theorem number_bad {s : List UInt8} {e : Int} {o : Nat} (h : number s = .bad e o) : e ≠ 0 := by
 unfold number numR at h
 repeat' split at h
 all_goals first | (injection h; omega) | cases h
theorem text_bad {s : List UInt8} {e : Int} {o : Nat} (h : text s = .bad e o) : e ≠ 0 := by
 unfold text textR at h
 repeat' split at h
 all_goals first | (injection h; omega) | cases h
theorem sign_bad {s : List UInt8} {e : Int} {o : Nat} (h : sign s = .bad e o) : e ≠ 0 := by
 unfold sign at h
 split at h
 ·cases h
 ·injection h; omega
theorem tok_bad {s : List UInt8} {e : Int} {o : Nat} (h : tok s = .bad e o) : e ≠ 0 := by
 unfold tok tokK at h;generalize kd (s.headD 0) = q at h;by_cases h2 : q = 2
 ·rw [if_pos h2] at h; exact word_bad h
 ·rw [if_neg h2] at h;by_cases h3 : q = 3
  ·rw [if_pos h3] at h; exact number_bad h
  ·rw [if_neg h3] at h;by_cases h4 : q = 4
   ·rw [if_pos h4] at h; exact text_bad h
   ·rw [if_neg h4] at h; exact sign_bad h
theorem seqF_end {l : List UInt8} {g p : Nat} (h : ¬ p + skip false (l.drop p) < l.length) : seqF g p (l.drop p) = [] := by
 cases g with
 | zero => rfl
 | succ g =>
  rw [seqF, if_pos];rw [List.drop_drop, List.length_drop]; omega
end Lx
theorem seq_step {l : List UInt8} (g p : Nat) (h : p + Lx.skip false (l.drop p) < l.length) :
  ∃ (kk : Int) (x : ByteArray) (v po e a : Int) (en : Nat), wayV (p + Lx.skip false (l.drop p)) (Lx.tok (l.drop (p + Lx.skip false (l.drop p)))) = .tuple #[tagg kk x v po, .int .i64 (en : Int), fagg e a] /\
   Lx.seqF (g + 1) p (l.drop p) = (⟨kk, x, v, po⟩, e, a) :: (if e = 0 then Lx.seqF g en (l.drop en) else []) /\ (e = 0 -> p + Lx.skip false (l.drop p) < en /\ en <= l.length) := by
 have hne : ¬ ((l.drop p).drop (Lx.skip false (l.drop p))).length = 0 := by rw [List.drop_drop, List.length_drop]; omega
 rw [Lx.seqF, if_neg hne, List.drop_drop];generalize p + Lx.skip false (l.drop p) = q at *
 cases ht : Lx.tok (l.drop q) with
 | bad e o =>
  have he := Lx.tok_bad ht;exact ⟨0, ⟨#[]⟩, 0, 0, e, ((q + o : Nat) : Int), q + o, rfl, by rw [if_neg he]; rfl, fun h => absurd h he⟩
 | tok k x v len =>
  have hl := Lx.tok_len (by rw [List.length_drop]; omega) ht;rw [List.length_drop] at hl;exact ⟨k, x, v, q, 0, 0, q + len, rfl, by rw [if_pos rfl]; show _ :: Lx.seqF g (q + len) ((l.drop q).drop len) = _; rw [List.drop_drop], fun _ => by omega⟩
theorem tokens_c (a : Option Addr) (c : Nat) (l : List UInt8) (w : World) :
  Calls prog 103 #[.slice a l.length c] w fun e w' => e = .returned (.func (.func 137) #[] #[.pointer (some ⟨w.heap.size, 0, none⟩)]) /\ w' = w.alloc (.cells #[.slice a l.length c] 138) := by
 go_enter func103, ntmps103;go_wp2_with fail;go_ret;exact ⟨rfl, rfl⟩
theorem way_c (a : Option Addr) (c : Nat) (l : List UInt8) (p : Nat) (w : World) (h : SrcAt w (.slice a l.length c) l) (hT : Tb w) (hE : Er w) (hp : p < l.length) (hl : l.length <= 20000) (F : Nat)
  (hF : (if Lx.kd l[p] = 2 then 159 else if Lx.kd l[p] = 3 then 160 else if Lx.kd l[p] = 4 then 161 else 162) = F) :
  Calls prog F #[.slice a l.length c, .int .i64 p] w fun r w' => r = .returned (wayV p (Lx.tok (l.drop p))) /\ Kept w w' := by
 subst hF;have ht : Lx.tok (l.drop p) = Lx.tokK (Lx.kd l[p]) (l.drop p) := by unfold Lx.tok; rw [drop_at hp]; rfl
 rw [ht];unfold Lx.tokK;by_cases h2 : Lx.kd l[p] = 2
 ·rw [if_pos h2, if_pos h2]; exact word_c a c l p w h hT hp h2 hl
 ·rw [if_neg h2, if_neg h2];by_cases h3 : Lx.kd l[p] = 3
  ·rw [if_pos h3, if_pos h3]; exact number_c a c l p w h hE hp h3 hl
  ·rw [if_neg h3, if_neg h3];by_cases h4 : Lx.kd l[p] = 4
   ·rw [if_pos h4, if_pos h4]; exact text_c a c l p w h hT hp hl
   ·rw [if_neg h4, if_neg h4]; exact sign_c a c l p w h hT hp hl
theorem way_enters (q F : Nat) (hF : (if q = 2 then 159 else if q = 3 then 160 else if q = 4 then 161 else 162) = F) :
  ∀ args w, (callFunc F args).run prog w = .ok (.enter F args) w := by
 subst hF;by_cases h2 : q = 2
 ·rw [if_pos h2]; exact enters_of func159 (by kernel_rfl) rfl
 ·rw [if_neg h2];by_cases h3 : q = 3
  ·rw [if_pos h3]; exact enters_of func160 (by kernel_rfl) rfl
  ·rw [if_neg h3];by_cases h4 : q = 4
   ·rw [if_pos h4]; exact enters_of func161 (by kernel_rfl) rfl
   ·rw [if_neg h4]; exact enters_of func162 (by kernel_rfl) rfl
abbrev encQ : Lx.Q -> Array Value := fun q => #[tagg q.1.kind q.1.text q.1.n q.1.pos, fagg q.2.1 q.2.2]
theorem tokens1_u (n : Nat) (hn : 1 <= n) (a : Option Addr) (c : Nat) (l : List UInt8) (w0 : World) (bs : Nat) (U : World -> Nat -> Prop) (W1 : World)
  (hS : SrcAt w0 (.slice a l.length c) l) (hT : Tb w0) (hE : Er w0) (hl : l.length <= 20000) (hk : Kept w0 W1) (hb : Blk W1 bs 138 #[.slice a l.length c]) (h1 : w0.heap.size <= bs) (hb1 : bs + 1 < W1.heap.size)
  (hU1 : ∀ W k, U W k -> w0.heap.size <= k) (hU2 : ∀ W, Blk W bs 138 #[.slice a l.length c] -> ¬ U W bs) (hU3 : ∀ W g cs, Blk W g 29 cs -> W1.heap.size <= g -> ¬ U W g) :
  SeqOwnU Fence.wide n prog 137 #[.pointer (some ⟨bs, 0, none⟩)] encQ U (· = Lx.seq l) (· <+: Lx.seq l) (· <+: Lx.seq l) W1 := by
 intro lr J Jx hlr abJ abX hY h0;have c0 := hb.cell 0;simp at c0;refine callsIn_of_wp func137 rfl trivial ?_ rfl;simp only [ntmps137, List.size_toArray, List.length_cons, List.length_nil, Nat.reduceAdd, Nat.reduceSub, Array.replicate_succ, Array.replicate_zero, List.push_toArray, List.append_toArray, List.nil_append, List.cons_append];have HSK := hid (skip_c a c l 0 W1 (src_kept hS hk) (Nat.zero_le _));have HABJ := hid abJ;have HABX := hid abX;have HY := hid hY;have H0 := hid h0;have HK := hid hk;have HB := hid hb;have HU1 := hid hU1;have HU2 := hid hU2;have HU3 := hid hU3;have HS := hid hS;have HT := hid hT;have HE := hid hE;clear abJ abX hY h0 hk hb hU1 hU2 hU3 hS hT hE
 gi_wp2
 refine ⟨trivial, (callsIn_wide.2 HSK.o).mono ?_⟩;rintro e w2 ⟨rfl, k2⟩;have HJ2 := hid (HABJ.o _ _ _ H0.o k2);have HK2 := hid (HK.o.trans k2);have HB2 := hid (HB.o.kept k2);have hz2 := k2.size;clear k2 H0 HSK c0
 gi_wp2
 gi_loopg [3] (l.length + 1) (fun g i3 wr => ∃ (pre : List Lx.Q) (p : Nat), i3 = .int .i64 ((p + Lx.skip false (l.drop p) : Nat) : Int) /\ Hid (p <= l.length /\ l.length < g + p /\ Lx.seq l = pre ++ Lx.seqF g p (l.drop p)) /\ Hid (J pre wr) /\ Hid (Kept w0 wr) /\ Hid (Blk wr bs 138 #[.slice a l.length c]) /\ W1.heap.size <= wr.heap.size)
 case atStart => exact ⟨[], 0, by simp, hid ⟨Nat.zero_le _, by omega, rfl⟩, HJ2, HK2, HB2, hz2⟩
 case round =>
  clear HJ2 HK2 HB2 hz2;obtain ⟨pre, p, rfl, HP, HJ, HKr, HBr, hz⟩ := hrel;have b0 := HBr.o.cell 0;simp at b0;have hkp : p + Lx.skip false (l.drop p) <= l.length := by
   have h1 := Lx.skip_le false (l.drop p);have h2 := HP.o.1;rw [List.length_drop] at h1; omega
  obtain ⟨q, hq⟩ : ∃ q, p + Lx.skip false (l.drop p) = q := ⟨_, rfl⟩;rw [hq] at hkp ⊢;have HQ := hid hq;clear hq;by_cases hlt : q < l.length
  ·have hltI : (q : Int) < (l.length : Int) := by omega
   obtain ⟨g, rfl⟩ : ∃ g, gk = g + 1 := ⟨gk - 1, by have := HP.o; have := HQ.o; omega⟩;have HSr := hid (src_kept HS.o HKr.o);have HWO := hid (wayOf_c a c l q wr HSr.o hlt);obtain ⟨F, hF⟩ : ∃ F, (if Lx.kd l[q] = 2 then 159 else if Lx.kd l[q] = 3 then 160 else if Lx.kd l[q] = 4 then 161 else 162) = F := ⟨_, rfl⟩;rw [hF] at HWO;have HWY := hid (way_c a c l q wr HSr.o (HT.o.kept HKr.o) (HE.o.kept HKr.o) hlt hl F hF);have hent := way_enters _ F hF;clear hF;obtain ⟨kk, x, v, po, ev, av, en, hv, hsq, hen⟩ := seq_step g p (by rw [HQ.o]; exact hlt);rw [HQ.o] at hv hen;rw [hv] at HWY;have HSQ := hid (show Lx.seq l = (pre ++ [(⟨kk, x, v, po⟩, ev, av)]) ++ (if ev = 0 then Lx.seqF g en (l.drop en) else []) by rw [HP.o.2.2, hsq]; simp);have HEN := hid hen;clear hv hsq hen
   gi_wp2
   refine ⟨trivial, (callsIn_wide.2 HWO.o).mono ?_⟩;rintro e w3 ⟨rfl, rfl⟩;clear HWO
   gi_wp2
   refine ⟨trivial, (callsIn_wide.2 HWY.o).mono ?_⟩;rintro e w4 ⟨rfl, k4⟩;obtain ⟨W5, hW5⟩ : ∃ W5, (w4.alloc (.cells #[.int .i64 kk, .string x, .int .i64 v, .int .i64 po] 70)).alloc (.cells #[.int .i64 ev, .int .i64 av] 29) = W5 := ⟨_, rfl⟩;have k45 : Kept w4 W5 := by rw [<- hW5]; exact ((Kept.refl w4).alloc _).alloc _
   have hb5 : Blk W5 w4.heap.size 70 #[.int .i64 kk, .string x, .int .i64 v, .int .i64 po] /\ Blk W5 (w4.heap.size + 1) 29 #[.int .i64 ev, .int .i64 av] := by
    rw [<- hW5];refine ⟨(Blk.new _ _ _).alloc _, ?_⟩;have := Blk.new (w4.alloc (.cells #[.int .i64 kk, .string x, .int .i64 v, .int .i64 po] 70)) 29 #[.int .i64 ev, .int .i64 av]
    simpa using this
   have HJ5 := hid (HABJ.o _ _ _ HJ.o (k4.trans k45));have HK5 := hid (HKr.o.trans (k4.trans k45));have HB5 := hid (HBr.o.kept (k4.trans k45));have hz4 := k4.size;have hz5 := k45.size;have HW5 := hid hW5;obtain ⟨d0, d1, d2, d3⟩ : W5.cell? ⟨w4.heap.size, 0, none⟩ = some (.int .i64 kk) /\ W5.cell? ⟨w4.heap.size, 1, none⟩ = some (.string x) /\ W5.cell? ⟨w4.heap.size, 2, none⟩ = some (.int .i64 v) /\ W5.cell? ⟨w4.heap.size, 3, none⟩ = some (.int .i64 po) := ⟨hb5.1.cell 0, hb5.1.cell 1, hb5.1.cell 2, hb5.1.cell 3⟩;obtain ⟨d4, d5⟩ : W5.cell? ⟨w4.heap.size + 1, 0, none⟩ = some (.int .i64 ev) /\ W5.cell? ⟨w4.heap.size + 1, 1, none⟩ = some (.int .i64 av) := ⟨hb5.2.cell 0, hb5.2.cell 1⟩;have HF5 := hid hb5.2;obtain ⟨fn, tmps, assign, body, hy, hR⟩ := HY.o pre (⟨kk, x, v, po⟩, ev, av) W5 HJ5.o ⟨_, HSQ.o.symm⟩ (by omega);clear hW5 k45 hb5 k4 HJ HKr HBr HWY HSr b0
   gi_wp2_with (rw [HW5.o])
   refine hR.mono ?_;rintro e W6 (⟨rfl, hJ6, hk6⟩ | ⟨rfl, hJx6⟩)
   ·have hgF := HU3.o W5 (w4.heap.size + 1) _ HF5.o (by omega);have hF6 := HF5.o.only hk6 (fun h => h.elim hgF (by omega));have hB6 := HB5.o.only hk6 (fun h => h.elim (HU2.o _ HB5.o) (by omega));have HK6 := hid (HK5.o.only hk6 rfl (fun k h => h.elim (HU1.o _ k) (by omega)));have hz6 := hk6.size;have b6 := hB6.cell 0;simp at b6;have q4 : W6.cell? ⟨w4.heap.size + 1, 0, none⟩ = some (.int .i64 ev) := hF6.cell 0;have HB6 := hid hB6;have HJ6 := hid hJ6;clear hgF hF6 hB6 hk6 hJ6 d0 d1 d2 d3 d4 d5 HJ5 HK5 HB5 HF5 hR HY;by_cases he : ev = 0
    ·subst he;obtain ⟨hen1, hen2⟩ := HEN.o rfl;have HSK := hid (skip_c a c l en W6 (src_kept HS.o HK6.o) hen2)
     gi_wp2
     refine ⟨trivial, (callsIn_wide.2 HSK.o).mono ?_⟩;rintro e w7 ⟨rfl, k7⟩
     gi_wp2
     gi_roundg g
     case measure => omega
     case rel => exact ⟨_, en, by go_num, hid ⟨hen2, by have := HP.o; have := HQ.o; omega, by rw [HSQ.o]; simp⟩, hid (HABJ.o _ _ _ HJ6.o k7), hid (HK6.o.trans k7), hid (HB6.o.kept k7), by have := k7.size; omega⟩
    ·have he1 : (ev == 0) = false := by simp [he]
     have he2 : (ev != 0) = true := by simp [he]
     gi_wp2
     refine bodyPost_ret (results_none rfl _ _ _) rfl ?_;exact ⟨⟨_, rfl⟩, .inl ⟨_, by rw [HSQ.o, if_neg he, List.append_nil], HJ6.o⟩⟩
   ·gi_wp2
    refine bodyPost_ret (results_none rfl _ _ _) rfl ?_;exact ⟨⟨_, rfl⟩, .inr ⟨_, ⟨_, HSQ.o.symm⟩, hJx6⟩⟩
  ·obtain rfl : q = l.length := by omega
   have hltI : ¬ (l.length : Int) < (l.length : Int) := by omega
   gi_wp2
   refine bodyPost_end (results_none rfl _ _ _) rfl ?_;have e : Lx.seq l = pre := by rw [HP.o.2.2, Lx.seqF_end (by rw [HQ.o]; omega), List.append_nil]
   exact ⟨⟨_, rfl⟩, .inl (by first | exact ⟨pre, e.symm, HJ.o⟩ | (rw [e]; exact HJ.o))⟩
theorem addr_plainT (b o j : Nat) : (⟨b, o, none⟩ : Addr).add j = ⟨b, o + j, none⟩ := by
 unfold Addr.add
 split
 ·rename_i h; rw [h]; rfl
 ·rfl
theorem owns_tks {w : World} {base n : Nat} {v : Value} {l : List Lx.T} (hn : n = l.length) (h : w.ownsRow base 70 4 v n (l.flatMap tCells)) : TksAt w v l := by
 subst hn;rcases h.2 with ⟨rfl, hl0⟩ | ⟨g, cap, cur, rfl, hg1, hg2, hg3, hg4, hg5, hg6⟩
 ·obtain rfl : l = [] := List.eq_nil_of_length_eq_zero hl0;exact Row.nil
 ·refine ⟨_, cap, rfl, hg3, hg4, fun i x hx => ⟨g, 0, rfl, ?_⟩⟩;have c0 := h.cells (g := g) rfl _ _ (flat_at tCells tCells_len l i 0 x hx (by omega));have c1 := h.cells (g := g) rfl _ _ (flat_at tCells tCells_len l i 1 x hx (by omega));have c2 := h.cells (g := g) rfl _ _ (flat_at tCells tCells_len l i 2 x hx (by omega));have c3 := h.cells (g := g) rfl _ _ (flat_at tCells tCells_len l i 3 x hx (by omega));rw [addr_plainT] at c0 c1 c2 c3;exact ⟨by simpa using c0, by simpa [Nat.add_assoc] using c1, by simpa [Nat.add_assoc] using c2, by simpa [Nat.add_assoc] using c3⟩
theorem owns_onlyT {w w' : World} {S : Nat -> Prop} {base k n : Nat} {e : TypeId} {v : Value} {xs : List Value} (h : w.ownsRow base e k v n xs) (ho : Only S w w') (hs : ∀ g, base <= g -> ¬ S g) : w'.ownsRow base e k v n xs := by
 refine ⟨h.1, ?_⟩;rcases h.2 with h | ⟨g, cap, cur, rfl, hb, hg, r⟩
 ·exact .inl h
 ·exact .inr ⟨g, cap, cur, rfl, hb, ho.same hg (hs g hb), r⟩
theorem owns_keptT {w w' : World} {base k n : Nat} {e : TypeId} {v : Value} {xs : List Value} (h : w.ownsRow base e k v n xs) (ho : Kept w w') : w'.ownsRow base e k v n xs :=
 owns_onlyT (S := fun _ => False) h (Only.of_kept ho) (fun _ _ h => h)
theorem owns_valT {w : World} {base k n : Nat} {e : TypeId} {v : Value} {xs : List Value} (h : w.ownsRow base e k v n xs) : ∃ a c, v = .slice a n c := by
 rcases h.2 with ⟨rfl, rfl⟩ | ⟨g, cap, cur, rfl, _⟩
 ·exact ⟨_, _, rfl⟩
 ·exact ⟨_, _, rfl⟩
theorem rown_T {w : World} {base k n : Nat} {e : TypeId} {v : Value} {xs : List Value} (h : w.ownsRow base e k v n xs) {g : Nat} (hg : v.ownBlock = some g) : base <= g /\ ∃ cs fr, w.heap[g]? = some (.cells cs e fr) := by
 rcases h.2 with ⟨rfl, _⟩ | ⟨g', cap, cur, rfl, hb, hgg, _⟩
 ·cases hg
 ·obtain rfl : g' = g := Option.some.inj hg;exact ⟨hb, _, _, hgg⟩
def LexU (n g : Nat) (W : World) (k : Nat) : Prop := k = n ∨ k = n + 1 ∨ k = g ∨ (n <= k /\ ∃ cs fr, W.heap[k]? = some (.cells cs 70 fr))
def LexI (w : World) (g : Nat) (pre : List Lx.Q) (W : World) : Prop :=
 (Blk W w.heap.size 41 #[.slice none 0 0] /\ Blk W (w.heap.size + 1) 29 #[.int .i64 0, .int .i64 0]) /\
 (∃ (n : Nat) (a' : Option Addr) (c' : Nat), Blk W g 41 #[.slice a' n c'] /\ n = pre.length /\ W.ownsRow (w.heap.size + 6) 70 4 (.slice a' n c') n ((pre.map (·.1)).flatMap tCells)) /\
 Kept w W /\ w.heap.size + 4 <= W.heap.size /\ ∀ q ∈ pre, q.2 = (0, 0)
def LexX (w : World) (cd : Code) (pre : List Lx.Q) (W : World) : Prop :=
 cd = .ret /\ ∃ (pre' : List Lx.Q) (q : Lx.Q), pre = pre' ++ [q] /\ (∀ q ∈ pre', q.2 = (0, 0)) /\ q.2.1 ≠ 0 /\
  Blk W w.heap.size 41 #[.slice none 0 0] /\ Blk W (w.heap.size + 1) 29 #[.int .i64 q.2.1, .int .i64 q.2.2] /\ Kept w W
theorem LexI.only {w : World} {g : Nat} {pre : List Lx.Q} {A B : World} (hg : g = w.heap.size + 2) (h : LexI w g pre A) (ho : Only (fun k => w.heap.size + 4 <= k /\ k < w.heap.size + 6) A B) : LexI w g pre B := by
 obtain ⟨⟨h1, h2⟩, ⟨n, a', c', h3, h4, h5⟩, h6, h7, h8⟩ := h;exact ⟨⟨h1.only ho (by omega), h2.only ho (by omega)⟩, ⟨n, a', c', h3.only ho (by omega), h4, owns_onlyT h5 ho (fun g hg => by omega)⟩, h6.only ho rfl (fun k hk => by omega), Nat.le_trans h7 ho.size, h8⟩
theorem LexX.only {w : World} {cd : Code} {pre : List Lx.Q} {A B : World} (h : LexX w cd pre A) (ho : Only (fun k => w.heap.size + 4 <= k /\ k < w.heap.size + 6) A B) : LexX w cd pre B := by
 obtain ⟨h0, pre', q, h1, h2, h3, h4, h5, h6⟩ := h;exact ⟨h0, pre', q, h1, h2, h3, h4.only ho (by omega), h5.only ho (by omega), h6.only ho rfl (fun k hk => by omega)⟩
namespace Lx
theorem resOf_good : ∀ (l : List Q), (∀ q ∈ l, q.2 = (0, 0)) -> resOf l = (l.map (·.1), 0, 0)
 | [], _ => rfl
 | (x, e, a) :: q, h => by
  have h1 : (e, a) = (0, 0) := h (x, e, a) (by simp);injection h1 with h1 h2;subst h1 h2;have h3 := resOf_good q (fun y hy => h y (by simp [hy]));rw [resOf, if_pos rfl, h3, if_pos rfl]
  rfl
theorem resOf_bad : ∀ (l : List Q) (q : Q), (∀ q ∈ l, q.2 = (0, 0)) -> q.2.1 ≠ 0 -> ∀ r, resOf (l ++ q :: r) = ([], q.2.1, q.2.2)
 | [], (x, e, a), _, h, r => by rw [List.nil_append, resOf, if_neg h]
 | (x, e, a) :: l, q, h, hq, r => by
  have h1 : (e, a) = (0, 0) := h (x, e, a) (by simp);injection h1 with h1 h2;subst h1 h2;have h3 := resOf_bad l q (fun y hy => h y (by simp [hy])) hq r;rw [List.cons_append, resOf, if_pos rfl, h3, if_neg hq]
end Lx
theorem lex_results {fn : Func} {p q : Tmp} (h : fn.results = #[.cell p 41, .cell q 29]) (tmps : Array Value) (W : World) {g g' : Nat} {e a' : Value} {a : Option Addr} {n c : Nat}
  (hp : tmps.getD p undef = .pointer (some ⟨g, 0, none⟩)) (hq : tmps.getD q undef = .pointer (some ⟨g', 0, none⟩))
  (hg : Blk W g 41 #[.slice a n c]) (hg' : Blk W g' 29 #[e, a']) :
  (results fn tmps).run prog W = .ok (.tuple #[.slice a n c, .agg #[e, a']]) W := by
 have hp' : tmps[p]?.getD undef = .pointer (some ⟨g, 0, none⟩) := by simpa using hp
 have hq' : tmps[q]?.getD undef = .pointer (some ⟨g', 0, none⟩) := by simpa using hq
 have e2 := run_loadVar_row (P := prog) W g' 29 29 #[e, a'] (0, 0) _ hg' underlying29 (by rfl) (by kernel_rfl);have c3 := hg.cell 0;simp at c3;have e3 : (loadVar 41 ⟨g, 0, none⟩).run prog W = .ok (.slice a n c) W := by simp [go_sem, c3]
 simp [results, h, hp', hq', asAddr, e2, e3]
def LexPost (l : List UInt8) (w : World) (e : Ending) (w' : World) : Prop :=
 ∃ (a' : Option Addr) (c' : Nat), e = .returned (.tuple #[.slice a' (Lx.lex l).1.length c', fagg (Lx.lex l).2.1 (Lx.lex l).2.2]) /\ TksAt w' (.slice a' (Lx.lex l).1.length c') (Lx.lex l).1 /\ Kept w w'
theorem LexPost.long {l : List UInt8} {w w' : World} (h : 20000 < l.length) (k : Kept w w') : LexPost l w (.returned (.tuple #[.slice none 0 0, fagg 4 20000])) w' := by
 have e : Lx.lex l = ([], 4, 20000) := by unfold Lx.lex; rw [if_pos h]
 unfold LexPost;rw [e];exact ⟨none, 0, rfl, Row.nil, k⟩
theorem LexPost.bad {l : List UInt8} {w w' : World} (h : ¬ 20000 < l.length) {pre : List Lx.Q} {q : Lx.Q} (hp : pre ++ [q] <+: Lx.seq l) (h1 : ∀ q ∈ pre, q.2 = (0, 0)) (h2 : q.2.1 ≠ 0) (k : Kept w w') : LexPost l w (.returned (.tuple #[.slice none 0 0, fagg q.2.1 q.2.2])) w' := by
 have e : Lx.lex l = ([], q.2.1, q.2.2) := by
  unfold Lx.lex;rw [if_neg h];obtain ⟨r, hr⟩ := hp;rw [<- hr, List.append_assoc];exact Lx.resOf_bad pre q h1 h2 r
 unfold LexPost;rw [e];exact ⟨none, 0, rfl, Row.nil, k⟩
theorem LexPost.good {l : List UInt8} {w w' W : World} (h : ¬ 20000 < l.length) {a' : Option Addr} {n c' base : Nat} (h1 : ∀ q ∈ Lx.seq l, q.2 = (0, 0)) (hn : n = (Lx.seq l).length) (hr : w'.ownsRow base 70 4 (.slice a' n c') n (((Lx.seq l).map (·.1)).flatMap tCells)) (k : Kept w w') :
  LexPost l w (.returned (.tuple #[.slice a' n c', fagg 0 0])) w' := by
 have e : Lx.lex l = ((Lx.seq l).map (·.1), 0, 0) := by unfold Lx.lex; rw [if_neg h]; exact Lx.resOf_good _ h1
 have hn' : n = ((Lx.seq l).map (·.1)).length := by rw [List.length_map]; exact hn
 unfold LexPost;rw [e]
 show ∃ a'_1 c'_1, Ending.returned (.tuple #[.slice a' n c', fagg 0 0]) = .returned (.tuple #[.slice a'_1 ((Lx.seq l).map (·.1)).length c'_1, fagg 0 0]) /\ _
 rw [<- hn'];exact ⟨a', c', rfl, owns_tks hn' hr, k⟩
def LexPost2 (l : List UInt8) (w : World) (e : Ending) (w' : World) : Prop :=
 LexPost l w e w' /\ ∃ (a' : Option Addr) (c' base : Nat), e = .returned (.tuple #[.slice a' (Lx.lex l).1.length c', fagg (Lx.lex l).2.1 (Lx.lex l).2.2]) /\ w.heap.size <= base /\ base <= w'.heap.size /\ w'.ownsRow base 70 4 (.slice a' (Lx.lex l).1.length c') (Lx.lex l).1.length ((Lx.lex l).1.flatMap tCells)
theorem LexPost2.long {l : List UInt8} {w w' : World} (h : 20000 < l.length) (k : Kept w w') : LexPost2 l w (.returned (.tuple #[.slice none 0 0, fagg 4 20000])) w' := by
 refine ⟨LexPost.long h k, ?_⟩;have e : Lx.lex l = ([], 4, 20000) := by unfold Lx.lex; rw [if_pos h]
 rw [e];exact ⟨none, 0, w.heap.size, rfl, Nat.le_refl _, k.size, World.ownsRow_nil _ _ _ _⟩
theorem LexPost2.bad {l : List UInt8} {w w' : World} (h : ¬ 20000 < l.length) {pre : List Lx.Q} {q : Lx.Q} (hp : pre ++ [q] <+: Lx.seq l) (h1 : ∀ q ∈ pre, q.2 = (0, 0)) (h2 : q.2.1 ≠ 0) (k : Kept w w') : LexPost2 l w (.returned (.tuple #[.slice none 0 0, fagg q.2.1 q.2.2])) w' := by
 refine ⟨LexPost.bad h hp h1 h2 k, ?_⟩;have e : Lx.lex l = ([], q.2.1, q.2.2) := by
  unfold Lx.lex;rw [if_neg h];obtain ⟨r, hr⟩ := hp;rw [<- hr, List.append_assoc];exact Lx.resOf_bad pre q h1 h2 r
 rw [e];exact ⟨none, 0, w.heap.size, rfl, Nat.le_refl _, k.size, World.ownsRow_nil _ _ _ _⟩
theorem LexPost2.good {l : List UInt8} {w w' W : World} (h : ¬ 20000 < l.length) {a' : Option Addr} {n c' base : Nat} (h1 : ∀ q ∈ Lx.seq l, q.2 = (0, 0)) (hn : n = (Lx.seq l).length) (hr : w'.ownsRow base 70 4 (.slice a' n c') n (((Lx.seq l).map (·.1)).flatMap tCells)) (k : Kept w w') (hb : w.heap.size <= base) :
  LexPost2 l w (.returned (.tuple #[.slice a' n c', fagg 0 0])) w' := by
 refine ⟨LexPost.good (W := W) h h1 hn hr k, ?_⟩;have e : Lx.lex l = ((Lx.seq l).map (·.1), 0, 0) := by unfold Lx.lex; rw [if_neg h]; exact Lx.resOf_good _ h1
 have hn' : n = ((Lx.seq l).map (·.1)).length := by rw [List.length_map]; exact hn
 rw [e]
 show ∃ a'_1 c'_1 base, Ending.returned (.tuple #[.slice a' n c', fagg 0 0]) = .returned (.tuple #[.slice a'_1 ((Lx.seq l).map (·.1)).length c'_1, fagg 0 0]) /\ _
 rw [<- hn'];refine ⟨a', c', w.heap.size, rfl, Nat.le_refl _, k.size, hr.1, hr.2.imp id ?_⟩;rintro ⟨g, cap, cur, e1, h1, h2⟩;exact ⟨g, cap, cur, e1, Nat.le_trans hb h1, h2⟩
def put3 (W : World) (n : Nat) (v : Value) (e a : Int) : World := ((W.setCell ⟨n, 0, none⟩ v).setCell ⟨n + 1, 0, none⟩ (.int .i64 e)).setCell ⟨n + 1, 1, none⟩ (.int .i64 a)
theorem put3_only (W : World) (n : Nat) (v : Value) (e a : Int) : Only (fun k => k = n ∨ k = n + 1) W (put3 W n v e a) :=
 (((Only.refl _ W).setCell (.inl (.inl rfl)) _).setCell (.inl (.inr rfl)) _).setCell (.inl (.inr rfl)) _
theorem put3_blk {W : World} {n : Nat} {z0 z1 z2 : Value} (h1 : Blk W n 41 #[z0]) (h2 : Blk W (n + 1) 29 #[z1, z2]) (v : Value) (e a : Int) :
  Blk (put3 W n v e a) n 41 #[v] /\ Blk (put3 W n v e a) (n + 1) 29 #[.int .i64 e, .int .i64 a] := by
 have o1 : Only (· = n) W (W.setCell ⟨n, 0, none⟩ v) := (Only.refl _ W).put 0 _;have b2 := ((h2.only o1 (by omega)).put 0 (.int .i64 e)).put 1 (.int .i64 a);exact ⟨Blk.only (cs := #[v]) (h1.put 0 v) (((Only.refl (· = n + 1) (W.setCell ⟨n, 0, none⟩ v)).put 0 (.int .i64 e)).put 1 (.int .i64 a)) (by omega), b2⟩
theorem LexI.found {w : World} {g : Nat} {pre : List Lx.Q} {W : World} (h : LexI w g pre W) (x : Lx.Q) (hx : x.2.1 ≠ 0) :
  Only (LexU w.heap.size g W) W (put3 W w.heap.size (.slice none 0 0) x.2.1 x.2.2).drew /\ LexX w .ret (pre ++ [x]) (put3 W w.heap.size (.slice none 0 0) x.2.1 x.2.2).drew := by
 obtain ⟨⟨h1, h2⟩, _, h6, h7, h8⟩ := h;obtain ⟨b1, b2⟩ := put3_blk h1 h2 (.slice none 0 0) x.2.1 x.2.2;have ho := put3_only W w.heap.size (.slice none 0 0) x.2.1 x.2.2;exact ⟨(ho.mono fun k _ h => h.elim .inl fun h => .inr (.inl h)).drew, rfl, pre, x, rfl, h8, hx, b1.drew, b2.drew, (h6.only ho rfl (fun k hk => by omega)).drew⟩
theorem LexI.next {w : World} {g : Nat} {pre : List Lx.Q} {W W3 W4 : World} {x : Lx.Q} {a' : Option Addr} {m c' : Nat} {v1 : Option Addr} {v2 : Nat} (hg : g = w.heap.size + 2)
  (h1 : Blk W w.heap.size 41 #[.slice none 0 0]) (h2 : Blk W (w.heap.size + 1) 29 #[.int .i64 0, .int .i64 0]) (h3 : Blk W g 41 #[.slice a' m c']) (hm : m = pre.length)
  (h5 : W.ownsRow (w.heap.size + 6) 70 4 (.slice a' m c') m ((pre.map (·.1)).flatMap tCells)) (h6 : Kept w W) (h7 : w.heap.size + 6 <= W.heap.size) (h8 : ∀ q ∈ pre, q.2 = (0, 0)) (hx : x.2 = (0, 0))
  (k3 : Kept W W3) (hown : W4.ownsRow (w.heap.size + 6) 70 4 (.slice v1 (m + 1) v2) (m + 1) ((pre.map (·.1)).flatMap tCells ++ tCells x.1)) (hgrow : W3.grownBy W4 (Value.slice a' m c').ownBlock) :
  Only (LexU w.heap.size g W) W (W4.setCell ⟨g, 0, none⟩ (.slice v1 (m + 1) v2)) /\ LexI w g (pre ++ [x]) (W4.setCell ⟨g, 0, none⟩ (.slice v1 (m + 1) v2)) := by
 have o3 : Only (fun k => k = g ∨ (w.heap.size + 6 <= k /\ ∃ cs fr, W.heap[k]? = some (.cells cs 70 fr))) W (W4.setCell ⟨g, 0, none⟩ (.slice v1 (m + 1) v2)) :=
  ((Only.of_kept k3).grown hgrow (fun k e => .inl (.inr (rown_T h5 e)))).setCell (.inl (.inl rfl)) _
 have o4 : Only (fun k => w.heap.size + 6 <= k) W W4 := (Only.of_kept k3).grown hgrow (fun k e => .inl (rown_T h5 e).1);have og : Only (· = g) W4 (W4.setCell ⟨g, 0, none⟩ (.slice v1 (m + 1) v2)) := (Only.refl _ W4).put 0 _;refine ⟨o3.mono fun k _ h => ?_, ⟨(h1.only o4 (by omega)).only og (by omega), (h2.only o4 (by omega)).only og (by omega)⟩, ⟨m + 1, v1, v2, (h3.only o4 (by omega)).put 0 _, by simp [hm], ?_⟩, h6.only o3 rfl (fun k hk => ?_), Nat.le_trans (by omega) o3.size, ?_⟩
 ·rcases h with h | ⟨h, h'⟩
  ·exact .inr (.inr (.inl h))
  ·exact .inr (.inr (.inr ⟨by omega, h'⟩))
 ·have := owns_onlyT hown og (fun k hk => by omega)
  simpa using this
 ·rcases hk with h | ⟨h, _⟩ <;> omega
 ·intro q hq;rcases List.mem_append.1 hq with h | h
  ·exact h8 q h
  ·rw [List.mem_singleton] at h; subst h; exact hx
namespace Lx
theorem seqF_zero : ∀ (g p : Nat) (s : List UInt8), ∀ q ∈ seqF g p s, q.2.1 = 0 -> q.2 = (0, 0)
 | 0, _, _, q, h, _ => by simp [seqF] at h
 | g + 1, p, s, q, h, h0 => by
  rw [seqF] at h;by_cases he : (s.drop (skip false s)).length = 0
  ·rw [if_pos he] at h; cases h
  ·rw [if_neg he] at h
   cases ht : tok (s.drop (skip false s)) with
   | bad e o =>
    rw [ht] at h;have hb := tok_bad ht;have h : q ∈ [((zeroT, e, ((p + skip false s + o : Nat) : Int)) : Q)] := h;rw [List.mem_singleton] at h;subst h;exact absurd h0 hb
   | tok k x v len =>
    rw [ht] at h;have h : q ∈ ((⟨k, x, v, ((p + skip false s : Nat) : Int)⟩, 0, 0) : Q) :: seqF g (p + skip false s + len) ((s.drop (skip false s)).drop len) := h;rcases List.mem_cons.1 h with rfl | h
    ·rfl
    ·exact seqF_zero g _ _ q h h0
end Lx
theorem seq_len (l : List UInt8) : (Lx.seq l).length <= l.length + 1 := Lx.seqF_len _ _ _
theorem lex_o (a : Option Addr) (c : Nat) (l : List UInt8) (w : World) (h : SrcAt w (.slice a l.length c) l) (hT : Tb w) (hE : Er w) :
  Calls prog 76 #[.slice a l.length c] w (LexPost2 l w) := by
 obtain ⟨i0, hi, hz0, hzz1, hzz2⟩ := info_parts info_tok;have hcap := h.cap;unfold maxLen at hcap;obtain ⟨W1, hW1⟩ : ∃ W1, (w.alloc (.cells #[.slice none 0 0] 41)).alloc (.cells #[.int .i64 0, .int .i64 0] 29) = W1 := ⟨_, rfl⟩;have k1 : Kept w W1 := by rw [<- hW1]; exact ((Kept.refl w).alloc _).alloc _
 have hs1 : W1.heap.size = w.heap.size + 2 := by rw [<- hW1]; simp
 have hb1 : Blk W1 w.heap.size 41 #[.slice none 0 0] /\ Blk W1 (w.heap.size + 1) 29 #[.int .i64 0, .int .i64 0] := by
  rw [<- hW1];refine ⟨(Blk.new _ _ _).alloc _, ?_⟩;have := Blk.new (w.alloc (.cells #[.slice none 0 0] 41)) 29 #[.int .i64 0, .int .i64 0]
  simpa using this
 have HB1 := hid hb1;have HS1 := hid hs1;have HW := hid hW1;have HK1 := hid k1;have HS := hid h;have HT := hid hT;have HE := hid hE;refine (callsIn_wide (n := 3)).1 (callsIn_of_wp_marks func76 rfl trivial (wpIn_wide.2 ?_) rfl);simp only [ntmps76, List.size_toArray, List.length_cons, List.length_nil, Nat.reduceAdd, Nat.reduceSub, Array.replicate_succ, Array.replicate_zero, List.push_toArray, List.append_toArray, List.nil_append, List.cons_append];obtain ⟨c0, d0, d1⟩ : W1.cell? ⟨w.heap.size, 0, none⟩ = some (.slice none 0 0) /\ W1.cell? ⟨w.heap.size + 1, 0, none⟩ = some (.int .i64 0) /\ W1.cell? ⟨w.heap.size + 1, 1, none⟩ = some (.int .i64 0) := ⟨hb1.1.cell 0, hb1.2.cell 0, hb1.2.cell 1⟩;obtain ⟨f0, f1, f2⟩ : W1.frozen? ⟨w.heap.size, 0, none⟩ = false /\ W1.frozen? ⟨w.heap.size + 1, 0, none⟩ = false /\ W1.frozen? ⟨w.heap.size + 1, 1, none⟩ = false := ⟨hb1.1.frozen 0, hb1.2.frozen 0, hb1.2.frozen 1⟩;clear h hT hE hW1 k1 hs1 hb1;by_cases hlong : 20000 < l.length
 ·have hlI : (20000 : Int) < (l.length : Int) := by omega
  go_wp2_with (rw [HW.o]);obtain ⟨b1, b2⟩ := put3_blk HB1.o.1 HB1.o.2 (.slice none 0 0) 4 20000;exact ⟨_, lex_results (by rfl) _ _ rfl rfl b1 b2, LexPost2.long hlong (HK1.o.only (put3_only W1 w.heap.size (.slice none 0 0) 4 20000) rfl (fun k hk => by omega))⟩
 ·have hlI : ¬ (20000 : Int) < (l.length : Int) := by omega
  obtain ⟨W2, hW2⟩ : ∃ W2, W1.alloc (.cells #[.slice none 0 0] 41) = W2 := ⟨_, rfl⟩;have k2 := kpA hW2;have hs2 : W2.heap.size = w.heap.size + 3 := by rw [<- hW2]; simp [HS1.o]
  have hb2 : Blk W2 W1.heap.size 41 #[.slice none 0 0] := by rw [<- hW2]; exact Blk.new W1 _ _
  have HW2 := hid hW2;have HS2 := hid hs2;have HB2 := hid hb2;have HK2 := hid k2;clear hW2 c0 d0 d1 f0 f1 f2 hs2 hb2 k2;go_wp2_with (first | rw [HW.o] | rw [HW2.o]);refine (tokens_c a c l W2).mono ?_;rintro e w' ⟨rfl, rfl⟩;obtain ⟨W3, hW3⟩ : ∃ W3, W2.alloc (.cells #[.slice a l.length c] 138) = W3 := ⟨_, rfl⟩;have k3 := kpA hW3;have hs3 : W3.heap.size = w.heap.size + 4 := by rw [<- hW3]; simp [HS2.o]
  have hb3 : Blk W3 W2.heap.size 138 #[.slice a l.length c] := by rw [<- hW3]; exact Blk.new W2 _ _
  have k13 := HK2.o.trans k3;have HKw := hid (HK1.o.trans k13);have HB3 := hid hb3;have HS3 := hid hs3;have hI0 : LexI w W1.heap.size [] W3 := ⟨⟨HB1.o.1.kept k13, HB1.o.2.kept k13⟩, ⟨0, none, 0, HB2.o.kept k3, rfl, World.ownsRow_nil _ _ _ _⟩, HKw.o, by have := HS3.o; omega, by simp⟩;have HI0 := hid hI0;have hg1 : Hid (W1.heap.size = w.heap.size + 2) := HS1;have hg2 : Hid (W2.heap.size = w.heap.size + 3) := HS2;clear hI0 hb3 hs3 k3 k13;rw [hW3];clear hW3;go_wp2_with fail;refine wpIn_wide.1 (wpIn_rangeFunc_ownU (F := Fence.wide) (n := 3) rfl (by omega) (gf := 137) (lb := #[.pointer (some ⟨W2.heap.size, 0, none⟩)]) rfl trivial (enters_of func137 (by kernel_rfl) rfl)
   (encs := encQ) (U := LexU w.heap.size W1.heap.size) (S := (· = Lx.seq l)) (Sp := (· <+: Lx.seq l)) (G := (· <+: Lx.seq l))
   (fun Wq hkq hsq => tokens1_u (3 - 1) (by omega) a c l w W2.heap.size _ Wq HS.o HT.o HE.o (by omega) (HKw.o.trans hkq) (HB3.o.kept hkq) (by have := HS2.o; omega) (by have := HS2.o; have := HS3.o; omega) ?u1 ?u2 ?u3)
   ?loc ?ul ?ud (fun _ => rfl) (LexI w W1.heap.size) (LexX w) (fun s A B h ho => h.only HS1.o (ho.mono fun k _ h => by have := HS3.o; omega)) (fun cd s A B h ho => h.only (ho.mono fun k _ h => by have := HS3.o; omega))
   HI0.o
   (fun x W => { tmps := #[.slice a l.length c, undef, .pointer (some ⟨w.heap.size, 0, none⟩), .pointer (some ⟨w.heap.size + 1, 0, none⟩), .pointer (some ⟨W1.heap.size, 0, none⟩), .pointer (some ⟨W.heap.size, 0, none⟩), .pointer (some ⟨W.heap.size + 1, 0, none⟩), .slice a l.length c, .int .i64 l.length, .bool false, undef, .slice a l.length c, .func (.func 137) #[] #[.pointer (some ⟨W2.heap.size, 0, none⟩)], tagg x.1.kind x.1.text x.1.n x.1.pos, fagg x.2.1 x.2.2, undef, undef, undef, undef, undef, undef, undef, undef, undef, undef], defers := [] })
   (fun x W => (W.alloc (.cells #[.int .i64 x.1.kind, .string x.1.text, .int .i64 x.1.n, .int .i64 x.1.pos] 70)).alloc (.cells #[.int .i64 x.2.1, .int .i64 x.2.2] 29)) (fun x W => ((Kept.refl W).alloc _).alloc _) ?assign ?body ?done ?stop)
  case u1 => intro W k h; have := HS1.o; rcases h with h | h | h | ⟨h, _⟩ <;> omega
  case u2 =>
   intro W hb h;have h1 := HS1.o;have h2 := HS2.o;rcases h with h | h | h | ⟨_, cs, fr, h⟩
   ·omega
   ·omega
   ·omega
   ·rw [hb] at h; cases h
  case u3 =>
   intro W g cs hb hgz h;have h1 := HS1.o;have h3 := HS3.o;rcases h with h | h | h | ⟨_, cs, fr, h⟩
   ·omega
   ·omega
   ·omega
   ·rw [hb] at h; cases h
  case loc =>
   intro A B k e h;rcases h with h | h | h | ⟨h, cs, fr, h'⟩
   ·exact .inl h
   ·exact .inr (.inl h)
   ·exact .inr (.inr (.inl h))
   ·exact .inr (.inr (.inr ⟨h, cs, fr, e.trans h'⟩))
  case ul =>
   intro W r hr h;have h1 := HS1.o;have h3 := HS3.o;rcases h with h | h | h | ⟨_, cs, fr, h⟩
   ·omega
   ·omega
   ·omega
   ·rw [hr] at h; cases h
  case ud =>
   intro W hr h;have h1 := HS1.o;have h3 := HS3.o;rcases h with h | h | h | ⟨_, cs, fr, h⟩
   ·omega
   ·omega
   ·omega
   ·rw [hr] at h; cases h
  case assign =>
   intro lr x W K hK
   gi_wp2
   exact hK
  case body =>
   intro lr pre x W0 W hlr hl0 hob hloop hI hG hsz;have h3z := HS3.o;have hb5 : Blk W W0.heap.size 70 #[.int .i64 x.1.kind, .string x.1.text, .int .i64 x.1.n, .int .i64 x.1.pos] := ((Blk.new W0 _ _).alloc _).only hob (by omega);have hb6 : Blk W (W0.heap.size + 1) 29 #[.int .i64 x.2.1, .int .i64 x.2.2] := by
    have := Blk.new (W0.alloc (.cells #[.int .i64 x.1.kind, .string x.1.text, .int .i64 x.1.n, .int .i64 x.1.pos] 70)) 29 #[.int .i64 x.2.1, .int .i64 x.2.2];rw [World.size_alloc] at this;exact this.only hob (by omega)
   obtain ⟨e5, e6, e7, e8⟩ : W.cell? ⟨W0.heap.size, 0, none⟩ = some (.int .i64 x.1.kind) /\ W.cell? ⟨W0.heap.size, 1, none⟩ = some (.string x.1.text) /\ W.cell? ⟨W0.heap.size, 2, none⟩ = some (.int .i64 x.1.n) /\ W.cell? ⟨W0.heap.size, 3, none⟩ = some (.int .i64 x.1.pos) := ⟨hb5.cell 0, hb5.cell 1, hb5.cell 2, hb5.cell 3⟩;obtain ⟨q0, q1⟩ : W.cell? ⟨W0.heap.size + 1, 0, none⟩ = some (.int .i64 x.2.1) /\ W.cell? ⟨W0.heap.size + 1, 1, none⟩ = some (.int .i64 x.2.2) := ⟨hb6.cell 0, hb6.cell 1⟩;have HI := hid hI;have HG := hid hG;have hplen : pre.length <= 20001 := by
    have h1 := hG.length_le;have h2 := seq_len l;simp at h1; omega
   by_cases hx : x.2.1 = 0
   ·have hxx : x.2 = (0, 0) := Lx.seqF_zero _ _ _ x (hG.subset (by simp)) hx;obtain ⟨⟨h1, h2⟩, ⟨m, a', c', h3, h4, h5⟩, h6, h7, h8⟩ := hI;obtain ⟨W4, hW4⟩ : ∃ W4, W.alloc (.cells #[.int .i64 x.1.kind, .string x.1.text, .int .i64 x.1.n, .int .i64 x.1.pos] 70) = W4 := ⟨_, rfl⟩;have k4 := kpA hW4;have hb7 : Blk W4 W.heap.size 70 #[.int .i64 x.1.kind, .string x.1.text, .int .i64 x.1.n, .int .i64 x.1.pos] := by rw [<- hW4]; exact Blk.new W _ _
    have HCL : Hid (∀ j u, (tCells x.1)[j]? = some u -> W4.cell? ((⟨W.heap.size, 0, none⟩ : Addr).add j) = some u) := hid (fun j u hu => by
     rw [addr_plainT, Nat.zero_add, hb7.cell j];have : (#[Value.int .i64 x.1.kind, .string x.1.text, .int .i64 x.1.n, .int .i64 x.1.pos] : Array Value)[j]? = (tCells x.1)[j]? := by rw [<- Array.getElem?_toList]; rfl
     rw [this, hu])
    have HR4 := hid (owns_keptT h5 k4);have HZ := hid (show w.heap.size + 6 <= W4.heap.size by have := k4.size; omega);have HN := hid (fun W5 v1 v2 ho hg => LexI.next (W4 := W5) (v1 := v1) (v2 := v2) HS1.o h1 h2 h3 h4 h5 h6 (by omega) h8 hxx k4 ho hg);have hml : m <= 20001 := by omega
    have c4 := h3.cell 0;have f4 := h3.frozen 0;simp at c4;have HB4 := hid (h3.kept k4);have HW4 := hid hW4;have HNE := hid (show ∀ k, (Value.slice a' m c').ownBlock = some k -> W1.heap.size ≠ k from fun k hk => by have := (rown_T h5 hk).1; have := HS1.o; omega);rw [hx] at q0;clear h1 h2 h3 h4 h5 h6 h7 h8 hb5 hb6 hb7 hW4 k4 hG hob hloop h3z
    gi_wp2_with (first | rw [HW4.o] | (gi_at_builtin; refine wpListIn_append_own _ rfl _ _ 41 rfl (w.heap.size + 6) 70 i0 (.agg #[.int .i64 0, .string ⟨#[]⟩, .int .i64 0, .int .i64 0]) 4 40 underlying41 hi hz0 hzz1 hzz2 rfl (by decide) _ _ _ rfl HR4.o ⟨W.heap.size, 0, none⟩ 1 1 (tCells x.1) rfl rfl HCL.o (by intro u hu; simp [tCells] at hu; rcases hu with rfl | rfl | rfl | rfl <;> rfl) (by unfold maxLen; omega) (by omega) HZ.o ?_; intro v' w5 hown' hgrow hnn; obtain ⟨va, vc, rfl⟩ := owns_valT hown'; have hB5 : Blk w5 W1.heap.size 41 #[.slice a' m c'] := (hgrow.block _ HB4.o.lt (fun e => HNE.o _ e.symm rfl)).trans HB4.o; have g4 := hB5.frozen 0; have g5 := hB5.cell 0; simp at g5; have HO := hid hown'; have HGR := hid hgrow; clear hown' hgrow hnn hB5))
    exact HN.o _ _ _ HO.o HGR.o
   ·have he1 : (x.2.1 == 0) = false := by simp [hx]
    have he2 : (x.2.1 != 0) = true := by simp [hx]
    obtain ⟨⟨h1, h2⟩, _⟩ := hI;have HX := hid (HI.o.found x hx);obtain ⟨c0, d0, d1⟩ : W.drew.cell? ⟨w.heap.size, 0, none⟩ = some (.slice none 0 0) /\ W.drew.cell? ⟨w.heap.size + 1, 0, none⟩ = some (.int .i64 0) /\ W.drew.cell? ⟨w.heap.size + 1, 1, none⟩ = some (.int .i64 0) := ⟨h1.cell 0, h2.cell 0, h2.cell 1⟩;obtain ⟨s0, s1, s2⟩ : W.cell? ⟨w.heap.size, 0, none⟩ = some (.slice none 0 0) /\ W.cell? ⟨w.heap.size + 1, 0, none⟩ = some (.int .i64 0) /\ W.cell? ⟨w.heap.size + 1, 1, none⟩ = some (.int .i64 0) := ⟨h1.cell 0, h2.cell 0, h2.cell 1⟩;obtain ⟨f0, f1, f2⟩ : W.frozen? ⟨w.heap.size, 0, none⟩ = false /\ W.frozen? ⟨w.heap.size + 1, 0, none⟩ = false /\ W.frozen? ⟨w.heap.size + 1, 1, none⟩ = false := ⟨h1.frozen 0, h2.frozen 0, h2.frozen 1⟩;obtain ⟨r0, r1⟩ : W.drew.cell? ⟨W0.heap.size + 1, 0, none⟩ = some (.int .i64 x.2.1) /\ W.drew.cell? ⟨W0.heap.size + 1, 1, none⟩ = some (.int .i64 x.2.2) := ⟨q0, q1⟩;have hnn : w.heap.size ≠ W0.heap.size + 1 := by omega
    have hnn2 : w.heap.size + 1 ≠ W0.heap.size + 1 := by omega
    clear h1 h2 hb5 hb6 hG hob hloop HI HG h3z
    gi_wp2
    refine wpIn_region_of_any (by kernel_rfl) (by kernel_rfl) (by rintro ⟨_, _, h⟩; exact h) ?_;change wpAny _ _ _ _ _ _ _ (World.drew _);refine rdA [0, 1] ?_;refine aR (fun K hK => ?_) ?_
    ·go_simp;refine hK _ _ ?_; clear hK K;refine rdA [1] ?_;refine aR (fun K hK => ?_) ?_
     ·go_simp;refine hK _ _ ?_; clear hK K;refine rdA [2] ?_;refine aR (fun K hK => ?_) ?_
      ·go_simp;refine hK _ _ ?_; clear hK K;refine wpAny_done (by kernel_rfl) ?_ _
       gi_wp2
       exact HX.o
      exact AllReady.nil
     exact AllReady.nil
    refine aR (fun K hK => ?_) ?_
    ·go_simp;refine hK _ _ ?_; clear hK K;refine rdA [0] ?_;refine aR (fun K hK => ?_) ?_
     ·go_simp;refine hK _ _ ?_; clear hK K;refine rdA [2] ?_;refine aR (fun K hK => ?_) ?_
      ·go_simp;refine hK _ _ ?_; clear hK K;refine wpAny_done (by kernel_rfl) ?_ _
       gi_wp2
       exact HX.o
      exact AllReady.nil
     exact AllReady.nil
    exact AllReady.nil
  case done =>
   rintro D xs W hD rfl hI hK;obtain ⟨⟨h1, h2⟩, ⟨m, a', c', h3, h4, h5⟩, h6, h7, h8⟩ := hI;have h1z := HS1.o;have h3z := HS3.o;obtain ⟨b1, b2⟩ := put3_blk h1 h2 (.slice a' m c') 0 0;have ho := put3_only W w.heap.size (.slice a' m c') 0 0;have hK2 := ho.same hK (by omega);have hd : Only (· = D) (put3 W w.heap.size (.slice a' m c') 0 0) ((put3 W w.heap.size (.slice a' m c') 0 0).putObj D (.deferred none)) := (Only.refl (· = D) _).putObj (.inl rfl) _;have HE1 := hid (b1.only hd (by omega));have HE2 := hid (b2.only hd (by omega));have HE3 := hid (LexPost2.good (w' := (put3 W w.heap.size (.slice a' m c') 0 0).putObj D (.deferred none)) (W := W) (by omega) h8 h4 (owns_onlyT (owns_onlyT h5 ho (fun g hg => by omega)) hd (fun g hg => by omega)) ((h6.only ho rfl (fun k hk => by omega)).only hd rfl (fun k hk => by omega)) (by omega));obtain ⟨c0, d0, d1⟩ : W.cell? ⟨w.heap.size, 0, none⟩ = some (.slice none 0 0) /\ W.cell? ⟨w.heap.size + 1, 0, none⟩ = some (.int .i64 0) /\ W.cell? ⟨w.heap.size + 1, 1, none⟩ = some (.int .i64 0) := ⟨h1.cell 0, h2.cell 0, h2.cell 1⟩;obtain ⟨f0, f1, f2⟩ : W.frozen? ⟨w.heap.size, 0, none⟩ = false /\ W.frozen? ⟨w.heap.size + 1, 0, none⟩ = false /\ W.frozen? ⟨w.heap.size + 1, 1, none⟩ = false := ⟨h1.frozen 0, h2.frozen 0, h2.frozen 1⟩;have c4 := h3.cell 0;simp at c4;have HK2 := hid hK2;clear h1 h2 h3 h4 h5 h6 h7 h8 b1 b2 ho hK hd hK2 h1z h3z hD;go_wp2_with fail;refine ⟨by simp, .inl ⟨_, _, rfl, run_takeDeferred HK2.o, ?_⟩⟩;exact ⟨_, lex_results (by rfl) _ _ rfl rfl HE1.o HE2.o, HE3.o⟩
  case stop =>
   rintro D cd pre W hD hpre ⟨rfl, pre', q, rfl, h2, h3, h4, h5, h6⟩ hK;have h1z := HS1.o;have h3z := HS3.o;have hd : Only (· = D) W (W.putObj D (.deferred none)) := (Only.refl (· = D) _).putObj (.inl rfl) _;have HE1 := hid (h4.only hd (by omega));have HE2 := hid (h5.only hd (by omega));have HE3 := hid (LexPost2.bad (l := l) (by omega) hpre h2 h3 (h6.only hd rfl (fun k hk => by omega)));clear h1z h3z hD
   gi_wp2
   refine ⟨by simp, .inl ⟨_, _, rfl, run_takeDeferred hK, ?_⟩⟩;exact ⟨_, lex_results (by rfl) _ _ rfl rfl HE1.o HE2.o, HE3.o⟩
theorem lex_c (a : Option Addr) (c : Nat) (l : List UInt8) (w : World) (h : SrcAt w (.slice a l.length c) l) (hT : Tb w) (hE : Er w) :
  Calls prog 76 #[.slice a l.length c] w (LexPost l w) := (lex_o a c l w h hT hE).mono fun _ _ h => h.1
namespace Lx
theorem headD_take (s : List UInt8) {m : Nat} (h : 0 < m) : (s.take m).headD 0 = s.headD 0 := by
 cases s with
 | nil => simp
 | cons c r => cases m with
  | zero => omega
  | succ m => rfl
end Lx
namespace Lx
theorem run_app {f : UInt8 -> Bool} : ∀ (u r : List UInt8), (run f u < u.length ∨ ∀ c t, r = c :: t -> f c = false) -> run f (u ++ r) = run f u
  | [], r, h => by
    cases r with
    | nil => rfl
    | cons c t =>
      have := h.resolve_left (by simp) c t rfl
      show run f (c :: t) = 0
      rw [run, if_neg (by rw [this]; decide)]
  | c :: u, r, h => by
    rw [List.cons_append, run, run];by_cases hc : f c = true
    · rw [if_pos hc, if_pos hc];rw [run_app u r (by
        rcases h with h | h
        · rw [run, if_pos hc] at h; simp at h; exact .inl h
        · exact .inr h)]
    · rw [if_neg hc, if_neg hc]
theorem take_app {u r : List UInt8} {k : Nat} (h : k <= u.length) : (u ++ r).take k = u.take k := List.take_append_of_le_length h
theorem drop_app {u r : List UInt8} {k : Nat} (h : k <= u.length) : (u ++ r).drop k = u.drop k ++ r := List.drop_append_of_le_length h
theorem headD_app {u r : List UInt8} (h : 0 < u.length) : (u ++ r).headD 0 = u.headD 0 := by
  cases u with
  | nil => simp at h
  | cons c u => rfl
theorem txt_app : ∀ (b : Bool) (u r : List UInt8), (txt b u).2.2 = 0 -> txt b (u ++ r) = txt b u
  | b, [], r, h => by cases b <;> simp [txt] at h
  | true, c :: u, r, h => by
    rw [List.cons_append];rw [txt] at h ⊢;rw [txt]
    cases hm : meant c with
    | none => rfl
    | some x =>
      rw [hm] at h;simp only at h ⊢;rw [txt_app false u r h]
  | false, c :: u, r, h => by
    rw [List.cons_append];rw [txt] at h ⊢;rw [txt];by_cases h1 : c.toNat = 92
    · rw [if_pos h1] at h ⊢;rw [if_pos h1];simp only at h ⊢;rw [txt_app true u r h]
    · rw [if_neg h1] at h ⊢;rw [if_neg h1];by_cases h2 : c.toNat = 34
      · rw [if_pos h2, if_pos h2]
      · rw [if_neg h2] at h ⊢;rw [if_neg h2];by_cases h3 : pr c = true
        · rw [if_pos h3] at h ⊢;rw [if_pos h3];simp only at h ⊢;rw [txt_app false u r h]
        · rw [if_neg h3, if_neg h3]
theorem text_app {u r : List UInt8} {k : Int} {x : ByteArray} {v : Int} {len : Nat} (hu : 0 < u.length) (h : text u = .tok k x v len) : text (u ++ r) = .tok k x v len := by
  unfold text at h ⊢;have hc : (txt false u.tail).2.2 = 0 := by
    have h5 := (txt_len false u.tail).2.2.2.2;unfold textR at h;by_cases h1 : (txt false u.tail).2.2 = 1
    · rw [if_pos h1] at h; cases h
    · rw [if_neg h1] at h;by_cases h2 : 1000 < (txt false u.tail).1.length
      · rw [if_pos h2] at h; cases h
      · rw [if_neg h2] at h;by_cases h3 : (txt false u.tail).2.2 = 2
        · rw [if_pos h3] at h; cases h
        · omega
  have e : (u ++ r).tail = u.tail ++ r := by
    cases u with
    | nil => simp at hu
    | cons c u => rfl
  rw [e, txt_app false u.tail r hc];exact h
theorem sw_small : ∀ x ∈ sw, x.size <= 2 := by decide +kernel
theorem find_same {P Q : ByteArray -> Bool} : ∀ (l : List ByteArray), (∀ x ∈ l, P x = Q x) -> l.find? P = l.find? Q
  | [], _ => rfl
  | x :: l, h => by
    rw [List.find?_cons, List.find?_cons, h x (by simp), find_same l (fun y hy => h y (by simp [hy]))]
theorem skip_first {s : List UInt8} (h : skip false s = 0) : ∀ c r, s = c :: r -> kd c ≠ 1 /\ ¬ (c.toNat = 47 /\ (r.headD 0).toNat = 47) := by
  rintro c r rfl;rw [skip] at h;refine ⟨fun h1 => by rw [if_pos h1] at h; omega, fun h2 => ?_⟩;by_cases h1 : kd c = 1
  · rw [if_pos h1] at h; omega
  · rw [if_neg h1, if_pos h2] at h; omega
theorem seqF_pos {g p : Nat} {s : List UInt8} {q : Q} {r : List Q} (h : seqF (g + 1) p s = q :: r) (hg : ∀ x ∈ seqF (g + 1) p s, x.2 = (0, 0)) :
    ∃ k x v len, tok (s.drop (skip false s)) = .tok k x v len /\ q = (⟨k, x, v, ((p + skip false s : Nat) : Int)⟩, 0, 0) /\ r = seqF g (p + skip false s + len) ((s.drop (skip false s)).drop len) /\ 0 < len /\ skip false s + len <= s.length := by
  rw [seqF] at h hg;by_cases he : (s.drop (skip false s)).length = 0
  · rw [if_pos he] at h; cases h
  · rw [if_neg he] at h hg
    cases ht : tok (s.drop (skip false s)) with
    | bad e o =>
      have hb := tok_bad ht;have := hg (zeroT, e, ((p + skip false s + o : Nat) : Int)) (by rw [ht]; simp);injection this with h1 _;exact absurd h1 hb
    | tok k x v len =>
      rw [ht] at h;have h : (((⟨k, x, v, ((p + skip false s : Nat) : Int)⟩, 0, 0) : Q) :: seqF g (p + skip false s + len) ((s.drop (skip false s)).drop len)) = q :: r := h;injection h with h1 h2;have hlen := tok_len he ht;rw [List.length_drop] at hlen he;exact ⟨k, x, v, len, rfl, h1.symm, h2.symm, hlen.1, by omega⟩
end Lx
end Go.Proofs.YtegcgflhgfmkpaaGreatDoor
