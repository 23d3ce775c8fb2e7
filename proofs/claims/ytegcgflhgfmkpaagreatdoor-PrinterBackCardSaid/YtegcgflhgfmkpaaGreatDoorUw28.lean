/- Texts. -/
import Derived.Test.YtegcgflhgfmkpaaGreatDoorUTkm
import Derived.Test.YtegcgflhgfmkpaaGreatDoorUw27
import Derived.Test.YtegcgflhgfmkpaaGreatDoorUNam
import Derived.Laws.BytesString
import Derived.Test.YtegcgflhgfmkpaaGreatDoorUw0
import Derived.Deep.RegionHeld3
set_option linter.unusedSimpArgs false
set_option linter.unusedVariables false
set_option maxRecDepth 100000
set_option maxHeartbeats 16000000
namespace Go.Proofs.YtegcgflhgfmkpaaGreatDoor
open Lib (hid)
open _root_.Go.Proofs.Tryz
open Go.ChangeShapes Go.WideShapes Go.ChangeAt Go.RowKit Go.Shelf
attribute [local go_sem] Oper.semAt_some
def IdxR (k : Int) (x : Int) (l : List Int) : Prop := decide (0 <= k) = decide (x ∈ l)
theorem index_c (a : Option Addr) (c : Nat) (l : List Int) (x : Int) (w : World) (h : IntsR w (.slice a l.length c) l) :
  Calls prog 140 #[.slice a l.length c, .int .i64 x] w fun e w' => ∃ k : Int, e = .returned (.int .i64 k) /\ IdxR k x l /\ w' = w := by
 have hcap : l.length <= maxLen := Row.len h;obtain ⟨_, _, e0, _, _, hat⟩ := h;injection e0 with e1 e2 e3;subst e1 e3;clear e2;have HAT := hid hat;clear hat;unfold maxLen at hcap;go_enter func140, ntmps140;go_wp2_with fail;go_loopw [8] (fun i wr => ∃ k : Nat, i = .int .i64 k /\ k <= l.length /\ Hid (x ∉ l.take k) /\ wr = w) (fun i wr => l.length - (intOf i).toNat)
 case atStart => exact ⟨0, rfl, Nat.zero_le _, hid (by simp), rfl⟩
 case round =>
  obtain ⟨k, rfl, hk, HN, rfl⟩ := hrel;by_cases hlt : k < l.length
  ·have hltI : (k : Int) < (l.length : Int) := by omega
   have hx : l[k]? = some l[k] := List.getElem?_eq_getElem hlt;generalize hy : l[k] = y at hx;obtain ⟨b, o, rfl, hc⟩ := HAT.o k y hx;unfold IntAt at hc;rw [Nat.mul_one] at hc;have HX := hid hx;clear hx hy;by_cases hxy : x = y
   ·have hb : (x == y) = true := by simp [hxy]
    have HD := hid (show IdxR (k : Int) x l by unfold IdxR; rw [decide_eq_true (by omega : (0 : Int) <= (k : Int)), decide_eq_true (by rw [hxy]; exact List.mem_of_getElem? HX.o)]);clear hxy;go_wp2_with fail;go_ret;exact ⟨k, rfl, HD.o, rfl⟩
   ·have hb : (x == y) = false := by simp [hxy]
    have HN2 := hid (show x ∉ l.take (k + 1) by
     rw [List.take_add_one, HX.o];simp only [Option.toList_some, List.mem_append, List.mem_singleton, not_or];exact ⟨HN.o, hxy⟩)
    clear hxy;go_wp2_with fail;go_roundw
    case rel => exact ⟨k + 1, by go_num, by omega, HN2, by first | trivial | rfl⟩
    case measure => simp [intOf]; omega
  ·obtain rfl : k = l.length := by omega
   have HD := hid (show IdxR (-1) x l by
    unfold IdxR;have := HN.o;rw [List.take_length] at this;rw [decide_eq_false this]; rfl)
   have hltI : ¬ (l.length : Int) < (l.length : Int) := by omega
   go_wp2_with fail;go_ret;exact ⟨-1, rfl, HD.o, rfl⟩
theorem contains_c (a : Option Addr) (c : Nat) (l : List Int) (x : Int) (w : World) (h : IntsR w (.slice a l.length c) l) :
  Calls prog 105 #[.slice a l.length c, .int .i64 x] w fun e w' => e = .returned (.bool (decide (x ∈ l))) /\ w' = w := by
 have HI := hid (index_c a c l x w h);clear h;go_enter func105, ntmps105;go_wp2_with fail;refine HI.o.mono ?_;rintro e w' ⟨k, rfl, HD, rfl⟩;go_wp2_with fail;go_ret;exact ⟨by have := HD; unfold IdxR at this; rw [<- this]; rfl, rfl⟩
namespace Nd
def lead (kinds : List Int) (l : List Nd) : Nat := (l.takeWhile fun y => decide (y.kind ∈ kinds)).length
theorem lead_at {kinds : List Int} : ∀ {l : List Nd} {k : Nat} {y : Nd}, (∀ z ∈ l.take k, z.kind ∈ kinds) -> l[k]? = some y -> ¬ y.kind ∈ kinds -> lead kinds l = k
 | [], k, y, _, h, _ => by simp at h
 | x :: r, 0, y, _, h, hn => by
  simp at h; subst h;unfold lead; rw [List.takeWhile_cons, decide_eq_false hn]; rfl
 | x :: r, k + 1, y, h, hy, hn => by
  have h0 : x.kind ∈ kinds := h x (by simp);have ih := lead_at (l := r) (k := k) (y := y) (fun z hz => h z (by simp [hz])) (by simpa using hy) hn;unfold lead at ih ⊢;rw [List.takeWhile_cons, decide_eq_true h0];simp [ih]
theorem lead_all {kinds : List Int} {l : List Nd} (h : ∀ z ∈ l, z.kind ∈ kinds) : lead kinds l = l.length := by
 unfold lead;rw [show l.takeWhile (fun y => decide (y.kind ∈ kinds)) = l by
  induction l with
  | nil => rfl
  | cons x r ih => rw [List.takeWhile_cons, decide_eq_true (h x (by simp))]; simp [ih fun z hz => h z (List.mem_cons_of_mem _ hz)]]
theorem lead_le (kinds : List Int) (l : List Nd) : lead kinds l <= l.length := by unfold lead; exact (List.takeWhile_prefix _).length_le
end Nd
theorem leading_c (a : Option Addr) (c : Nat) (l : List Nd) (ka : Option Addr) (kc : Nat) (ks : List Int) (w : World) (h : KidsAt w (.slice a l.length c) l) (hk : IntsR w (.slice ka ks.length kc) ks) :
  Calls prog 78 #[.slice a l.length c, .slice ka ks.length kc] w fun e w' => e = .returned (.int .i64 (Nd.lead ks l : Nat)) /\ w' = w := by
 have hcap : l.length <= maxLen := Row.len h;obtain ⟨_, _, e0, _, _, hat⟩ := h;injection e0 with e1 e2 e3;subst e1 e3;clear e2;have HAT := hid hat;have HC := hid (fun x => contains_c ka kc ks x w hk);clear hat hk;unfold maxLen at hcap;go_enter func78, ntmps78;go_wp2_with fail;go_loopw [8] (fun i wr => ∃ k : Nat, i = .int .i64 k /\ k <= l.length /\ Hid (∀ z ∈ l.take k, z.kind ∈ ks) /\ wr = w) (fun i wr => l.length - (intOf i).toNat)
 case atStart => exact ⟨0, rfl, Nat.zero_le _, hid (by simp), rfl⟩
 case round =>
  obtain ⟨k, rfl, hkl, HN, rfl⟩ := hrel;by_cases hlt : k < l.length
  ·have hltI : (k : Int) < (l.length : Int) := by omega
   have hx : l[k]? = some l[k] := List.getElem?_eq_getElem hlt;generalize hy : l[k] = y at hx;obtain ⟨b, o, rfl, hn⟩ := HAT.o k y hx;obtain ⟨_, _, ⟨d0, _⟩, _⟩ := hn.cells;have HX := hid hx;have HCY := hid (HC.o y.kind);clear hx hy hn;by_cases hxy : y.kind ∈ ks
   ·rw [decide_eq_true hxy] at HCY;have HN2 := hid (show ∀ z ∈ l.take (k + 1), z.kind ∈ ks from fun z hz => by
     rw [List.take_add_one, HX.o] at hz;simp only [Option.toList_some, List.mem_append, List.mem_singleton] at hz;rcases hz with hz | rfl
     ·exact HN.o z hz
     ·exact hxy)
    clear hxy;go_wp2_with fail;refine HCY.o.mono ?_;rintro e w' ⟨rfl, rfl⟩;go_wp2_with fail;go_roundw
    case rel => exact ⟨k + 1, by go_num, by omega, HN2, by first | trivial | rfl⟩
    case measure => simp [intOf]; omega
   ·rw [decide_eq_false hxy] at HCY;have HL := hid (Nd.lead_at HN.o HX.o hxy);clear hxy;go_wp2_with fail;refine HCY.o.mono ?_;rintro e w' ⟨rfl, rfl⟩;go_wp2_with fail;go_ret;exact ⟨by rw [HL.o]; rfl, rfl⟩
  ·obtain rfl : k = l.length := by omega
   have HL := hid (show Nd.lead ks l = l.length from Nd.lead_all (by have := HN.o; rwa [List.take_length] at this));have hltI : ¬ (l.length : Int) < (l.length : Int) := by omega
   go_wp2_with fail;go_ret;exact ⟨by rw [HL.o]; rfl, rfl⟩
def ctB (c : UInt8) : Bool := (decide (32 <= c.toNat) && decide (c.toNat <= 126)) || decide (c.toNat = 10)
def contsB (s : ByteArray) : Bool := s.data.toList.all ctB
theorem conts_c (s : ByteArray) (w : World) (hs : s.size <= maxLen) : Calls prog 80 #[.string s] w fun e w' => e = .returned (.bool (contsB s)) /\ w' = w := by
 unfold maxLen at hs;go_enter func80, ntmps80;go_wp2_with fail;go_loopw [6] (fun i wr => ∃ k : Nat, i = .int .i64 k /\ k <= s.size /\ Hid (∀ c ∈ s.data.toList.take k, ctB c = true) /\ wr = w) (fun i wr => s.size - (intOf i).toNat)
 case atStart => exact ⟨0, rfl, Nat.zero_le _, hid (by simp), rfl⟩
 case round =>
  obtain ⟨k, rfl, hk, HN, rfl⟩ := hrel;by_cases hlt : k < s.size
  ·have hltI : (k : Int) < (s.size : Int) := by omega
   have hx : s.data.toList[k]? = some s[k] := by
    rw [Array.getElem?_toList];exact Array.getElem?_eq_getElem hlt
   have HX := hid hx;clear hx;have good : ctB s[k] = true -> Hid (∀ c ∈ s.data.toList.take (k + 1), ctB c = true) := fun hc => hid (fun z hz => by
     rw [List.take_add_one, HX.o] at hz;simp only [Option.toList_some, List.mem_append, List.mem_singleton] at hz;rcases hz with hz | rfl
     ·exact HN.o z hz
     ·exact hc)
   have bad : ctB s[k] = false -> Hid (contsB s = false) := fun hc => hid (by
    unfold contsB;rw [List.all_eq_false];exact ⟨_, List.mem_of_getElem? HX.o, by rw [hc]; simp⟩)
   by_cases h1 : 32 <= s[k].toNat /\ s[k].toNat <= 126
   ·have HN2 := good (by unfold ctB; rw [decide_eq_true h1.1, decide_eq_true h1.2]; rfl);have hA : ¬ ((s[k].toNat : Nat) : Int) < 32 := by omega
    have hB : ¬ 126 < ((s[k].toNat : Nat) : Int) := by omega
    clear h1 good bad;go_wp2_with fail;go_roundw
    case rel => exact ⟨k + 1, by go_num, by omega, HN2, by first | trivial | rfl⟩
    case measure => simp [intOf]; omega
   ·by_cases h2 : s[k].toNat = 10
    ·have HN2 := good (by unfold ctB; rw [decide_eq_true h2]; simp);have hA : ((s[k].toNat : Nat) : Int) = 10 := by omega
     clear h1 h2 good bad;go_wp2_with fail;go_roundw
     case rel => exact ⟨k + 1, by go_num, by omega, HN2, by first | trivial | rfl⟩
     case measure => simp [intOf]; omega
    ·have HB := bad (by
      unfold ctB;rw [decide_eq_false h2];have : (decide (32 <= s[k].toNat) && decide (s[k].toNat <= 126)) = false := by
       rw [Bool.and_eq_false_iff, decide_eq_false_iff_not, decide_eq_false_iff_not]; omega
      rw [this]; rfl)
     have hne : (((s[k].toNat : Nat) : Int) != 10) = true := by simp; omega
     by_cases h3 : s[k].toNat < 32
     ·have hA : ((s[k].toNat : Nat) : Int) < 32 := by omega
      clear h1 h2 h3 good bad;go_wp2_with fail;go_ret;exact ⟨by rw [HB.o]; rfl, rfl⟩
     ·have hA : ¬ ((s[k].toNat : Nat) : Int) < 32 := by omega
      have hB : 126 < ((s[k].toNat : Nat) : Int) := by omega
      clear h1 h2 h3 good bad;go_wp2_with fail;go_ret;exact ⟨by rw [HB.o]; rfl, rfl⟩
  ·obtain rfl : k = s.size := by omega
   have HL := hid (show contsB s = true from List.all_eq_true.2 (by have := HN.o; rw [List.take_of_length_le (by simp)] at this; exact this));have hltI : ¬ (s.size : Int) < (s.size : Int) := by omega
   go_wp2_with fail;go_ret;exact ⟨by rw [HL.o]; rfl, rfl⟩
end Go.Proofs.YtegcgflhgfmkpaaGreatDoor
namespace Go.Proofs.YtegcgflhgfmkpaaGreatDoor
open Lib (hid)
open _root_.Go.Proofs.Tryz
open Go.ChangeShapes Go.WideShapes Go.ChangeAt Go.RowKit
def kTo (n : Nat) (p : Pt) (f : Nat) : Nat := if p.more = 0 then min n (f + p.cnt.toNat) else n
def kSize (l : List Nd) (p : Pt) (f : Nat) : Nat := Nd.lead p.kinds ((l.drop f).take (kTo l.length p f - f))
def kStep (l : List Nd) (p : Pt) (st : Int × Nat) : Option (Int × Nat) := if (kSize l p st.2 : Int) < p.cnt then none else some (if p.cnt + p.more < (kSize l p st.2 : Int) then 12 else st.1, st.2 + kSize l p st.2)
def kRun (l : List Nd) : List Pt -> Int × Nat -> Option (Int × Nat)
 | [], st => some st
 | p :: r, st => match kStep l p st with
  | none => none
  | some s => kRun l r s
def kEnd (l : List Nd) : Option (Int × Nat) -> Int
 | none => 5
 | some (e, f) => if f < l.length then 5 else e
def kidsE (l : List Nd) (ps : List Pt) : Int := kEnd l (kRun l ps (0, 0))
theorem kTo_le {n : Nat} {p : Pt} {f : Nat} (hf : f <= n) : f <= kTo n p f /\ kTo n p f <= n := by unfold kTo; split <;> omega
theorem kSize_le {l : List Nd} {p : Pt} {f : Nat} (hf : f <= l.length) : f + kSize l p f <= l.length := by
 have h1 := Nd.lead_le p.kinds ((l.drop f).take (kTo l.length p f - f));have h2 := kTo_le (p := p) hf;rw [List.length_take, List.length_drop] at h1;unfold kSize; omega
def partsOk (ps : List Pt) : Prop := ∀ p ∈ ps, 0 <= p.cnt /\ p.cnt <= 10000 /\ 0 <= p.more /\ p.more <= 10000
theorem kids_cut {D : Nat -> Prop} {w : World} {b o c f t : Nat} {l : List Nd} (h : KidsD D w (.slice (some ⟨b, o, none⟩) l.length c) l) (hft : f <= t) (ht : t <= l.length) :
  KidsD D w (.slice (some ⟨b, o + f * 6, none⟩) ((l.drop f).take (t - f)).length (t - f)) ((l.drop f).take (t - f)) := by
 obtain ⟨_, _, e, hl, hm, hs⟩ := h;injection e with e1 e2 e3;subst e1 e3;refine ⟨_, t - f, rfl, by simp; omega, by omega, fun i x hx => ⟨b, o + f * 6, rfl, ?_⟩⟩;have hi : i < t - f := by have := (List.getElem?_eq_some_iff.1 hx).1; simp at this; omega
 rw [List.getElem?_take_of_lt hi, List.getElem?_drop] at hx;obtain ⟨b2, o2, e2, h2⟩ := hs (f + i) x hx;injection e2 with e2;injection e2 with e3 e4;subst e3 e4;rw [show o + f * 6 + i * 6 = o + (f + i) * 6 by omega];exact h2
theorem kids_none {D : Nat -> Prop} {w : World} {a : Option Addr} : KidsD D w (.slice a ([] : List Nd).length 0) [] := ⟨a, 0, rfl, Nat.le_refl _, Nat.zero_le _, fun i x h => by simp at h⟩
theorem kids_len {D : Nat -> Prop} {w : World} {n c : Nat} {l : List Nd} (h : KidsD D w (.slice none n c) l) : l = [] := by
 obtain ⟨_, _, e, hl, hm, hs⟩ := h;injection e with e1 e2 e3
 cases l with
 | nil => rfl
 | cons x r => obtain ⟨b, o, e4, _⟩ := hs 0 x rfl; rw [<- e1] at e4; cases e4
theorem kids_c (a : Option Addr) (c : Nat) (l : List Nd) (pa : Option Addr) (pc : Nat) (ps : List Pt) (w : World) (h : KidsAt w (.slice a l.length c) l) (hp : PartsR w (.slice pa ps.length pc) ps) (hok : partsOk ps) (hll : l.length <= 1000000000000) :
  Calls prog 38 #[.slice a l.length c, .slice pa ps.length pc] w fun e w' => e = .returned (.int .i64 (kidsE l ps)) /\ Kept w w' := by
 have hcap : l.length <= maxLen := Row.len h;have hpl : ps.length <= maxLen := Row.len hp;have hlc : l.length <= c /\ c <= maxLen := by obtain ⟨_, _, e, h1, h2, _⟩ := h; injection e with _ _ e3; rw [e3]; exact ⟨h1, h2⟩
 have HL := hid h;obtain ⟨_, _, e0, _, _, hat⟩ := hp;injection e0 with e1 e2 e3;subst e1 e3;clear e2;have HAT := hid hat;have HOK := hid hok;have HLC := hid hlc;clear hat hok h hlc;unfold maxLen at hcap hpl;go_enter func38, ntmps38;go_wp2_with fail;go_loopw [5, 6, 13] (fun x5 x6 i wr => ∃ (k f : Nat) (er : Int), i = .int .i64 k /\ k <= ps.length /\ x6 = .int .i64 f /\ f <= l.length /\ x5 = .int .i64 er /\ Hid (kRun l ps (0, 0) = kRun l (ps.drop k) (er, f)) /\ Kept w wr) (fun x5 x6 i wr => ps.length - (intOf i).toNat)
 case atStart => exact ⟨0, 0, 0, rfl, Nat.zero_le _, rfl, Nat.zero_le _, rfl, hid (by rw [List.drop_zero]), Kept.refl _⟩
 case round =>
  obtain ⟨k, f, er, rfl, hk, rfl, hf, rfl, HR, hkp⟩ := hrel;have HK := hid hkp;by_cases hlt : k < ps.length
  ·have hltI : (k : Int) < (ps.length : Int) := by omega
   have hx : ps[k]? = some ps[k] := List.getElem?_eq_getElem hlt;have hdr : ps.drop k = ps[k] :: ps.drop (k + 1) := List.drop_eq_getElem_cons hlt;generalize ps[k] = p at hx hdr;obtain ⟨pb, po, rfl, hpt⟩ := HAT.o k p hx;obtain ⟨q1, q2, q3, q4⟩ := HOK.o p (List.mem_of_getElem? hx);obtain ⟨ks, d0, d1, d2, hki⟩ := hpt.kept hkp;obtain ⟨ka, kc, rfl, _⟩ := id hki;have HST := hid (show kRun l ps (0, 0) = match kStep l p (er, f) with | none => none | some s => kRun l (ps.drop (k + 1)) s by rw [HR.o, hdr]; rfl);obtain ⟨t, ht⟩ : ∃ t, kTo l.length p f = t := ⟨_, rfl⟩;obtain ⟨z, hz⟩ : ∃ z, kSize l p f = z := ⟨_, rfl⟩;obtain ⟨t1, t2⟩ := kTo_le (p := p) hf;have hzl := kSize_le (p := p) hf;rw [ht] at t1 t2;rw [hz] at hzl;have hzt : Nd.lead p.kinds ((l.drop f).take (t - f)) = z := by rw [<- ht, <- hz]; rfl
   have htm : p.more = 0 -> ((f : Int) + p.cnt < (l.length : Int) -> (f : Int) + p.cnt = (t : Int)) /\ (¬ (f : Int) + p.cnt < (l.length : Int) -> t = l.length) := fun hm => by
    have h1 := ht;unfold kTo at h1;rw [if_pos hm] at h1
    constructor <;> intro h2 <;> omega
   have htn : p.more ≠ 0 -> t = l.length := fun hm => by rw [<- ht]; unfold kTo; rw [if_neg hm]
   have HS1 := hid (fun (h : (z : Int) < p.cnt) => show kidsE l ps = 5 by unfold kidsE; rw [HST.o, show kStep l p (er, f) = none by unfold kStep; rw [if_pos (by rw [show ((er, f) : Int × Nat).2 = f from rfl, hz]; exact h)]]; rfl);have HS2 := hid (fun (h : p.cnt <= (z : Int)) => show kRun l ps (0, 0) = kRun l (ps.drop (k + 1)) (if p.cnt + p.more < (z : Int) then 12 else er, f + z) by
    rw [HST.o, show kStep l p (er, f) = some (if p.cnt + p.more < (z : Int) then 12 else er, f + z) by unfold kStep; rw [show ((er, f) : Int × Nat).2 = f from rfl, hz, if_neg (by omega)]])
   obtain ⟨n, hn⟩ : ∃ n, l.length = n := ⟨_, rfl⟩;have HN := hid hn;have HLK := hid (KidsD.kept HL.o hkp);have HC := HLC.o;rw [hn] at hll hcap hf t2 hzl htm htn HC HLK ⊢;obtain ⟨W2, hW2⟩ : ∃ W2, wr.alloc (.cells #[.slice ka p.kinds.length kc, .int .i64 p.cnt, .int .i64 p.more] 81) = W2 := ⟨_, rfl⟩;have k2 := kpA hW2;have b2 : Blk W2 wr.heap.size 81 #[.slice ka p.kinds.length kc, .int .i64 p.cnt, .int .i64 p.more] := by rw [<- hW2]; exact Blk.new wr _ _
   have HB2 := hid b2;have HK2 := hid (hkp.trans k2);have HKI := hid (IntsR.kept hki k2);have HLK2 := hid (KidsD.kept HLK.o k2);have HW2 := hid hW2;have HZ := hid hzt;obtain ⟨e0, e1, e2⟩ : W2.cell? ⟨wr.heap.size, 0, none⟩ = some (.slice ka p.kinds.length kc) /\ W2.cell? ⟨wr.heap.size, 1, none⟩ = some (.int .i64 p.cnt) /\ W2.cell? ⟨wr.heap.size, 2, none⟩ = some (.int .i64 p.more) := ⟨b2.cell 0, b2.cell 1, b2.cell 2⟩;clear hW2 k2 b2 hki hpt hzt ht hz hn hx hdr hkp HST HR;generalize p.cnt = cn at *;generalize p.more = mo at *;generalize p.kinds = kk at *;have tc : (t : Int) <= (c : Int) := by have := HC.1; omega
   have ftI : (f : Int) <= (t : Int) := by omega
   by_cases hm : mo = 0
   ·have hmb : (mo == 0) = true := by simp [hm]
    obtain ⟨hy, hno⟩ := htm hm;clear htm htn hm;by_cases hmn : (f : Int) + cn < (n : Int)
    ·have heq := hy hmn;have htnI : (t : Int) < (n : Int) := by omega
     clear hy hno hmn;by_cases hft : f = t
     ·have hz1 : z = 0 := by rw [<- HZ.o, hft]; simp [Nd.lead]
      have HLD := hid (fun W (k : Kept W2 W) => show Calls prog 78 #[.slice a 0 0, .slice ka kk.length kc] W (fun e w' => e = .returned (.int .i64 (z : Int)) /\ w' = W) from by rw [hz1]; exact leading_c a 0 [] ka kc kk W kids_none (IntsR.kept HKI.o k));have HZ1 := hid hz1;clear hz1;have hftI : ¬ (f : Int) < (t : Int) := by omega
      have hsub : t - f = 0 := by omega
      subst hft;clear hsub hftI;go_wp2_with (rw [HW2.o]);refine wp_region_held_drew (S := (fun W => W.cell? ⟨wr.heap.size, 0, none⟩ = some (.slice ka kk.length kc) /\ W.cell? ⟨wr.heap.size, 1, none⟩ = some (.int .i64 cn) /\ W.cell? ⟨wr.heap.size, 2, none⟩ = some (.int .i64 mo) /\ Kept W2 W)) (by kernel_rfl) ⟨(Kept.refl W2).drew.cell e0, (Kept.refl W2).drew.cell e1, (Kept.refl W2).drew.cell e2, (Kept.refl W2).drew⟩ (fun hHeld0 => ?_);refine nkH 0 ?_;refine nkH 1 ?_;refine nkH 2 ?_;refine nkH 3 ?_;refine nkH 4 ?_;refine nkH 5 ?_;refine nkH 6 ?_;refine r1H 7 (fun K hK => ?_);go_simp;go_at_call 78
      refine (HLD.o _ (Kept.refl W2).drew).mono ?_;rintro e w3 ⟨rfl, rfl⟩;refine hK.out _ _ hHeld0 (fun hHeld1 => ?_);clear hK K;clear hHeld0;refine nkH 8 ?_;refine wpAnyH_done (by kernel_rfl) ?_ _;clear hHeld1;have e0 := (Kept.refl W2).drew.cell e0;have e1 := (Kept.refl W2).drew.cell e1;have e2 := (Kept.refl W2).drew.cell e2;by_cases hs : (z : Int) < cn
      ·first | (exfalso; omega) | (have HV := hid (HS1.o hs); go_wp2_with fail; go_ret; exact ⟨by rw [HV.o]; rfl, HK2.o.drew⟩)
      ·have HV := hid (HS2.o (by omega));have hb : ¬ cn + mo < (z : Int) := by have := HZ1.o; omega
       rw [if_neg hb] at HV;have hbb : decide (cn + mo < (z : Int)) = false := decide_eq_false hb;go_wp2_with fail;go_roundw
       case rel => exact ⟨k + 1, f + z, er, by go_num, by omega, by go_num, by omega, rfl, HV, HK2.o.drew⟩
       case measure => simp [intOf]; omega
     ·obtain ⟨b, o, rfl⟩ : ∃ b o, a = some ⟨b, o, none⟩ := by
       cases a with
       | none =>
        exfalso;have h0 : l.length = 0 := by rw [kids_len (l := l) HLK.o]; rfl
        have := HN.o;omega
       | some ad =>
        cases hl0 : l with
        | nil => exfalso; have h0 : l.length = 0 := by { rw [hl0]; rfl }; have := HN.o; omega
        | cons y ys => obtain ⟨b, o, e, _⟩ := KidsD.head (x := y) (r := ys) (by rw [<- hl0]; exact HLK.o); exact ⟨b, o, e⟩
      have hcut := kids_cut (f := f) (t := t) (by rw [HN.o]; exact HLK2.o) (by omega) (by rw [HN.o]; omega);have hcl : ((l.drop f).take (t - f)).length = t - f := by rw [List.length_take, List.length_drop, HN.o]; omega
      have HLD := hid (fun W (k : Kept W2 W) => show Calls prog 78 #[.slice (some ⟨b, o + f * 6, none⟩) (t - f) (t - f), .slice ka kk.length kc] W (fun e w' => e = .returned (.int .i64 (z : Int)) /\ w' = W) from by
       have := leading_c (some ⟨b, o + f * 6, none⟩) (t - f) _ ka kc kk W (KidsD.kept hcut k) (IntsR.kept HKI.o k);rw [hcl, HZ.o] at this; exact this)
      have htf : ¬ t = f := fun e => hft e.symm;clear hcut hcl hft;go_wp2_with (rw [HW2.o]);refine wp_region_held_drew (S := (fun W => W.cell? ⟨wr.heap.size, 0, none⟩ = some (.slice ka kk.length kc) /\ W.cell? ⟨wr.heap.size, 1, none⟩ = some (.int .i64 cn) /\ W.cell? ⟨wr.heap.size, 2, none⟩ = some (.int .i64 mo) /\ Kept W2 W)) (by kernel_rfl) ⟨(Kept.refl W2).drew.cell e0, (Kept.refl W2).drew.cell e1, (Kept.refl W2).drew.cell e2, (Kept.refl W2).drew⟩ (fun hHeld0 => ?_);refine nkH 0 ?_;refine nkH 1 ?_;refine nkH 2 ?_;refine nkH 3 ?_;refine nkH 4 ?_;refine nkH 5 ?_;refine nkH 6 ?_;refine r1H 7 (fun K hK => ?_);go_simp;go_at_call 78
      refine (HLD.o _ (Kept.refl W2).drew).mono ?_;rintro e w3 ⟨rfl, rfl⟩;refine hK.out _ _ hHeld0 (fun hHeld1 => ?_);clear hK K;clear hHeld0;refine nkH 8 ?_;refine wpAnyH_done (by kernel_rfl) ?_ _;clear hHeld1;have e0 := (Kept.refl W2).drew.cell e0;have e1 := (Kept.refl W2).drew.cell e1;have e2 := (Kept.refl W2).drew.cell e2;by_cases hs : (z : Int) < cn
      ·first | (exfalso; omega) | (have HV := hid (HS1.o hs); go_wp2_with fail; go_ret; exact ⟨by rw [HV.o]; rfl, HK2.o.drew⟩)
      ·have HV := hid (HS2.o (by omega));by_cases hb : cn + mo < (z : Int)
       ·first | (exfalso; omega) | (rw [if_pos hb] at HV; have hbb : decide (cn + mo < (z : Int)) = true := decide_eq_true hb; go_wp2_with fail; go_roundw; (case rel => exact ⟨k + 1, f + z, 12, by go_num, by omega, by go_num, by omega, rfl, HV, HK2.o.drew⟩); (case measure => simp [intOf]; omega))
       ·rw [if_neg hb] at HV;have hbb : decide (cn + mo < (z : Int)) = false := decide_eq_false hb;go_wp2_with fail;go_roundw
        case rel => exact ⟨k + 1, f + z, er, by go_num, by omega, by go_num, by omega, rfl, HV, HK2.o.drew⟩
        case measure => simp [intOf]; omega
    ·obtain rfl := hno hmn;clear hy hno;by_cases hft : f = t
     ·have hz1 : z = 0 := by rw [<- HZ.o, hft]; simp [Nd.lead]
      have HLD := hid (fun W (k : Kept W2 W) => show Calls prog 78 #[.slice a 0 0, .slice ka kk.length kc] W (fun e w' => e = .returned (.int .i64 (z : Int)) /\ w' = W) from by rw [hz1]; exact leading_c a 0 [] ka kc kk W kids_none (IntsR.kept HKI.o k));have HZ1 := hid hz1;clear hz1;have hftI : ¬ (f : Int) < (t : Int) := by omega
      have hsub : t - f = 0 := by omega
      subst hft;clear hsub hftI;go_wp2_with (rw [HW2.o]);refine wp_region_held_drew (S := (fun W => W.cell? ⟨wr.heap.size, 0, none⟩ = some (.slice ka kk.length kc) /\ W.cell? ⟨wr.heap.size, 1, none⟩ = some (.int .i64 cn) /\ W.cell? ⟨wr.heap.size, 2, none⟩ = some (.int .i64 mo) /\ Kept W2 W)) (by kernel_rfl) ⟨(Kept.refl W2).drew.cell e0, (Kept.refl W2).drew.cell e1, (Kept.refl W2).drew.cell e2, (Kept.refl W2).drew⟩ (fun hHeld0 => ?_);refine nkH 0 ?_;refine nkH 1 ?_;refine nkH 2 ?_;refine nkH 3 ?_;refine nkH 4 ?_;refine nkH 5 ?_;refine nkH 6 ?_;refine r1H 7 (fun K hK => ?_);go_simp;go_at_call 78
      refine (HLD.o _ (Kept.refl W2).drew).mono ?_;rintro e w3 ⟨rfl, rfl⟩;refine hK.out _ _ hHeld0 (fun hHeld1 => ?_);clear hK K;clear hHeld0;refine nkH 8 ?_;refine wpAnyH_done (by kernel_rfl) ?_ _;clear hHeld1;have e0 := (Kept.refl W2).drew.cell e0;have e1 := (Kept.refl W2).drew.cell e1;have e2 := (Kept.refl W2).drew.cell e2;by_cases hs : (z : Int) < cn
      ·first | (exfalso; omega) | (have HV := hid (HS1.o hs); go_wp2_with fail; go_ret; exact ⟨by rw [HV.o]; rfl, HK2.o.drew⟩)
      ·have HV := hid (HS2.o (by omega));have hb : ¬ cn + mo < (z : Int) := by have := HZ1.o; omega
       rw [if_neg hb] at HV;have hbb : decide (cn + mo < (z : Int)) = false := decide_eq_false hb;go_wp2_with fail;go_roundw
       case rel => exact ⟨k + 1, f + z, er, by go_num, by omega, by go_num, by omega, rfl, HV, HK2.o.drew⟩
       case measure => simp [intOf]; omega
     ·obtain ⟨b, o, rfl⟩ : ∃ b o, a = some ⟨b, o, none⟩ := by
       cases a with
       | none =>
        exfalso;have h0 : l.length = 0 := by rw [kids_len (l := l) HLK.o]; rfl
        have := HN.o;omega
       | some ad =>
        cases hl0 : l with
        | nil => exfalso; have h0 : l.length = 0 := by { rw [hl0]; rfl }; have := HN.o; omega
        | cons y ys => obtain ⟨b, o, e, _⟩ := KidsD.head (x := y) (r := ys) (by rw [<- hl0]; exact HLK.o); exact ⟨b, o, e⟩
      have hcut := kids_cut (f := f) (t := t) (by rw [HN.o]; exact HLK2.o) (by omega) (by rw [HN.o]; omega);have hcl : ((l.drop f).take (t - f)).length = t - f := by rw [List.length_take, List.length_drop, HN.o]; omega
      have HLD := hid (fun W (k : Kept W2 W) => show Calls prog 78 #[.slice (some ⟨b, o + f * 6, none⟩) (t - f) (t - f), .slice ka kk.length kc] W (fun e w' => e = .returned (.int .i64 (z : Int)) /\ w' = W) from by
       have := leading_c (some ⟨b, o + f * 6, none⟩) (t - f) _ ka kc kk W (KidsD.kept hcut k) (IntsR.kept HKI.o k);rw [hcl, HZ.o] at this; exact this)
      have htf : ¬ t = f := fun e => hft e.symm;clear hcut hcl hft;go_wp2_with (rw [HW2.o]);refine wp_region_held_drew (S := (fun W => W.cell? ⟨wr.heap.size, 0, none⟩ = some (.slice ka kk.length kc) /\ W.cell? ⟨wr.heap.size, 1, none⟩ = some (.int .i64 cn) /\ W.cell? ⟨wr.heap.size, 2, none⟩ = some (.int .i64 mo) /\ Kept W2 W)) (by kernel_rfl) ⟨(Kept.refl W2).drew.cell e0, (Kept.refl W2).drew.cell e1, (Kept.refl W2).drew.cell e2, (Kept.refl W2).drew⟩ (fun hHeld0 => ?_);refine nkH 0 ?_;refine nkH 1 ?_;refine nkH 2 ?_;refine nkH 3 ?_;refine nkH 4 ?_;refine nkH 5 ?_;refine nkH 6 ?_;refine r1H 7 (fun K hK => ?_);go_simp;go_at_call 78
      refine (HLD.o _ (Kept.refl W2).drew).mono ?_;rintro e w3 ⟨rfl, rfl⟩;refine hK.out _ _ hHeld0 (fun hHeld1 => ?_);clear hK K;clear hHeld0;refine nkH 8 ?_;refine wpAnyH_done (by kernel_rfl) ?_ _;clear hHeld1;have e0 := (Kept.refl W2).drew.cell e0;have e1 := (Kept.refl W2).drew.cell e1;have e2 := (Kept.refl W2).drew.cell e2;by_cases hs : (z : Int) < cn
      ·first | (exfalso; omega) | (have HV := hid (HS1.o hs); go_wp2_with fail; go_ret; exact ⟨by rw [HV.o]; rfl, HK2.o.drew⟩)
      ·have HV := hid (HS2.o (by omega));by_cases hb : cn + mo < (z : Int)
       ·first | (exfalso; omega) | (rw [if_pos hb] at HV; have hbb : decide (cn + mo < (z : Int)) = true := decide_eq_true hb; go_wp2_with fail; go_roundw; (case rel => exact ⟨k + 1, f + z, 12, by go_num, by omega, by go_num, by omega, rfl, HV, HK2.o.drew⟩); (case measure => simp [intOf]; omega))
       ·rw [if_neg hb] at HV;have hbb : decide (cn + mo < (z : Int)) = false := decide_eq_false hb;go_wp2_with fail;go_roundw
        case rel => exact ⟨k + 1, f + z, er, by go_num, by omega, by go_num, by omega, rfl, HV, HK2.o.drew⟩
        case measure => simp [intOf]; omega
   ·obtain rfl := htn hm;have hmb : (mo == 0) = false := by simp [hm]
    clear htm hm;by_cases hft : f = t
    ·have hz1 : z = 0 := by rw [<- HZ.o, hft]; simp [Nd.lead]
     have HLD := hid (fun W (k : Kept W2 W) => show Calls prog 78 #[.slice a 0 0, .slice ka kk.length kc] W (fun e w' => e = .returned (.int .i64 (z : Int)) /\ w' = W) from by rw [hz1]; exact leading_c a 0 [] ka kc kk W kids_none (IntsR.kept HKI.o k));have HZ1 := hid hz1;clear hz1;have hftI : ¬ (f : Int) < (t : Int) := by omega
     have hsub : t - f = 0 := by omega
     subst hft;clear hsub hftI;go_wp2_with (rw [HW2.o]);refine wp_region_held_drew (S := (fun W => W.cell? ⟨wr.heap.size, 0, none⟩ = some (.slice ka kk.length kc) /\ W.cell? ⟨wr.heap.size, 1, none⟩ = some (.int .i64 cn) /\ W.cell? ⟨wr.heap.size, 2, none⟩ = some (.int .i64 mo) /\ Kept W2 W)) (by kernel_rfl) ⟨(Kept.refl W2).drew.cell e0, (Kept.refl W2).drew.cell e1, (Kept.refl W2).drew.cell e2, (Kept.refl W2).drew⟩ (fun hHeld0 => ?_);refine nkH 0 ?_;refine nkH 1 ?_;refine nkH 2 ?_;refine nkH 3 ?_;refine nkH 4 ?_;refine nkH 5 ?_;refine nkH 6 ?_;refine r1H 7 (fun K hK => ?_);go_simp;go_at_call 78
     refine (HLD.o _ (Kept.refl W2).drew).mono ?_;rintro e w3 ⟨rfl, rfl⟩;refine hK.out _ _ hHeld0 (fun hHeld1 => ?_);clear hK K;clear hHeld0;refine nkH 8 ?_;refine wpAnyH_done (by kernel_rfl) ?_ _;clear hHeld1;have e0 := (Kept.refl W2).drew.cell e0;have e1 := (Kept.refl W2).drew.cell e1;have e2 := (Kept.refl W2).drew.cell e2;by_cases hs : (z : Int) < cn
     ·first | (exfalso; omega) | (have HV := hid (HS1.o hs); go_wp2_with fail; go_ret; exact ⟨by rw [HV.o]; rfl, HK2.o.drew⟩)
     ·have HV := hid (HS2.o (by omega));have hb : ¬ cn + mo < (z : Int) := by have := HZ1.o; omega
      rw [if_neg hb] at HV;have hbb : decide (cn + mo < (z : Int)) = false := decide_eq_false hb;go_wp2_with fail;go_roundw
      case rel => exact ⟨k + 1, f + z, er, by go_num, by omega, by go_num, by omega, rfl, HV, HK2.o.drew⟩
      case measure => simp [intOf]; omega
    ·obtain ⟨b, o, rfl⟩ : ∃ b o, a = some ⟨b, o, none⟩ := by
      cases a with
      | none =>
       exfalso;have h0 : l.length = 0 := by rw [kids_len (l := l) HLK.o]; rfl
       have := HN.o;omega
      | some ad =>
       cases hl0 : l with
       | nil => exfalso; have h0 : l.length = 0 := by { rw [hl0]; rfl }; have := HN.o; omega
       | cons y ys => obtain ⟨b, o, e, _⟩ := KidsD.head (x := y) (r := ys) (by rw [<- hl0]; exact HLK.o); exact ⟨b, o, e⟩
     have hcut := kids_cut (f := f) (t := t) (by rw [HN.o]; exact HLK2.o) (by omega) (by rw [HN.o]; omega);have hcl : ((l.drop f).take (t - f)).length = t - f := by rw [List.length_take, List.length_drop, HN.o]; omega
     have HLD := hid (fun W (k : Kept W2 W) => show Calls prog 78 #[.slice (some ⟨b, o + f * 6, none⟩) (t - f) (t - f), .slice ka kk.length kc] W (fun e w' => e = .returned (.int .i64 (z : Int)) /\ w' = W) from by
      have := leading_c (some ⟨b, o + f * 6, none⟩) (t - f) _ ka kc kk W (KidsD.kept hcut k) (IntsR.kept HKI.o k);rw [hcl, HZ.o] at this; exact this)
     have htf : ¬ t = f := fun e => hft e.symm;clear hcut hcl hft;go_wp2_with (rw [HW2.o]);refine wp_region_held_drew (S := (fun W => W.cell? ⟨wr.heap.size, 0, none⟩ = some (.slice ka kk.length kc) /\ W.cell? ⟨wr.heap.size, 1, none⟩ = some (.int .i64 cn) /\ W.cell? ⟨wr.heap.size, 2, none⟩ = some (.int .i64 mo) /\ Kept W2 W)) (by kernel_rfl) ⟨(Kept.refl W2).drew.cell e0, (Kept.refl W2).drew.cell e1, (Kept.refl W2).drew.cell e2, (Kept.refl W2).drew⟩ (fun hHeld0 => ?_);refine nkH 0 ?_;refine nkH 1 ?_;refine nkH 2 ?_;refine nkH 3 ?_;refine nkH 4 ?_;refine nkH 5 ?_;refine nkH 6 ?_;refine r1H 7 (fun K hK => ?_);go_simp;go_at_call 78
     refine (HLD.o _ (Kept.refl W2).drew).mono ?_;rintro e w3 ⟨rfl, rfl⟩;refine hK.out _ _ hHeld0 (fun hHeld1 => ?_);clear hK K;clear hHeld0;refine nkH 8 ?_;refine wpAnyH_done (by kernel_rfl) ?_ _;clear hHeld1;have e0 := (Kept.refl W2).drew.cell e0;have e1 := (Kept.refl W2).drew.cell e1;have e2 := (Kept.refl W2).drew.cell e2;by_cases hs : (z : Int) < cn
     ·first | (exfalso; omega) | (have HV := hid (HS1.o hs); go_wp2_with fail; go_ret; exact ⟨by rw [HV.o]; rfl, HK2.o.drew⟩)
     ·have HV := hid (HS2.o (by omega));by_cases hb : cn + mo < (z : Int)
      ·first | (exfalso; omega) | (rw [if_pos hb] at HV; have hbb : decide (cn + mo < (z : Int)) = true := decide_eq_true hb; go_wp2_with fail; go_roundw; (case rel => exact ⟨k + 1, f + z, 12, by go_num, by omega, by go_num, by omega, rfl, HV, HK2.o.drew⟩); (case measure => simp [intOf]; omega))
      ·rw [if_neg hb] at HV;have hbb : decide (cn + mo < (z : Int)) = false := decide_eq_false hb;go_wp2_with fail;go_roundw
       case rel => exact ⟨k + 1, f + z, er, by go_num, by omega, by go_num, by omega, rfl, HV, HK2.o.drew⟩
       case measure => simp [intOf]; omega
  ·obtain rfl : k = ps.length := by omega
   have hltI : ¬ (ps.length : Int) < (ps.length : Int) := by omega
   have hr := HR.o;rw [List.drop_length] at hr;have HE := hid (show kidsE l ps = if f < l.length then 5 else er by unfold kidsE; rw [hr]; rfl);clear hr HR;by_cases hfl : f < l.length
   ·have hfI : (f : Int) < (l.length : Int) := by omega
    rw [if_pos hfl] at HE;go_wp2_with fail;go_ret;exact ⟨by rw [HE.o]; rfl, HK.o⟩
   ·have hfI : ¬ (f : Int) < (l.length : Int) := by omega
    rw [if_neg hfl] at HE;go_wp2_with fail;go_ret;exact ⟨by rw [HE.o]; rfl, HK.o⟩
end Go.Proofs.YtegcgflhgfmkpaaGreatDoor
namespace Go.Proofs.YtegcgflhgfmkpaaGreatDoor
open Lib (hid)
open _root_.Go.Proofs.Tryz
open Go.ChangeShapes Go.WideShapes Go.ChangeAt Go.RowKit Go.Shelf
attribute [local go_sem] Oper.semAt_some
def hasW (words s : ByteArray) : Bool := Wrd.has (Wrd.flds words) s
def wordsOk (words : ByteArray) : Prop := words.size <= 9223372036854775807 /\ ∀ c ∈ words.data.toList, c.toNat < 128
theorem hasW_c (nb no : Nat) (x : Ne) (s : ByteArray) (w : World) (hT : Tb w) (hn : NeedAt w nb no x) (hwk : wordsOk x.words) :
  Calls prog 79 #[.pointer (some ⟨nb, no, none⟩), .string s] w fun e w' => e = .returned (.bool (hasW x.words s)) /\ Kept w w' := by
 obtain ⟨ns, _, _, hw0, _⟩ := hn;obtain ⟨ws, hws⟩ : ∃ ws, x.words = ws := ⟨_, rfl⟩;rw [hws] at hw0 hwk ⊢;clear hws;refine (callsIn_wide (n := 3)).1 (callsIn_of_wp_marks func79 rfl trivial (wpIn_wide.2 ?_) rfl);simp only [ntmps79, List.size_toArray, List.length_cons, List.length_nil, Nat.reduceAdd, Nat.reduceSub, Array.replicate_succ, Array.replicate_zero, List.push_toArray, List.append_toArray, List.nil_append, List.cons_append];have hw1 := (((Kept.refl w).alloc (.cells #[.string s] 9)).alloc (.cells #[.bool false] 4)).cell hw0;go_wp2_with fail;refine ((callsIn_wide (n := 1)).1 (fseq_in Fence.wide 1 trivial rfl ws _)).mono ?_;rintro e w' ⟨rfl, rfl⟩;go_wp2_with fail;have hK0 : Kept w (((w.alloc (.cells #[.string s] 9)).alloc (.cells #[.bool false] 4)).alloc (.cells #[.string ws] 9)) := (((Kept.refl w).alloc _).alloc _).alloc _;have hB0 : Below w.heap.size w (((w.alloc (.cells #[.string s] 9)).alloc (.cells #[.bool false] 4)).alloc (.cells #[.string ws] 9)) := (((Below.refl _ w).alloc (Nat.le_refl _) _).alloc (by simp) _).alloc (by simp; omega) _;have b1 := ((Blk.new w 9 #[.string s]).alloc (.cells #[.bool false] 4)).alloc (.cells #[.string ws] 9);have b2 := (Blk.new (w.alloc (.cells #[.string s] 9)) 4 #[.bool false]).alloc (.cells #[.string ws] 9);have b3 := Blk.new ((w.alloc (.cells #[.string s] 9)).alloc (.cells #[.bool false] 4)) 9 #[.string ws];simp only [World.size_alloc] at b2 b3;have hT0 := hT.kept hK0;have hlt := hT.lt;clear hw0 hw1;refine wpIn_wide.1 (wpIn_rangeFunc_ownG (F := Fence.wide) (n := 3) rfl (by omega) (gf := 141) (lb := #[.pointer (some ⟨w.heap.size + 1 + 1, 0, none⟩)]) rfl trivial (enters_of func141 (by kernel_rfl) rfl)
  (fseq_stops Fence.wide (3 - 1) trivial rfl (by omega) (w.heap.size + 1 + 1) ws hwk.1 hwk.2 _ hT0 (by simp) (b3.cell 0)) kp3_t (kp3_b hT0 (by simp)) (Below.refl _ _) (fun _ => rfl)
  (KeyI w s) (KeyX w s) (keyI_from w s _ (by simp; omega)) (fun c => keyX_from w s c _ (by simp; omega))
  ⟨b1, b2, hB0, by simp⟩
  (fun x => { tmps := #[.pointer (some ⟨nb, no, none⟩), .string s, undef, .pointer (some ⟨w.heap.size, 0, none⟩), .pointer (some ⟨w.heap.size + 1, 0, none⟩), .string x, .pointer (some ⟨nb, no, none⟩), .pointer (some ⟨nb, no, none⟩), .pointer (some ⟨nb, no + 2, none⟩), .string ws, .func (.func 141) #[] #[.pointer (some ⟨w.heap.size + 1 + 1, 0, none⟩)], .string x, undef, undef, undef], defers := [] }) ?assign ?body ?done ?stop)
 case assign =>
  intro l x W K hK
  gi_wp2
  exact hK
 case body =>
  rintro l pre x W ⟨h1, h2, h3, h4⟩ hlt';have c1 := h1.cell 0;have c2 := h2.cell 0;have f2 := h2.frozen 0;simp at c1 c2;by_cases hx : x = s
  ·subst hx;have HX := hid (show KeyX w x .ret (pre ++ [x]) (W.setCell ⟨w.heap.size + 1, 0, none⟩ (.bool true)) from
    ⟨rfl, h2.put 0 _, h3.setCell (by simp) _, by simp⟩)
   clear h1 h2 h3 h4 hT hT0 hK0 hB0 b1 b2 b3
   gi_wp2
   exact ⟨(KeepsOthers.setCell _ _ _).from _, HX.o⟩
  ·have HI := hid (show KeyI w s (pre ++ [x]) W from ⟨h1, h2, h3, by simp [h4]; exact fun e => hx e.symm⟩);clear h1 h2 h3 h4 hT hT0 hK0 hB0 b1 b2 b3;have hne := beq_no hx;clear hx
   gi_wp2
   exact ⟨KeepsFrom.refl _ _, ⟨Nat.le_refl _, fun _ _ => rfl⟩, HI.o⟩
 case done =>
  rintro D ys W hD hys ⟨h1, h2, h3, h4⟩ hK;subst hys;have hkey : hasW ws s = false := Wrd.has_no h4;have c2 := h2.cell 0;have f2 := h2.frozen 0;simp at c2;go_wp2
  have hK2 : (W.setCell ⟨w.heap.size + 1, 0, none⟩ (.bool false)).heap[D]? = some (.deferred (some [])) := (Below.heap_setCell W _ _ D (by simp at hD; simp; omega)).trans hK;have h2' := h2.put 0 (.bool false);have h3' : Below w.heap.size w (W.setCell ⟨w.heap.size + 1, 0, none⟩ (.bool false)) := h3.setCell (by simp) _;refine ⟨by simp, .inl ⟨_, _, rfl, run_takeDeferred hK2, ?_⟩⟩;have c3 := (h2'.grown (grownBy_putObj' _ D (.deferred none)) (fun r e => by cases e; exact ⟨_, hK2, rfl⟩)).cell 0;simp at c3;exact ⟨_, by simp [results, Tryz.results79, go_sem, c3]; rfl, by rw [hkey], Kept.of_below (h3'.trans (belowK_b (w := w) (Nat.le_refl _) _ D _ _ (by simp at hD; omega) hK2 rfl rfl))⟩
 case stop =>
  rintro D c pre W hD hpre ⟨rfl, h2, h3, h4⟩ hK;have hkey : hasW ws s = true := Wrd.has_iff.2 (hpre.subset h4);have c3 := (h2.grown (grownBy_putObj' _ D (.deferred none)) (fun r e => by cases e; exact ⟨_, hK, rfl⟩)).cell 0;simp at c3
  gi_wp2
  refine ⟨by simp, .inl ⟨_, _, rfl, run_takeDeferred hK, ?_⟩⟩;exact ⟨_, by simp [results, Tryz.results79, go_sem, c3]; rfl, by rw [hkey], Kept.of_below (h3.trans (belowK_b (w := w) (Nat.le_refl _) _ D _ _ (by simp at hD; omega) hK rfl rfl))⟩
def isNm (rule : Int) (s : ByteArray) : Bool := if rule = 1 then Wrd.name s else if rule = 2 then Wrd.cls s else if rule = 3 then decide (s = ⟨#[]⟩) || Wrd.cls s else true
theorem emp_yes : ((⟨#[]⟩ : ByteArray).toList == []) = true := by kernel_rfl
theorem emp_no {s : ByteArray} (h : ¬ s = ⟨#[]⟩) : (s.toList == []) = false := lit_no h
theorem isName_c (r : Int) (s : ByteArray) (w : World) (hT : Tb w) (hs : s.size <= maxLen) : Calls prog 81 #[.int .i64 r, .string s] w fun e w' => e = .returned (.bool (isNm r s)) /\ Kept w w' := by
 unfold maxLen at hs;have HN := hid (name_c s w hT (by omega));have HC := hid (class_c s w (by omega));by_cases h1 : r = 1
 ·have HV := hid (show isNm r s = Wrd.name s by unfold isNm; rw [if_pos h1]);go_enter func81, ntmps81;go_wp2_with fail;refine HN.o.mono ?_;rintro e w' ⟨rfl, k⟩;go_wp2_with fail;go_ret;exact ⟨by rw [HV.o]; rfl, k⟩
 have b1 : (r == 1) = false := by simp [h1]
 by_cases h2 : r = 2
 ·have HV := hid (show isNm r s = Wrd.cls s by unfold isNm; rw [if_neg h1, if_pos h2]);clear h1;go_enter func81, ntmps81;go_wp2_with fail;refine HC.o.mono ?_;rintro e w' ⟨rfl, k⟩;go_wp2_with fail;go_ret;exact ⟨by rw [HV.o]; rfl, k⟩
 have b2 : (r == 2) = false := by simp [h2]
 by_cases h3 : r = 3
 ·by_cases he : s = ⟨#[]⟩
  ·have HV := hid (show isNm r s = true by unfold isNm; rw [if_neg h1, if_neg h2, if_pos h3, decide_eq_true he]; rfl);have hemp := emp_yes;clear h1 h2;subst he;go_enter func81, ntmps81;go_wp2_with fail;go_ret;exact ⟨by rw [HV.o]; rfl, Kept.refl _⟩
  ·have HV := hid (show isNm r s = Wrd.cls s by unfold isNm; rw [if_neg h1, if_neg h2, if_pos h3, decide_eq_false he]; rfl);have hemp := emp_no he;clear h1 h2 he;go_enter func81, ntmps81;go_wp2_with fail;refine HC.o.mono ?_;rintro e w' ⟨rfl, k⟩;go_wp2_with fail;go_ret;exact ⟨by rw [HV.o]; rfl, k⟩
 ·have b3 : (r == 3) = false := by simp [h3]
  have HV := hid (show isNm r s = true by unfold isNm; rw [if_neg h1, if_neg h2, if_neg h3]);clear h1 h2 h3;go_enter func81, ntmps81;go_wp2_with fail;go_ret;exact ⟨by rw [HV.o]; rfl, Kept.refl _⟩
def namedB (x : Ne) (n : Nd) : Bool := isNm x.text n.text && isNm x.typ n.typ
theorem named_c (nb no b o : Nat) (x : Ne) (n : Nd) (w : World) (hT : Tb w) (hn : NeedAt w nb no x) (hd : NdAt w b o n) :
  Calls prog 40 #[.pointer (some ⟨nb, no, none⟩), .pointer (some ⟨b, o, none⟩)] w fun e w' => e = .returned (.bool (namedB x n)) /\ Kept w w' := by
 obtain ⟨ns, c0, c1, _⟩ := hn;obtain ⟨_, _, ⟨_, d1, d2, _⟩, hok, _⟩ := hd.cells;have hok1 := hok.2.2.1;have hok2 := hok.2.2.2.1;clear hok hd;have HC := hid (fun r s hs W (k : Kept w W) => isName_c r s W (hT.kept k) hs);go_enter func40, ntmps40;go_wp2_with fail
 cases h1 : isNm x.text n.text with
 | false =>
  have HV := hid (show namedB x n = false by unfold namedB; rw [h1]; rfl);have H1 := hid (fun W (k : Kept w W) => HC.o x.text n.text hok1 W k);rw [h1] at H1;clear h1;refine wp_region_held_drew (S := (fun W => W.cell? ⟨nb, no, none⟩ = some (.int .i64 x.text) /\ W.cell? ⟨nb, no + 1, none⟩ = some (.int .i64 x.typ) /\ W.cell? ⟨b, o + 1, none⟩ = some (.string n.text) /\ W.cell? ⟨b, o + 2, none⟩ = some (.string n.typ) /\ Kept w W)) (by kernel_rfl) ⟨(Kept.refl w).drew.cell c0, (Kept.refl w).drew.cell c1, (Kept.refl w).drew.cell d1, (Kept.refl w).drew.cell d2, (Kept.refl w).drew⟩ (fun hHeld0 => ?_);refine nkH 0 ?_;refine nkH 1 ?_;refine nkH 2 ?_;refine nkH 3 ?_;refine nkH 4 ?_;refine nkH 5 ?_;refine nkH 6 ?_;refine nkH 7 ?_;refine r1H 8 (fun K hK => ?_);go_simp;go_at_call 81
  refine (H1.o _ (Kept.refl _).drew).mono ?_;rintro e w2 ⟨rfl, k2⟩;have k2 := (Kept.refl w).drew.trans k2;refine hK.out _ _ ⟨k2.cell c0, k2.cell c1, k2.cell d1, k2.cell d2, k2⟩ (fun hHeld1 => ?_);clear hK K;clear hHeld0;refine nkH 9 ?_;refine nkS 10 ?_;refine nkS 11 ?_;refine nkS 12 ?_;refine nkS 13 ?_;refine nkS 14 ?_;refine nkS 15 ?_;refine nkS 16 ?_;refine nkS 17 ?_;refine nkS 18 ?_;refine nkH 19 ?_;refine nkH 20 ?_;refine wpAnyH_done (by kernel_rfl) ?_ _;go_wp2_with fail;go_ret;exact ⟨by rw [HV.o]; rfl, k2⟩
 | true =>
  have HV := hid (show namedB x n = isNm x.typ n.typ by unfold namedB; rw [h1]; rfl);have H1 := hid (fun W (k : Kept w W) => HC.o x.text n.text hok1 W k);have H2 := hid (fun W (k : Kept w W) => HC.o x.typ n.typ hok2 W k);rw [h1] at H1;clear h1;refine wp_region_held_drew (S := (fun W => W.cell? ⟨nb, no, none⟩ = some (.int .i64 x.text) /\ W.cell? ⟨nb, no + 1, none⟩ = some (.int .i64 x.typ) /\ W.cell? ⟨b, o + 1, none⟩ = some (.string n.text) /\ W.cell? ⟨b, o + 2, none⟩ = some (.string n.typ) /\ Kept w W)) (by kernel_rfl) ⟨(Kept.refl w).drew.cell c0, (Kept.refl w).drew.cell c1, (Kept.refl w).drew.cell d1, (Kept.refl w).drew.cell d2, (Kept.refl w).drew⟩ (fun hHeld0 => ?_);refine nkH 0 ?_;refine nkH 1 ?_;refine nkH 2 ?_;refine nkH 3 ?_;refine nkH 4 ?_;refine nkH 5 ?_;refine nkH 6 ?_;refine nkH 7 ?_;refine r1H 8 (fun K hK => ?_);go_simp;go_at_call 81
  refine (H1.o _ (Kept.refl _).drew).mono ?_;rintro e w2 ⟨rfl, k2⟩;have k2 := (Kept.refl w).drew.trans k2;refine hK.out _ _ ⟨k2.cell c0, k2.cell c1, k2.cell d1, k2.cell d2, k2⟩ (fun hHeld1 => ?_);clear hK K;clear hHeld0;refine nkH 9 ?_;refine nkH 10 ?_;refine nkH 11 ?_;refine nkH 12 ?_;refine nkH 13 ?_;refine nkH 14 ?_;refine nkH 15 ?_;refine nkH 16 ?_;refine nkH 17 ?_;refine r1H 18 (fun K hK => ?_);go_simp;go_at_call 81
  refine (H2.o _ k2).mono ?_;rintro e w3 ⟨rfl, k3⟩;have k3 := k2.trans k3;refine hK.out _ _ ⟨k3.cell c0, k3.cell c1, k3.cell d1, k3.cell d2, k3⟩ (fun hHeld2 => ?_);clear hK K;clear hHeld1;refine nkH 19 ?_;refine nkH 20 ?_;refine wpAnyH_done (by kernel_rfl) ?_ _;go_wp2_with fail;go_ret;exact ⟨by rw [HV.o]; rfl, k3⟩
end Go.Proofs.YtegcgflhgfmkpaaGreatDoor
namespace Go.Proofs.YtegcgflhgfmkpaaGreatDoor
open Lib (hid)
open _root_.Go.Proofs.Tryz
open Go.ChangeShapes Go.WideShapes Go.ChangeAt Go.RowKit
def textB (q : Int) (ws tx : ByteArray) (nn : Int) : Bool :=
 if q = 0 then decide (tx = ⟨#[]⟩) else if q = 5 then hasW ws tx else if q = 6 then decide (tx = ⟨#[]⟩) || (decide (nn = 0) && hasW ws tx) else if q = 7 then contsB tx else true
def restB (tp ms : Int) (fr ty : ByteArray) (nn : Int) : Bool := decide (fr = ⟨#[]⟩) && (decide (tp ≠ 0) || decide (ty = ⟨#[]⟩)) && (decide (0 < ms) || decide (nn = 0))
def formedB (x : Ne) (n : Nd) : Bool := textB x.text x.words n.text n.n && restB x.typ x.most n.frm n.typ n.n
theorem formed_c (nb no b o : Nat) (x : Ne) (n : Nd) (w : World) (hT : Tb w) (hn : NeedAt w nb no x) (hwk : wordsOk x.words) (hd : NdAt w b o n) :
  Calls prog 39 #[.pointer (some ⟨nb, no, none⟩), .pointer (some ⟨b, o, none⟩)] w fun e w' => e = .returned (.bool (formedB x n)) /\ Kept w w' := by
 have HH := hid (hasW_c nb no x n.text w hT hn hwk);obtain ⟨ns, c0, c1, _, c3, _⟩ := hn;obtain ⟨_, _, ⟨_, d1, d2, d3, d4, _⟩, hok, _⟩ := hd.cells;have HQ := hid (conts_c n.text w hok.2.2.1);clear hok hd hwk hT;unfold formedB;generalize x.text = q at *;generalize x.typ = tp at *;generalize x.most = ms at *;generalize x.words = ws at *;generalize n.text = tx at *;generalize n.typ = ty at *;generalize n.frm = fr at *;generalize n.n = nn at *;obtain ⟨V, hV⟩ : ∃ V, (textB q ws tx nn && restB tp ms fr ty nn) = V := ⟨_, rfl⟩;rw [hV];by_cases hq0 : q = 0
 ·have bq0 : (q == 0) = true := by simp [hq0]
  by_cases he : tx = ⟨#[]⟩
  ·have be : (tx.toList == []) = true := by rw [he]; exact emp_yes
   by_cases hf : fr = ⟨#[]⟩
   ·have bf : (fr.toList == []) = true := by rw [hf]; exact emp_yes
    by_cases htp : tp = 0
    ·have btp : (tp != 0) = false := by simp [htp]
     by_cases hty : ty = ⟨#[]⟩
     ·have bty : (ty.toList == []) = true := by rw [hty]; exact emp_yes
      by_cases hm : 0 < ms
      ·have bm : decide (0 < ms) = true := by simp [hm]
       have hv : V = true := by rw [<- hV]; simp [textB, restB, hq0, he, hf, htp, hty, hm]
       have HV := hid hv;clear hv hV hq0 he hf htp hty;go_enter func39, ntmps39;go_wp2_with fail;go_ret;exact ⟨by rw [HV.o]; rfl, Kept.refl _⟩
      ·have bm : decide (0 < ms) = false := by simp [hm]
       by_cases hz : nn = 0
       ·have bz : (nn == 0) = true := by simp [hz]
        have bz' : (nn != 0) = false := by simp [hz]
        have hv : V = true := by rw [<- hV]; simp [textB, restB, hq0, he, hf, htp, hty, hm, hz]
        have HV := hid hv;clear hv hV hq0 he hf htp hty hz;go_enter func39, ntmps39;go_wp2_with fail;go_ret;exact ⟨by rw [HV.o]; rfl, Kept.refl _⟩
       ·have bz : (nn == 0) = false := by simp [hz]
        have bz' : (nn != 0) = true := by simp [hz]
        have hv : V = false := by rw [<- hV]; simp [textB, restB, hq0, he, hf, htp, hty, hm, hz]
        have HV := hid hv;clear hv hV hq0 he hf htp hty hz;go_enter func39, ntmps39;go_wp2_with fail;go_ret;exact ⟨by rw [HV.o]; rfl, Kept.refl _⟩
     ·have bty : (ty.toList == []) = false := emp_no hty;have hv : V = false := by rw [<- hV]; simp [textB, restB, hq0, he, hf, htp, hty]
      have HV := hid hv;clear hv hV hq0 he hf htp hty;go_enter func39, ntmps39;go_wp2_with fail;go_ret;exact ⟨by rw [HV.o]; rfl, Kept.refl _⟩
    ·have btp : (tp != 0) = true := by simp [htp]
     by_cases hm : 0 < ms
     ·have bm : decide (0 < ms) = true := by simp [hm]
      have hv : V = true := by rw [<- hV]; simp [textB, restB, hq0, he, hf, htp, hm]
      have HV := hid hv;clear hv hV hq0 he hf htp;go_enter func39, ntmps39;go_wp2_with fail;go_ret;exact ⟨by rw [HV.o]; rfl, Kept.refl _⟩
     ·have bm : decide (0 < ms) = false := by simp [hm]
      by_cases hz : nn = 0
      ·have bz : (nn == 0) = true := by simp [hz]
       have bz' : (nn != 0) = false := by simp [hz]
       have hv : V = true := by rw [<- hV]; simp [textB, restB, hq0, he, hf, htp, hm, hz]
       have HV := hid hv;clear hv hV hq0 he hf htp hz;go_enter func39, ntmps39;go_wp2_with fail;go_ret;exact ⟨by rw [HV.o]; rfl, Kept.refl _⟩
      ·have bz : (nn == 0) = false := by simp [hz]
       have bz' : (nn != 0) = true := by simp [hz]
       have hv : V = false := by rw [<- hV]; simp [textB, restB, hq0, he, hf, htp, hm, hz]
       have HV := hid hv;clear hv hV hq0 he hf htp hz;go_enter func39, ntmps39;go_wp2_with fail;go_ret;exact ⟨by rw [HV.o]; rfl, Kept.refl _⟩
   ·have bf : (fr.toList == []) = false := emp_no hf;have hv : V = false := by rw [<- hV]; simp [textB, restB, hq0, he, hf]
    have HV := hid hv;clear hv hV hq0 he hf;go_enter func39, ntmps39;go_wp2_with fail;go_ret;exact ⟨by rw [HV.o]; rfl, Kept.refl _⟩
  ·have be : (tx.toList == []) = false := emp_no he;have hv : V = false := by rw [<- hV]; simp [textB, restB, hq0, he]
   have HV := hid hv;clear hv hV hq0 he;go_enter func39, ntmps39;go_wp2_with fail;go_ret;exact ⟨by rw [HV.o]; rfl, Kept.refl _⟩
 ·have bq0 : (q == 0) = false := by simp [hq0]
  by_cases hq5 : q = 5
  ·have bq5 : (q == 5) = true := by simp [hq5]
   cases hw : hasW ws tx with
   | false =>
    rw [hw] at HH;have hv : V = false := by rw [<- hV]; simp [textB, restB, hq0, hq5, hw]
    have HV := hid hv;clear hv hV hq0 hq5;clear hw;go_enter func39, ntmps39;go_wp2_with (go_at_call 79; refine HH.o.mono ?_; rintro e w' ⟨rfl, k⟩; have c0 := k.cell c0; have c1 := k.cell c1; have c3 := k.cell c3; have d1 := k.cell d1; have d2 := k.cell d2; have d3 := k.cell d3; have d4 := k.cell d4);go_ret;exact ⟨by rw [HV.o]; rfl, k⟩
   | true =>
    rw [hw] at HH;by_cases hf : fr = ⟨#[]⟩
    ·have bf : (fr.toList == []) = true := by rw [hf]; exact emp_yes
     by_cases htp : tp = 0
     ·have btp : (tp != 0) = false := by simp [htp]
      by_cases hty : ty = ⟨#[]⟩
      ·have bty : (ty.toList == []) = true := by rw [hty]; exact emp_yes
       by_cases hm : 0 < ms
       ·have bm : decide (0 < ms) = true := by simp [hm]
        have hv : V = true := by rw [<- hV]; simp [textB, restB, hq0, hq5, hw, hf, htp, hty, hm]
        have HV := hid hv;clear hv hV hq0 hq5 hf htp hty;clear hw;go_enter func39, ntmps39;go_wp2_with (go_at_call 79; refine HH.o.mono ?_; rintro e w' ⟨rfl, k⟩; have c0 := k.cell c0; have c1 := k.cell c1; have c3 := k.cell c3; have d1 := k.cell d1; have d2 := k.cell d2; have d3 := k.cell d3; have d4 := k.cell d4);go_ret;exact ⟨by rw [HV.o]; rfl, k⟩
       ·have bm : decide (0 < ms) = false := by simp [hm]
        by_cases hz : nn = 0
        ·have bz : (nn == 0) = true := by simp [hz]
         have bz' : (nn != 0) = false := by simp [hz]
         have hv : V = true := by rw [<- hV]; simp [textB, restB, hq0, hq5, hw, hf, htp, hty, hm, hz]
         have HV := hid hv;clear hv hV hq0 hq5 hf htp hty hz;clear hw;go_enter func39, ntmps39;go_wp2_with (go_at_call 79; refine HH.o.mono ?_; rintro e w' ⟨rfl, k⟩; have c0 := k.cell c0; have c1 := k.cell c1; have c3 := k.cell c3; have d1 := k.cell d1; have d2 := k.cell d2; have d3 := k.cell d3; have d4 := k.cell d4);go_ret;exact ⟨by rw [HV.o]; rfl, k⟩
        ·have bz : (nn == 0) = false := by simp [hz]
         have bz' : (nn != 0) = true := by simp [hz]
         have hv : V = false := by rw [<- hV]; simp [textB, restB, hq0, hq5, hw, hf, htp, hty, hm, hz]
         have HV := hid hv;clear hv hV hq0 hq5 hf htp hty hz;clear hw;go_enter func39, ntmps39;go_wp2_with (go_at_call 79; refine HH.o.mono ?_; rintro e w' ⟨rfl, k⟩; have c0 := k.cell c0; have c1 := k.cell c1; have c3 := k.cell c3; have d1 := k.cell d1; have d2 := k.cell d2; have d3 := k.cell d3; have d4 := k.cell d4);go_ret;exact ⟨by rw [HV.o]; rfl, k⟩
      ·have bty : (ty.toList == []) = false := emp_no hty;have hv : V = false := by rw [<- hV]; simp [textB, restB, hq0, hq5, hw, hf, htp, hty]
       have HV := hid hv;clear hv hV hq0 hq5 hf htp hty;clear hw;go_enter func39, ntmps39;go_wp2_with (go_at_call 79; refine HH.o.mono ?_; rintro e w' ⟨rfl, k⟩; have c0 := k.cell c0; have c1 := k.cell c1; have c3 := k.cell c3; have d1 := k.cell d1; have d2 := k.cell d2; have d3 := k.cell d3; have d4 := k.cell d4);go_ret;exact ⟨by rw [HV.o]; rfl, k⟩
     ·have btp : (tp != 0) = true := by simp [htp]
      by_cases hm : 0 < ms
      ·have bm : decide (0 < ms) = true := by simp [hm]
       have hv : V = true := by rw [<- hV]; simp [textB, restB, hq0, hq5, hw, hf, htp, hm]
       have HV := hid hv;clear hv hV hq0 hq5 hf htp;clear hw;go_enter func39, ntmps39;go_wp2_with (go_at_call 79; refine HH.o.mono ?_; rintro e w' ⟨rfl, k⟩; have c0 := k.cell c0; have c1 := k.cell c1; have c3 := k.cell c3; have d1 := k.cell d1; have d2 := k.cell d2; have d3 := k.cell d3; have d4 := k.cell d4);go_ret;exact ⟨by rw [HV.o]; rfl, k⟩
      ·have bm : decide (0 < ms) = false := by simp [hm]
       by_cases hz : nn = 0
       ·have bz : (nn == 0) = true := by simp [hz]
        have bz' : (nn != 0) = false := by simp [hz]
        have hv : V = true := by rw [<- hV]; simp [textB, restB, hq0, hq5, hw, hf, htp, hm, hz]
        have HV := hid hv;clear hv hV hq0 hq5 hf htp hz;clear hw;go_enter func39, ntmps39;go_wp2_with (go_at_call 79; refine HH.o.mono ?_; rintro e w' ⟨rfl, k⟩; have c0 := k.cell c0; have c1 := k.cell c1; have c3 := k.cell c3; have d1 := k.cell d1; have d2 := k.cell d2; have d3 := k.cell d3; have d4 := k.cell d4);go_ret;exact ⟨by rw [HV.o]; rfl, k⟩
       ·have bz : (nn == 0) = false := by simp [hz]
        have bz' : (nn != 0) = true := by simp [hz]
        have hv : V = false := by rw [<- hV]; simp [textB, restB, hq0, hq5, hw, hf, htp, hm, hz]
        have HV := hid hv;clear hv hV hq0 hq5 hf htp hz;clear hw;go_enter func39, ntmps39;go_wp2_with (go_at_call 79; refine HH.o.mono ?_; rintro e w' ⟨rfl, k⟩; have c0 := k.cell c0; have c1 := k.cell c1; have c3 := k.cell c3; have d1 := k.cell d1; have d2 := k.cell d2; have d3 := k.cell d3; have d4 := k.cell d4);go_ret;exact ⟨by rw [HV.o]; rfl, k⟩
    ·have bf : (fr.toList == []) = false := emp_no hf;have hv : V = false := by rw [<- hV]; simp [textB, restB, hq0, hq5, hw, hf]
     have HV := hid hv;clear hv hV hq0 hq5 hf;clear hw;go_enter func39, ntmps39;go_wp2_with (go_at_call 79; refine HH.o.mono ?_; rintro e w' ⟨rfl, k⟩; have c0 := k.cell c0; have c1 := k.cell c1; have c3 := k.cell c3; have d1 := k.cell d1; have d2 := k.cell d2; have d3 := k.cell d3; have d4 := k.cell d4);go_ret;exact ⟨by rw [HV.o]; rfl, k⟩
  ·have bq5 : (q == 5) = false := by simp [hq5]
   by_cases hq6 : q = 6
   ·have bq6 : (q == 6) = true := by simp [hq6]
    by_cases he : tx = ⟨#[]⟩
    ·have be : (tx.toList == []) = true := by rw [he]; exact emp_yes
     by_cases hf : fr = ⟨#[]⟩
     ·have bf : (fr.toList == []) = true := by rw [hf]; exact emp_yes
      by_cases htp : tp = 0
      ·have btp : (tp != 0) = false := by simp [htp]
       by_cases hty : ty = ⟨#[]⟩
       ·have bty : (ty.toList == []) = true := by rw [hty]; exact emp_yes
        by_cases hm : 0 < ms
        ·have bm : decide (0 < ms) = true := by simp [hm]
         have hv : V = true := by rw [<- hV]; simp [textB, restB, hq0, hq5, hq6, he, hf, htp, hty, hm]
         have HV := hid hv;clear hv hV hq0 hq5 hq6 he hf htp hty;go_enter func39, ntmps39;go_wp2_with fail;go_ret;exact ⟨by rw [HV.o]; rfl, Kept.refl _⟩
        ·have bm : decide (0 < ms) = false := by simp [hm]
         by_cases hz : nn = 0
         ·have bz : (nn == 0) = true := by simp [hz]
          have bz' : (nn != 0) = false := by simp [hz]
          have hv : V = true := by rw [<- hV]; simp [textB, restB, hq0, hq5, hq6, he, hf, htp, hty, hm, hz]
          have HV := hid hv;clear hv hV hq0 hq5 hq6 he hf htp hty hz;go_enter func39, ntmps39;go_wp2_with fail;go_ret;exact ⟨by rw [HV.o]; rfl, Kept.refl _⟩
         ·have bz : (nn == 0) = false := by simp [hz]
          have bz' : (nn != 0) = true := by simp [hz]
          have hv : V = false := by rw [<- hV]; simp [textB, restB, hq0, hq5, hq6, he, hf, htp, hty, hm, hz]
          have HV := hid hv;clear hv hV hq0 hq5 hq6 he hf htp hty hz;go_enter func39, ntmps39;go_wp2_with fail;go_ret;exact ⟨by rw [HV.o]; rfl, Kept.refl _⟩
       ·have bty : (ty.toList == []) = false := emp_no hty;have hv : V = false := by rw [<- hV]; simp [textB, restB, hq0, hq5, hq6, he, hf, htp, hty]
        have HV := hid hv;clear hv hV hq0 hq5 hq6 he hf htp hty;go_enter func39, ntmps39;go_wp2_with fail;go_ret;exact ⟨by rw [HV.o]; rfl, Kept.refl _⟩
      ·have btp : (tp != 0) = true := by simp [htp]
       by_cases hm : 0 < ms
       ·have bm : decide (0 < ms) = true := by simp [hm]
        have hv : V = true := by rw [<- hV]; simp [textB, restB, hq0, hq5, hq6, he, hf, htp, hm]
        have HV := hid hv;clear hv hV hq0 hq5 hq6 he hf htp;go_enter func39, ntmps39;go_wp2_with fail;go_ret;exact ⟨by rw [HV.o]; rfl, Kept.refl _⟩
       ·have bm : decide (0 < ms) = false := by simp [hm]
        by_cases hz : nn = 0
        ·have bz : (nn == 0) = true := by simp [hz]
         have bz' : (nn != 0) = false := by simp [hz]
         have hv : V = true := by rw [<- hV]; simp [textB, restB, hq0, hq5, hq6, he, hf, htp, hm, hz]
         have HV := hid hv;clear hv hV hq0 hq5 hq6 he hf htp hz;go_enter func39, ntmps39;go_wp2_with fail;go_ret;exact ⟨by rw [HV.o]; rfl, Kept.refl _⟩
        ·have bz : (nn == 0) = false := by simp [hz]
         have bz' : (nn != 0) = true := by simp [hz]
         have hv : V = false := by rw [<- hV]; simp [textB, restB, hq0, hq5, hq6, he, hf, htp, hm, hz]
         have HV := hid hv;clear hv hV hq0 hq5 hq6 he hf htp hz;go_enter func39, ntmps39;go_wp2_with fail;go_ret;exact ⟨by rw [HV.o]; rfl, Kept.refl _⟩
     ·have bf : (fr.toList == []) = false := emp_no hf;have hv : V = false := by rw [<- hV]; simp [textB, restB, hq0, hq5, hq6, he, hf]
      have HV := hid hv;clear hv hV hq0 hq5 hq6 he hf;go_enter func39, ntmps39;go_wp2_with fail;go_ret;exact ⟨by rw [HV.o]; rfl, Kept.refl _⟩
    ·have be : (tx.toList == []) = false := emp_no he;by_cases hz : nn = 0
     ·have bz : (nn == 0) = true := by simp [hz]
      have bz' : (nn != 0) = false := by simp [hz]
      cases hw : hasW ws tx with
      | false =>
       rw [hw] at HH;have hv : V = false := by rw [<- hV]; simp [textB, restB, hq0, hq5, hq6, he, hz, hw]
       have HV := hid hv;clear hv hV hq0 hq5 hq6 he hz;clear hw;go_enter func39, ntmps39;go_wp2_with (go_at_call 79; refine HH.o.mono ?_; rintro e w' ⟨rfl, k⟩; have c0 := k.cell c0; have c1 := k.cell c1; have c3 := k.cell c3; have d1 := k.cell d1; have d2 := k.cell d2; have d3 := k.cell d3; have d4 := k.cell d4);go_ret;exact ⟨by rw [HV.o]; rfl, k⟩
      | true =>
       rw [hw] at HH;by_cases hf : fr = ⟨#[]⟩
       ·have bf : (fr.toList == []) = true := by rw [hf]; exact emp_yes
        by_cases htp : tp = 0
        ·have btp : (tp != 0) = false := by simp [htp]
         by_cases hty : ty = ⟨#[]⟩
         ·have bty : (ty.toList == []) = true := by rw [hty]; exact emp_yes
          by_cases hm : 0 < ms
          ·have bm : decide (0 < ms) = true := by simp [hm]
           have hv : V = true := by rw [<- hV]; simp [textB, restB, hq0, hq5, hq6, he, hz, hw, hf, htp, hty, hm]
           have HV := hid hv;clear hv hV hq0 hq5 hq6 he hz hf htp hty;clear hw;go_enter func39, ntmps39;go_wp2_with (go_at_call 79; refine HH.o.mono ?_; rintro e w' ⟨rfl, k⟩; have c0 := k.cell c0; have c1 := k.cell c1; have c3 := k.cell c3; have d1 := k.cell d1; have d2 := k.cell d2; have d3 := k.cell d3; have d4 := k.cell d4);go_ret;exact ⟨by rw [HV.o]; rfl, k⟩
          ·have bm : decide (0 < ms) = false := by simp [hm]
           have hv : V = true := by rw [<- hV]; simp [textB, restB, hq0, hq5, hq6, he, hz, hw, hf, htp, hty, hm]
           have HV := hid hv;clear hv hV hq0 hq5 hq6 he hz hf htp hty;clear hw;go_enter func39, ntmps39;go_wp2_with (go_at_call 79; refine HH.o.mono ?_; rintro e w' ⟨rfl, k⟩; have c0 := k.cell c0; have c1 := k.cell c1; have c3 := k.cell c3; have d1 := k.cell d1; have d2 := k.cell d2; have d3 := k.cell d3; have d4 := k.cell d4);go_ret;exact ⟨by rw [HV.o]; rfl, k⟩
         ·have bty : (ty.toList == []) = false := emp_no hty;have hv : V = false := by rw [<- hV]; simp [textB, restB, hq0, hq5, hq6, he, hz, hw, hf, htp, hty]
          have HV := hid hv;clear hv hV hq0 hq5 hq6 he hz hf htp hty;clear hw;go_enter func39, ntmps39;go_wp2_with (go_at_call 79; refine HH.o.mono ?_; rintro e w' ⟨rfl, k⟩; have c0 := k.cell c0; have c1 := k.cell c1; have c3 := k.cell c3; have d1 := k.cell d1; have d2 := k.cell d2; have d3 := k.cell d3; have d4 := k.cell d4);go_ret;exact ⟨by rw [HV.o]; rfl, k⟩
        ·have btp : (tp != 0) = true := by simp [htp]
         by_cases hm : 0 < ms
         ·have bm : decide (0 < ms) = true := by simp [hm]
          have hv : V = true := by rw [<- hV]; simp [textB, restB, hq0, hq5, hq6, he, hz, hw, hf, htp, hm]
          have HV := hid hv;clear hv hV hq0 hq5 hq6 he hz hf htp;clear hw;go_enter func39, ntmps39;go_wp2_with (go_at_call 79; refine HH.o.mono ?_; rintro e w' ⟨rfl, k⟩; have c0 := k.cell c0; have c1 := k.cell c1; have c3 := k.cell c3; have d1 := k.cell d1; have d2 := k.cell d2; have d3 := k.cell d3; have d4 := k.cell d4);go_ret;exact ⟨by rw [HV.o]; rfl, k⟩
         ·have bm : decide (0 < ms) = false := by simp [hm]
          have hv : V = true := by rw [<- hV]; simp [textB, restB, hq0, hq5, hq6, he, hz, hw, hf, htp, hm]
          have HV := hid hv;clear hv hV hq0 hq5 hq6 he hz hf htp;clear hw;go_enter func39, ntmps39;go_wp2_with (go_at_call 79; refine HH.o.mono ?_; rintro e w' ⟨rfl, k⟩; have c0 := k.cell c0; have c1 := k.cell c1; have c3 := k.cell c3; have d1 := k.cell d1; have d2 := k.cell d2; have d3 := k.cell d3; have d4 := k.cell d4);go_ret;exact ⟨by rw [HV.o]; rfl, k⟩
       ·have bf : (fr.toList == []) = false := emp_no hf;have hv : V = false := by rw [<- hV]; simp [textB, restB, hq0, hq5, hq6, he, hz, hw, hf]
        have HV := hid hv;clear hv hV hq0 hq5 hq6 he hz hf;clear hw;go_enter func39, ntmps39;go_wp2_with (go_at_call 79; refine HH.o.mono ?_; rintro e w' ⟨rfl, k⟩; have c0 := k.cell c0; have c1 := k.cell c1; have c3 := k.cell c3; have d1 := k.cell d1; have d2 := k.cell d2; have d3 := k.cell d3; have d4 := k.cell d4);go_ret;exact ⟨by rw [HV.o]; rfl, k⟩
     ·have bz : (nn == 0) = false := by simp [hz]
      have bz' : (nn != 0) = true := by simp [hz]
      have hv : V = false := by rw [<- hV]; simp [textB, restB, hq0, hq5, hq6, he, hz]
      have HV := hid hv;clear hv hV hq0 hq5 hq6 he hz;go_enter func39, ntmps39;go_wp2_with fail;go_ret;exact ⟨by rw [HV.o]; rfl, Kept.refl _⟩
   ·have bq6 : (q == 6) = false := by simp [hq6]
    by_cases hq7 : q = 7
    ·have bq7 : (q == 7) = true := by simp [hq7]
     cases hw : contsB tx with
     | false =>
      rw [hw] at HQ;have hv : V = false := by rw [<- hV]; simp [textB, restB, hq0, hq5, hq6, hq7, hw]
      have HV := hid hv;clear hv hV hq0 hq5 hq6 hq7;clear hw;go_enter func39, ntmps39;go_wp2_with (go_at_call 80; refine HQ.o.mono ?_; rintro e w' ⟨rfl, rfl⟩);go_ret;exact ⟨by rw [HV.o]; rfl, Kept.refl _⟩
     | true =>
      rw [hw] at HQ;by_cases hf : fr = ⟨#[]⟩
      ·have bf : (fr.toList == []) = true := by rw [hf]; exact emp_yes
       by_cases htp : tp = 0
       ·have btp : (tp != 0) = false := by simp [htp]
        by_cases hty : ty = ⟨#[]⟩
        ·have bty : (ty.toList == []) = true := by rw [hty]; exact emp_yes
         by_cases hm : 0 < ms
         ·have bm : decide (0 < ms) = true := by simp [hm]
          have hv : V = true := by rw [<- hV]; simp [textB, restB, hq0, hq5, hq6, hq7, hw, hf, htp, hty, hm]
          have HV := hid hv;clear hv hV hq0 hq5 hq6 hq7 hf htp hty;clear hw;go_enter func39, ntmps39;go_wp2_with (go_at_call 80; refine HQ.o.mono ?_; rintro e w' ⟨rfl, rfl⟩);go_ret;exact ⟨by rw [HV.o]; rfl, Kept.refl _⟩
         ·have bm : decide (0 < ms) = false := by simp [hm]
          by_cases hz : nn = 0
          ·have bz : (nn == 0) = true := by simp [hz]
           have bz' : (nn != 0) = false := by simp [hz]
           have hv : V = true := by rw [<- hV]; simp [textB, restB, hq0, hq5, hq6, hq7, hw, hf, htp, hty, hm, hz]
           have HV := hid hv;clear hv hV hq0 hq5 hq6 hq7 hf htp hty hz;clear hw;go_enter func39, ntmps39;go_wp2_with (go_at_call 80; refine HQ.o.mono ?_; rintro e w' ⟨rfl, rfl⟩);go_ret;exact ⟨by rw [HV.o]; rfl, Kept.refl _⟩
          ·have bz : (nn == 0) = false := by simp [hz]
           have bz' : (nn != 0) = true := by simp [hz]
           have hv : V = false := by rw [<- hV]; simp [textB, restB, hq0, hq5, hq6, hq7, hw, hf, htp, hty, hm, hz]
           have HV := hid hv;clear hv hV hq0 hq5 hq6 hq7 hf htp hty hz;clear hw;go_enter func39, ntmps39;go_wp2_with (go_at_call 80; refine HQ.o.mono ?_; rintro e w' ⟨rfl, rfl⟩);go_ret;exact ⟨by rw [HV.o]; rfl, Kept.refl _⟩
        ·have bty : (ty.toList == []) = false := emp_no hty;have hv : V = false := by rw [<- hV]; simp [textB, restB, hq0, hq5, hq6, hq7, hw, hf, htp, hty]
         have HV := hid hv;clear hv hV hq0 hq5 hq6 hq7 hf htp hty;clear hw;go_enter func39, ntmps39;go_wp2_with (go_at_call 80; refine HQ.o.mono ?_; rintro e w' ⟨rfl, rfl⟩);go_ret;exact ⟨by rw [HV.o]; rfl, Kept.refl _⟩
       ·have btp : (tp != 0) = true := by simp [htp]
        by_cases hm : 0 < ms
        ·have bm : decide (0 < ms) = true := by simp [hm]
         have hv : V = true := by rw [<- hV]; simp [textB, restB, hq0, hq5, hq6, hq7, hw, hf, htp, hm]
         have HV := hid hv;clear hv hV hq0 hq5 hq6 hq7 hf htp;clear hw;go_enter func39, ntmps39;go_wp2_with (go_at_call 80; refine HQ.o.mono ?_; rintro e w' ⟨rfl, rfl⟩);go_ret;exact ⟨by rw [HV.o]; rfl, Kept.refl _⟩
        ·have bm : decide (0 < ms) = false := by simp [hm]
         by_cases hz : nn = 0
         ·have bz : (nn == 0) = true := by simp [hz]
          have bz' : (nn != 0) = false := by simp [hz]
          have hv : V = true := by rw [<- hV]; simp [textB, restB, hq0, hq5, hq6, hq7, hw, hf, htp, hm, hz]
          have HV := hid hv;clear hv hV hq0 hq5 hq6 hq7 hf htp hz;clear hw;go_enter func39, ntmps39;go_wp2_with (go_at_call 80; refine HQ.o.mono ?_; rintro e w' ⟨rfl, rfl⟩);go_ret;exact ⟨by rw [HV.o]; rfl, Kept.refl _⟩
         ·have bz : (nn == 0) = false := by simp [hz]
          have bz' : (nn != 0) = true := by simp [hz]
          have hv : V = false := by rw [<- hV]; simp [textB, restB, hq0, hq5, hq6, hq7, hw, hf, htp, hm, hz]
          have HV := hid hv;clear hv hV hq0 hq5 hq6 hq7 hf htp hz;clear hw;go_enter func39, ntmps39;go_wp2_with (go_at_call 80; refine HQ.o.mono ?_; rintro e w' ⟨rfl, rfl⟩);go_ret;exact ⟨by rw [HV.o]; rfl, Kept.refl _⟩
      ·have bf : (fr.toList == []) = false := emp_no hf;have hv : V = false := by rw [<- hV]; simp [textB, restB, hq0, hq5, hq6, hq7, hw, hf]
       have HV := hid hv;clear hv hV hq0 hq5 hq6 hq7 hf;clear hw;go_enter func39, ntmps39;go_wp2_with (go_at_call 80; refine HQ.o.mono ?_; rintro e w' ⟨rfl, rfl⟩);go_ret;exact ⟨by rw [HV.o]; rfl, Kept.refl _⟩
    ·have bq7 : (q == 7) = false := by simp [hq7]
     by_cases hf : fr = ⟨#[]⟩
     ·have bf : (fr.toList == []) = true := by rw [hf]; exact emp_yes
      by_cases htp : tp = 0
      ·have btp : (tp != 0) = false := by simp [htp]
       by_cases hty : ty = ⟨#[]⟩
       ·have bty : (ty.toList == []) = true := by rw [hty]; exact emp_yes
        by_cases hm : 0 < ms
        ·have bm : decide (0 < ms) = true := by simp [hm]
         have hv : V = true := by rw [<- hV]; simp [textB, restB, hq0, hq5, hq6, hq7, hf, htp, hty, hm]
         have HV := hid hv;clear hv hV hq0 hq5 hq6 hq7 hf htp hty;go_enter func39, ntmps39;go_wp2_with fail;go_ret;exact ⟨by rw [HV.o]; rfl, Kept.refl _⟩
        ·have bm : decide (0 < ms) = false := by simp [hm]
         by_cases hz : nn = 0
         ·have bz : (nn == 0) = true := by simp [hz]
          have bz' : (nn != 0) = false := by simp [hz]
          have hv : V = true := by rw [<- hV]; simp [textB, restB, hq0, hq5, hq6, hq7, hf, htp, hty, hm, hz]
          have HV := hid hv;clear hv hV hq0 hq5 hq6 hq7 hf htp hty hz;go_enter func39, ntmps39;go_wp2_with fail;go_ret;exact ⟨by rw [HV.o]; rfl, Kept.refl _⟩
         ·have bz : (nn == 0) = false := by simp [hz]
          have bz' : (nn != 0) = true := by simp [hz]
          have hv : V = false := by rw [<- hV]; simp [textB, restB, hq0, hq5, hq6, hq7, hf, htp, hty, hm, hz]
          have HV := hid hv;clear hv hV hq0 hq5 hq6 hq7 hf htp hty hz;go_enter func39, ntmps39;go_wp2_with fail;go_ret;exact ⟨by rw [HV.o]; rfl, Kept.refl _⟩
       ·have bty : (ty.toList == []) = false := emp_no hty;have hv : V = false := by rw [<- hV]; simp [textB, restB, hq0, hq5, hq6, hq7, hf, htp, hty]
        have HV := hid hv;clear hv hV hq0 hq5 hq6 hq7 hf htp hty;go_enter func39, ntmps39;go_wp2_with fail;go_ret;exact ⟨by rw [HV.o]; rfl, Kept.refl _⟩
      ·have btp : (tp != 0) = true := by simp [htp]
       by_cases hm : 0 < ms
       ·have bm : decide (0 < ms) = true := by simp [hm]
        have hv : V = true := by rw [<- hV]; simp [textB, restB, hq0, hq5, hq6, hq7, hf, htp, hm]
        have HV := hid hv;clear hv hV hq0 hq5 hq6 hq7 hf htp;go_enter func39, ntmps39;go_wp2_with fail;go_ret;exact ⟨by rw [HV.o]; rfl, Kept.refl _⟩
       ·have bm : decide (0 < ms) = false := by simp [hm]
        by_cases hz : nn = 0
        ·have bz : (nn == 0) = true := by simp [hz]
         have bz' : (nn != 0) = false := by simp [hz]
         have hv : V = true := by rw [<- hV]; simp [textB, restB, hq0, hq5, hq6, hq7, hf, htp, hm, hz]
         have HV := hid hv;clear hv hV hq0 hq5 hq6 hq7 hf htp hz;go_enter func39, ntmps39;go_wp2_with fail;go_ret;exact ⟨by rw [HV.o]; rfl, Kept.refl _⟩
        ·have bz : (nn == 0) = false := by simp [hz]
         have bz' : (nn != 0) = true := by simp [hz]
         have hv : V = false := by rw [<- hV]; simp [textB, restB, hq0, hq5, hq6, hq7, hf, htp, hm, hz]
         have HV := hid hv;clear hv hV hq0 hq5 hq6 hq7 hf htp hz;go_enter func39, ntmps39;go_wp2_with fail;go_ret;exact ⟨by rw [HV.o]; rfl, Kept.refl _⟩
     ·have bf : (fr.toList == []) = false := emp_no hf;have hv : V = false := by rw [<- hV]; simp [textB, restB, hq0, hq5, hq6, hq7, hf]
      have HV := hid hv;clear hv hV hq0 hq5 hq6 hq7 hf;go_enter func39, ntmps39;go_wp2_with fail;go_ret;exact ⟨by rw [HV.o]; rfl, Kept.refl _⟩
def ruleE (nd : Ne) (x : Nd) : Int :=
 if kidsE x.kids nd.kids ≠ 0 then kidsE x.kids nd.kids else if formedB nd x = false then 5 else if namedB nd x = false then 6 else if nd.typ = 4 /\ Wrd.typ x.typ = false then 7
 else if x.n < 0 ∨ nd.most < x.n then 3 else if nd.text = 7 /\ 1000 < x.text.size then 4 else 0
def nodeE (x : Nd) : Int := if x.kind < 1 ∨ (needsT.length : Int) <= x.kind then 5 else match needsT[x.kind.toNat]? with
 | some nd => ruleE nd x
 | none => 5
theorem needs_okB : (needsT.all fun nd => decide (nd.words.size <= 9223372036854775807) && nd.words.data.toList.all (fun c => decide (c.toNat < 128)) && nd.kids.all fun p => decide (0 <= p.cnt) && decide (p.cnt <= 10000) && decide (0 <= p.more) && decide (p.more <= 10000)) = true := by decide +kernel
theorem needs_ok {nd : Ne} (h : nd ∈ needsT) : wordsOk nd.words /\ partsOk nd.kids := by
 have h1 := List.all_eq_true.1 needs_okB nd h;simp only [Bool.and_eq_true, List.all_eq_true, decide_eq_true_eq] at h1;exact ⟨h1.1, fun p hp => by have := h1.2 p hp; exact ⟨this.1.1.1, this.1.1.2, this.1.2, this.2⟩⟩
theorem node_c (b o : Nat) (x : Nd) (ta : Option Addr) (tc : Nat) (w : World) (hT : Tb w) (hd : NdAt w b o x) (ht : NeedsR w (.slice ta needsT.length tc) needsT) (hll : x.kids.length <= 1000000000000) :
  Calls prog 23 #[.pointer (some ⟨b, o, none⟩), .slice ta needsT.length tc] w fun e w' => e = .returned (.int .i64 (nodeE x)) /\ Kept w w' := by
 obtain ⟨kad, kc, ⟨d0, d1, d2, d3, d4, d5⟩, hok, hkd, _⟩ := hd.cells;have hlN : 0 < needsT.length := by decide
 by_cases hr : x.kind < 1
 ·have HV := hid (show nodeE x = 5 by unfold nodeE; rw [if_pos (.inl hr)]);go_enter func23, ntmps23;go_wp2_with fail;go_ret;exact ⟨by rw [HV.o]; rfl, Kept.refl _⟩
 have hrb : decide (x.kind < 1) = false := decide_eq_false hr;by_cases hr2 : (needsT.length : Int) <= x.kind
 ·have HV := hid (show nodeE x = 5 by unfold nodeE; rw [if_pos (.inr hr2)]);go_enter func23, ntmps23;go_wp2_with fail;go_ret;exact ⟨by rw [HV.o]; rfl, Kept.refl _⟩
 obtain ⟨kn, hkn⟩ : ∃ kn : Nat, x.kind = (kn : Int) := ⟨x.kind.toNat, by omega⟩;have hlt : kn < needsT.length := by omega
 have hnd : needsT[kn]? = some needsT[kn] := List.getElem?_eq_getElem hlt;have HE := hid (show nodeE x = ruleE needsT[kn] x by unfold nodeE; rw [if_neg (by omega), hkn, Int.toNat_natCast, hnd]);obtain ⟨nd, hnde⟩ : ∃ nd, needsT[kn] = nd := ⟨_, rfl⟩;rw [hnde] at hnd HE;obtain ⟨hwk, hpk⟩ := needs_ok (List.mem_of_getElem? hnd);obtain ⟨_, _, e0, _, _, hat⟩ := ht;injection e0 with e1 e2 e3;subst e1 e3;obtain ⟨tb, to, rfl, hne⟩ := hat kn nd hnd;obtain ⟨nb, hnb⟩ : ∃ nb, tb = nb := ⟨_, rfl⟩;obtain ⟨no, hno⟩ : ∃ no, to + kn * 5 = no := ⟨_, rfl⟩;have HNO := hid hno;have HFO := hid (fun W (k : Kept w W) => formed_c tb (to + kn * 5) b o nd x W (hT.kept k) (hne.kept k) hwk (hd.kept k));have HNM := hid (fun W (k : Kept w W) => named_c tb (to + kn * 5) b o nd x W (hT.kept k) (hne.kept k) (hd.kept k));have HTY := hid (fun W (k : Kept w W) => type_c x.typ W (hT.kept k) (by have := hok.2.2.2.1; unfold maxLen at this; omega));obtain ⟨ns, c0, c1, _, c3, c4, hps⟩ := hne;obtain ⟨pa, pc, rfl, _⟩ := id hps;have HKK := hid (fun W (k : Kept w W) => kids_c kad kc x.kids pa pc nd.kids W (KidsD.kept hkd k) (PartsR.kept hps k) hpk hll);have hltI : ¬ (needsT.length : Int) <= (kn : Int) := by omega
 have hltJ : (kn : Int) < (needsT.length : Int) := by omega
 have hrb2 : decide ((kn : Int) < 1) = false := decide_eq_false (by omega);have hts := hok.2.2.1;have hnl := needsT.length;unfold maxLen at hts;rw [hkn] at d0;clear hat hnde hnd hr hr2 hkn hlt hd hkd hps hT hok hwk hpk hno hnb hrb e2 hlN;by_cases hk0 : kidsE x.kids nd.kids = 0
 ·have HK0 := hid hk0;rw [hk0] at HKK
  cases hf : formedB nd x with
  | false =>
   rw [hf] at HFO;have HV := hid (show nodeE x = 5 by rw [HE.o]; unfold ruleE; simp [hk0, hf]);clear hk0 hf;go_enter func23, ntmps23;go_wp2_with fail;refine wp_region_held_drew (S := (fun W => W.cell? ⟨b, o + 5, none⟩ = some (.slice kad x.kids.length kc) /\ W.cell? ⟨tb, to + kn * 5 + 4, none⟩ = some (.slice pa nd.kids.length pc) /\ Kept w W)) (by kernel_rfl) ⟨(Kept.refl w).drew.cell d5, (Kept.refl w).drew.cell c4, (Kept.refl w).drew⟩ (fun hHeld0 => ?_);refine nkH 0 ?_;refine nkH 1 ?_;refine nkH 2 ?_;refine nkH 3 ?_;refine nkH 4 ?_;refine nkH 5 ?_;refine nkH 6 ?_;refine nkH 7 ?_;refine r1H 8 (fun K hK => ?_);go_simp;go_at_call 38
   refine (HKK.o _ (Kept.refl w).drew).mono ?_;rintro e w2 ⟨rfl, k2⟩;have k2 := (Kept.refl w).drew.trans k2;refine hK.out _ _ ⟨k2.cell d5, k2.cell c4, k2⟩ (fun hHeld1 => ?_);clear hK K;clear hHeld0;refine nkH 9 ?_;refine wpAnyH_done (by kernel_rfl) ?_ _;clear hHeld1;have d0 := k2.cell d0;have d1 := k2.cell d1;have d2 := k2.cell d2;have d3 := k2.cell d3;have d4 := k2.cell d4;have d5 := k2.cell d5;have c0 := k2.cell c0;have c1 := k2.cell c1;have c3 := k2.cell c3;have c4 := k2.cell c4;go_wp2_with (first | (go_at_call 39; refine (HFO.o _ k2).mono ?_; rintro e w3 ⟨rfl, k3⟩; have d0 := k3.cell d0; have d1 := k3.cell d1; have d2 := k3.cell d2; have d4 := k3.cell d4; have c0 := k3.cell c0; have c1 := k3.cell c1; have c3 := k3.cell c3; replace k2 := k2.trans k3; clear k3));go_ret;exact ⟨by rw [HV.o]; rfl, k2⟩
  | true =>
   rw [hf] at HFO
   cases hm : namedB nd x with
   | false =>
    rw [hm] at HNM;have HV := hid (show nodeE x = 6 by rw [HE.o]; unfold ruleE; simp [hk0, hf, hm]);clear hk0 hf hm;go_enter func23, ntmps23;go_wp2_with fail;refine wp_region_held_drew (S := (fun W => W.cell? ⟨b, o + 5, none⟩ = some (.slice kad x.kids.length kc) /\ W.cell? ⟨tb, to + kn * 5 + 4, none⟩ = some (.slice pa nd.kids.length pc) /\ Kept w W)) (by kernel_rfl) ⟨(Kept.refl w).drew.cell d5, (Kept.refl w).drew.cell c4, (Kept.refl w).drew⟩ (fun hHeld0 => ?_);refine nkH 0 ?_;refine nkH 1 ?_;refine nkH 2 ?_;refine nkH 3 ?_;refine nkH 4 ?_;refine nkH 5 ?_;refine nkH 6 ?_;refine nkH 7 ?_;refine r1H 8 (fun K hK => ?_);go_simp;go_at_call 38
    refine (HKK.o _ (Kept.refl w).drew).mono ?_;rintro e w2 ⟨rfl, k2⟩;have k2 := (Kept.refl w).drew.trans k2;refine hK.out _ _ ⟨k2.cell d5, k2.cell c4, k2⟩ (fun hHeld1 => ?_);clear hK K;clear hHeld0;refine nkH 9 ?_;refine wpAnyH_done (by kernel_rfl) ?_ _;clear hHeld1;have d0 := k2.cell d0;have d1 := k2.cell d1;have d2 := k2.cell d2;have d3 := k2.cell d3;have d4 := k2.cell d4;have d5 := k2.cell d5;have c0 := k2.cell c0;have c1 := k2.cell c1;have c3 := k2.cell c3;have c4 := k2.cell c4;go_wp2_with (first | (go_at_call 39; refine (HFO.o _ k2).mono ?_; rintro e w3 ⟨rfl, k3⟩; have d0 := k3.cell d0; have d1 := k3.cell d1; have d2 := k3.cell d2; have d4 := k3.cell d4; have c0 := k3.cell c0; have c1 := k3.cell c1; have c3 := k3.cell c3; replace k2 := k2.trans k3; clear k3) | (go_at_call 40; refine (HNM.o _ k2).mono ?_; rintro e w3 ⟨rfl, k3⟩; have d0 := k3.cell d0; have d1 := k3.cell d1; have d2 := k3.cell d2; have d4 := k3.cell d4; have c0 := k3.cell c0; have c1 := k3.cell c1; have c3 := k3.cell c3; replace k2 := k2.trans k3; clear k3));go_ret;exact ⟨by rw [HV.o]; rfl, k2⟩
   | true =>
    rw [hm] at HNM;by_cases ht4 : nd.typ = 4
    ·have htb4 : (nd.typ == 4) = true := by simp [ht4]
     cases hy : Wrd.typ x.typ with
     | false =>
      rw [hy] at HTY;have HV := hid (show nodeE x = 7 by rw [HE.o]; unfold ruleE; simp [hk0, hf, hm, ht4, hy]);clear hk0 hf hm ht4 hy;go_enter func23, ntmps23;go_wp2_with fail;refine wp_region_held_drew (S := (fun W => W.cell? ⟨b, o + 5, none⟩ = some (.slice kad x.kids.length kc) /\ W.cell? ⟨tb, to + kn * 5 + 4, none⟩ = some (.slice pa nd.kids.length pc) /\ Kept w W)) (by kernel_rfl) ⟨(Kept.refl w).drew.cell d5, (Kept.refl w).drew.cell c4, (Kept.refl w).drew⟩ (fun hHeld0 => ?_);refine nkH 0 ?_;refine nkH 1 ?_;refine nkH 2 ?_;refine nkH 3 ?_;refine nkH 4 ?_;refine nkH 5 ?_;refine nkH 6 ?_;refine nkH 7 ?_;refine r1H 8 (fun K hK => ?_);go_simp;go_at_call 38
      refine (HKK.o _ (Kept.refl w).drew).mono ?_;rintro e w2 ⟨rfl, k2⟩;have k2 := (Kept.refl w).drew.trans k2;refine hK.out _ _ ⟨k2.cell d5, k2.cell c4, k2⟩ (fun hHeld1 => ?_);clear hK K;clear hHeld0;refine nkH 9 ?_;refine wpAnyH_done (by kernel_rfl) ?_ _;clear hHeld1;have d0 := k2.cell d0;have d1 := k2.cell d1;have d2 := k2.cell d2;have d3 := k2.cell d3;have d4 := k2.cell d4;have d5 := k2.cell d5;have c0 := k2.cell c0;have c1 := k2.cell c1;have c3 := k2.cell c3;have c4 := k2.cell c4;go_wp2_with (first | (go_at_call 39; refine (HFO.o _ k2).mono ?_; rintro e w3 ⟨rfl, k3⟩; have d0 := k3.cell d0; have d1 := k3.cell d1; have d2 := k3.cell d2; have d4 := k3.cell d4; have c0 := k3.cell c0; have c1 := k3.cell c1; have c3 := k3.cell c3; replace k2 := k2.trans k3; clear k3) | (go_at_call 40; refine (HNM.o _ k2).mono ?_; rintro e w3 ⟨rfl, k3⟩; have d0 := k3.cell d0; have d1 := k3.cell d1; have d2 := k3.cell d2; have d4 := k3.cell d4; have c0 := k3.cell c0; have c1 := k3.cell c1; have c3 := k3.cell c3; replace k2 := k2.trans k3; clear k3) | (go_at_call 41; refine (HTY.o _ k2).mono ?_; rintro e w3 ⟨rfl, k3⟩; have d0 := k3.cell d0; have d1 := k3.cell d1; have d2 := k3.cell d2; have d4 := k3.cell d4; have c0 := k3.cell c0; have c1 := k3.cell c1; have c3 := k3.cell c3; replace k2 := k2.trans k3; clear k3));go_ret;exact ⟨by rw [HV.o]; rfl, k2⟩
     | true =>
      rw [hy] at HTY;by_cases hn0 : x.n < 0
      ·have hnb0 : decide (x.n < 0) = true := decide_eq_true hn0;have HV := hid (show nodeE x = 3 by rw [HE.o]; unfold ruleE; simp [hk0, hf, hm, ht4, hy, hn0]);clear hk0 hf hm ht4 hy hn0;go_enter func23, ntmps23;go_wp2_with fail;refine wp_region_held_drew (S := (fun W => W.cell? ⟨b, o + 5, none⟩ = some (.slice kad x.kids.length kc) /\ W.cell? ⟨tb, to + kn * 5 + 4, none⟩ = some (.slice pa nd.kids.length pc) /\ Kept w W)) (by kernel_rfl) ⟨(Kept.refl w).drew.cell d5, (Kept.refl w).drew.cell c4, (Kept.refl w).drew⟩ (fun hHeld0 => ?_);refine nkH 0 ?_;refine nkH 1 ?_;refine nkH 2 ?_;refine nkH 3 ?_;refine nkH 4 ?_;refine nkH 5 ?_;refine nkH 6 ?_;refine nkH 7 ?_;refine r1H 8 (fun K hK => ?_);go_simp;go_at_call 38
       refine (HKK.o _ (Kept.refl w).drew).mono ?_;rintro e w2 ⟨rfl, k2⟩;have k2 := (Kept.refl w).drew.trans k2;refine hK.out _ _ ⟨k2.cell d5, k2.cell c4, k2⟩ (fun hHeld1 => ?_);clear hK K;clear hHeld0;refine nkH 9 ?_;refine wpAnyH_done (by kernel_rfl) ?_ _;clear hHeld1;have d0 := k2.cell d0;have d1 := k2.cell d1;have d2 := k2.cell d2;have d3 := k2.cell d3;have d4 := k2.cell d4;have d5 := k2.cell d5;have c0 := k2.cell c0;have c1 := k2.cell c1;have c3 := k2.cell c3;have c4 := k2.cell c4;go_wp2_with (first | (go_at_call 39; refine (HFO.o _ k2).mono ?_; rintro e w3 ⟨rfl, k3⟩; have d0 := k3.cell d0; have d1 := k3.cell d1; have d2 := k3.cell d2; have d4 := k3.cell d4; have c0 := k3.cell c0; have c1 := k3.cell c1; have c3 := k3.cell c3; replace k2 := k2.trans k3; clear k3) | (go_at_call 40; refine (HNM.o _ k2).mono ?_; rintro e w3 ⟨rfl, k3⟩; have d0 := k3.cell d0; have d1 := k3.cell d1; have d2 := k3.cell d2; have d4 := k3.cell d4; have c0 := k3.cell c0; have c1 := k3.cell c1; have c3 := k3.cell c3; replace k2 := k2.trans k3; clear k3) | (go_at_call 41; refine (HTY.o _ k2).mono ?_; rintro e w3 ⟨rfl, k3⟩; have d0 := k3.cell d0; have d1 := k3.cell d1; have d2 := k3.cell d2; have d4 := k3.cell d4; have c0 := k3.cell c0; have c1 := k3.cell c1; have c3 := k3.cell c3; replace k2 := k2.trans k3; clear k3));refine wp_region_held_drew (S := (fun W => W.cell? ⟨b, o + 4, none⟩ = some (.int .i64 x.n) /\ W.cell? ⟨tb, to + kn * 5 + 3, none⟩ = some (.int .i64 nd.most) /\ Kept w W)) (by kernel_rfl) ⟨(Kept.refl _).drew.cell d4, (Kept.refl _).drew.cell c3, k2.drew⟩ (fun hHeld0 => ?_);refine nkH 0 ?_;refine nkH 1 ?_;refine nkH 2 ?_;refine nkH 3 ?_;refine nkH 4 ?_;refine nkH 5 ?_;refine nkS 6 ?_;refine nkS 7 ?_;refine nkS 8 ?_;refine nkS 9 ?_;refine nkS 10 ?_;refine nkS 11 ?_;refine nkS 12 ?_;refine nkS 13 ?_;refine nkS 14 ?_;refine nkH 15 ?_;refine nkH 16 ?_;refine wpAnyH_done (by kernel_rfl) ?_ _;clear hHeld0;replace k2 := k2.drew;go_wp2_with fail;go_ret;exact ⟨by rw [HV.o]; rfl, k2⟩
      have hnb0 : decide (x.n < 0) = false := decide_eq_false hn0;by_cases hn1 : nd.most < x.n
      ·have hnb1 : decide (nd.most < x.n) = true := decide_eq_true hn1;have HV := hid (show nodeE x = 3 by rw [HE.o]; unfold ruleE; simp [hk0, hf, hm, ht4, hy, hn0, hn1]);clear hk0 hf hm ht4 hy hn0 hn1;go_enter func23, ntmps23;go_wp2_with fail;refine wp_region_held_drew (S := (fun W => W.cell? ⟨b, o + 5, none⟩ = some (.slice kad x.kids.length kc) /\ W.cell? ⟨tb, to + kn * 5 + 4, none⟩ = some (.slice pa nd.kids.length pc) /\ Kept w W)) (by kernel_rfl) ⟨(Kept.refl w).drew.cell d5, (Kept.refl w).drew.cell c4, (Kept.refl w).drew⟩ (fun hHeld0 => ?_);refine nkH 0 ?_;refine nkH 1 ?_;refine nkH 2 ?_;refine nkH 3 ?_;refine nkH 4 ?_;refine nkH 5 ?_;refine nkH 6 ?_;refine nkH 7 ?_;refine r1H 8 (fun K hK => ?_);go_simp;go_at_call 38
       refine (HKK.o _ (Kept.refl w).drew).mono ?_;rintro e w2 ⟨rfl, k2⟩;have k2 := (Kept.refl w).drew.trans k2;refine hK.out _ _ ⟨k2.cell d5, k2.cell c4, k2⟩ (fun hHeld1 => ?_);clear hK K;clear hHeld0;refine nkH 9 ?_;refine wpAnyH_done (by kernel_rfl) ?_ _;clear hHeld1;have d0 := k2.cell d0;have d1 := k2.cell d1;have d2 := k2.cell d2;have d3 := k2.cell d3;have d4 := k2.cell d4;have d5 := k2.cell d5;have c0 := k2.cell c0;have c1 := k2.cell c1;have c3 := k2.cell c3;have c4 := k2.cell c4;go_wp2_with (first | (go_at_call 39; refine (HFO.o _ k2).mono ?_; rintro e w3 ⟨rfl, k3⟩; have d0 := k3.cell d0; have d1 := k3.cell d1; have d2 := k3.cell d2; have d4 := k3.cell d4; have c0 := k3.cell c0; have c1 := k3.cell c1; have c3 := k3.cell c3; replace k2 := k2.trans k3; clear k3) | (go_at_call 40; refine (HNM.o _ k2).mono ?_; rintro e w3 ⟨rfl, k3⟩; have d0 := k3.cell d0; have d1 := k3.cell d1; have d2 := k3.cell d2; have d4 := k3.cell d4; have c0 := k3.cell c0; have c1 := k3.cell c1; have c3 := k3.cell c3; replace k2 := k2.trans k3; clear k3) | (go_at_call 41; refine (HTY.o _ k2).mono ?_; rintro e w3 ⟨rfl, k3⟩; have d0 := k3.cell d0; have d1 := k3.cell d1; have d2 := k3.cell d2; have d4 := k3.cell d4; have c0 := k3.cell c0; have c1 := k3.cell c1; have c3 := k3.cell c3; replace k2 := k2.trans k3; clear k3));refine wp_region_held_drew (S := (fun W => W.cell? ⟨b, o + 4, none⟩ = some (.int .i64 x.n) /\ W.cell? ⟨tb, to + kn * 5 + 3, none⟩ = some (.int .i64 nd.most) /\ Kept w W)) (by kernel_rfl) ⟨(Kept.refl _).drew.cell d4, (Kept.refl _).drew.cell c3, k2.drew⟩ (fun hHeld0 => ?_);refine nkH 0 ?_;refine nkH 1 ?_;refine nkH 2 ?_;refine nkH 3 ?_;refine nkH 4 ?_;refine nkH 5 ?_;refine nkH 6 ?_;refine nkH 7 ?_;refine nkH 8 ?_;refine nkH 9 ?_;refine nkH 10 ?_;refine nkH 11 ?_;refine nkH 12 ?_;refine nkH 13 ?_;refine nkH 14 ?_;refine nkH 15 ?_;refine nkH 16 ?_;refine wpAnyH_done (by kernel_rfl) ?_ _;clear hHeld0;replace k2 := k2.drew;go_wp2_with fail;go_ret;exact ⟨by rw [HV.o]; rfl, k2⟩
      have hnb1 : decide (nd.most < x.n) = false := decide_eq_false hn1;by_cases ht7 : nd.text = 7
      ·have htb7 : (nd.text == 7) = true := by simp [ht7]
       by_cases hsz : 1000 < x.text.size
       ·have hszI : decide ((1000 : Int) < (x.text.size : Int)) = true := decide_eq_true (by omega);have HV := hid (show nodeE x = 4 by rw [HE.o]; unfold ruleE; simp [hk0, hf, hm, ht4, hy, hn0, hn1, ht7, hsz]);clear hk0 hf hm ht4 hy hn0 hn1 ht7 hsz;go_enter func23, ntmps23;go_wp2_with fail;refine wp_region_held_drew (S := (fun W => W.cell? ⟨b, o + 5, none⟩ = some (.slice kad x.kids.length kc) /\ W.cell? ⟨tb, to + kn * 5 + 4, none⟩ = some (.slice pa nd.kids.length pc) /\ Kept w W)) (by kernel_rfl) ⟨(Kept.refl w).drew.cell d5, (Kept.refl w).drew.cell c4, (Kept.refl w).drew⟩ (fun hHeld0 => ?_);refine nkH 0 ?_;refine nkH 1 ?_;refine nkH 2 ?_;refine nkH 3 ?_;refine nkH 4 ?_;refine nkH 5 ?_;refine nkH 6 ?_;refine nkH 7 ?_;refine r1H 8 (fun K hK => ?_);go_simp;go_at_call 38
        refine (HKK.o _ (Kept.refl w).drew).mono ?_;rintro e w2 ⟨rfl, k2⟩;have k2 := (Kept.refl w).drew.trans k2;refine hK.out _ _ ⟨k2.cell d5, k2.cell c4, k2⟩ (fun hHeld1 => ?_);clear hK K;clear hHeld0;refine nkH 9 ?_;refine wpAnyH_done (by kernel_rfl) ?_ _;clear hHeld1;have d0 := k2.cell d0;have d1 := k2.cell d1;have d2 := k2.cell d2;have d3 := k2.cell d3;have d4 := k2.cell d4;have d5 := k2.cell d5;have c0 := k2.cell c0;have c1 := k2.cell c1;have c3 := k2.cell c3;have c4 := k2.cell c4;go_wp2_with (first | (go_at_call 39; refine (HFO.o _ k2).mono ?_; rintro e w3 ⟨rfl, k3⟩; have d0 := k3.cell d0; have d1 := k3.cell d1; have d2 := k3.cell d2; have d4 := k3.cell d4; have c0 := k3.cell c0; have c1 := k3.cell c1; have c3 := k3.cell c3; replace k2 := k2.trans k3; clear k3) | (go_at_call 40; refine (HNM.o _ k2).mono ?_; rintro e w3 ⟨rfl, k3⟩; have d0 := k3.cell d0; have d1 := k3.cell d1; have d2 := k3.cell d2; have d4 := k3.cell d4; have c0 := k3.cell c0; have c1 := k3.cell c1; have c3 := k3.cell c3; replace k2 := k2.trans k3; clear k3) | (go_at_call 41; refine (HTY.o _ k2).mono ?_; rintro e w3 ⟨rfl, k3⟩; have d0 := k3.cell d0; have d1 := k3.cell d1; have d2 := k3.cell d2; have d4 := k3.cell d4; have c0 := k3.cell c0; have c1 := k3.cell c1; have c3 := k3.cell c3; replace k2 := k2.trans k3; clear k3));refine wp_region_held_drew (S := (fun W => W.cell? ⟨b, o + 4, none⟩ = some (.int .i64 x.n) /\ W.cell? ⟨tb, to + kn * 5 + 3, none⟩ = some (.int .i64 nd.most) /\ Kept w W)) (by kernel_rfl) ⟨(Kept.refl _).drew.cell d4, (Kept.refl _).drew.cell c3, k2.drew⟩ (fun hHeld0 => ?_);refine nkH 0 ?_;refine nkH 1 ?_;refine nkH 2 ?_;refine nkH 3 ?_;refine nkH 4 ?_;refine nkH 5 ?_;refine nkH 6 ?_;refine nkH 7 ?_;refine nkH 8 ?_;refine nkH 9 ?_;refine nkH 10 ?_;refine nkH 11 ?_;refine nkH 12 ?_;refine nkH 13 ?_;refine nkH 14 ?_;refine nkH 15 ?_;refine nkH 16 ?_;refine wpAnyH_done (by kernel_rfl) ?_ _;clear hHeld0;replace k2 := k2.drew;have c0 := (Kept.refl _).drew.cell c0;have d1 := (Kept.refl _).drew.cell d1;go_wp2_with fail;go_ret;exact ⟨by rw [HV.o]; rfl, k2⟩
       ·have hszI : decide ((1000 : Int) < (x.text.size : Int)) = false := decide_eq_false (by omega);have HV := hid (show nodeE x = 0 by rw [HE.o]; unfold ruleE; simp [hk0, hf, hm, ht4, hy, hn0, hn1, ht7, hsz]);clear hk0 hf hm ht4 hy hn0 hn1 ht7 hsz;go_enter func23, ntmps23;go_wp2_with fail;refine wp_region_held_drew (S := (fun W => W.cell? ⟨b, o + 5, none⟩ = some (.slice kad x.kids.length kc) /\ W.cell? ⟨tb, to + kn * 5 + 4, none⟩ = some (.slice pa nd.kids.length pc) /\ Kept w W)) (by kernel_rfl) ⟨(Kept.refl w).drew.cell d5, (Kept.refl w).drew.cell c4, (Kept.refl w).drew⟩ (fun hHeld0 => ?_);refine nkH 0 ?_;refine nkH 1 ?_;refine nkH 2 ?_;refine nkH 3 ?_;refine nkH 4 ?_;refine nkH 5 ?_;refine nkH 6 ?_;refine nkH 7 ?_;refine r1H 8 (fun K hK => ?_);go_simp;go_at_call 38
        refine (HKK.o _ (Kept.refl w).drew).mono ?_;rintro e w2 ⟨rfl, k2⟩;have k2 := (Kept.refl w).drew.trans k2;refine hK.out _ _ ⟨k2.cell d5, k2.cell c4, k2⟩ (fun hHeld1 => ?_);clear hK K;clear hHeld0;refine nkH 9 ?_;refine wpAnyH_done (by kernel_rfl) ?_ _;clear hHeld1;have d0 := k2.cell d0;have d1 := k2.cell d1;have d2 := k2.cell d2;have d3 := k2.cell d3;have d4 := k2.cell d4;have d5 := k2.cell d5;have c0 := k2.cell c0;have c1 := k2.cell c1;have c3 := k2.cell c3;have c4 := k2.cell c4;go_wp2_with (first | (go_at_call 39; refine (HFO.o _ k2).mono ?_; rintro e w3 ⟨rfl, k3⟩; have d0 := k3.cell d0; have d1 := k3.cell d1; have d2 := k3.cell d2; have d4 := k3.cell d4; have c0 := k3.cell c0; have c1 := k3.cell c1; have c3 := k3.cell c3; replace k2 := k2.trans k3; clear k3) | (go_at_call 40; refine (HNM.o _ k2).mono ?_; rintro e w3 ⟨rfl, k3⟩; have d0 := k3.cell d0; have d1 := k3.cell d1; have d2 := k3.cell d2; have d4 := k3.cell d4; have c0 := k3.cell c0; have c1 := k3.cell c1; have c3 := k3.cell c3; replace k2 := k2.trans k3; clear k3) | (go_at_call 41; refine (HTY.o _ k2).mono ?_; rintro e w3 ⟨rfl, k3⟩; have d0 := k3.cell d0; have d1 := k3.cell d1; have d2 := k3.cell d2; have d4 := k3.cell d4; have c0 := k3.cell c0; have c1 := k3.cell c1; have c3 := k3.cell c3; replace k2 := k2.trans k3; clear k3));refine wp_region_held_drew (S := (fun W => W.cell? ⟨b, o + 4, none⟩ = some (.int .i64 x.n) /\ W.cell? ⟨tb, to + kn * 5 + 3, none⟩ = some (.int .i64 nd.most) /\ Kept w W)) (by kernel_rfl) ⟨(Kept.refl _).drew.cell d4, (Kept.refl _).drew.cell c3, k2.drew⟩ (fun hHeld0 => ?_);refine nkH 0 ?_;refine nkH 1 ?_;refine nkH 2 ?_;refine nkH 3 ?_;refine nkH 4 ?_;refine nkH 5 ?_;refine nkH 6 ?_;refine nkH 7 ?_;refine nkH 8 ?_;refine nkH 9 ?_;refine nkH 10 ?_;refine nkH 11 ?_;refine nkH 12 ?_;refine nkH 13 ?_;refine nkH 14 ?_;refine nkH 15 ?_;refine nkH 16 ?_;refine wpAnyH_done (by kernel_rfl) ?_ _;clear hHeld0;replace k2 := k2.drew;have c0 := (Kept.refl _).drew.cell c0;have d1 := (Kept.refl _).drew.cell d1;go_wp2_with fail;go_ret;exact ⟨by rw [HV.o]; rfl, k2⟩
      ·have htb7 : (nd.text == 7) = false := by simp [ht7]
       have HV := hid (show nodeE x = 0 by rw [HE.o]; unfold ruleE; simp [hk0, hf, hm, ht4, hy, hn0, hn1, ht7]);clear hk0 hf hm ht4 hy hn0 hn1 ht7;go_enter func23, ntmps23;go_wp2_with fail;refine wp_region_held_drew (S := (fun W => W.cell? ⟨b, o + 5, none⟩ = some (.slice kad x.kids.length kc) /\ W.cell? ⟨tb, to + kn * 5 + 4, none⟩ = some (.slice pa nd.kids.length pc) /\ Kept w W)) (by kernel_rfl) ⟨(Kept.refl w).drew.cell d5, (Kept.refl w).drew.cell c4, (Kept.refl w).drew⟩ (fun hHeld0 => ?_);refine nkH 0 ?_;refine nkH 1 ?_;refine nkH 2 ?_;refine nkH 3 ?_;refine nkH 4 ?_;refine nkH 5 ?_;refine nkH 6 ?_;refine nkH 7 ?_;refine r1H 8 (fun K hK => ?_);go_simp;go_at_call 38
       refine (HKK.o _ (Kept.refl w).drew).mono ?_;rintro e w2 ⟨rfl, k2⟩;have k2 := (Kept.refl w).drew.trans k2;refine hK.out _ _ ⟨k2.cell d5, k2.cell c4, k2⟩ (fun hHeld1 => ?_);clear hK K;clear hHeld0;refine nkH 9 ?_;refine wpAnyH_done (by kernel_rfl) ?_ _;clear hHeld1;have d0 := k2.cell d0;have d1 := k2.cell d1;have d2 := k2.cell d2;have d3 := k2.cell d3;have d4 := k2.cell d4;have d5 := k2.cell d5;have c0 := k2.cell c0;have c1 := k2.cell c1;have c3 := k2.cell c3;have c4 := k2.cell c4;go_wp2_with (first | (go_at_call 39; refine (HFO.o _ k2).mono ?_; rintro e w3 ⟨rfl, k3⟩; have d0 := k3.cell d0; have d1 := k3.cell d1; have d2 := k3.cell d2; have d4 := k3.cell d4; have c0 := k3.cell c0; have c1 := k3.cell c1; have c3 := k3.cell c3; replace k2 := k2.trans k3; clear k3) | (go_at_call 40; refine (HNM.o _ k2).mono ?_; rintro e w3 ⟨rfl, k3⟩; have d0 := k3.cell d0; have d1 := k3.cell d1; have d2 := k3.cell d2; have d4 := k3.cell d4; have c0 := k3.cell c0; have c1 := k3.cell c1; have c3 := k3.cell c3; replace k2 := k2.trans k3; clear k3) | (go_at_call 41; refine (HTY.o _ k2).mono ?_; rintro e w3 ⟨rfl, k3⟩; have d0 := k3.cell d0; have d1 := k3.cell d1; have d2 := k3.cell d2; have d4 := k3.cell d4; have c0 := k3.cell c0; have c1 := k3.cell c1; have c3 := k3.cell c3; replace k2 := k2.trans k3; clear k3));refine wp_region_held_drew (S := (fun W => W.cell? ⟨b, o + 4, none⟩ = some (.int .i64 x.n) /\ W.cell? ⟨tb, to + kn * 5 + 3, none⟩ = some (.int .i64 nd.most) /\ Kept w W)) (by kernel_rfl) ⟨(Kept.refl _).drew.cell d4, (Kept.refl _).drew.cell c3, k2.drew⟩ (fun hHeld0 => ?_);refine nkH 0 ?_;refine nkH 1 ?_;refine nkH 2 ?_;refine nkH 3 ?_;refine nkH 4 ?_;refine nkH 5 ?_;refine nkH 6 ?_;refine nkH 7 ?_;refine nkH 8 ?_;refine nkH 9 ?_;refine nkH 10 ?_;refine nkH 11 ?_;refine nkH 12 ?_;refine nkH 13 ?_;refine nkH 14 ?_;refine nkH 15 ?_;refine nkH 16 ?_;refine wpAnyH_done (by kernel_rfl) ?_ _;clear hHeld0;replace k2 := k2.drew;have c0 := (Kept.refl _).drew.cell c0;have d1 := (Kept.refl _).drew.cell d1;go_wp2_with fail;go_ret;exact ⟨by rw [HV.o]; rfl, k2⟩
    ·have htb4 : (nd.typ == 4) = false := by simp [ht4]
     by_cases hn0 : x.n < 0
     ·have hnb0 : decide (x.n < 0) = true := decide_eq_true hn0;have HV := hid (show nodeE x = 3 by rw [HE.o]; unfold ruleE; simp [hk0, hf, hm, ht4, hn0]);clear hk0 hf hm ht4 hn0;go_enter func23, ntmps23;go_wp2_with fail;refine wp_region_held_drew (S := (fun W => W.cell? ⟨b, o + 5, none⟩ = some (.slice kad x.kids.length kc) /\ W.cell? ⟨tb, to + kn * 5 + 4, none⟩ = some (.slice pa nd.kids.length pc) /\ Kept w W)) (by kernel_rfl) ⟨(Kept.refl w).drew.cell d5, (Kept.refl w).drew.cell c4, (Kept.refl w).drew⟩ (fun hHeld0 => ?_);refine nkH 0 ?_;refine nkH 1 ?_;refine nkH 2 ?_;refine nkH 3 ?_;refine nkH 4 ?_;refine nkH 5 ?_;refine nkH 6 ?_;refine nkH 7 ?_;refine r1H 8 (fun K hK => ?_);go_simp;go_at_call 38
      refine (HKK.o _ (Kept.refl w).drew).mono ?_;rintro e w2 ⟨rfl, k2⟩;have k2 := (Kept.refl w).drew.trans k2;refine hK.out _ _ ⟨k2.cell d5, k2.cell c4, k2⟩ (fun hHeld1 => ?_);clear hK K;clear hHeld0;refine nkH 9 ?_;refine wpAnyH_done (by kernel_rfl) ?_ _;clear hHeld1;have d0 := k2.cell d0;have d1 := k2.cell d1;have d2 := k2.cell d2;have d3 := k2.cell d3;have d4 := k2.cell d4;have d5 := k2.cell d5;have c0 := k2.cell c0;have c1 := k2.cell c1;have c3 := k2.cell c3;have c4 := k2.cell c4;go_wp2_with (first | (go_at_call 39; refine (HFO.o _ k2).mono ?_; rintro e w3 ⟨rfl, k3⟩; have d0 := k3.cell d0; have d1 := k3.cell d1; have d2 := k3.cell d2; have d4 := k3.cell d4; have c0 := k3.cell c0; have c1 := k3.cell c1; have c3 := k3.cell c3; replace k2 := k2.trans k3; clear k3) | (go_at_call 40; refine (HNM.o _ k2).mono ?_; rintro e w3 ⟨rfl, k3⟩; have d0 := k3.cell d0; have d1 := k3.cell d1; have d2 := k3.cell d2; have d4 := k3.cell d4; have c0 := k3.cell c0; have c1 := k3.cell c1; have c3 := k3.cell c3; replace k2 := k2.trans k3; clear k3));refine wp_region_held_drew (S := (fun W => W.cell? ⟨b, o + 4, none⟩ = some (.int .i64 x.n) /\ W.cell? ⟨tb, to + kn * 5 + 3, none⟩ = some (.int .i64 nd.most) /\ Kept w W)) (by kernel_rfl) ⟨(Kept.refl _).drew.cell d4, (Kept.refl _).drew.cell c3, k2.drew⟩ (fun hHeld0 => ?_);refine nkH 0 ?_;refine nkH 1 ?_;refine nkH 2 ?_;refine nkH 3 ?_;refine nkH 4 ?_;refine nkH 5 ?_;refine nkS 6 ?_;refine nkS 7 ?_;refine nkS 8 ?_;refine nkS 9 ?_;refine nkS 10 ?_;refine nkS 11 ?_;refine nkS 12 ?_;refine nkS 13 ?_;refine nkS 14 ?_;refine nkH 15 ?_;refine nkH 16 ?_;refine wpAnyH_done (by kernel_rfl) ?_ _;clear hHeld0;replace k2 := k2.drew;go_wp2_with fail;go_ret;exact ⟨by rw [HV.o]; rfl, k2⟩
     have hnb0 : decide (x.n < 0) = false := decide_eq_false hn0;by_cases hn1 : nd.most < x.n
     ·have hnb1 : decide (nd.most < x.n) = true := decide_eq_true hn1;have HV := hid (show nodeE x = 3 by rw [HE.o]; unfold ruleE; simp [hk0, hf, hm, ht4, hn0, hn1]);clear hk0 hf hm ht4 hn0 hn1;go_enter func23, ntmps23;go_wp2_with fail;refine wp_region_held_drew (S := (fun W => W.cell? ⟨b, o + 5, none⟩ = some (.slice kad x.kids.length kc) /\ W.cell? ⟨tb, to + kn * 5 + 4, none⟩ = some (.slice pa nd.kids.length pc) /\ Kept w W)) (by kernel_rfl) ⟨(Kept.refl w).drew.cell d5, (Kept.refl w).drew.cell c4, (Kept.refl w).drew⟩ (fun hHeld0 => ?_);refine nkH 0 ?_;refine nkH 1 ?_;refine nkH 2 ?_;refine nkH 3 ?_;refine nkH 4 ?_;refine nkH 5 ?_;refine nkH 6 ?_;refine nkH 7 ?_;refine r1H 8 (fun K hK => ?_);go_simp;go_at_call 38
      refine (HKK.o _ (Kept.refl w).drew).mono ?_;rintro e w2 ⟨rfl, k2⟩;have k2 := (Kept.refl w).drew.trans k2;refine hK.out _ _ ⟨k2.cell d5, k2.cell c4, k2⟩ (fun hHeld1 => ?_);clear hK K;clear hHeld0;refine nkH 9 ?_;refine wpAnyH_done (by kernel_rfl) ?_ _;clear hHeld1;have d0 := k2.cell d0;have d1 := k2.cell d1;have d2 := k2.cell d2;have d3 := k2.cell d3;have d4 := k2.cell d4;have d5 := k2.cell d5;have c0 := k2.cell c0;have c1 := k2.cell c1;have c3 := k2.cell c3;have c4 := k2.cell c4;go_wp2_with (first | (go_at_call 39; refine (HFO.o _ k2).mono ?_; rintro e w3 ⟨rfl, k3⟩; have d0 := k3.cell d0; have d1 := k3.cell d1; have d2 := k3.cell d2; have d4 := k3.cell d4; have c0 := k3.cell c0; have c1 := k3.cell c1; have c3 := k3.cell c3; replace k2 := k2.trans k3; clear k3) | (go_at_call 40; refine (HNM.o _ k2).mono ?_; rintro e w3 ⟨rfl, k3⟩; have d0 := k3.cell d0; have d1 := k3.cell d1; have d2 := k3.cell d2; have d4 := k3.cell d4; have c0 := k3.cell c0; have c1 := k3.cell c1; have c3 := k3.cell c3; replace k2 := k2.trans k3; clear k3));refine wp_region_held_drew (S := (fun W => W.cell? ⟨b, o + 4, none⟩ = some (.int .i64 x.n) /\ W.cell? ⟨tb, to + kn * 5 + 3, none⟩ = some (.int .i64 nd.most) /\ Kept w W)) (by kernel_rfl) ⟨(Kept.refl _).drew.cell d4, (Kept.refl _).drew.cell c3, k2.drew⟩ (fun hHeld0 => ?_);refine nkH 0 ?_;refine nkH 1 ?_;refine nkH 2 ?_;refine nkH 3 ?_;refine nkH 4 ?_;refine nkH 5 ?_;refine nkH 6 ?_;refine nkH 7 ?_;refine nkH 8 ?_;refine nkH 9 ?_;refine nkH 10 ?_;refine nkH 11 ?_;refine nkH 12 ?_;refine nkH 13 ?_;refine nkH 14 ?_;refine nkH 15 ?_;refine nkH 16 ?_;refine wpAnyH_done (by kernel_rfl) ?_ _;clear hHeld0;replace k2 := k2.drew;go_wp2_with fail;go_ret;exact ⟨by rw [HV.o]; rfl, k2⟩
     have hnb1 : decide (nd.most < x.n) = false := decide_eq_false hn1;by_cases ht7 : nd.text = 7
     ·have htb7 : (nd.text == 7) = true := by simp [ht7]
      by_cases hsz : 1000 < x.text.size
      ·have hszI : decide ((1000 : Int) < (x.text.size : Int)) = true := decide_eq_true (by omega);have HV := hid (show nodeE x = 4 by rw [HE.o]; unfold ruleE; simp [hk0, hf, hm, ht4, hn0, hn1, ht7, hsz]);clear hk0 hf hm ht4 hn0 hn1 ht7 hsz;go_enter func23, ntmps23;go_wp2_with fail;refine wp_region_held_drew (S := (fun W => W.cell? ⟨b, o + 5, none⟩ = some (.slice kad x.kids.length kc) /\ W.cell? ⟨tb, to + kn * 5 + 4, none⟩ = some (.slice pa nd.kids.length pc) /\ Kept w W)) (by kernel_rfl) ⟨(Kept.refl w).drew.cell d5, (Kept.refl w).drew.cell c4, (Kept.refl w).drew⟩ (fun hHeld0 => ?_);refine nkH 0 ?_;refine nkH 1 ?_;refine nkH 2 ?_;refine nkH 3 ?_;refine nkH 4 ?_;refine nkH 5 ?_;refine nkH 6 ?_;refine nkH 7 ?_;refine r1H 8 (fun K hK => ?_);go_simp;go_at_call 38
       refine (HKK.o _ (Kept.refl w).drew).mono ?_;rintro e w2 ⟨rfl, k2⟩;have k2 := (Kept.refl w).drew.trans k2;refine hK.out _ _ ⟨k2.cell d5, k2.cell c4, k2⟩ (fun hHeld1 => ?_);clear hK K;clear hHeld0;refine nkH 9 ?_;refine wpAnyH_done (by kernel_rfl) ?_ _;clear hHeld1;have d0 := k2.cell d0;have d1 := k2.cell d1;have d2 := k2.cell d2;have d3 := k2.cell d3;have d4 := k2.cell d4;have d5 := k2.cell d5;have c0 := k2.cell c0;have c1 := k2.cell c1;have c3 := k2.cell c3;have c4 := k2.cell c4;go_wp2_with (first | (go_at_call 39; refine (HFO.o _ k2).mono ?_; rintro e w3 ⟨rfl, k3⟩; have d0 := k3.cell d0; have d1 := k3.cell d1; have d2 := k3.cell d2; have d4 := k3.cell d4; have c0 := k3.cell c0; have c1 := k3.cell c1; have c3 := k3.cell c3; replace k2 := k2.trans k3; clear k3) | (go_at_call 40; refine (HNM.o _ k2).mono ?_; rintro e w3 ⟨rfl, k3⟩; have d0 := k3.cell d0; have d1 := k3.cell d1; have d2 := k3.cell d2; have d4 := k3.cell d4; have c0 := k3.cell c0; have c1 := k3.cell c1; have c3 := k3.cell c3; replace k2 := k2.trans k3; clear k3));refine wp_region_held_drew (S := (fun W => W.cell? ⟨b, o + 4, none⟩ = some (.int .i64 x.n) /\ W.cell? ⟨tb, to + kn * 5 + 3, none⟩ = some (.int .i64 nd.most) /\ Kept w W)) (by kernel_rfl) ⟨(Kept.refl _).drew.cell d4, (Kept.refl _).drew.cell c3, k2.drew⟩ (fun hHeld0 => ?_);refine nkH 0 ?_;refine nkH 1 ?_;refine nkH 2 ?_;refine nkH 3 ?_;refine nkH 4 ?_;refine nkH 5 ?_;refine nkH 6 ?_;refine nkH 7 ?_;refine nkH 8 ?_;refine nkH 9 ?_;refine nkH 10 ?_;refine nkH 11 ?_;refine nkH 12 ?_;refine nkH 13 ?_;refine nkH 14 ?_;refine nkH 15 ?_;refine nkH 16 ?_;refine wpAnyH_done (by kernel_rfl) ?_ _;clear hHeld0;replace k2 := k2.drew;have c0 := (Kept.refl _).drew.cell c0;have d1 := (Kept.refl _).drew.cell d1;go_wp2_with fail;go_ret;exact ⟨by rw [HV.o]; rfl, k2⟩
      ·have hszI : decide ((1000 : Int) < (x.text.size : Int)) = false := decide_eq_false (by omega);have HV := hid (show nodeE x = 0 by rw [HE.o]; unfold ruleE; simp [hk0, hf, hm, ht4, hn0, hn1, ht7, hsz]);clear hk0 hf hm ht4 hn0 hn1 ht7 hsz;go_enter func23, ntmps23;go_wp2_with fail;refine wp_region_held_drew (S := (fun W => W.cell? ⟨b, o + 5, none⟩ = some (.slice kad x.kids.length kc) /\ W.cell? ⟨tb, to + kn * 5 + 4, none⟩ = some (.slice pa nd.kids.length pc) /\ Kept w W)) (by kernel_rfl) ⟨(Kept.refl w).drew.cell d5, (Kept.refl w).drew.cell c4, (Kept.refl w).drew⟩ (fun hHeld0 => ?_);refine nkH 0 ?_;refine nkH 1 ?_;refine nkH 2 ?_;refine nkH 3 ?_;refine nkH 4 ?_;refine nkH 5 ?_;refine nkH 6 ?_;refine nkH 7 ?_;refine r1H 8 (fun K hK => ?_);go_simp;go_at_call 38
       refine (HKK.o _ (Kept.refl w).drew).mono ?_;rintro e w2 ⟨rfl, k2⟩;have k2 := (Kept.refl w).drew.trans k2;refine hK.out _ _ ⟨k2.cell d5, k2.cell c4, k2⟩ (fun hHeld1 => ?_);clear hK K;clear hHeld0;refine nkH 9 ?_;refine wpAnyH_done (by kernel_rfl) ?_ _;clear hHeld1;have d0 := k2.cell d0;have d1 := k2.cell d1;have d2 := k2.cell d2;have d3 := k2.cell d3;have d4 := k2.cell d4;have d5 := k2.cell d5;have c0 := k2.cell c0;have c1 := k2.cell c1;have c3 := k2.cell c3;have c4 := k2.cell c4;go_wp2_with (first | (go_at_call 39; refine (HFO.o _ k2).mono ?_; rintro e w3 ⟨rfl, k3⟩; have d0 := k3.cell d0; have d1 := k3.cell d1; have d2 := k3.cell d2; have d4 := k3.cell d4; have c0 := k3.cell c0; have c1 := k3.cell c1; have c3 := k3.cell c3; replace k2 := k2.trans k3; clear k3) | (go_at_call 40; refine (HNM.o _ k2).mono ?_; rintro e w3 ⟨rfl, k3⟩; have d0 := k3.cell d0; have d1 := k3.cell d1; have d2 := k3.cell d2; have d4 := k3.cell d4; have c0 := k3.cell c0; have c1 := k3.cell c1; have c3 := k3.cell c3; replace k2 := k2.trans k3; clear k3));refine wp_region_held_drew (S := (fun W => W.cell? ⟨b, o + 4, none⟩ = some (.int .i64 x.n) /\ W.cell? ⟨tb, to + kn * 5 + 3, none⟩ = some (.int .i64 nd.most) /\ Kept w W)) (by kernel_rfl) ⟨(Kept.refl _).drew.cell d4, (Kept.refl _).drew.cell c3, k2.drew⟩ (fun hHeld0 => ?_);refine nkH 0 ?_;refine nkH 1 ?_;refine nkH 2 ?_;refine nkH 3 ?_;refine nkH 4 ?_;refine nkH 5 ?_;refine nkH 6 ?_;refine nkH 7 ?_;refine nkH 8 ?_;refine nkH 9 ?_;refine nkH 10 ?_;refine nkH 11 ?_;refine nkH 12 ?_;refine nkH 13 ?_;refine nkH 14 ?_;refine nkH 15 ?_;refine nkH 16 ?_;refine wpAnyH_done (by kernel_rfl) ?_ _;clear hHeld0;replace k2 := k2.drew;have c0 := (Kept.refl _).drew.cell c0;have d1 := (Kept.refl _).drew.cell d1;go_wp2_with fail;go_ret;exact ⟨by rw [HV.o]; rfl, k2⟩
     ·have htb7 : (nd.text == 7) = false := by simp [ht7]
      have HV := hid (show nodeE x = 0 by rw [HE.o]; unfold ruleE; simp [hk0, hf, hm, ht4, hn0, hn1, ht7]);clear hk0 hf hm ht4 hn0 hn1 ht7;go_enter func23, ntmps23;go_wp2_with fail;refine wp_region_held_drew (S := (fun W => W.cell? ⟨b, o + 5, none⟩ = some (.slice kad x.kids.length kc) /\ W.cell? ⟨tb, to + kn * 5 + 4, none⟩ = some (.slice pa nd.kids.length pc) /\ Kept w W)) (by kernel_rfl) ⟨(Kept.refl w).drew.cell d5, (Kept.refl w).drew.cell c4, (Kept.refl w).drew⟩ (fun hHeld0 => ?_);refine nkH 0 ?_;refine nkH 1 ?_;refine nkH 2 ?_;refine nkH 3 ?_;refine nkH 4 ?_;refine nkH 5 ?_;refine nkH 6 ?_;refine nkH 7 ?_;refine r1H 8 (fun K hK => ?_);go_simp;go_at_call 38
      refine (HKK.o _ (Kept.refl w).drew).mono ?_;rintro e w2 ⟨rfl, k2⟩;have k2 := (Kept.refl w).drew.trans k2;refine hK.out _ _ ⟨k2.cell d5, k2.cell c4, k2⟩ (fun hHeld1 => ?_);clear hK K;clear hHeld0;refine nkH 9 ?_;refine wpAnyH_done (by kernel_rfl) ?_ _;clear hHeld1;have d0 := k2.cell d0;have d1 := k2.cell d1;have d2 := k2.cell d2;have d3 := k2.cell d3;have d4 := k2.cell d4;have d5 := k2.cell d5;have c0 := k2.cell c0;have c1 := k2.cell c1;have c3 := k2.cell c3;have c4 := k2.cell c4;go_wp2_with (first | (go_at_call 39; refine (HFO.o _ k2).mono ?_; rintro e w3 ⟨rfl, k3⟩; have d0 := k3.cell d0; have d1 := k3.cell d1; have d2 := k3.cell d2; have d4 := k3.cell d4; have c0 := k3.cell c0; have c1 := k3.cell c1; have c3 := k3.cell c3; replace k2 := k2.trans k3; clear k3) | (go_at_call 40; refine (HNM.o _ k2).mono ?_; rintro e w3 ⟨rfl, k3⟩; have d0 := k3.cell d0; have d1 := k3.cell d1; have d2 := k3.cell d2; have d4 := k3.cell d4; have c0 := k3.cell c0; have c1 := k3.cell c1; have c3 := k3.cell c3; replace k2 := k2.trans k3; clear k3));refine wp_region_held_drew (S := (fun W => W.cell? ⟨b, o + 4, none⟩ = some (.int .i64 x.n) /\ W.cell? ⟨tb, to + kn * 5 + 3, none⟩ = some (.int .i64 nd.most) /\ Kept w W)) (by kernel_rfl) ⟨(Kept.refl _).drew.cell d4, (Kept.refl _).drew.cell c3, k2.drew⟩ (fun hHeld0 => ?_);refine nkH 0 ?_;refine nkH 1 ?_;refine nkH 2 ?_;refine nkH 3 ?_;refine nkH 4 ?_;refine nkH 5 ?_;refine nkH 6 ?_;refine nkH 7 ?_;refine nkH 8 ?_;refine nkH 9 ?_;refine nkH 10 ?_;refine nkH 11 ?_;refine nkH 12 ?_;refine nkH 13 ?_;refine nkH 14 ?_;refine nkH 15 ?_;refine nkH 16 ?_;refine wpAnyH_done (by kernel_rfl) ?_ _;clear hHeld0;replace k2 := k2.drew;have c0 := (Kept.refl _).drew.cell c0;have d1 := (Kept.refl _).drew.cell d1;go_wp2_with fail;go_ret;exact ⟨by rw [HV.o]; rfl, k2⟩
 ·obtain ⟨ev, hev⟩ : ∃ ev, kidsE x.kids nd.kids = ev := ⟨_, rfl⟩;rw [hev] at hk0 HKK;have HV := hid (show nodeE x = ev by rw [HE.o]; unfold ruleE; simp [hev, hk0]);have hkb : (ev != 0) = true := by simp [hk0]
  clear hev hk0;go_enter func23, ntmps23;go_wp2_with fail;refine wp_region_held_drew (S := (fun W => W.cell? ⟨b, o + 5, none⟩ = some (.slice kad x.kids.length kc) /\ W.cell? ⟨tb, to + kn * 5 + 4, none⟩ = some (.slice pa nd.kids.length pc) /\ Kept w W)) (by kernel_rfl) ⟨(Kept.refl w).drew.cell d5, (Kept.refl w).drew.cell c4, (Kept.refl w).drew⟩ (fun hHeld0 => ?_);refine nkH 0 ?_;refine nkH 1 ?_;refine nkH 2 ?_;refine nkH 3 ?_;refine nkH 4 ?_;refine nkH 5 ?_;refine nkH 6 ?_;refine nkH 7 ?_;refine r1H 8 (fun K hK => ?_);go_simp;go_at_call 38
  refine (HKK.o _ (Kept.refl w).drew).mono ?_;rintro e w2 ⟨rfl, k2⟩;have k2 := (Kept.refl w).drew.trans k2;refine hK.out _ _ ⟨k2.cell d5, k2.cell c4, k2⟩ (fun hHeld1 => ?_);clear hK K;clear hHeld0;refine nkH 9 ?_;refine wpAnyH_done (by kernel_rfl) ?_ _;clear hHeld1;have d0 := k2.cell d0;have d1 := k2.cell d1;have d2 := k2.cell d2;have d3 := k2.cell d3;have d4 := k2.cell d4;have d5 := k2.cell d5;have c0 := k2.cell c0;have c1 := k2.cell c1;have c3 := k2.cell c3;have c4 := k2.cell c4;go_wp2_with fail;go_ret;exact ⟨by rw [HV.o]; rfl, k2⟩
end Go.Proofs.YtegcgflhgfmkpaaGreatDoor
