/- The document's own answers about tables (chaperonref05): Find, in, Supers. -/
import Derived.Test.YthooiofaicdhgaaGreatDoorQMts
import Derived.Test.YthooiofaicdhgaaGreatDoorQMem
set_option linter.unusedSimpArgs false
set_option linter.unusedVariables false
set_option maxRecDepth 100000
namespace Go.Proofs.YthooiofaicdhgaaGreatDoor
open Go.ChangeShapes Go.WideShapes Go.ChangeAt Go.RowKit
set_option maxHeartbeats 2000000 in
theorem rfind_c (t : List Tab.C) (v : Value) (s : ByteArray) (w : World) (h : TabAt w v t) :
  Calls Tryz.prog 90 #[v, .string s] w (FindPost Tab.C.name t s w) := by
 obtain ⟨a, c, rfl, h1, h2, hat⟩ := h
 unfold maxLen at h2
 have HAT := Lib.hid hat
 clear hat
 go_enter Tryz.func90, Tryz.ntmps90
 go_wp2_with fail
 go_loopw [6] (fun q wr => ∃ j : Nat, q = .int .i64 j ∧ j ≤ t.length ∧ (∀ y ∈ t.take j, ¬ y.name = s) ∧ wr = w) (fun q wr => t.length - (intOf q).toNat)
 case atStart => exact ⟨0, rfl, Nat.zero_le _, (fun y hy => by simp at hy), rfl⟩
 case round =>
  obtain ⟨j, rfl, hj, hno, rfl⟩ := hrel
  have HNO := Lib.hid hno
  clear hno
  by_cases hlt : j < t.length
  ·have hltI : (j : Int) < (t.length : Int) := by omega
   have hx : t[j]? = some t[j] := List.getElem?_eq_getElem hlt
   obtain ⟨b, o, rfl, hcl⟩ := HAT.out _ _ hx
   have c0 := hcl.1
   generalize t[j] = x at hx c0
   have HX := Lib.hid hx
   by_cases hn : x.name = s
   ·have HP := Lib.hid (Tab.ix_some HX.out hn HNO.out)
    have hb := beq_yes hn
    clear hx hcl
    go_wp2_with fail
    go_ret2
    unfold FindPost
    rw [HP.out]
    exact ⟨rfl, rfl⟩
   ·have HM := Lib.hid (show ∀ y ∈ t.take (j + 1), ¬ y.name = s by
     intro y hy
     rw [List.take_add_one, HX.out] at hy
     rcases List.mem_append.1 hy with hy | hy
     ·exact HNO.out y hy
     ·obtain rfl : y = x := by simpa using hy
      exact hn)
    have hb := beq_no hn
    clear hx hcl
    go_wp2_with fail
    go_roundw
    case rel => exact ⟨j + 1, by go_num, by omega, HM.out, by first | trivial | rfl⟩
    case measure => simp [intOf]; omega
  ·have hltI : ¬ (j : Int) < (t.length : Int) := by omega
   obtain rfl : j = t.length := by omega
   have HP := Lib.hid (Tab.ix_none (nm := Tab.C.name) (l := t) (s := s) (by have := HNO.out; rwa [List.take_length] at this))
   go_wp2_with fail
   go_ret2
   unfold FindPost
   rw [HP.out]
   exact ⟨rfl, rfl⟩
def TxtS (w : World) (b o : Nat) (x : ByteArray) : Prop := w.cell? ⟨b, o, none⟩ = some (.string x)
def inL (l : List ByteArray) (s : ByteArray) : Bool := l.any fun x => decide (x = s)
set_option maxHeartbeats 2000000 in
theorem rin_c (l : List ByteArray) (v : Value) (s : ByteArray) (w : World) (h : Row 1 TxtS w v l) :
  Calls Tryz.prog 131 #[v, .string s] w fun e w' => e = .returned (.bool (inL l s)) ∧ w' = w := by
 obtain ⟨a, c, rfl, h1, h2, hat⟩ := h
 unfold maxLen at h2
 have HAT := Lib.hid hat
 clear hat
 go_enter Tryz.func131, Tryz.ntmps131
 go_wp2_with fail
 go_loopw [5] (fun q wr => ∃ j : Nat, q = .int .i64 j ∧ j ≤ l.length ∧ inL (l.take j) s = false ∧ wr = w) (fun q wr => l.length - (intOf q).toNat)
 case atStart => exact ⟨0, rfl, Nat.zero_le _, rfl, rfl⟩
 case round =>
  obtain ⟨j, rfl, hj, hno, rfl⟩ := hrel
  have HNO := Lib.hid hno
  clear hno
  by_cases hlt : j < l.length
  ·have hltI : (j : Int) < (l.length : Int) := by omega
   have hx : l[j]? = some l[j] := List.getElem?_eq_getElem hlt
   obtain ⟨b, o, rfl, hcl⟩ := HAT.out _ _ hx
   generalize l[j] = x at hx hcl
   have c0 : wr.cell? ⟨b, o + j, none⟩ = some (.string x) := by simpa [TxtS] using hcl
   have HX := Lib.hid hx
   by_cases hn : x = s
   ·have HP := Lib.hid (show inL l s = true by unfold inL; rw [List.any_eq_true]; exact ⟨x, List.mem_of_getElem? HX.out, decide_eq_true hn⟩)
    have hb := beq_yes hn
    clear hx hcl
    go_wp2_with fail
    go_ret
    exact ⟨by rw [HP.out]; rfl, rfl⟩
   ·have HM := Lib.hid (show inL (l.take (j + 1)) s = false by
     rw [List.take_add_one, HX.out]
     have := HNO.out
     unfold inL at this ⊢
     rw [List.any_append, this]
     simp [hn])
    have hb := beq_no hn
    clear hx hcl
    go_wp2_with fail
    go_roundw
    case rel => exact ⟨j + 1, by go_num, by omega, HM.out, by first | trivial | rfl⟩
    case measure => simp [intOf]; omega
  ·have hltI : ¬ (j : Int) < (l.length : Int) := by omega
   obtain rfl : j = l.length := by omega
   have HP := Lib.hid (show inL l s = false by have := HNO.out; rwa [List.take_length] at this)
   go_wp2_with fail
   go_ret
   exact ⟨by rw [HP.out]; rfl, rfl⟩
theorem owns_txt {w : World} {base : Nat} {v : Value} {l : List ByteArray} (h : w.ownsRow base 9 1 v l.length (l.map Value.string)) : Row 1 TxtS w v l := by
 rcases h.2 with ⟨rfl, hl0⟩ | ⟨g, cap, cur, rfl, hg1, hg2, hg3, hg4, hg5, hg6⟩
 ·obtain rfl : l = [] := List.eq_nil_of_length_eq_zero hl0
  exact Row.nil
 ·refine ⟨_, cap, rfl, by simpa using hg3, hg4, fun i x hx => ⟨g, 0, rfl, ?_⟩⟩
  have := h.cells (g := g) rfl i (.string x) (by rw [List.getElem?_map, hx]; rfl)
  rw [addr_plain] at this
  simpa [TxtS] using this
theorem src_str (W : World) (x : ByteArray) : Src Tryz.prog 1 28 (.slice (some ⟨W.heap.size, 0, none⟩) 1 1) 1 [.string x] (W.alloc (.cells #[.string x] 9)) :=
 Src.ofSlice (P := Tryz.prog) (size := 1) (tx := 28) _ Tryz.underlying28 ⟨W.heap.size, 0, none⟩ 1 1 [.string x] rfl (cell_one_new W _ _) (by simp [Value.oneCell'])
def nmsOf (t : List Tab.C) (ps : List Nat) : List ByteArray := ps.map fun p => (Tab.nth t p).name
def lenOf : Value → Nat
 | .slice _ n _ => n
 | _ => 0
theorem rown_ge {w : World} {base k n : Nat} {e : TypeId} {v : Value} {xs : List Value} (h : w.ownsRow base e k v n xs) {g : Nat} (hg : v.ownBlock = some g) : base ≤ g := by
 rcases h.2 with ⟨rfl, _⟩ | ⟨g', cap, cur, rfl, hb, hgg, _⟩
 ·cases hg
 ·obtain rfl : g' = g := Option.some.inj hg
  exact hb
/-- Between rounds of Supers: what has been gone through, and the name that comes next. -/
def RsI (t : List Tab.C) (s : ByteArray) (w : World) (q v : Value) (W : World) : Prop :=
 ∃ (ps : List Nat) (nm : ByteArray), q = .string nm ∧ Tab.line t s = ps ++ Tab.lineF t (t.length + 1 - ps.length) ps nm ∧ (∀ p ∈ ps, p < t.length ∧ Tab.at' t (Tab.nth t p).name = some p) ∧ ps.Nodup ∧
  W.ownsRow w.heap.size 9 1 v (nmsOf t ps).length ((nmsOf t ps).map Value.string) ∧ Kept w W
theorem in_ps {t : List Tab.C} {ps : List Nat} {nm : ByteArray} {i : Nat} (h : ∀ p ∈ ps, p < t.length ∧ Tab.at' t (Tab.nth t p).name = some p) (hi : Tab.at' t nm = some i) : inL (nmsOf t ps) nm = decide (i ∈ ps) := by
 obtain ⟨hl, hn⟩ := Tab.ix_lt hi
 unfold inL nmsOf
 rw [Bool.eq_iff_iff]
 simp only [List.any_eq_true, List.mem_map, decide_eq_true_eq]
 constructor
 ·rintro ⟨x, ⟨p, hp, rfl⟩, e⟩
  have := (h p hp).2
  rw [e, hi] at this
  rw [Option.some.inj this]
  exact hp
 ·intro hp
  exact ⟨_, ⟨i, hp, rfl⟩, by rw [Tab.nth_of (List.getElem?_eq_getElem hl)]; exact hn⟩
set_option maxHeartbeats 4000000 in
theorem rsupers_c (t : List Tab.C) (a : Option Addr) (cp : Nat) (s : ByteArray) (w : World) (h : TabAt w (.slice a t.length cp) t) (ht : t.length ≤ 1000) :
  Calls Tryz.prog 76 #[.slice a t.length cp, .string s] w fun e w' => ∃ v, e = .returned v ∧ w'.ownsRow w.heap.size 9 1 v (Tab.supers t s).length ((Tab.supers t s).map Value.string) ∧ Kept w w' := by
 obtain ⟨i0, hi, hz0, hzz1, hzz2⟩ := info_parts info_str
 have HT := Lib.hid h
 clear h
 go_enter Tryz.func76, Tryz.ntmps76
 go_wp2_with fail
 go_loopw [1, 5] (fun q l wr => RsI t s w q l wr) (fun q l wr => t.length + 1 - lenOf l)
 case atStart => exact ⟨[], s, rfl, rfl, (fun p hp => by cases hp), List.nodup_nil, World.ownsRow_nil _ _ _ _, Kept.refl w⟩
 case round =>
  obtain ⟨ps, nm, rfl, hline, hps, hnd, hown, hk⟩ := hrel
  have HO := Lib.hid hown
  have HK := Lib.hid hk
  have HL := Lib.hid hline
  have hpl : ps.length ≤ t.length := Tab.places_le _ _ hnd fun p hp => (hps p hp).1
  obtain ⟨la, lc, rfl⟩ := owns_slice_n hown
  have hF := rfind_c t (.slice a t.length cp) nm wr (tab_kept HT.out hk)
  unfold FindPost at hF
  have HSUP := Lib.hid (fun (e : Tab.lineF t (t.length + 1 - ps.length) ps nm = []) => show Tab.supers t s = nmsOf t ps by unfold Tab.supers nmsOf; rw [hline, e, List.append_nil])
  clear hown hk hline
  cases hat : Tab.ix Tab.C.name t nm with
  | none =>
   rw [hat] at hF
   have HC := Lib.hid hF
   have HE := Lib.hid (HSUP.out (Tab.lineF_none hat))
   clear hF hat
   go_wp2_with fail
   refine HC.out.mono ?_
   rintro e w1 ⟨rfl, rfl⟩
   simp only [Option.isSome_none]
   go_wp2_with fail
   go_ret
   exact ⟨_, rfl, by rw [HE.out]; exact HO.out, HK.out⟩
  | some i =>
   rw [hat] at hF
   have HC := Lib.hid hF
   obtain ⟨hil, hin⟩ := Tab.ix_lt hat
   have HIN := Lib.hid (rin_c (nmsOf t ps) _ nm wr (owns_txt HO.out))
   rw [in_ps hps hat] at HIN
   clear hF
   by_cases hip : i ∈ ps
   ·have HE := Lib.hid (HSUP.out (Tab.lineF_passed hat hip))
    rw [decide_eq_true hip] at HIN
    clear hat hip hin hil
    go_wp2_with fail
    refine HC.out.mono ?_
    rintro e w1 ⟨rfl, rfl⟩
    simp only [Option.isSome_some, Tab.num]
    go_wp2_with fail
    refine HIN.out.mono ?_
    rintro e w2 ⟨rfl, rfl⟩
    go_wp2_with fail
    go_ret
    exact ⟨_, rfl, by rw [HE.out]; exact HO.out, HK.out⟩
   ·rw [decide_eq_false hip] at HIN
    have hnm : (Tab.nth t i).name = nm := by rw [Tab.nth_of (List.getElem?_eq_getElem hil)]; exact hin
    have HNX := Lib.hid (show nmsOf t (ps ++ [i]) = nmsOf t ps ++ [nm] by unfold nmsOf; rw [List.map_append, ← hnm]; rfl)
    have HLN := Lib.hid (show Tab.line t s = (ps ++ [i]) ++ Tab.lineF t (t.length + 1 - (ps ++ [i]).length) (ps ++ [i]) (Tab.nth t i).super by
     rw [HL.out, show t.length + 1 - ps.length = (t.length - ps.length) + 1 by omega, Tab.lineF_goes hat hip, List.length_append, show t.length + 1 - (ps.length + [i].length) = t.length - ps.length by simp]
     simp)
    have HPS := Lib.hid (show ∀ p ∈ ps ++ [i], p < t.length ∧ Tab.at' t (Tab.nth t p).name = some p by
     intro p hp
     rcases List.mem_append.1 hp with hp | hp
     ·exact hps p hp
     ·obtain rfl := List.mem_singleton.1 hp
      exact ⟨hil, by rw [hnm]; exact hat⟩)
    have HND := Lib.hid (show (ps ++ [i]).Nodup by
     rw [List.nodup_append]
     exact ⟨hnd, by simp, fun x hx y hy e => by obtain rfl := List.mem_singleton.1 hy; subst e; exact hip hx⟩)
    obtain ⟨b, o, rfl, hcl⟩ := Row.cellsC HT.out hil
    have hcp : i ≤ cp := by obtain ⟨_, c', e, h1, h2, _⟩ := HT.out; injection e with _ _ e3; subst e3; omega
    have HCE := Lib.hid hcl.2.1
    generalize (Tab.nth t i).super = sp at HLN HCE
    have hilI : (i : Int) < (t.length : Int) := by omega
    have HRX := Lib.hid (owns_only (S := fun _ => False) HO.out ((Only.refl _ wr).alloc (.cells #[.string nm] 9)) (fun _ _ h => h))
    have HSX := Lib.hid (src_str wr nm)
    have HNL := Lib.hid (show (nmsOf t ps).length = ps.length by unfold nmsOf; simp)
    have hsz := HK.out.size
    clear hat hip hin hil hcl hps hnd
    go_wp2_with fail
    refine HC.out.mono ?_
    rintro e w1 ⟨rfl, rfl⟩
    simp only [Option.isSome_some, Tab.num]
    go_wp2_with fail
    refine HIN.out.mono ?_
    rintro e w2 ⟨rfl, rfl⟩
    go_wp2_with (at_builtin; refine wpList_apk rfl (.tmp 22) (.tmp 24) 28 28 rfl w.heap.size 1 9 i0 _ 16 Tryz.underlying28 hi hz0 hzz1 hzz2 rfl rfl HRX.out rfl HSX.out (by rw [HNL.out]; unfold maxLen; omega) (by rw [HNL.out]; omega) (by simp; omega) ?_; intro v' w3 hown' hgrow hlies; have HN := Lib.hid hown'; have HK3 := Lib.hid ((HK.out.alloc (.cells #[.string nm] 9)).grown hgrow fun k e => rown_ge HO.out e); have c3 := HK3.out.cell HCE.out; obtain ⟨va', vn', vc', rfl⟩ := owns_slice hown'; clear hown' hgrow hlies)
    go_roundw
    case rel => exact ⟨ps ++ [i], sp, rfl, HLN.out, HPS.out, HND.out, by rw [HNX.out]; simpa using HN.out, HK3.out⟩
    case measure =>
     obtain ⟨_, _, e⟩ := owns_slice_n HN.out
     injection e with _ e _
     have := HNL.out
     show t.length + 1 - vn' < t.length + 1 - (nmsOf t ps).length
     omega
end Go.Proofs.YthooiofaicdhgaaGreatDoor
