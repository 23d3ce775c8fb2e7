/- The document's own answers about tables (chaperonref05): Find, in, Supers. -/
import Derived.Test.YtjdkegfckkbpeaaGreatDoorQz4
import Derived.Test.YtjdkegfckkbpeaaGreatDoorQz2
set_option linter.unusedSimpArgs false
set_option linter.unusedVariables false
set_option maxRecDepth 100000
namespace Go.Proofs.YtjdkegfckkbpeaaGreatDoor
open Go.ChangeShapes Go.WideShapes Go.ChangeAt Go.RowKit
set_option maxHeartbeats 2000000 in
theorem rfind_c (t : List Tab.C) (v : Value) (s : ByteArray) (w : World) (h : TabAt w v t) :
  Calls Tryz.prog 60 #[v, .string s] w (FindPost Tab.C.name t s w) := by
 obtain ⟨a, c, rfl, h1, h2, hat⟩ := h
 unfold maxLen at h2
 have HAT := Lib.hid hat
 clear hat
 go_enter Tryz.func60, Tryz.ntmps60
 go_wp2_with fail
 go_loopw [6] (fun q wr => ∃ j : Nat, q = .int .i64 j ∧ j ≤ t.length ∧ (∀ y ∈ t.take j, ¬ y.name = s) ∧ wr = w) (fun q wr => t.length - (intOf q).toNat)
 case atStart => exact ⟨0, rfl, Nat.zero_le _, (fun y hy => by simp at hy), rfl⟩
 case round =>
  obtain ⟨j, rfl, hj, hno, rfl⟩ := hrel
  have HNO := Lib.hid hno
  clear hno
  by_cases hlt : j < t.length
  ·have hltI : (j : Int) < (t.length : Int) := by omega
   have hx : t[j]? = some t[j] := List.getElem?_eq_getElem hlt
   obtain ⟨b, o, rfl, hcl⟩ := HAT.out _ _ hx
   have c0 := hcl.1
   generalize t[j] = x at hx c0
   have HX := Lib.hid hx
   by_cases hn : x.name = s
   ·have HP := Lib.hid (Tab.ix_some HX.out hn HNO.out)
    have hb := beq_yes hn
    clear hx hcl
    go_wp2_with fail
    go_ret2
    unfold FindPost
    rw [HP.out]
    exact ⟨rfl, rfl⟩
   ·have HM := Lib.hid (show ∀ y ∈ t.take (j + 1), ¬ y.name = s by
     intro y hy
     rw [List.take_add_one, HX.out] at hy
     rcases List.mem_append.1 hy with hy | hy
     ·exact HNO.out y hy
     ·obtain rfl : y = x := by simpa using hy
      exact hn)
    have hb := beq_no hn
    clear hx hcl
    go_wp2_with fail
    go_roundw
    case rel => exact ⟨j + 1, by go_num, by omega, HM.out, by first | trivial | rfl⟩
    case measure => simp [intOf]; omega
  ·have hltI : ¬ (j : Int) < (t.length : Int) := by omega
   obtain rfl : j = t.length := by omega
   have HP := Lib.hid (Tab.ix_none (nm := Tab.C.name) (l := t) (s := s) (by have := HNO.out; rwa [List.take_length] at this))
   go_wp2_with fail
   go_ret2
   unfold FindPost
   rw [HP.out]
   exact ⟨rfl, rfl⟩
def TxtS (w : World) (b o : Nat) (x : ByteArray) : Prop := w.cell? ⟨b, o, none⟩ = some (.string x)
def inL (l : List ByteArray) (s : ByteArray) : Bool := l.any fun x => decide (x = s)
set_option maxHeartbeats 2000000 in
theorem rin_c (l : List ByteArray) (v : Value) (s : ByteArray) (w : World) (h : Row 1 TxtS w v l) :
  Calls Tryz.prog 91 #[v, .string s] w fun e w' => e = .returned (.bool (inL l s)) ∧ w' = w := by
 obtain ⟨a, c, rfl, h1, h2, hat⟩ := h
 unfold maxLen at h2
 have HAT := Lib.hid hat
 clear hat
 go_enter Tryz.func91, Tryz.ntmps91
 go_wp2_with fail
 go_loopw [5] (fun q wr => ∃ j : Nat, q = .int .i64 j ∧ j ≤ l.length ∧ inL (l.take j) s = false ∧ wr = w) (fun q wr => l.length - (intOf q).toNat)
 case atStart => exact ⟨0, rfl, Nat.zero_le _, rfl, rfl⟩
 case round =>
  obtain ⟨j, rfl, hj, hno, rfl⟩ := hrel
  have HNO := Lib.hid hno
  clear hno
  by_cases hlt : j < l.length
  ·have hltI : (j : Int) < (l.length : Int) := by omega
   have hx : l[j]? = some l[j] := List.getElem?_eq_getElem hlt
   obtain ⟨b, o, rfl, hcl⟩ := HAT.out _ _ hx
   generalize l[j] = x at hx hcl
   have c0 : wr.cell? ⟨b, o + j, none⟩ = some (.string x) := by simpa [TxtS] using hcl
   have HX := Lib.hid hx
   by_cases hn : x = s
   ·have HP := Lib.hid (show inL l s = true by unfold inL; rw [List.any_eq_true]; exact ⟨x, List.mem_of_getElem? HX.out, decide_eq_true hn⟩)
    have hb := beq_yes hn
    clear hx hcl
    go_wp2_with fail
    go_ret
    exact ⟨by rw [HP.out]; rfl, rfl⟩
   ·have HM := Lib.hid (show inL (l.take (j + 1)) s = false by
     rw [List.take_add_one, HX.out]
     have := HNO.out
     unfold inL at this ⊢
     rw [List.any_append, this]
     simp [hn])
    have hb := beq_no hn
    clear hx hcl
    go_wp2_with fail
    go_roundw
    case rel => exact ⟨j + 1, by go_num, by omega, HM.out, by first | trivial | rfl⟩
    case measure => simp [intOf]; omega
  ·have hltI : ¬ (j : Int) < (l.length : Int) := by omega
   obtain rfl : j = l.length := by omega
   have HP := Lib.hid (show inL l s = false by have := HNO.out; rwa [List.take_length] at this)
   go_wp2_with fail
   go_ret
   exact ⟨by rw [HP.out]; rfl, rfl⟩
theorem owns_txt {w : World} {base : Nat} {v : Value} {l : List ByteArray} (h : w.ownsRow base 9 1 v l.length (l.map Value.string)) : Row 1 TxtS w v l := by
 rcases h.2 with ⟨rfl, hl0⟩ | ⟨g, cap, cur, rfl, hg1, hg2, hg3, hg4, hg5, hg6⟩
 ·obtain rfl : l = [] := List.eq_nil_of_length_eq_zero hl0
  exact Row.nil
 ·refine ⟨_, cap, rfl, by simpa using hg3, hg4, fun i x hx => ⟨g, 0, rfl, ?_⟩⟩
  have := h.cells (g := g) rfl i (.string x) (by rw [List.getElem?_map, hx]; rfl)
  rw [addr_plain] at this
  simpa [TxtS] using this
theorem src_str (W : World) (x : ByteArray) : Src Tryz.prog 1 70 (.slice (some ⟨W.heap.size, 0, none⟩) 1 1) 1 [.string x] (W.alloc (.cells #[.string x] 9)) :=
 Src.ofSlice (P := Tryz.prog) (size := 1) (tx := 70) _ Tryz.underlying70 ⟨W.heap.size, 0, none⟩ 1 1 [.string x] rfl (cell_one_new W _ _) (by simp [Value.oneCell'])
def nmsOf (t : List Tab.C) (ps : List Nat) : List ByteArray := ps.map fun p => (Tab.nth t p).name
def lenOf : Value → Nat
 | .slice _ n _ => n
 | _ => 0
theorem rown_ge {w : World} {base k n : Nat} {e : TypeId} {v : Value} {xs : List Value} (h : w.ownsRow base e k v n xs) {g : Nat} (hg : v.ownBlock = some g) : base ≤ g := by
 rcases h.2 with ⟨rfl, _⟩ | ⟨g', cap, cur, rfl, hb, hgg, _⟩
 ·cases hg
 ·obtain rfl : g' = g := Option.some.inj hg
  exact hb
/-- Between rounds of Supers: what has been gone through, and the name that comes next. -/
def RsI (t : List Tab.C) (s : ByteArray) (w : World) (q v : Value) (W : World) : Prop :=
 ∃ (ps : List Nat) (nm : ByteArray), q = .string nm ∧ Tab.line t s = ps ++ Tab.lineF t (t.length + 1 - ps.length) ps nm ∧ (∀ p ∈ ps, p < t.length ∧ Tab.at' t (Tab.nth t p).name = some p) ∧ ps.Nodup ∧
  W.ownsRow w.heap.size 9 1 v (nmsOf t ps).length ((nmsOf t ps).map Value.string) ∧ Kept w W
theorem in_ps {t : List Tab.C} {ps : List Nat} {nm : ByteArray} {i : Nat} (h : ∀ p ∈ ps, p < t.length ∧ Tab.at' t (Tab.nth t p).name = some p) (hi : Tab.at' t nm = some i) : inL (nmsOf t ps) nm = decide (i ∈ ps) := by
 obtain ⟨hl, hn⟩ := Tab.ix_lt hi
 unfold inL nmsOf
 rw [Bool.eq_iff_iff]
 simp only [List.any_eq_true, List.mem_map, decide_eq_true_eq]
 constructor
 ·rintro ⟨x, ⟨p, hp, rfl⟩, e⟩
  have := (h p hp).2
  rw [e, hi] at this
  rw [Option.some.inj this]
  exact hp
 ·intro hp
  exact ⟨_, ⟨i, hp, rfl⟩, by rw [Tab.nth_of (List.getElem?_eq_getElem hl)]; exact hn⟩
set_option maxHeartbeats 4000000 in
theorem rsupers_c (t : List Tab.C) (a : Option Addr) (cp : Nat) (s : ByteArray) (w : World) (h : TabAt w (.slice a t.length cp) t) (ht : t.length ≤ 1000) :
  Calls Tryz.prog 65 #[.slice a t.length cp, .string s] w fun e w' => ∃ v, e = .returned v ∧ w'.ownsRow w.heap.size 9 1 v (Tab.supers t s).length ((Tab.supers t s).map Value.string) ∧ Kept w w' := by
 obtain ⟨i0, hi, hz0, hzz1, hzz2⟩ := info_parts info_str
 have HT := Lib.hid h
 clear h
 go_enter Tryz.func65, Tryz.ntmps65
 go_wp2_with fail
 go_loopw [1, 5] (fun q l wr => RsI t s w q l wr) (fun q l wr => t.length + 1 - lenOf l)
 case atStart => exact ⟨[], s, rfl, rfl, (fun p hp => by cases hp), List.nodup_nil, World.ownsRow_nil _ _ _ _, Kept.refl w⟩
 case round =>
  obtain ⟨ps, nm, rfl, hline, hps, hnd, hown, hk⟩ := hrel
  have HO := Lib.hid hown
  have HK := Lib.hid hk
  have HL := Lib.hid hline
  have hpl : ps.length ≤ t.length := Tab.places_le _ _ hnd fun p hp => (hps p hp).1
  obtain ⟨la, lc, rfl⟩ := owns_slice_n hown
  have hF := rfind_c t (.slice a t.length cp) nm wr (tab_kept HT.out hk)
  unfold FindPost at hF
  have HSUP := Lib.hid (fun (e : Tab.lineF t (t.length + 1 - ps.length) ps nm = []) => show Tab.supers t s = nmsOf t ps by unfold Tab.supers nmsOf; rw [hline, e, List.append_nil])
  clear hown hk hline
  cases hat : Tab.ix Tab.C.name t nm with
  | none =>
   rw [hat] at hF
   have HC := Lib.hid hF
   have HE := Lib.hid (HSUP.out (Tab.lineF_none hat))
   clear hF hat
   go_wp2_with fail
   refine HC.out.mono ?_
   rintro e w1 ⟨rfl, rfl⟩
   simp only [Option.isSome_none]
   go_wp2_with fail
   go_ret
   exact ⟨_, rfl, by rw [HE.out]; exact HO.out, HK.out⟩
  | some i =>
   rw [hat] at hF
   have HC := Lib.hid hF
   obtain ⟨hil, hin⟩ := Tab.ix_lt hat
   have HIN := Lib.hid (rin_c (nmsOf t ps) _ nm wr (owns_txt HO.out))
   rw [in_ps hps hat] at HIN
   clear hF
   by_cases hip : i ∈ ps
   ·have HE := Lib.hid (HSUP.out (Tab.lineF_passed hat hip))
    rw [decide_eq_true hip] at HIN
    clear hat hip hin hil
    go_wp2_with fail
    refine HC.out.mono ?_
    rintro e w1 ⟨rfl, rfl⟩
    simp only [Option.isSome_some, Tab.num]
    go_wp2_with fail
    refine HIN.out.mono ?_
    rintro e w2 ⟨rfl, rfl⟩
    go_wp2_with fail
    go_ret
    exact ⟨_, rfl, by rw [HE.out]; exact HO.out, HK.out⟩
   ·rw [decide_eq_false hip] at HIN
    have hnm : (Tab.nth t i).name = nm := by rw [Tab.nth_of (List.getElem?_eq_getElem hil)]; exact hin
    have HNX := Lib.hid (show nmsOf t (ps ++ [i]) = nmsOf t ps ++ [nm] by unfold nmsOf; rw [List.map_append, ← hnm]; rfl)
    have HLN := Lib.hid (show Tab.line t s = (ps ++ [i]) ++ Tab.lineF t (t.length + 1 - (ps ++ [i]).length) (ps ++ [i]) (Tab.nth t i).super by
     rw [HL.out, show t.length + 1 - ps.length = (t.length - ps.length) + 1 by omega, Tab.lineF_goes hat hip, List.length_append, show t.length + 1 - (ps.length + [i].length) = t.length - ps.length by simp]
     simp)
    have HPS := Lib.hid (show ∀ p ∈ ps ++ [i], p < t.length ∧ Tab.at' t (Tab.nth t p).name = some p by
     intro p hp
     rcases List.mem_append.1 hp with hp | hp
     ·exact hps p hp
     ·obtain rfl := List.mem_singleton.1 hp
      exact ⟨hil, by rw [hnm]; exact hat⟩)
    have HND := Lib.hid (show (ps ++ [i]).Nodup by
     rw [List.nodup_append]
     exact ⟨hnd, by simp, fun x hx y hy e => by obtain rfl := List.mem_singleton.1 hy; subst e; exact hip hx⟩)
    obtain ⟨b, o, rfl, hcl⟩ := Row.cellsC HT.out hil
    have hcp : i ≤ cp := by obtain ⟨_, c', e, h1, h2, _⟩ := HT.out; injection e with _ _ e3; subst e3; omega
    have HCE := Lib.hid hcl.2.1
    generalize (Tab.nth t i).super = sp at HLN HCE
    have hilI : (i : Int) < (t.length : Int) := by omega
    have HRX := Lib.hid (owns_only (S := fun _ => False) HO.out ((Only.refl _ wr).alloc (.cells #[.string nm] 9)) (fun _ _ h => h))
    have HSX := Lib.hid (src_str wr nm)
    have HNL := Lib.hid (show (nmsOf t ps).length = ps.length by unfold nmsOf; simp)
    have hsz := HK.out.size
    clear hat hip hin hil hcl hps hnd
    go_wp2_with fail
    refine HC.out.mono ?_
    rintro e w1 ⟨rfl, rfl⟩
    simp only [Option.isSome_some, Tab.num]
    go_wp2_with fail
    refine HIN.out.mono ?_
    rintro e w2 ⟨rfl, rfl⟩
    go_wp2_with (at_builtin; refine wpList_apk rfl (.tmp 22) (.tmp 24) 70 70 rfl w.heap.size 1 9 i0 _ 16 Tryz.underlying70 hi hz0 hzz1 hzz2 rfl rfl HRX.out rfl HSX.out (by rw [HNL.out]; unfold maxLen; omega) (by rw [HNL.out]; omega) (by simp; omega) ?_; intro v' w3 hown' hgrow hlies; have HN := Lib.hid hown'; have HK3 := Lib.hid ((HK.out.alloc (.cells #[.string nm] 9)).grown hgrow fun k e => rown_ge HO.out e); have c3 := HK3.out.cell HCE.out; obtain ⟨va', vn', vc', rfl⟩ := owns_slice hown'; clear hown' hgrow hlies)
    go_roundw
    case rel => exact ⟨ps ++ [i], sp, rfl, HLN.out, HPS.out, HND.out, by rw [HNX.out]; simpa using HN.out, HK3.out⟩
    case measure =>
     obtain ⟨_, _, e⟩ := owns_slice_n HN.out
     injection e with _ e _
     have := HNL.out
     show t.length + 1 - vn' < t.length + 1 - (nmsOf t ps).length
     omega
set_option maxHeartbeats 4000000 in
theorem rclass_k (t : List Tab.C) (a : Option Addr) (cp : Nat) (s : ByteArray) (i : Nat) (w0 w : World) (h : TabAt w0 (.slice a t.length cp) t) (hw : Kept w0 w) (hi : Tab.ix Tab.C.name t s = some i) :
  Calls Tryz.prog 155 #[.slice a t.length cp, .string s] w fun e w' => (∃ fv mv, e = .returned (.agg #[.string (Tab.nth t i).name, .string (Tab.nth t i).super, fv, mv]) ∧ Row 2 VarAt w0 fv (Tab.nth t i).fields ∧ Row 3 SigAt w0 mv (Tab.nth t i).methods) ∧ Kept w w' := by
 obtain ⟨hil, _⟩ := Tab.ix_lt hi
 have HC := Lib.hid (fun (W : World) (k : Kept w W) => rfind_c t (.slice a t.length cp) s W (tab_kept h (hw.trans k)))
 unfold FindPost at HC
 rw [hi] at HC
 simp only [Option.isSome_some, Tab.num] at HC
 obtain ⟨b, o, rfl, hcl⟩ := Row.cellsC h hil
 have hcp : i ≤ cp := by obtain ⟨_, c', e, h1, h2, _⟩ := h; injection e with _ _ e3; subst e3; omega
 have hcp2 : cp ≤ 9223372036854775807 := by obtain ⟨_, c', e, h1, h2, _⟩ := h; injection e with _ _ e3; subst e3; exact h2
 have hilI : (i : Int) < (t.length : Int) := by omega
 generalize Tab.nth t i = c at hcl ⊢
 obtain ⟨c0, c1, ⟨fv, c2, hf⟩, ⟨mv, c3, hm⟩, _⟩ := hcl
 obtain ⟨fa, fc, rfl, _⟩ := id hf
 obtain ⟨ma, mc, rfl, _⟩ := id hm
 have HF := Lib.hid hf
 have HM := Lib.hid hm
 have k1 : Kept w (w.alloc (.cells #[.string ⟨#[]⟩, .string ⟨#[]⟩, .slice none 0 0, .slice none 0 0] 44)) := (Kept.refl w).alloc _
 have HK1 := Lib.hid k1
 have HB := Lib.hid (Blk.new w 44 #[.string ⟨#[]⟩, .string ⟨#[]⟩, .slice none 0 0, .slice none 0 0])
 have d0 := (hw.trans k1).cell c0
 have d1 := (hw.trans k1).cell c1
 have d2 := (hw.trans k1).cell c2
 have d3 := (hw.trans k1).cell c3
 have r0 := HB.out.cell 0
 have r1 := HB.out.cell 1
 have r2 := HB.out.cell 2
 have r3 := HB.out.cell 3
 have g0 := HB.out.frozen 0
 have g1 := HB.out.frozen 1
 have g2 := HB.out.frozen 2
 have g3 := HB.out.frozen 3
 simp only [List.getElem?_toArray, List.getElem?_cons_zero, List.getElem?_cons_succ] at r0 r1 r2 r3
 generalize c.fields.length = fn at HF c2 d2
 generalize c.methods.length = mn at HM c3 d3
 obtain ⟨W1, hW1⟩ : ∃ W1, w.alloc (.cells #[.string ⟨#[]⟩, .string ⟨#[]⟩, .slice none 0 0, .slice none 0 0] 44) = W1 := ⟨_, rfl⟩
 rw [hW1] at HK1 HB d0 d1 d2 d3 r0 r1 r2 r3 g0 g1 g2 g3
 have HC1 := Lib.hid (HC.out W1 HK1.out)
 clear hf hm k1 c0 c1 c2 c3 hi h HC hw
 go_enter Tryz.func155, Tryz.ntmps155
 go_wp2_with fail
 refine HC1.out.mono ?_
 rintro e w1 ⟨rfl, rfl⟩
 go_wp2_with fail
 have hF := (((HB.out.put 0 (.string c.name)).put 1 (.string c.super)).put 2 (.slice fa fn fc)).put 3 (.slice ma mn mc)
 have hK := (((HK1.out.setCell (p := ⟨w.heap.size, 0, none⟩) (Nat.le_refl _) (.string c.name)).setCell (p := ⟨w.heap.size, 1, none⟩) (Nat.le_refl _) (.string c.super)).setCell (p := ⟨w.heap.size, 2, none⟩) (Nat.le_refl _) (.slice fa fn fc)).setCell (p := ⟨w.heap.size, 3, none⟩) (Nat.le_refl _) (.slice ma mn mc)
 clear d0 d1 d2 d3 r0 r1 r2 r3 g0 g1 g2 g3
 generalize (((w1.setCell ⟨w.heap.size, 0, none⟩ (.string c.name)).setCell ⟨w.heap.size, 1, none⟩ (.string c.super)).setCell ⟨w.heap.size, 2, none⟩ (.slice fa fn fc)).setCell ⟨w.heap.size, 3, none⟩ (.slice ma mn mc) = Wf at hF hK ⊢
 have e0 : Wf.cell? ⟨w.heap.size, 0, none⟩ = some (.string c.name) := hF.cell 0
 have e1 : Wf.cell? ⟨w.heap.size, 1, none⟩ = some (.string c.super) := hF.cell 1
 have e2 : Wf.cell? ⟨w.heap.size, 2, none⟩ = some (.slice fa fn fc) := hF.cell 2
 have e3 : Wf.cell? ⟨w.heap.size, 3, none⟩ = some (.slice ma mn mc) := hF.cell 3
 exact bodyPost_ret (v := .agg #[.string c.name, .string c.super, .slice fa fn fc, .slice ma mn mc]) (by simp [results, Tryz.results155, go_sem, e0, e1, e2, e3]) rfl ⟨⟨_, _, rfl, HF.out, HM.out⟩, hK⟩
theorem rclass_c (t : List Tab.C) (a : Option Addr) (cp : Nat) (s : ByteArray) (i : Nat) (w : World) (h : TabAt w (.slice a t.length cp) t) (hi : Tab.ix Tab.C.name t s = some i) :
  Calls Tryz.prog 155 #[.slice a t.length cp, .string s] w fun e w' => (∃ fv mv, e = .returned (.agg #[.string (Tab.nth t i).name, .string (Tab.nth t i).super, fv, mv]) ∧ Row 2 VarAt w fv (Tab.nth t i).fields ∧ Row 3 SigAt w mv (Tab.nth t i).methods) ∧ Kept w w' :=
 rclass_k t a cp s i w w h (Kept.refl w) hi
theorem lineF_ix (t : List Tab.C) : ∀ (m : Nat) (ps : List Nat) (s : ByteArray), ∀ p ∈ Tab.lineF t m ps s, p < t.length ∧ Tab.ix Tab.C.name t (Tab.nth t p).name = some p
 | 0, _, _, p, h => by cases h
 | m + 1, ps, s, p, h => by
  unfold Tab.lineF at h
  cases hat : Tab.at' t s with
  | none => rw [hat] at h; cases h
  | some i =>
   rw [hat] at h
   by_cases hp : i ∈ ps
   ·simp only [if_pos hp] at h; cases h
   ·simp only [if_neg hp] at h
    rcases List.mem_cons.1 h with rfl | h
    ·obtain ⟨hl, hn⟩ := Tab.ix_lt hat
     refine ⟨hl, ?_⟩
     rw [Tab.nth_of (List.getElem?_eq_getElem hl), hn]
     exact hat
    ·exact lineF_ix t m _ _ p h
theorem flatR_le {α : Type} (f : Nat → List α) (b : Nat) : ∀ l : List Nat, (∀ i ∈ l, (f i).length ≤ b) → (l.flatMap f).length ≤ b * l.length
 | [], _ => by simp
 | i :: l, h => by
  have h1 := h i (List.mem_cons_self ..)
  have h2 := flatR_le f b l fun j hj => h j (List.mem_cons_of_mem _ hj)
  rw [List.flatMap_cons, List.length_append, List.length_cons, Nat.mul_succ]
  omega
/-- The fields of the last j of a line. -/
def fldsR (t : List Tab.C) (L : List Nat) (j : Nat) : List Tab.V := (L.reverse.take j).flatMap fun i => (Tab.nth t i).fields
theorem fldsR_next {t : List Tab.C} {L : List Nat} {i n j p : Nat} (hn : L.length = n) (hi : i + j + 1 = n) (hp : L[i]? = some p) : fldsR t L (j + 1) = fldsR t L j ++ (Tab.nth t p).fields := by
 unfold fldsR
 have : L.reverse[j]? = some p := by
  rw [List.getElem?_reverse (by omega), ← hp]
  congr 1
  omega
 rw [List.take_add_one, this]
 simp
def FldI (t : List Tab.C) (L : List Nat) (w1 : World) (v q : Value) (W : World) : Prop :=
 ∃ j : Nat, j ≤ L.length ∧ q = .int .i64 ((L.length : Int) - 1 - j) ∧ W.ownsRow w1.heap.size 72 2 v (fldsR t L j).length ((fldsR t L j).flatMap vCells) ∧ Kept w1 W
set_option maxHeartbeats 4000000 in
theorem rfields_c (t : List Tab.C) (a : Option Addr) (cp : Nat) (s : ByteArray) (w : World) (h : TabAt w (.slice a t.length cp) t) (hS : Small t) :
  Calls Tryz.prog 127 #[.slice a t.length cp, .string s] w fun e w' => ∃ v, e = .returned v ∧ w'.ownsRow w.heap.size 72 2 v (Tab.fields t s).length ((Tab.fields t s).flatMap vCells) ∧ Kept w w' := by
 obtain ⟨i0, hi, hz0, hzz1, hzz2⟩ := info_parts info_var
 have hfd : ∀ (n s : ByteArray) (fa : Option Addr) (fn fc : Nat) (mv : Value) (w : World), (Instr.field 44 (.agg #[.string n, .string s, .slice fa fn fc, mv]) 2).run Tryz.prog w = .ok (.slice fa fn fc) w := fun _ _ _ _ _ _ _ => by kernel_rfl
 have HT := Lib.hid h
 have HS := Lib.hid (rsupers_c t a cp s w h hS.len)
 have HSM := Lib.hid hS
 have ht := hS.len
 clear h hS
 go_enter Tryz.func127, Tryz.ntmps127
 go_wp2_with fail
 refine HS.out.mono ?_
 rintro e w1 ⟨v1, rfl, hr1, k1⟩
 have HK1 := Lib.hid k1
 obtain ⟨L, hL⟩ : ∃ L, Tab.line t s = L := ⟨_, rfl⟩
 have hix := lineF_ix t (t.length + 1) [] s
 rw [show Tab.lineF t (t.length + 1) [] s = L from hL] at hix
 have HIX := Lib.hid hix
 have hll : L.length ≤ t.length := by rw [← hL]; exact Tab.line_short t s
 have hfs : Tab.fields t s = fldsR t L L.length := by
  unfold Tab.fields fldsR
  rw [hL, List.take_of_length_le (by simp)]
 have hsu : Tab.supers t s = nmsOf t L := by unfold Tab.supers nmsOf; rw [hL]
 have hnl : (nmsOf t L).length = L.length := by unfold nmsOf; simp
 rw [hsu] at hr1
 have hrow := owns_txt hr1
 rw [hnl] at hr1
 obtain ⟨la, lc, rfl⟩ := owns_slice_n hr1
 obtain ⟨_, _, e, m1, m2, m3⟩ := hrow
 injection e with e1 _ e3
 subst e1 e3
 rw [hnl] at m1
 unfold maxLen at m2
 have HRO := Lib.hid m3
 have HFS := Lib.hid hfs
 obtain ⟨n, hn⟩ : ∃ n, L.length = n := ⟨_, rfl⟩
 have HN := Lib.hid hn
 rw [hn] at hll m1 ⊢
 clear hr1 k1 hix hfs hsu hnl m3 hL HS hn
 go_wp2_with fail
 go_loopw [5, 7] (fun v q wr => FldI t L w1 v q wr) (fun v q wr => (intOf q + 1).toNat)
 case atStart => exact ⟨0, Nat.zero_le _, by rw [HN.out]; go_num, World.ownsRow_nil _ _ _ _, Kept.refl _⟩
 case round =>
  obtain ⟨j, hj, rfl, ho, hk⟩ := hrel
  have HO := Lib.hid ho
  have HK := Lib.hid hk
  rw [HN.out] at hj
  obtain ⟨va, vn, vc, rfl⟩ := owns_slice ho
  clear ho hk
  by_cases hlt : j < n
  ·obtain ⟨i, hin⟩ : ∃ i, i + j + 1 = n := ⟨n - 1 - j, by omega⟩
   rw [show ((L.length : Int) - 1 - j) = (i : Int) by rw [HN.out]; omega]
   have hi0 : (0 : Int) ≤ (i : Int) := by omega
   have hi1 : (i : Int) < (n : Int) := by omega
   have hiL : i < L.length := by rw [HN.out]; omega
   have hp : L[i]? = some L[i] := List.getElem?_eq_getElem hiL
   generalize L[i] = p at hp
   have hn : (nmsOf t L)[i]? = some (Tab.nth t p).name := by unfold nmsOf; rw [List.getElem?_map, hp]; rfl
   obtain ⟨lb, lo, rfl, hcl⟩ := HRO.out _ _ hn
   have hc0 : w1.cell? ⟨lb, lo + i, none⟩ = some (.string (Tab.nth t p).name) := by simpa [TxtS] using hcl
   have c0 := HK.out.cell hc0
   have HC := Lib.hid (rclass_c t a cp (Tab.nth t p).name p wr (tab_kept HT.out (HK1.out.trans HK.out)) (HIX.out p (List.mem_of_getElem? hp)).2)
   have HX := Lib.hid (fldsR_next (t := t) HN.out hin hp)
   have hpt := (HIX.out p (List.mem_of_getElem? hp)).1
   have HFL := Lib.hid (HSM.out.fields _ (nth_mem hpt))
   have HFB := Lib.hid (show (fldsR t L j).length ≤ 1000 * 1000 by
    refine Nat.le_trans (flatR_le (fun i => (Tab.nth t i).fields) 1000 (L.reverse.take j) fun i hi => ?_) ?_
    ·exact HSM.out.fields _ (nth_mem (HIX.out i (List.mem_reverse.1 (List.mem_of_mem_take hi))).1)
    ·have := HN.out
     have hlen : (L.reverse.take j).length ≤ 1000 := by simp; omega
     exact Nat.mul_le_mul_left _ hlen)
   generalize (Tab.nth t p).name = pn at c0 HC
   have HQ := Lib.hid (show (L.length : Int) - 1 - ((j + 1 : Nat) : Int) = (i : Int) - 1 by rw [HN.out]; omega)
   have HJ := Lib.hid (show j + 1 ≤ L.length by rw [HN.out]; omega)
   clear hp hn hcl hc0 hpt hin hlt hiL hj
   go_wp2_with fail
   refine HC.out.mono ?_
   rintro e w2 ⟨⟨fv, mv, rfl, hf, hm⟩, k2⟩
   obtain ⟨fa, fc, rfl, _⟩ := id hf
   have HSR := Lib.hid (src_vars (vars_kept hf k2))
   have HRX := Lib.hid (owns_only (S := fun _ => False) HO.out (Only.of_kept k2) (fun _ _ h => h))
   have HK2 := Lib.hid (HK.out.trans k2)
   have HZ2 := Lib.hid (HK.out.trans k2).size
   clear hf hm k2 HC c0
   obtain ⟨fl, hfl⟩ : ∃ fl, (Tab.nth t p).fields = fl := ⟨_, rfl⟩
   rw [hfl] at HX HFL HSR ⊢
   clear hfl
   go_wp2_with (at_builtin; refine wpList_apk rfl (.tmp 18) (.tmp 25) 41 41 rfl w1.heap.size 2 72 i0 _ 32 Tryz.underlying41 hi hz0 hzz1 hzz2 rfl rfl HRX.out rfl HSR.out (by have := HFL.out; have := HFB.out; unfold maxLen; omega) (by have := HFL.out; have := HFB.out; omega) HZ2.out ?_; intro v' w3 hown' hgrow hlies; have HN3 := Lib.hid hown'; have HK3 := Lib.hid (HK2.out.grown hgrow fun k e => rown_ge HO.out e); obtain ⟨va', vn', vc', rfl⟩ := owns_slice hown'; clear hown' hgrow hlies)
   go_roundw
   case rel =>
    refine ⟨j + 1, HJ.out, by rw [HQ.out], ?_, HK3.out⟩
    rw [HX.out, List.length_append, List.flatMap_append]
    exact HN3.out
   case measure => simp [intOf]
  ·obtain rfl : j = n := by omega
   rw [show ((L.length : Int) - 1 - (j : Int)) = -1 by rw [HN.out]; omega]
   have hE := HO.out
   rw [show j = L.length from HN.out.symm, ← HFS.out] at hE
   have HE := Lib.hid (owns_base hE HK1.out.size)
   clear hE
   go_wp2_with fail
   go_ret
   exact ⟨_, rfl, HE.out, HK1.out.trans HK.out⟩
/-- A row of variables of one's own stays while its block is not touched. -/
theorem own_only {S : Nat → Prop} {w w' : World} {base : Nat} {e : TypeId} {size : Nat} {v : Value} {n : Nat} {xs : List Value} (h : w.ownsRow base e size v n xs) (k : Only S w w') (hs : ∀ g, v.ownBlock = some g → ¬ S g) : w'.ownsRow base e size v n xs := by
  refine ⟨h.1, ?_⟩
  rcases h.2 with hn | ⟨g, cap, cur, rfl, hb, hgg, rest⟩
  · exact .inl hn
  · refine .inr ⟨g, cap, cur, rfl, hb, ?_, rest⟩
    have hl := (Array.getElem?_eq_some_iff.1 hgg).1
    rw [k.block g hl (hs g rfl)]
    exact hgg
theorem own_geC {w : World} {base k n : Nat} {e : TypeId} {v : Value} {xs : List Value} (h : w.ownsRow base e k v n xs) {g : Nat} (hg : v.ownBlock = some g) : base ≤ g ∧ g < w.heap.size := by
  rcases h.2 with ⟨rfl, _⟩ | ⟨g', cap, cur, rfl, hb, hgg, _⟩
  · cases hg
  · obtain rfl : g' = g := Option.some.inj hg
    exact ⟨hb, (Array.getElem?_eq_some_iff.1 hgg).1⟩
theorem src_sig (W : World) (n : Nat) (hn : n = W.heap.size) (a c : ByteArray) (pa : Option Addr) (pn pc : Nat) : Src Tryz.prog 3 42 (.slice (some ⟨n, 0, none⟩) 1 1) 1 [.string a, .slice pa pn pc, .string c] (W.alloc (.cells #[.string a, .slice pa pn pc, .string c] 47)) := by
  subst hn
  exact Src.ofSlice (P := Tryz.prog) (size := 3) (tx := 42) _ Tryz.underlying42 ⟨W.heap.size, 0, none⟩ 1 1 [.string a, .slice pa pn pc, .string c] rfl (cells_new3 _ _ _ _ _) (by simp [Value.oneCell'])
end Go.Proofs.YtjdkegfckkbpeaaGreatDoor
