/- The document's own answers about tables (chaperonref05): above, Method, sameTypes, params. -/
import Derived.Test.YtjdkegfckkbpeaaGreatDoorQz16
import Derived.Test.YtjdkegfckkbpeaaGreatDoorQRpl
set_option linter.unusedSimpArgs false
set_option linter.unusedVariables false
set_option maxRecDepth 100000
namespace Go.Proofs.YtjdkegfckkbpeaaGreatDoor
open Go.ChangeShapes Go.WideShapes Go.ChangeAt Go.RowKit
def namesJ (t : List Tab.C) (ms : Bool) (p : Nat) : List ByteArray := if ms then (Tab.nth t p).methods.map Tab.M.name else (Tab.nth t p).fields.map Tab.V.name
def abR (t : List Tab.C) (L : List Nat) (ms : Bool) (j : Nat) : List ByteArray := (L.take j).flatMap (namesJ t ms)
theorem abR_next {t : List Tab.C} {L : List Nat} {ms : Bool} {j p : Nat} (hp : L[j]? = some p) : abR t L ms (j + 1) = abR t L ms j ++ namesJ t ms p := by
 unfold abR
 rw [List.take_add_one, hp]
 simp
theorem abR_all (t : List Tab.C) (s : ByteArray) (ms : Bool) : abR t (Tab.line t s) ms (Tab.line t s).length = Tab.aboveN t s ms := by
 unfold abR
 rw [List.take_length]
 rfl
theorem namesJ_le {t : List Tab.C} (hS : Small t) (ms : Bool) {p : Nat} (hp : p < t.length) : (namesJ t ms p).length ≤ 1000 := by
 unfold namesJ
 split
 ·rw [List.length_map]; exact hS.methods _ (nth_mem hp)
 ·rw [List.length_map]; exact hS.fields _ (nth_mem hp)
theorem abR_le {t : List Tab.C} (hS : Small t) {L : List Nat} (ms : Bool) {j : Nat} (hL : ∀ p ∈ L, p < t.length) (hj : L.length ≤ 1000) : (abR t L ms j).length ≤ 1000 * 1000 := by
 unfold abR
 refine Nat.le_trans (flatR_le (namesJ t ms) 1000 (L.take j) fun i hi => namesJ_le hS ms (hL i (List.mem_of_mem_take hi))) ?_
 exact Nat.mul_le_mul_left _ (Nat.le_trans (by simp; omega) hj)
def AbI (t : List Tab.C) (L : List Nat) (ms : Bool) (w1 : World) (v q : Value) (W : World) : Prop :=
 ∃ j : Nat, j ≤ L.length ∧ q = .int .i64 j ∧ W.ownsRow w1.heap.size 9 1 v (abR t L ms j).length ((abR t L ms j).map Value.string) ∧ Kept w1 W
def AbJ (xs ns : List ByteArray) (g : Nat) (cs : Array Value) (w1 : World) (v q : Value) (W : World) : Prop :=
 ∃ k : Nat, k ≤ ns.length ∧ q = .int .i64 k ∧ W.ownsRow w1.heap.size 9 1 v (xs ++ ns.take k).length ((xs ++ ns.take k).map Value.string) ∧ (¬ v.ownBlock = some g) ∧ g < W.heap.size ∧ Blk W g 44 cs ∧ Kept w1 W
theorem own_lt {w : World} {base k n : Nat} {e : TypeId} {v : Value} {xs : List Value} (h : w.ownsRow base e k v n xs) {g : Nat} (hg : v.ownBlock = some g) : g < w.heap.size := by
 rcases h.2 with ⟨rfl, _⟩ | ⟨g', cap, cur, rfl, hb, hgg, _⟩
 ·cases hg
 ·obtain rfl : g' = g := Option.some.inj hg
  exact (Array.getElem?_eq_some_iff.1 hgg).1
/-- One name more. -/
theorem AbJ.next {xs ns : List ByteArray} {g : Nat} {cs : Array Value} {w1 W W' : World} {v v' : Value} {k : Nat} {nm : ByteArray} {o : Obj} (hk : ns[k]? = some nm)
  (ho : W.ownsRow w1.heap.size 9 1 v (xs ++ ns.take k).length ((xs ++ ns.take k).map Value.string)) (hv : ¬ v.ownBlock = some g) (hgl : g < W.heap.size) (hB : Blk W g 44 cs) (hK : Kept w1 W)
  (hown : W'.ownsRow w1.heap.size 9 1 v' ((xs ++ ns.take k).length + 1) ((xs ++ ns.take k).map Value.string ++ [.string nm])) (hg : (W.alloc o).grownBy W' v.ownBlock) (hl : v'.ownBlock = v.ownBlock ∨ v'.ownBlock = some (W.alloc o).heap.size) :
  AbJ xs ns g cs w1 v' (.int .i64 ((k + 1 : Nat) : Int)) W' := by
 have hkl : k < ns.length := (List.getElem?_eq_some_iff.1 hk).1
 have e : xs ++ ns.take (k + 1) = (xs ++ ns.take k) ++ [nm] := by
  rw [List.take_add_one, hk, ← List.append_assoc]
  rfl
 refine ⟨k + 1, hkl, rfl, ?_, ?_, ?_, ?_, ?_⟩
 ·rw [e, List.length_append, List.map_append]
  exact hown
 ·rcases hl with h | h
  ·rw [h]; exact hv
  ·rw [h]
   simp
   omega
 ·have := hg.size
  simp at this
  omega
 ·exact (hg.block g (by simp; omega) (fun h => hv h.symm)).trans (hB.alloc o)
 ·exact (hK.alloc o).grown hg fun k e => rown_ge ho e
set_option maxHeartbeats 8000000 in
theorem rabove_f_c (t : List Tab.C) (a : Option Addr) (cp : Nat) (nm sp : ByteArray) (fv0 mv0 : Value) (w : World) (h : TabAt w (.slice a t.length cp) t) (hS : Small t) (hf0 : ∃ fa fn fc, fv0 = .slice fa fn fc) (hm0 : ∃ ma mn mc, mv0 = .slice ma mn mc) :
  Calls Tryz.prog 152 #[.slice a t.length cp, .agg #[.string nm, .string sp, fv0, mv0], .bool false] w fun e w' => ∃ v, e = .returned v ∧ w'.ownsRow w.heap.size 9 1 v (Tab.aboveN t sp false).length ((Tab.aboveN t sp false).map Value.string) ∧ Kept w w' := by
 obtain ⟨fa0, fn0, fc0, rfl⟩ := hf0
 obtain ⟨ma0, mn0, mc0, rfl⟩ := hm0
 obtain ⟨i0, hi, hz0, hzz1, hzz2⟩ := info_parts info_str
 have HT := Lib.hid h
 have HSM := Lib.hid hS
 have HK0 := Lib.hid ((Kept.refl w).alloc (.cells #[.string nm, .string sp, .slice fa0 fn0 fc0, .slice ma0 mn0 mc0] 44))
 have HS := Lib.hid (rsupers_c t a cp sp _ (tab_kept h HK0.out) hS.len)
 have ht := hS.len
 have r1 : (w.alloc (.cells #[.string nm, .string sp, .slice fa0 fn0 fc0, .slice ma0 mn0 mc0] 44)).cell? ⟨w.heap.size, 1, none⟩ = some (.string sp) := (Blk.new w 44 #[.string nm, .string sp, .slice fa0 fn0 fc0, .slice ma0 mn0 mc0]).cell 1
 clear h hS
 go_enter Tryz.func152, Tryz.ntmps152
 go_wp2_with fail
 refine HS.out.mono ?_
 rintro e w1 ⟨v1, rfl, hr1, k1⟩
 have HK1 := Lib.hid (HK0.out.trans k1)
 obtain ⟨L, hL⟩ : ∃ L, Tab.line t sp = L := ⟨_, rfl⟩
 have hix := lineF_ix t (t.length + 1) [] sp
 rw [show Tab.lineF t (t.length + 1) [] sp = L from hL] at hix
 have HIX := Lib.hid hix
 have hll : L.length ≤ t.length := by rw [← hL]; exact Tab.line_short t sp
 have HLL := Lib.hid hll
 have hfs : Tab.aboveN t sp false = abR t L false L.length := by rw [← hL, abR_all]
 have hsu : Tab.supers t sp = nmsOf t L := by unfold Tab.supers nmsOf; rw [hL]
 have hnl : (nmsOf t L).length = L.length := by unfold nmsOf; simp
 rw [hsu] at hr1
 have hrow := owns_txt hr1
 rw [hnl] at hr1
 obtain ⟨la, lc, rfl⟩ := owns_slice_n hr1
 obtain ⟨_, _, e, m1, m2, m3⟩ := hrow
 injection e with e1 _ e3
 subst e1 e3
 rw [hnl] at m1
 unfold maxLen at m2
 have HRO := Lib.hid m3
 have HFS := Lib.hid hfs
 obtain ⟨n, hn⟩ : ∃ n, L.length = n := ⟨_, rfl⟩
 have HN := Lib.hid hn
 rw [hn] at hll m1 ⊢
 clear hr1 k1 hix hfs hsu hnl m3 hL HS hn r1
 go_wp2_with fail
 go_loopw [7, 9] (fun v q wr => AbI t L false w1 v q wr) (fun v q wr => n - (intOf q).toNat)
 case atStart => exact ⟨0, Nat.zero_le _, rfl, World.ownsRow_nil _ _ _ _, Kept.refl _⟩
 case round =>
  obtain ⟨j, hj, rfl, ho, hk⟩ := hrel
  have HO := Lib.hid ho
  have HK := Lib.hid hk
  rw [HN.out] at hj
  obtain ⟨va, vn, vc, rfl⟩ := owns_slice ho
  clear ho hk
  by_cases hlt : j < n
  ·have hltI : (j : Int) < (n : Int) := by omega
   have hjL : j < L.length := by rw [HN.out]; omega
   have hp : L[j]? = some L[j] := List.getElem?_eq_getElem hjL
   generalize L[j] = p at hp
   have hn : (nmsOf t L)[j]? = some (Tab.nth t p).name := by unfold nmsOf; rw [List.getElem?_map, hp]; rfl
   obtain ⟨lb, lo, rfl, hcl⟩ := HRO.out _ _ hn
   have hc0 : w1.cell? ⟨lb, lo + j, none⟩ = some (.string (Tab.nth t p).name) := by simpa [TxtS] using hcl
   have c0 := HK.out.cell hc0
   have HC := Lib.hid (rclass_k t a cp (Tab.nth t p).name p w1 wr (tab_kept HT.out HK1.out) HK.out (HIX.out p (List.mem_of_getElem? hp)).2)
   have HX := Lib.hid (abR_next (t := t) (ms := false) hp)
   have hpt := (HIX.out p (List.mem_of_getElem? hp)).1
   have HFL := Lib.hid (namesJ_le HSM.out false hpt)
   have HFB := Lib.hid (abR_le HSM.out false (j := j) (fun p hp => (HIX.out p hp).1) (by have := HLL.out; omega) : (abR t L false j).length ≤ 1000 * 1000)
   have HNJ := Lib.hid (show namesJ t false p = (Tab.nth t p).fields.map Tab.V.name from rfl)
   generalize (Tab.nth t p).name = pn at c0 HC
   have HJ := Lib.hid (show j + 1 ≤ L.length by rw [HN.out]; omega)
   clear hp hn hcl hc0 hpt hjL hj
   go_wp2_with fail
   refine HC.out.mono ?_
   rintro e w2 ⟨⟨fv, mv, rfl, hf, hm⟩, k2⟩
   have HF := Lib.hid hf
   have HM := Lib.hid hm
   obtain ⟨fa, fc, rfl, f1, f2, f3⟩ := hf
   obtain ⟨ma, mc, rfl, m1', m2', m3'⟩ := hm
   unfold maxLen at f2 m2'
   have HRX := Lib.hid (owns_only (S := fun _ => False) HO.out (Only.of_kept k2) (fun _ _ h => h))
   have HK2 := Lib.hid (HK.out.trans k2)
   have HZ2 := Lib.hid (HK.out.trans k2).size
   have hv0 : ¬ (Value.slice va vn vc).ownBlock = some w2.heap.size := fun e => Nat.lt_irrefl _ (own_lt HRX.out e)
   obtain ⟨psup, hps⟩ : ∃ x, (Tab.nth t p).super = x := ⟨_, rfl⟩
   obtain ⟨fl, hfl⟩ : ∃ fl, (Tab.nth t p).fields = fl := ⟨_, rfl⟩
   obtain ⟨ml, hml⟩ : ∃ ml, (Tab.nth t p).methods = ml := ⟨_, rfl⟩
   rw [hfl] at HNJ
   rw [hfl] at f1 HF f3 ⊢
   rw [hml] at m1' HM m3' ⊢
   rw [hps]
   have HAT := Lib.hid f3
   obtain ⟨xs, hxs⟩ : ∃ xs, abR t L false j = xs := ⟨_, rfl⟩
   rw [hxs] at HX HFB HRX
   obtain ⟨ns, hns⟩ : ∃ ns, namesJ t false p = ns := ⟨_, rfl⟩
   rw [hns] at HX HFL HNJ
   have HNL := Lib.hid (show ns.length = fl.length by rw [HNJ.out, List.length_map])
   clear hfl hml hps hxs hns k2 c0 HC f3 m3'
   obtain ⟨wo, rfl⟩ : ∃ wo, wo = wr := ⟨_, rfl⟩
   go_wp2_with fail
   go_loopw [7, 11] (fun v q wr => AbJ xs ns w2.heap.size #[.string pn, .string psup, .slice fa fl.length fc, .slice ma ml.length mc] w1 v q wr) (fun v q wr => fl.length - (intOf q).toNat)
   case atStart => exact ⟨0, Nat.zero_le _, rfl, by simpa using owns_only (S := fun _ => False) HRX.out ((Only.refl _ w2).alloc _) (fun _ _ h => h), hv0, by simp, Blk.new w2 _ _, HK2.out.alloc _⟩
   case round =>
    obtain ⟨k, hk, rfl, ho2, hv2, hg2, hb2, hk2⟩ := hrel
    have HO2 := Lib.hid ho2
    have HV2 := Lib.hid hv2
    have HG2 := Lib.hid hg2
    have HB2 := Lib.hid hb2
    have HK3 := Lib.hid hk2
    have hkp := hk
    rw [HNL.out] at hk
    obtain ⟨va2, vn2, vc2, rfl⟩ := owns_slice ho2
    have d2 : wr.cell? ⟨w2.heap.size, 2, none⟩ = some (.slice fa fl.length fc) := hb2.cell 2
    have d3 : wr.cell? ⟨w2.heap.size, 3, none⟩ = some (.slice ma ml.length mc) := hb2.cell 3
    clear ho2 hv2 hg2 hb2 hk2
    by_cases hkl : k < fl.length
    ·have hklI : (k : Int) < (fl.length : Int) := by omega
     have hx : fl[k]? = some fl[k] := List.getElem?_eq_getElem hkl
     obtain ⟨b3, o3, rfl, hcl⟩ := HAT.out _ _ hx
     generalize fl[k] = x at hx hcl
     have e0 := HK3.out.cell hcl.1
     have hxn : ns[k]? = some x.name := by rw [HNJ.out, List.getElem?_map, hx]; rfl
     have HXN := Lib.hid hxn
     have HRW := Lib.hid (owns_only (S := fun _ => False) HO2.out ((Only.refl _ wr).alloc (.cells #[.string x.name] 9)) (fun _ _ h => h))
     have HSX := Lib.hid (src_str wr x.name)
     have HLN := Lib.hid (show (xs ++ ns.take k).length ≤ 1000 * 1000 + 1000 by have := HFB.out; have := HFL.out; simp; omega)
     have hsz := HK3.out.size
     clear hx hcl hxn
     go_wp2_with (at_builtin; refine wpList_apk rfl (.tmp 40) (.tmp 47) 70 70 rfl w1.heap.size 1 9 i0 _ 16 Tryz.underlying70 hi hz0 hzz1 hzz2 rfl rfl HRW.out rfl HSX.out (by have := HLN.out; unfold maxLen; omega) (by have := HLN.out; omega) (by simp; omega) ?_; intro v' w3 hown' hgrow hlies; have HN := Lib.hid (AbJ.next HXN.out HO2.out HV2.out HG2.out HB2.out HK3.out hown' hgrow hlies); obtain ⟨va', vn', vc', rfl⟩ := owns_slice hown'; clear hown' hgrow hlies)
     go_roundw
     case rel => exact HN.out
     case measure => simp [intOf]; omega
    ·have hklI : ¬ (k : Int) < (fl.length : Int) := by omega
     obtain rfl : k = fl.length := by omega
     have HO4 := Lib.hid (show wr.ownsRow w1.heap.size 9 1 (.slice va2 vn2 vc2) (abR t L false (j + 1)).length ((abR t L false (j + 1)).map Value.string) by
      have := HO2.out
      rw [show ns.take fl.length = ns by rw [← HNL.out, List.take_length]] at this
      rw [HX.out]
      exact this)
     go_wp2_with fail
     obtain ⟨wi, rfl⟩ : ∃ wi, wi = wr := ⟨_, rfl⟩
     go_loopw [7, 12] (fun v q wr' => v = .slice va2 vn2 vc2 ∧ q = .int .i64 0 ∧ wr' = wi) (fun v q wr' => 0)
     case atStart => exact ⟨rfl, rfl, rfl⟩
     case round =>
      obtain ⟨rfl, rfl, rfl⟩ := hrel
      by_cases hkl2 : 0 < ml.length
      ·have hkl2I : (0 : Int) < (ml.length : Int) := by omega
       go_wp2_with fail
       go_roundw
       case rel => exact ⟨j + 1, HJ.out, rfl, HO4.out, HK3.out⟩
       case measure => simp [intOf]; omega
      ·have hkl2I : ¬ (0 : Int) < (ml.length : Int) := by omega
       go_wp2_with fail
       go_roundw
       case rel => exact ⟨j + 1, HJ.out, rfl, HO4.out, HK3.out⟩
       case measure => simp [intOf]; omega
  ·obtain rfl : j = n := by omega
   have hE := HO.out
   rw [show j = L.length from HN.out.symm, ← HFS.out] at hE
   have HE := Lib.hid (owns_base hE HK1.out.size)
   clear hE
   go_wp2_with fail
   go_ret
   exact ⟨_, rfl, HE.out, HK1.out.trans HK.out⟩
set_option maxHeartbeats 8000000 in
theorem rabove_t_c (t : List Tab.C) (a : Option Addr) (cp : Nat) (nm sp : ByteArray) (fv0 mv0 : Value) (w : World) (h : TabAt w (.slice a t.length cp) t) (hS : Small t) (hf0 : ∃ fa fn fc, fv0 = .slice fa fn fc) (hm0 : ∃ ma mn mc, mv0 = .slice ma mn mc) :
  Calls Tryz.prog 152 #[.slice a t.length cp, .agg #[.string nm, .string sp, fv0, mv0], .bool true] w fun e w' => ∃ v, e = .returned v ∧ w'.ownsRow w.heap.size 9 1 v (Tab.aboveN t sp true).length ((Tab.aboveN t sp true).map Value.string) ∧ Kept w w' := by
 obtain ⟨fa0, fn0, fc0, rfl⟩ := hf0
 obtain ⟨ma0, mn0, mc0, rfl⟩ := hm0
 obtain ⟨i0, hi, hz0, hzz1, hzz2⟩ := info_parts info_str
 have HT := Lib.hid h
 have HSM := Lib.hid hS
 have HK0 := Lib.hid ((Kept.refl w).alloc (.cells #[.string nm, .string sp, .slice fa0 fn0 fc0, .slice ma0 mn0 mc0] 44))
 have HS := Lib.hid (rsupers_c t a cp sp _ (tab_kept h HK0.out) hS.len)
 have ht := hS.len
 have r1 : (w.alloc (.cells #[.string nm, .string sp, .slice fa0 fn0 fc0, .slice ma0 mn0 mc0] 44)).cell? ⟨w.heap.size, 1, none⟩ = some (.string sp) := (Blk.new w 44 #[.string nm, .string sp, .slice fa0 fn0 fc0, .slice ma0 mn0 mc0]).cell 1
 clear h hS
 go_enter Tryz.func152, Tryz.ntmps152
 go_wp2_with fail
 refine HS.out.mono ?_
 rintro e w1 ⟨v1, rfl, hr1, k1⟩
 have HK1 := Lib.hid (HK0.out.trans k1)
 obtain ⟨L, hL⟩ : ∃ L, Tab.line t sp = L := ⟨_, rfl⟩
 have hix := lineF_ix t (t.length + 1) [] sp
 rw [show Tab.lineF t (t.length + 1) [] sp = L from hL] at hix
 have HIX := Lib.hid hix
 have hll : L.length ≤ t.length := by rw [← hL]; exact Tab.line_short t sp
 have HLL := Lib.hid hll
 have hfs : Tab.aboveN t sp true = abR t L true L.length := by rw [← hL, abR_all]
 have hsu : Tab.supers t sp = nmsOf t L := by unfold Tab.supers nmsOf; rw [hL]
 have hnl : (nmsOf t L).length = L.length := by unfold nmsOf; simp
 rw [hsu] at hr1
 have hrow := owns_txt hr1
 rw [hnl] at hr1
 obtain ⟨la, lc, rfl⟩ := owns_slice_n hr1
 obtain ⟨_, _, e, m1, m2, m3⟩ := hrow
 injection e with e1 _ e3
 subst e1 e3
 rw [hnl] at m1
 unfold maxLen at m2
 have HRO := Lib.hid m3
 have HFS := Lib.hid hfs
 obtain ⟨n, hn⟩ : ∃ n, L.length = n := ⟨_, rfl⟩
 have HN := Lib.hid hn
 rw [hn] at hll m1 ⊢
 clear hr1 k1 hix hfs hsu hnl m3 hL HS hn r1
 go_wp2_with fail
 go_loopw [7, 9] (fun v q wr => AbI t L true w1 v q wr) (fun v q wr => n - (intOf q).toNat)
 case atStart => exact ⟨0, Nat.zero_le _, rfl, World.ownsRow_nil _ _ _ _, Kept.refl _⟩
 case round =>
  obtain ⟨j, hj, rfl, ho, hk⟩ := hrel
  have HO := Lib.hid ho
  have HK := Lib.hid hk
  rw [HN.out] at hj
  obtain ⟨va, vn, vc, rfl⟩ := owns_slice ho
  clear ho hk
  by_cases hlt : j < n
  ·have hltI : (j : Int) < (n : Int) := by omega
   have hjL : j < L.length := by rw [HN.out]; omega
   have hp : L[j]? = some L[j] := List.getElem?_eq_getElem hjL
   generalize L[j] = p at hp
   have hn : (nmsOf t L)[j]? = some (Tab.nth t p).name := by unfold nmsOf; rw [List.getElem?_map, hp]; rfl
   obtain ⟨lb, lo, rfl, hcl⟩ := HRO.out _ _ hn
   have hc0 : w1.cell? ⟨lb, lo + j, none⟩ = some (.string (Tab.nth t p).name) := by simpa [TxtS] using hcl
   have c0 := HK.out.cell hc0
   have HC := Lib.hid (rclass_k t a cp (Tab.nth t p).name p w1 wr (tab_kept HT.out HK1.out) HK.out (HIX.out p (List.mem_of_getElem? hp)).2)
   have HX := Lib.hid (abR_next (t := t) (ms := true) hp)
   have hpt := (HIX.out p (List.mem_of_getElem? hp)).1
   have HFL := Lib.hid (namesJ_le HSM.out true hpt)
   have HFB := Lib.hid (abR_le HSM.out true (j := j) (fun p hp => (HIX.out p hp).1) (by have := HLL.out; omega) : (abR t L true j).length ≤ 1000 * 1000)
   have HNJ := Lib.hid (show namesJ t true p = (Tab.nth t p).methods.map Tab.M.name from rfl)
   generalize (Tab.nth t p).name = pn at c0 HC
   have HJ := Lib.hid (show j + 1 ≤ L.length by rw [HN.out]; omega)
   clear hp hn hcl hc0 hpt hjL hj
   go_wp2_with fail
   refine HC.out.mono ?_
   rintro e w2 ⟨⟨fv, mv, rfl, hf, hm⟩, k2⟩
   have HF := Lib.hid hf
   have HM := Lib.hid hm
   obtain ⟨fa, fc, rfl, f1, f2, f3⟩ := hf
   obtain ⟨ma, mc, rfl, m1', m2', m3'⟩ := hm
   unfold maxLen at f2 m2'
   have HRX := Lib.hid (owns_only (S := fun _ => False) HO.out (Only.of_kept k2) (fun _ _ h => h))
   have HK2 := Lib.hid (HK.out.trans k2)
   have HZ2 := Lib.hid (HK.out.trans k2).size
   have hv0 : ¬ (Value.slice va vn vc).ownBlock = some w2.heap.size := fun e => Nat.lt_irrefl _ (own_lt HRX.out e)
   obtain ⟨psup, hps⟩ : ∃ x, (Tab.nth t p).super = x := ⟨_, rfl⟩
   obtain ⟨fl, hfl⟩ : ∃ fl, (Tab.nth t p).fields = fl := ⟨_, rfl⟩
   obtain ⟨ml, hml⟩ : ∃ ml, (Tab.nth t p).methods = ml := ⟨_, rfl⟩
   rw [hml] at HNJ
   rw [hfl] at f1 HF f3 ⊢
   rw [hml] at m1' HM m3' ⊢
   rw [hps]
   have HAT := Lib.hid m3'
   obtain ⟨xs, hxs⟩ : ∃ xs, abR t L true j = xs := ⟨_, rfl⟩
   rw [hxs] at HX HFB HRX
   obtain ⟨ns, hns⟩ : ∃ ns, namesJ t true p = ns := ⟨_, rfl⟩
   rw [hns] at HX HFL HNJ
   have HNL := Lib.hid (show ns.length = ml.length by rw [HNJ.out, List.length_map])
   clear hfl hml hps hxs hns k2 c0 HC f3 m3'
   obtain ⟨wo, rfl⟩ : ∃ wo, wo = wr := ⟨_, rfl⟩
   go_wp2_with fail
   go_loopw [7, 11] (fun v q wr' => v = .slice va vn vc ∧ q = .int .i64 0 ∧ wr' = w2.alloc (.cells #[.string pn, .string psup, .slice fa fl.length fc, .slice ma ml.length mc] 44)) (fun v q wr' => 0)
   case atStart => exact ⟨rfl, rfl, rfl⟩
   case round =>
    obtain ⟨rfl, rfl, rfl⟩ := hrel
    have hb0 := Blk.new w2 44 #[.string pn, .string psup, .slice fa fl.length fc, .slice ma ml.length mc]
    have y2 : (w2.alloc (.cells #[.string pn, .string psup, .slice fa fl.length fc, .slice ma ml.length mc] 44)).cell? ⟨w2.heap.size, 2, none⟩ = some (.slice fa fl.length fc) := hb0.cell 2
    have y3 : (w2.alloc (.cells #[.string pn, .string psup, .slice fa fl.length fc, .slice ma ml.length mc] 44)).cell? ⟨w2.heap.size, 3, none⟩ = some (.slice ma ml.length mc) := hb0.cell 3
    clear hb0
    by_cases hkl2 : 0 < fl.length
    ·have hkl2I : (0 : Int) < (fl.length : Int) := by omega
     go_wp2_with fail
     clear y2 y3
     go_loopw [7, 12] (fun v q wr => AbJ xs ns w2.heap.size #[.string pn, .string psup, .slice fa fl.length fc, .slice ma ml.length mc] w1 v q wr) (fun v q wr => ml.length - (intOf q).toNat)
     case atStart => exact ⟨0, Nat.zero_le _, rfl, by simpa using owns_only (S := fun _ => False) HRX.out ((Only.refl _ w2).alloc _) (fun _ _ h => h), hv0, by simp, Blk.new w2 _ _, HK2.out.alloc _⟩
     case round =>
      obtain ⟨k, hk, rfl, ho2, hv2, hg2, hb2, hk2⟩ := hrel
      have HO2 := Lib.hid ho2
      have HV2 := Lib.hid hv2
      have HG2 := Lib.hid hg2
      have HB2 := Lib.hid hb2
      have HK3 := Lib.hid hk2
      have hkp := hk
      rw [HNL.out] at hk
      obtain ⟨va2, vn2, vc2, rfl⟩ := owns_slice ho2
      have d2 : wr.cell? ⟨w2.heap.size, 2, none⟩ = some (.slice fa fl.length fc) := hb2.cell 2
      have d3 : wr.cell? ⟨w2.heap.size, 3, none⟩ = some (.slice ma ml.length mc) := hb2.cell 3
      clear ho2 hv2 hg2 hb2 hk2
      by_cases hkl : k < ml.length
      ·have hklI : (k : Int) < (ml.length : Int) := by omega
       have hx : ml[k]? = some ml[k] := List.getElem?_eq_getElem hkl
       obtain ⟨b3, o3, rfl, hcl⟩ := HAT.out _ _ hx
       generalize ml[k] = x at hx hcl
       have e0 := HK3.out.cell hcl.1
       have hxn : ns[k]? = some x.name := by rw [HNJ.out, List.getElem?_map, hx]; rfl
       have HXN := Lib.hid hxn
       have HRW := Lib.hid (owns_only (S := fun _ => False) HO2.out ((Only.refl _ wr).alloc (.cells #[.string x.name] 9)) (fun _ _ h => h))
       have HSX := Lib.hid (src_str wr x.name)
       have HLN := Lib.hid (show (xs ++ ns.take k).length ≤ 1000 * 1000 + 1000 by have := HFB.out; have := HFL.out; simp; omega)
       have hsz := HK3.out.size
       clear hx hcl hxn
       go_wp2_with (at_builtin; refine wpList_apk rfl (.tmp 59) (.tmp 66) 70 70 rfl w1.heap.size 1 9 i0 _ 16 Tryz.underlying70 hi hz0 hzz1 hzz2 rfl rfl HRW.out rfl HSX.out (by have := HLN.out; unfold maxLen; omega) (by have := HLN.out; omega) (by simp; omega) ?_; intro v' w3 hown' hgrow hlies; have HN := Lib.hid (AbJ.next HXN.out HO2.out HV2.out HG2.out HB2.out HK3.out hown' hgrow hlies); obtain ⟨va', vn', vc', rfl⟩ := owns_slice hown'; clear hown' hgrow hlies)
       go_roundw
       case rel => exact HN.out
       case measure => simp [intOf]; omega
      ·have hklI : ¬ (k : Int) < (ml.length : Int) := by omega
       obtain rfl : k = ml.length := by omega
       have HO4 := Lib.hid (show wr.ownsRow w1.heap.size 9 1 (.slice va2 vn2 vc2) (abR t L true (j + 1)).length ((abR t L true (j + 1)).map Value.string) by
        have := HO2.out
        rw [show ns.take ml.length = ns by rw [← HNL.out, List.take_length]] at this
        rw [HX.out]
        exact this)
       go_wp2_with fail
       go_roundw
       case rel => exact ⟨j + 1, HJ.out, rfl, HO4.out, HK3.out⟩
       case measure => simp [intOf]; omega
    ·have hkl2I : ¬ (0 : Int) < (fl.length : Int) := by omega
     go_wp2_with fail
     clear y2 y3
     go_loopw [7, 12] (fun v q wr => AbJ xs ns w2.heap.size #[.string pn, .string psup, .slice fa fl.length fc, .slice ma ml.length mc] w1 v q wr) (fun v q wr => ml.length - (intOf q).toNat)
     case atStart => exact ⟨0, Nat.zero_le _, rfl, by simpa using owns_only (S := fun _ => False) HRX.out ((Only.refl _ w2).alloc _) (fun _ _ h => h), hv0, by simp, Blk.new w2 _ _, HK2.out.alloc _⟩
     case round =>
      obtain ⟨k, hk, rfl, ho2, hv2, hg2, hb2, hk2⟩ := hrel
      have HO2 := Lib.hid ho2
      have HV2 := Lib.hid hv2
      have HG2 := Lib.hid hg2
      have HB2 := Lib.hid hb2
      have HK3 := Lib.hid hk2
      have hkp := hk
      rw [HNL.out] at hk
      obtain ⟨va2, vn2, vc2, rfl⟩ := owns_slice ho2
      have d2 : wr.cell? ⟨w2.heap.size, 2, none⟩ = some (.slice fa fl.length fc) := hb2.cell 2
      have d3 : wr.cell? ⟨w2.heap.size, 3, none⟩ = some (.slice ma ml.length mc) := hb2.cell 3
      clear ho2 hv2 hg2 hb2 hk2
      by_cases hkl : k < ml.length
      ·have hklI : (k : Int) < (ml.length : Int) := by omega
       have hx : ml[k]? = some ml[k] := List.getElem?_eq_getElem hkl
       obtain ⟨b3, o3, rfl, hcl⟩ := HAT.out _ _ hx
       generalize ml[k] = x at hx hcl
       have e0 := HK3.out.cell hcl.1
       have hxn : ns[k]? = some x.name := by rw [HNJ.out, List.getElem?_map, hx]; rfl
       have HXN := Lib.hid hxn
       have HRW := Lib.hid (owns_only (S := fun _ => False) HO2.out ((Only.refl _ wr).alloc (.cells #[.string x.name] 9)) (fun _ _ h => h))
       have HSX := Lib.hid (src_str wr x.name)
       have HLN := Lib.hid (show (xs ++ ns.take k).length ≤ 1000 * 1000 + 1000 by have := HFB.out; have := HFL.out; simp; omega)
       have hsz := HK3.out.size
       clear hx hcl hxn
       go_wp2_with (at_builtin; refine wpList_apk rfl (.tmp 59) (.tmp 66) 70 70 rfl w1.heap.size 1 9 i0 _ 16 Tryz.underlying70 hi hz0 hzz1 hzz2 rfl rfl HRW.out rfl HSX.out (by have := HLN.out; unfold maxLen; omega) (by have := HLN.out; omega) (by simp; omega) ?_; intro v' w3 hown' hgrow hlies; have HN := Lib.hid (AbJ.next HXN.out HO2.out HV2.out HG2.out HB2.out HK3.out hown' hgrow hlies); obtain ⟨va', vn', vc', rfl⟩ := owns_slice hown'; clear hown' hgrow hlies)
       go_roundw
       case rel => exact HN.out
       case measure => simp [intOf]; omega
      ·have hklI : ¬ (k : Int) < (ml.length : Int) := by omega
       obtain rfl : k = ml.length := by omega
       have HO4 := Lib.hid (show wr.ownsRow w1.heap.size 9 1 (.slice va2 vn2 vc2) (abR t L true (j + 1)).length ((abR t L true (j + 1)).map Value.string) by
        have := HO2.out
        rw [show ns.take ml.length = ns by rw [← HNL.out, List.take_length]] at this
        rw [HX.out]
        exact this)
       go_wp2_with fail
       go_roundw
       case rel => exact ⟨j + 1, HJ.out, rfl, HO4.out, HK3.out⟩
       case measure => simp [intOf]; omega
  ·obtain rfl : j = n := by omega
   have hE := HO.out
   rw [show j = L.length from HN.out.symm, ← HFS.out] at hE
   have HE := Lib.hid (owns_base hE HK1.out.size)
   clear hE
   go_wp2_with fail
   go_ret
   exact ⟨_, rfl, HE.out, HK1.out.trans HK.out⟩
theorem Only.cellO {S : Nat → Prop} {w w' : World} (h : Only S w w') {b o : Nat} {v : Value} (hc : w.cell? ⟨b, o, none⟩ = some v) (hs : ¬ S b) : w'.cell? ⟨b, o, none⟩ = some v := by
 have hb : b < w.heap.size := by
  rcases Nat.lt_or_ge b w.heap.size with k | k
  ·exact k
  ·rw [World.cell?] at hc
   simp [Array.getElem?_eq_none k] at hc
 rw [← hc]
 exact World.cell?_of_block (w := w) (h.block b hb hs)
theorem rabove_c (ms : Bool) (t : List Tab.C) (a : Option Addr) (cp : Nat) (nm sp : ByteArray) (fv0 mv0 : Value) (w : World) (h : TabAt w (.slice a t.length cp) t) (hS : Small t) (hf0 : ∃ fa fn fc, fv0 = .slice fa fn fc) (hm0 : ∃ ma mn mc, mv0 = .slice ma mn mc) :
  Calls Tryz.prog 152 #[.slice a t.length cp, .agg #[.string nm, .string sp, fv0, mv0], .bool ms] w fun e w' => ∃ v, e = .returned v ∧ w'.ownsRow w.heap.size 9 1 v (Tab.aboveN t sp ms).length ((Tab.aboveN t sp ms).map Value.string) ∧ Kept w w' := by
 cases ms
 ·exact rabove_f_c t a cp nm sp fv0 mv0 w h hS hf0 hm0
 ·exact rabove_t_c t a cp nm sp fv0 mv0 w h hS hf0 hm0
def mF (t : List Tab.C) (nm : ByteArray) (i : Nat) : Option (Tab.M × ByteArray) := (Tab.methodOf nm (Tab.nth t i)).map fun m => (m, (Tab.nth t i).name)
theorem method_mF (t : List Tab.C) (s nm : ByteArray) : Tab.method t s nm = (Tab.line t s).findSome? (mF t nm) := rfl
theorem mF_none {t : List Tab.C} {nm : ByteArray} {i : Nat} (h : ∀ y ∈ (Tab.nth t i).methods, ¬ y.name = nm) : mF t nm i = none := by
 unfold mF Tab.methodOf
 rw [Tab.ix_none h]
 rfl
theorem mF_some {t : List Tab.C} {nm : ByteArray} {i k : Nat} {m : Tab.M} (hk : (Tab.nth t i).methods[k]? = some m) (hm : m.name = nm) (h : ∀ y ∈ (Tab.nth t i).methods.take k, ¬ y.name = nm) : mF t nm i = some (m, (Tab.nth t i).name) := by
 unfold mF Tab.methodOf
 rw [Tab.ix_some hk hm h]
 simp [hk]
/-- What Method answers. -/
def MthR (t : List Tab.C) (s nm : ByteArray) (w : World) (e : Ending) (w' : World) : Prop :=
 (match Tab.method t s nm with
  | none => e = .returned (.tuple #[.agg #[.string ⟨#[]⟩, .slice none 0 0, .string ⟨#[]⟩], .string ⟨#[]⟩, .bool false])
  | some (m, cn) => ∃ pv, e = .returned (.tuple #[.agg #[.string m.name, pv, .string m.res], .string cn, .bool true]) ∧ Row 2 VarAt w pv m.params) ∧ Kept w w'
def MthI (t : List Tab.C) (L : List Nat) (nm : ByteArray) (g : Nat) (w1 : World) (q : Value) (W : World) : Prop :=
 ∃ j : Nat, j ≤ L.length ∧ q = .int .i64 j ∧ (L.take j).findSome? (mF t nm) = none ∧ Kept w1 W ∧ Blk W g 47 #[.string ⟨#[]⟩, .slice none 0 0, .string ⟨#[]⟩]
set_option maxHeartbeats 8000000 in
theorem rmeth_c (t : List Tab.C) (a : Option Addr) (cp : Nat) (s nm : ByteArray) (w : World) (h : TabAt w (.slice a t.length cp) t) (hS : Small t) :
  Calls Tryz.prog 112 #[.slice a t.length cp, .string s, .string nm] w (MthR t s nm w) := by
 have hfd : ∀ (n s : ByteArray) (fv : Value) (ma : Option Addr) (mn mc : Nat) (w : World), (Instr.field 44 (.agg #[.string n, .string s, fv, .slice ma mn mc]) 3).run Tryz.prog w = .ok (.slice ma mn mc) w := fun _ _ _ _ _ _ _ => by kernel_rfl
 have HT := Lib.hid h
 have HK0 := Lib.hid ((Kept.refl w).alloc (.cells #[.string ⟨#[]⟩, .slice none 0 0, .string ⟨#[]⟩] 47))
 have HB0 := Lib.hid (Blk.new w 47 #[.string ⟨#[]⟩, .slice none 0 0, .string ⟨#[]⟩])
 have HS := Lib.hid (rsupers_c t a cp s _ (tab_kept h HK0.out) hS.len)
 have ht := hS.len
 clear h hS
 unfold MthR
 rw [method_mF]
 obtain ⟨L, hL⟩ : ∃ L, Tab.line t s = L := ⟨_, rfl⟩
 have hix := lineF_ix t (t.length + 1) [] s
 rw [show Tab.lineF t (t.length + 1) [] s = L from hL] at hix
 have HIX := Lib.hid hix
 have hll : L.length ≤ t.length := by rw [← hL]; exact Tab.line_short t s
 have hsu : Tab.supers t s = nmsOf t L := by unfold Tab.supers nmsOf; rw [hL]
 have hnl : (nmsOf t L).length = L.length := by unfold nmsOf; simp
 rw [hsu, hnl] at HS
 rw [hL]
 obtain ⟨r, hr⟩ : ∃ r, L.findSome? (mF t nm) = r := ⟨_, rfl⟩
 rw [hr]
 have HR := Lib.hid hr
 clear hix hsu hL hr
 go_enter Tryz.func112, Tryz.ntmps112
 go_wp2_with fail
 refine HS.out.mono ?_
 rintro e w1 ⟨v1, rfl, hr1, k1⟩
 have HK1 := Lib.hid (HK0.out.trans k1)
 have HB1 := Lib.hid (HB0.out.kept k1)
 have hrow := owns_txt (by rw [hnl]; exact hr1)
 obtain ⟨la, lc, rfl⟩ := owns_slice_n hr1
 obtain ⟨_, _, e, m1, m2, m3⟩ := hrow
 injection e with e1 _ e3
 subst e1 e3
 rw [hnl] at m1
 unfold maxLen at m2
 have HRO := Lib.hid m3
 have HGE := Lib.hid (fun g hg => rown_ge hr1 (g := g) hg)
 obtain ⟨n, hn⟩ : ∃ n, L.length = n := ⟨_, rfl⟩
 have HN := Lib.hid hn
 rw [hn] at hll m1 ⊢
 clear hr1 k1 hnl m3 HS hn
 go_wp2_with fail
 go_loopw [10] (fun q wr => MthI t L nm w.heap.size w1 q wr) (fun q wr => n - (intOf q).toNat)
 case atStart => exact ⟨0, Nat.zero_le _, rfl, rfl, Kept.refl _, HB1.out⟩
 case round =>
  obtain ⟨j, hj, rfl, hno, hk, hb⟩ := hrel
  have HNO := Lib.hid hno
  have HK := Lib.hid hk
  have HB := Lib.hid hb
  rw [HN.out] at hj
  clear hno hk hb
  by_cases hlt : j < n
  ·have hltI : (j : Int) < (n : Int) := by omega
   have hjL : j < L.length := by rw [HN.out]; omega
   have hp : L[j]? = some L[j] := List.getElem?_eq_getElem hjL
   generalize L[j] = p at hp
   have hn : (nmsOf t L)[j]? = some (Tab.nth t p).name := by unfold nmsOf; rw [List.getElem?_map, hp]; rfl
   obtain ⟨lb, lo, rfl, hcl⟩ := HRO.out _ _ hn
   have hc0 : w1.cell? ⟨lb, lo + j, none⟩ = some (.string (Tab.nth t p).name) := by simpa [TxtS] using hcl
   have c0 := HK.out.cell hc0
   have HC := Lib.hid (rclass_k t a cp (Tab.nth t p).name p w wr HT.out (HK1.out.trans HK.out) (HIX.out p (List.mem_of_getElem? hp)).2)
   have HP := Lib.hid hp
   have HJ := Lib.hid (show j + 1 ≤ L.length by rw [HN.out]; omega)
   have HPN := Lib.hid (show mF t nm p = (Tab.methodOf nm (Tab.nth t p)).map fun m => (m, (Tab.nth t p).name) from rfl)
   have HMN := Lib.hid (fun h => mF_none (t := t) (nm := nm) (i := p) h)
   have HMS := Lib.hid (fun k m => mF_some (t := t) (nm := nm) (i := p) (k := k) (m := m))
   obtain ⟨pn, hpn⟩ : ∃ x, (Tab.nth t p).name = x := ⟨_, rfl⟩
   obtain ⟨ml, hml⟩ : ∃ x, (Tab.nth t p).methods = x := ⟨_, rfl⟩
   rw [hpn] at c0 HC HMS hc0
   rw [hml] at HC HMN HMS
   clear hp hn hcl hpn hml
   go_wp2_with fail
   refine HC.out.mono ?_
   rintro e w2 ⟨⟨fv, mv, rfl, hf, hm⟩, k2⟩
   obtain ⟨ma, mc, rfl, m1', m2', m3'⟩ := hm
   unfold maxLen at m2'
   have HAT := Lib.hid m3'
   have HK2 := Lib.hid (HK.out.trans k2)
   have HB2 := Lib.hid (HB.out.kept k2)
   have d0 := HK2.out.cell hc0
   clear hf k2 c0 hc0 HC m3'
   go_wp2_with fail
   obtain ⟨wo, rfl⟩ : ∃ wo, wo = wr := ⟨_, rfl⟩
   go_loopw [12] (fun q wr => ∃ k : Nat, k ≤ ml.length ∧ q = .int .i64 k ∧ (∀ y ∈ ml.take k, ¬ y.name = nm) ∧ wr = w2) (fun q wr => ml.length - (intOf q).toNat)
   case atStart => exact ⟨0, Nat.zero_le _, rfl, by simp, rfl⟩
   case round =>
    obtain ⟨k, hk, rfl, hno, rfl⟩ := hrel
    have HNO2 := Lib.hid hno
    clear hno
    by_cases hkl : k < ml.length
    ·have hklI : (k : Int) < (ml.length : Int) := by omega
     have hx : ml[k]? = some ml[k] := List.getElem?_eq_getElem hkl
     obtain ⟨b3, o3, rfl, hcl⟩ := HAT.out _ _ hx
     generalize ml[k] = x at hx hcl
     have HX := Lib.hid hx
     obtain ⟨x0, ⟨pv, x1, hpv⟩, x2, _⟩ := hcl
     have e0 := (HK1.out.trans HK2.out).cell x0
     have e1 := (HK1.out.trans HK2.out).cell x1
     have e2 := (HK1.out.trans HK2.out).cell x2
     obtain ⟨pa, pc, rfl, _⟩ := id hpv
     have HPV := Lib.hid hpv
     clear hx x0 x1 x2 hpv
     by_cases hn : x.name = nm
     ·have HF := Lib.hid (show L.findSome? (mF t nm) = some (x, pn) by
       have h1 := HMS.out k x HX.out hn HNO2.out
       have h2 : L.drop j = p :: L.drop (j + 1) := by
        rw [List.drop_eq_getElem_cons hjL]
        congr 1
        have := HP.out
        rw [List.getElem?_eq_getElem hjL] at this
        exact Option.some.inj this
       rw [← List.take_append_drop j L, List.findSome?_append, HNO.out, h2]
       simp [h1])
      obtain rfl : r = some (x, pn) := HR.out.symm.trans HF.out
      have hb := beq_yes hn
      obtain ⟨xn, hxn⟩ : ∃ xn, x.name = xn := ⟨_, rfl⟩
      obtain ⟨pl, hpl⟩ : ∃ pl, x.params.length = pl := ⟨_, rfl⟩
      rw [hxn] at hb e0
      rw [hpl] at e1
      have g0 := HB2.out.cell 0
      have g1 := HB2.out.cell 1
      have g2 := HB2.out.cell 2
      simp only [List.getElem?_toArray, List.getElem?_cons_zero, List.getElem?_cons_succ] at g0 g1 g2
      have f0 := HB2.out.frozen 0
      have f1 := HB2.out.frozen 1
      have f2 := HB2.out.frozen 2
      have hlb : ¬ lb = w.heap.size := by
       have := HGE.out lb rfl
       simp at this
       omega
      have e4 := Only.cellO (((((Only.refl (· = w.heap.size) wr).put 0 (.string xn)).put 1 (.slice pa pl pc)).put 2 (.string x.res))) d0 hlb
      have hK := ((((HK1.out.trans HK2.out).setCell (p := ⟨w.heap.size, 0, none⟩) (Nat.le_refl _) (.string xn)).setCell (p := ⟨w.heap.size, 1, none⟩) (Nat.le_refl _) (.slice pa pl pc)).setCell (p := ⟨w.heap.size, 2, none⟩) (Nat.le_refl _) (.string x.res))
      have HKF := Lib.hid hK
      clear hn hK hlb
      go_wp2_with fail
      go_region
      all_goals
       go_wp2_with fail
       exact bodyPost_ret (v := .tuple #[.agg #[.string xn, .slice pa pl pc, .string x.res], .string pn, .bool true]) (by simp [results, Tryz.results112, go_sem, g0, g1, g2]) rfl ⟨⟨.slice pa x.params.length pc, by rw [hpl], HPV.out⟩, HKF.out.drew⟩
     ·have HM := Lib.hid (take_not HNO2.out HX.out hn)
      have hb := beq_no hn
      clear hn
      go_wp2_with fail
      go_roundw
      case rel => exact ⟨k + 1, by omega, by go_num, HM.out, by first | trivial | rfl⟩
      case measure => simp [intOf]; omega
    ·have hklI : ¬ (k : Int) < (ml.length : Int) := by omega
     obtain rfl : k = ml.length := by omega
     have HNX := Lib.hid (show (L.take (j + 1)).findSome? (mF t nm) = none by
      rw [List.take_add_one, HP.out, List.findSome?_append, HNO.out]
      have := HMN.out (by have := HNO2.out; rwa [List.take_length] at this)
      simp [this])
     go_wp2_with fail
     go_roundw
     case rel => exact ⟨j + 1, HJ.out, rfl, HNX.out, HK2.out, HB2.out⟩
     case measure => simp [intOf]; omega
  ·obtain rfl : j = n := by omega
   have HE := Lib.hid (show L.findSome? (mF t nm) = none by have := HNO.out; rwa [← HN.out, List.take_length] at this)
   obtain rfl : r = none := HR.out.symm.trans HE.out
   have g0 := HB.out.cell 0
   have g1 := HB.out.cell 1
   have g2 := HB.out.cell 2
   simp only [List.getElem?_toArray, List.getElem?_cons_zero, List.getElem?_cons_succ] at g0 g1 g2
   have f0 := HB.out.frozen 0
   have f1 := HB.out.frozen 1
   have f2 := HB.out.frozen 2
   have hK := (((HK1.out.trans HK.out).setCell (p := ⟨w.heap.size, 0, none⟩) (Nat.le_refl _) (.string ⟨#[]⟩)).setCell (p := ⟨w.heap.size, 1, none⟩) (Nat.le_refl _) (.slice none 0 0)).setCell (p := ⟨w.heap.size, 2, none⟩) (Nat.le_refl _) (.string ⟨#[]⟩)
   go_wp2_with fail
   exact bodyPost_ret (v := .tuple #[.agg #[.string ⟨#[]⟩, .slice none 0 0, .string ⟨#[]⟩], .string ⟨#[]⟩, .bool false]) (by simp [results, Tryz.results112, go_sem, g0, g1, g2]) rfl ⟨rfl, hK⟩
end Go.Proofs.YtjdkegfckkbpeaaGreatDoor
