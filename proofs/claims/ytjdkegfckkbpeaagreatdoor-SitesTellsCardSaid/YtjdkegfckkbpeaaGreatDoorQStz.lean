/- The document's own answers about sites (chaperonref09): site, Sides, May. The document's own answers about sites (chaperonref09): digits, Text. The law SitesTells: its walk over any table, any sites and any label. -/
import Derived.Test.YtjdkegfckkbpeaaGreatDoorQTkl
import Derived.Test.YtjdkegfckkbpeaaGreatDoorQTkk
import Derived.Test.YtjdkegfckkbpeaaGreatDoorQSsn
import Derived.Test.YtjdkegfckkbpeaaGreatDoorQRpr
import Derived.Test.YtjdkegfckkbpeaaGreatDoorQSsx
set_option linter.unusedSimpArgs false
set_option linter.unusedVariables false
set_option maxRecDepth 100000
namespace Go.Proofs.YtjdkegfckkbpeaaGreatDoor
open Go.ChangeShapes Go.WideShapes Go.ChangeAt Go.RowKit
/-- What site answers. -/
def FoundR (l : List Tab.St) (n : Int) (w : World) (e : Ending) (w' : World) : Prop :=
 (match Tab.siteAt l n with
  | none => e = .returned (.tuple #[.agg #[.int .i64 0, .string ⟨#[]⟩, .string ⟨#[]⟩], .bool false])
  | some x => e = .returned (.tuple #[.agg #[.int .i64 x.what, .string x.a, .string x.b], .bool true])) ∧ Kept w w'
set_option maxHeartbeats 4000000 in
theorem rsite0_c (l : List Tab.St) (a : Option Addr) (cp : Nat) (n : Int) (w : World) (hl : l.length ≤ 9223372036854775807) (hn1 : -9223372036854775808 ≤ n) (hn2 : n ≤ 9223372036854775807) (h : n = 0 ∨ (l.length : Int) < n ∨ n < -(l.length : Int)) :
  Calls Tryz.prog 27 #[.slice a l.length cp, .int .i64 n] w (FoundR l n w) := by
 have HN := Lib.hid (Tab.siteAt_none h)
 unfold FoundR
 rw [HN.out]
 rcases h with rfl | h | h
 ·go_enter Tryz.func27, Tryz.ntmps27
  go_wp2_with fail
  refine bodyPost_ret (v := .tuple #[.agg #[.int .i64 0, .string ⟨#[]⟩, .string ⟨#[]⟩], .bool false]) (by simp [results, Tryz.results27, go_sem]) rfl ⟨rfl, ?_⟩
  first
   | exact (Kept.refl w).alloc _
   | exact ((((Kept.refl w).alloc _).setCell (by simp) _).setCell (by simp) _).setCell (by simp) _
 ·have h1 : (1 : Int) ≤ n := by omega
  have h2 : ¬ n ≤ (l.length : Int) := by omega
  have h3 : ¬ n ≤ (-1 : Int) := by omega
  go_enter Tryz.func27, Tryz.ntmps27
  go_wp2_with fail
  refine bodyPost_ret (v := .tuple #[.agg #[.int .i64 0, .string ⟨#[]⟩, .string ⟨#[]⟩], .bool false]) (by simp [results, Tryz.results27, go_sem]) rfl ⟨rfl, ?_⟩
  first
   | exact (Kept.refl w).alloc _
   | exact ((((Kept.refl w).alloc _).setCell (by simp) _).setCell (by simp) _).setCell (by simp) _
 ·have h1 : ¬ (1 : Int) ≤ n := by omega
  have h3 : n ≤ (-1 : Int) := by omega
  have h4 : ¬ -(l.length : Int) ≤ n := by omega
  go_enter Tryz.func27, Tryz.ntmps27
  go_wp2_with fail
  refine bodyPost_ret (v := .tuple #[.agg #[.int .i64 0, .string ⟨#[]⟩, .string ⟨#[]⟩], .bool false]) (by simp [results, Tryz.results27, go_sem]) rfl ⟨rfl, ?_⟩
  first
   | exact (Kept.refl w).alloc _
   | exact ((((Kept.refl w).alloc _).setCell (by simp) _).setCell (by simp) _).setCell (by simp) _
set_option maxHeartbeats 8000000 in
theorem rsite1_c (l : List Tab.St) (a : Option Addr) (cp : Nat) (n : Int) (w : World) (h : SitesAt w (.slice a l.length cp) l) (hl : l.length ≤ 9223372036854775807) (h0 : ¬ n = 0) (h1 : ¬ (l.length : Int) < n) (h2 : ¬ n < -(l.length : Int)) :
  Calls Tryz.prog 27 #[.slice a l.length cp, .int .i64 n] w (FoundR l n w) := by
 obtain ⟨k, x, hk, hx, hs, hkn⟩ := Tab.siteAt_some h0 h1 h2
 unfold FoundR
 rw [hs]
 simp only
 obtain ⟨_, cp', e, g1, g2, g3⟩ := h
 injection e with e1 e2 e3
 subst e1 e3
 unfold maxLen at g2
 obtain ⟨b, o, rfl, c0, c1, c2, z1, z2⟩ := g3 k x hx
 have hkI : (k : Int) < (l.length : Int) := by omega
 have HK := Lib.hid ((Kept.refl w).alloc (.cells #[.int .i64 0, .string ⟨#[]⟩, .string ⟨#[]⟩] 49))
 have d0 := HK.out.cell c0
 have d1 := HK.out.cell c1
 have d2 := HK.out.cell c2
 have B4 := Lib.hid (Blk.new w 49 #[.int .i64 0, .string ⟨#[]⟩, .string ⟨#[]⟩])
 clear hs hx g3 c0 c1 c2 e2 z1 z2
 have hn1 : -9223372036854775808 ≤ n := by omega
 have hn2 : n ≤ 9223372036854775807 := by omega
 by_cases hp : 0 < n
 ·obtain rfl : k = n.toNat - 1 := by rw [if_pos hp] at hkn; omega
  have hq1 : (1 : Int) ≤ n := by omega
  have hq2 : n ≤ (l.length : Int) := by omega
  clear hkn
  go_enter Tryz.func27, Tryz.ntmps27
  go_wp2_with fail
  refine bodyPost_ret (v := .tuple #[.agg #[.int .i64 x.what, .string x.a, .string x.b], .bool true]) (by simp [results, Tryz.results27, go_sem]) rfl ⟨rfl, ?_⟩
  first
   | exact (Kept.refl w).alloc _
   | exact ((((Kept.refl w).alloc _).setCell (by simp) _).setCell (by simp) _).setCell (by simp) _
 ·obtain rfl : k = (-n).toNat - 1 := by rw [if_neg hp] at hkn; omega
  have hq1 : ¬ (1 : Int) ≤ n := by omega
  have hq2 : n ≤ (-1 : Int) := by omega
  have hq3 : -(l.length : Int) ≤ n := by omega
  clear hkn
  go_enter Tryz.func27, Tryz.ntmps27
  go_wp2_with fail
  refine bodyPost_ret (v := .tuple #[.agg #[.int .i64 x.what, .string x.a, .string x.b], .bool true]) (by simp [results, Tryz.results27, go_sem]) rfl ⟨rfl, ?_⟩
  first
   | exact (Kept.refl w).alloc _
   | exact ((((Kept.refl w).alloc _).setCell (by simp) _).setCell (by simp) _).setCell (by simp) _
theorem rsite_c (l : List Tab.St) (a : Option Addr) (cp : Nat) (n : Int) (w : World) (h : SitesAt w (.slice a l.length cp) l) (hn1 : -9223372036854775808 ≤ n) (hn2 : n ≤ 9223372036854775807) :
  Calls Tryz.prog 27 #[.slice a l.length cp, .int .i64 n] w (FoundR l n w) := by
 have hl : l.length ≤ 9223372036854775807 := by
  obtain ⟨_, c, e, h1, h2, _⟩ := h
  unfold maxLen at h2
  omega
 by_cases h0 : n = 0
 ·exact rsite0_c l a cp n w hl hn1 hn2 (.inl h0)
 ·by_cases h1 : (l.length : Int) < n
  ·exact rsite0_c l a cp n w hl hn1 hn2 (.inr (.inl h1))
  ·by_cases h2 : n < -(l.length : Int)
   ·exact rsite0_c l a cp n w hl hn1 hn2 (.inr (.inr h2))
   ·exact rsite1_c l a cp n w h hl h0 h1 h2
set_option maxHeartbeats 4000000 in
theorem rsides9_c (l : List Tab.St) (a : Option Addr) (cp : Nat) (n : Int) (w : World) (h : SitesAt w (.slice a l.length cp) l) (hn1 : -9223372036854775808 ≤ n) (hn2 : n ≤ 9223372036854775807) :
  Calls Tryz.prog 13 #[.slice a l.length cp, .int .i64 n] w fun e w' => e = .returned (sidesV l n) ∧ Kept w w' := by
 have HF := Lib.hid (rsite_c l a cp n w h hn1 hn2)
 unfold FoundR at HF
 clear h
 cases hs : Tab.siteAt l n with
 | none =>
  rw [hs] at HF
  simp only at HF
  rw [show sidesV l n = .tuple #[.string ⟨#[]⟩, .string ⟨#[]⟩, .int .i64 3] by unfold sidesV; rw [hs]]
  clear hs
  go_enter Tryz.func13, Tryz.ntmps13
  go_wp2_with fail
  refine HF.out.mono ?_
  rintro e w1 ⟨rfl, k1⟩
  have HK := Lib.hid (k1.alloc (.cells #[.int .i64 0, .string ⟨#[]⟩, .string ⟨#[]⟩] 49))
  clear k1
  go_wp2_with fail
  exact bodyPost_ret (v := .tuple #[.string ⟨#[]⟩, .string ⟨#[]⟩, .int .i64 3]) (by simp [results, Tryz.results13, go_sem]) rfl ⟨rfl, HK.out⟩
 | some x =>
  rw [hs] at HF
  simp only at HF
  rw [show sidesV l n = .tuple #[.string (Tab.blamed n x), .string (Tab.other n x), .int .i64 0] by unfold sidesV; rw [hs]]
  clear hs
  by_cases hp : 0 < n
  ·have hb : Tab.blamed n x = x.a := by unfold Tab.blamed; exact if_pos hp
   have ho : Tab.other n x = x.b := by unfold Tab.other; exact if_pos hp
   rw [hb, ho]
   clear hb ho
   go_enter Tryz.func13, Tryz.ntmps13
   go_wp2_with fail
   refine HF.out.mono ?_
   rintro e w1 ⟨rfl, k1⟩
   obtain ⟨W3, hW3⟩ : ∃ W3, w1.alloc (.cells #[.int .i64 x.what, .string x.a, .string x.b] 49) = W3 := ⟨_, rfl⟩
   have HK := Lib.hid (k1.alloc (.cells #[.int .i64 x.what, .string x.a, .string x.b] 49))
   have B8 := Blk.new w1 49 #[.int .i64 x.what, .string x.a, .string x.b]
   rw [hW3] at HK B8
   have p1 := B8.cell 1
   have p2 := B8.cell 2
   simp only [List.getElem?_toArray, List.getElem?_cons_zero, List.getElem?_cons_succ] at p1 p2
   have HW3 := Lib.hid hW3
   clear hW3 B8 k1
   go_wp2_with fail
   rw [HW3.out]
   go_still (by kernel_rfl)
   go_wp2_with fail
   exact bodyPost_ret (v := .tuple #[.string x.a, .string x.b, .int .i64 0]) (by simp [results, Tryz.results13, go_sem]) rfl ⟨rfl, HK.out.drew⟩
  ·have hb : Tab.blamed n x = x.b := by unfold Tab.blamed; exact if_neg hp
   have ho : Tab.other n x = x.a := by unfold Tab.other; exact if_neg hp
   rw [hb, ho]
   clear hb ho
   go_enter Tryz.func13, Tryz.ntmps13
   go_wp2_with fail
   refine HF.out.mono ?_
   rintro e w1 ⟨rfl, k1⟩
   obtain ⟨W3, hW3⟩ : ∃ W3, w1.alloc (.cells #[.int .i64 x.what, .string x.a, .string x.b] 49) = W3 := ⟨_, rfl⟩
   have HK := Lib.hid (k1.alloc (.cells #[.int .i64 x.what, .string x.a, .string x.b] 49))
   have B8 := Blk.new w1 49 #[.int .i64 x.what, .string x.a, .string x.b]
   rw [hW3] at HK B8
   have p1 := B8.cell 1
   have p2 := B8.cell 2
   simp only [List.getElem?_toArray, List.getElem?_cons_zero, List.getElem?_cons_succ] at p1 p2
   have HW3 := Lib.hid hW3
   clear hW3 B8 k1
   go_wp2_with fail
   rw [HW3.out]
   go_still (by kernel_rfl)
   go_wp2_with fail
   exact bodyPost_ret (v := .tuple #[.string x.b, .string x.a, .int .i64 0]) (by simp [results, Tryz.results13, go_sem]) rfl ⟨rfl, HK.out.drew⟩
theorem kindS_one (x : Tab.St) : Tab.kindS x = 1 ↔ x.what = 1 := by
 unfold Tab.kindS
 split <;> omega
set_option maxHeartbeats 4000000 in
theorem rmay9_c (t : List Tab.C) (ta : Option Addr) (tc : Nat) (l : List Tab.St) (a : Option Addr) (cp : Nat) (n : Int) (w : World) (ht : TabAt w (.slice ta t.length tc) t) (hS : Small t) (h : SitesAt w (.slice a l.length cp) l) (hn1 : -9223372036854775808 ≤ n) (hn2 : n ≤ 9223372036854775807) :
  Calls Tryz.prog 15 #[.slice ta t.length tc, .slice a l.length cp, .int .i64 n] w fun e w' => e = .returned (mayV t l n) ∧ Kept w w' := by
 have HSD := Lib.hid (rsides9_c l a cp n w h hn1 hn2)
 have HF := Lib.hid (fun (W : World) (k : Kept w W) => rsite_c l a cp n W (sites_kept h k) hn1 hn2)
 have HP := Lib.hid (fun (s u : ByteArray) (W : World) (k : Kept w W) => rprec8_c t ta tc s u W (tab_kept ht k) hS)
 unfold FoundR at HF
 unfold sidesV at HSD
 clear h ht hS
 cases hs : Tab.siteAt l n with
 | none =>
  rw [hs] at HSD
  simp only at HSD
  rw [show mayV t l n = .tuple #[.bool false, .int .i64 3] by unfold mayV; rw [hs]]
  clear hs HF
  go_enter Tryz.func15, Tryz.ntmps15
  go_wp2_with fail
  refine HSD.out.mono ?_
  rintro e w1 ⟨rfl, k1⟩
  have HK := Lib.hid k1
  clear k1
  go_wp2_with fail
  go_ret2
  exact ⟨rfl, HK.out⟩
 | some x =>
  rw [hs] at HF HSD
  simp only at HF HSD
  rw [show mayV t l n = .tuple #[.bool (Tab.mayS t n x), .int .i64 0] by unfold mayV; rw [hs]]
  have HM := Lib.hid (show Tab.mayS t n x = if x.what = 1 then !Tab.precise t (Tab.blamed n x) (Tab.other n x) else decide (0 < n) by
   unfold Tab.mayS
   by_cases e : x.what = 1
   ·rw [if_pos ((kindS_one x).2 e), if_pos e]
   ·rw [if_neg (fun h => e ((kindS_one x).1 h)), if_neg e])
  have HPC := Lib.hid (fun W (k : Kept w W) => HP.out (Tab.blamed n x) (Tab.other n x) W k)
  generalize Tab.mayS t n x = ans at HM ⊢
  generalize Tab.precise t (Tab.blamed n x) (Tab.other n x) = pr at HM HPC
  generalize Tab.blamed n x = c at HSD HPC
  generalize Tab.other n x = d at HSD HPC
  clear hs HP
  by_cases h1 : x.what = 1
  ·obtain rfl : ans = !pr := by rw [HM.out, if_pos h1]
   obtain ⟨q, a', b'⟩ := x
   simp only at h1
   subst h1
   go_enter Tryz.func15, Tryz.ntmps15
   go_wp2_with fail
   refine HSD.out.mono ?_
   rintro e w1 ⟨rfl, k1⟩
   have HK1 := Lib.hid k1
   clear k1
   go_wp2_with fail
   refine (HF.out _ HK1.out).mono ?_
   rintro e w2 ⟨rfl, k2⟩
   have HK2 := Lib.hid ((HK1.out.trans k2).alloc (.cells #[.int .i64 1, .string a', .string b'] 49))
   clear k2
   go_wp2_with fail
   refine (HPC.out _ HK2.out).mono ?_
   rintro e w3 ⟨rfl, k3⟩
   have HK3 := Lib.hid (HK2.out.trans k3)
   clear k3
   go_wp2_with fail
   go_ret2
   exact ⟨rfl, HK3.out⟩
  ·have hq1 : (x.what != 1) = true := by simpa using h1
   obtain rfl : ans = decide (0 < n) := by rw [HM.out, if_neg h1]
   go_enter Tryz.func15, Tryz.ntmps15
   go_wp2_with fail
   refine HSD.out.mono ?_
   rintro e w1 ⟨rfl, k1⟩
   have HK1 := Lib.hid k1
   clear k1
   go_wp2_with fail
   refine (HF.out _ HK1.out).mono ?_
   rintro e w2 ⟨rfl, k2⟩
   have HK2 := Lib.hid ((HK1.out.trans k2).alloc (.cells #[.int .i64 x.what, .string x.a, .string x.b] 49))
   clear k2
   go_wp2_with fail
   go_ret2
   exact ⟨rfl, HK2.out⟩
end Go.Proofs.YtjdkegfckkbpeaaGreatDoor
namespace Go.Proofs.YtjdkegfckkbpeaaGreatDoor
open Go.ChangeShapes Go.WideShapes Go.ChangeAt Go.RowKit
theorem app_bytes9 (l m : List UInt8) : (⟨l.toArray⟩ : ByteArray) ++ ⟨m.toArray⟩ = ⟨(l ++ m).toArray⟩ := by
 apply ByteArray.ext
 simp
theorem conv_one9 (b : UInt8) (w : World) : (convert 88 9 (.slice (some ⟨w.heap.size, 0, none⟩) 1 1)).run Tryz.prog (w.alloc (.cells #[.int .u8 (b.toNat : Int)] 5)) = .ok (.string ⟨#[b]⟩) (w.alloc (.cells #[.int .u8 (b.toNat : Int)] 5)) :=
 run_convert_bytes_back (P := Tryz.prog) (w.alloc (.cells #[.int .u8 (b.toNat : Int)] 5)) 88 9 5 ⟨w.heap.size, 0, none⟩ 1 [b] (by kernel_rfl) (by kernel_rfl) (by kernel_rfl) (fun j hj => by
  have : j = 0 := by simpa using hj
  subst this
  rw [addr_plain, (Blk.new w _ _).cell]; rfl)
theorem dig_one9 (n : Nat) (h : n < 10) (w : World) : Calls Tryz.prog 32 #[.int .i64 n] w fun e w' => e = .returned (.string ⟨(Lib.decDigits n).toArray⟩) ∧ Kept w w' := by
 have hc := conv_one9 (UInt8.ofNat (48 + n)) w
 rw [show (((UInt8.ofNat (48 + n)).toNat : Nat) : Int) = 48 + (n : Int) from by simp; omega] at hc
 have HD := Lib.hid (Lib.decDigits_one h)
 generalize UInt8.ofNat (48 + n) = bt at hc HD
 have hn : (n : Int) < 10 := by omega
 have hm : (48 + (n : Int)) % 256 = 48 + n := by omega
 clear h
 go_enter Tryz.func32, Tryz.ntmps32
 go_wp2_with fail
 go_ret
 exact ⟨by rw [HD.out]; first | done | rfl, (Kept.refl w).alloc _⟩
theorem dig_two9 (n : Nat) (h : n < 100) (w : World) : Calls Tryz.prog 32 #[.int .i64 n] w fun e w' => e = .returned (.string ⟨(Lib.decDigits n).toArray⟩) ∧ Kept w w' := by
 by_cases h9 : n < 10
 ·exact dig_one9 n h9 w
 ·have H1 := Lib.hid (fun W => dig_one9 (n / 10) (by omega) W)
  have H2 := Lib.hid (fun W => dig_one9 (n % 10) (by omega) W)
  rw [Lib.decDigits_one (by omega)] at H1 H2
  rw [show ((n / 10 : Nat) : Int) = (n : Int) / 10 from by omega] at H1
  rw [show ((n % 10 : Nat) : Int) = (n : Int) % 10 from by omega] at H2
  have HD := Lib.hid (show Lib.decDigits n = [UInt8.ofNat (48 + n / 10)] ++ [UInt8.ofNat (48 + n % 10)] from Lib.decDigits_two h9 h)
  have hn : 10 ≤ (n : Int) := by omega
  have hn2 : (n : Int) < 100 := by omega
  have hl1 : ([UInt8.ofNat (48 + n / 10)] : List UInt8).length = 1 := rfl
  have hl2 : ([UInt8.ofNat (48 + n % 10)] : List UInt8).length = 1 := rfl
  generalize ([UInt8.ofNat (48 + n / 10)] : List UInt8) = d1 at H1 hl1 HD HD HD HD HD HD
  generalize ([UInt8.ofNat (48 + n % 10)] : List UInt8) = d2 at H2 hl2 HD HD HD HD HD HD
  clear h h9
  go_enter Tryz.func32, Tryz.ntmps32
  go_wp2_with fail
  refine (H1.out _).mono ?_
  rintro e w1 ⟨rfl, k1⟩
  go_wp2_with fail
  refine (H2.out _).mono ?_
  rintro e w2 ⟨rfl, k2⟩
  go_wp2_with fail
  go_ret
  exact ⟨by rw [HD.out, ← app_bytes9]; rfl, k1.trans k2⟩
theorem text_app9 (dk kw : List UInt8) (sg x y : ByteArray) : ((((((((⟨dk.toArray⟩ ++ ⟨#[32]⟩) ++ sg) ++ ⟨#[32]⟩) ++ ⟨kw.toArray⟩) ++ ⟨#[32]⟩) ++ x) ++ ⟨#[32, 62, 32]⟩) ++ y : ByteArray) = ⟨(Lib.join [dk, sg.data.toList, kw, x.data.toList, [62], y.data.toList] [32]).toArray⟩ := by
 apply ByteArray.ext
 simp [Lib.join, Lib.joinTail]
def w5cs : Array Value := #[.string ⟨#[99, 97, 115, 116]⟩, .string ⟨#[103, 101, 116]⟩, .string ⟨#[112, 117, 116]⟩, .string ⟨#[99, 97, 108, 108]⟩, .string ⟨#[111, 112]⟩]
theorem word_cell {W : World} {g : Nat} {t : TypeId} (h : Blk W g t w5cs) {q : Int} (h1 : 1 ≤ q) (h2 : q ≤ 5) : W.cell? ⟨g, q.toNat - 1, none⟩ = some (.string ⟨(Tab.kindW q).toArray⟩) := by
 rw [h.cell]
 have : q = 1 ∨ q = 2 ∨ q = 3 ∨ q = 4 ∨ q = 5 := by omega
 rcases this with rfl | rfl | rfl | rfl | rfl <;> rfl
set_option maxHeartbeats 8000000 in
theorem rtext9_c (l : List Tab.St) (a : Option Addr) (cp : Nat) (n : Int) (w : World) (h : SitesAt w (.slice a l.length cp) l) (hn1 : -9223372036854775808 ≤ n) (hn2 : n ≤ 9223372036854775807) (hl : l.length < 100) (hz : ∀ x ∈ l, x.a.size ≤ 1000 ∧ x.b.size ≤ 1000) :
  Calls Tryz.prog 17 #[.slice a l.length cp, .int .i64 n] w fun e w' => e = .returned (textV l n) ∧ Kept w w' := by
 have HF := Lib.hid (rsite_c l a cp n w h hn1 hn2)
 unfold FoundR at HF
 clear h
 cases hs : Tab.siteAt l n with
 | none =>
  rw [hs] at HF
  simp only at HF
  rw [show textV l n = .tuple #[.string ⟨#[]⟩, .int .i64 3] by unfold textV; rw [hs]]
  clear hs
  go_enter Tryz.func17, Tryz.ntmps17
  go_wp2_with fail
  refine HF.out.mono ?_
  rintro e w1 ⟨rfl, k1⟩
  have HK := Lib.hid (k1.alloc (.cells #[.int .i64 0, .string ⟨#[]⟩, .string ⟨#[]⟩] 49))
  clear k1
  go_wp2_with fail
  go_ret2
  exact ⟨rfl, HK.out⟩
 | some x =>
  rw [hs] at HF
  simp only at HF
  rw [show textV l n = .tuple #[.string (Tab.textS n x), .int .i64 0] by unfold textV; rw [hs]]
  have hxm : x ∈ l := by
   unfold Tab.siteAt at hs
   split at hs
   ·exact List.mem_of_getElem? hs
   ·split at hs
    ·exact List.mem_of_getElem? hs
    ·cases hs
  have hab : ¬ n = 0 ∧ n ≤ l.length ∧ -(l.length : Int) ≤ n := by
   refine ⟨?_, ?_, ?_⟩
   ·intro e
    rw [Tab.siteAt_none (.inl e)] at hs; cases hs
   ·rcases Int.lt_or_le (l.length : Int) n with k | k
    ·rw [Tab.siteAt_none (.inr (.inl k))] at hs; cases hs
    ·exact k
   ·rcases Int.lt_or_le n (-(l.length : Int)) with k | k
    ·rw [Tab.siteAt_none (.inr (.inr k))] at hs; cases hs
    ·exact k
  obtain ⟨za, zb⟩ := hz x hxm
  have HZA := Lib.hid za
  have HZB := Lib.hid zb
  have HT := Lib.hid (show Tab.textS n x = ⟨(Lib.join [Lib.decDigits n.natAbs, (if 0 < n then [43] else [45]), Tab.kindW (Tab.kindS x), x.a.data.toList, [62], x.b.data.toList] [32]).toArray⟩ from rfl)
  generalize Tab.textS n x = ans at HT ⊢
  have HKI := Lib.hid (fun (h1 : 1 ≤ x.what) (h2 : x.what ≤ 5) => show Tab.kindS x = x.what by unfold Tab.kindS; rw [if_pos (by omega)])
  have HKO := Lib.hid (fun (h : x.what < 1 ∨ 5 < x.what) => show Tab.kindS x = 0 by unfold Tab.kindS; rw [if_neg (by omega)])
  clear hs hz hxm za zb
  obtain ⟨q, xa, xb⟩ := x
  dsimp only at HF HT HKI HKO HZA HZB
  generalize Tab.kindS ⟨q, xa, xb⟩ = kq at HT HKI HKO
  by_cases hp : 0 < n
  ·skip
   by_cases hq : 1 ≤ q ∧ q ≤ 5
   ·skip
    obtain ⟨k, rfl⟩ : ∃ k : Nat, n = k := ⟨n.toNat, by omega⟩
    have hk : k < 100 := by omega
    have hpn : ¬ (k : Int) < 0 := by omega
    rw [if_pos hp, show ((k : Int).natAbs) = k by simp] at HT
    have HDG := Lib.hid (dig_two9 k hk)
    have HDL := Lib.hid (And.intro (dec_len hk) (And.intro HZA.out HZB.out))
    obtain rfl : kq = q := HKI.out hq.1 hq.2
    obtain ⟨hq1, hq2⟩ := hq
    have HKL := Lib.hid (kindW_len kq)
    have hkI : (k : Int) < 100 := by omega
    clear hab hn1 hn2 hp HKI HKO hl
    generalize Lib.decDigits k = dk at HDG HDL HT
    obtain ⟨kw, hkw⟩ : ∃ kw, Tab.kindW kq = kw := ⟨_, rfl⟩
    rw [hkw] at HT HKL
    have HT2 := Lib.hid (show ans = ((((((((⟨dk.toArray⟩ ++ ⟨#[32]⟩) ++ ⟨#[43]⟩) ++ ⟨#[32]⟩) ++ ⟨kw.toArray⟩) ++ ⟨#[32]⟩) ++ xa) ++ ⟨#[32, 62, 32]⟩) ++ xb : ByteArray) from by rw [HT.out]; exact (text_app9 dk kw ⟨#[43]⟩ xa xb).symm)
    clear HT
    go_enter Tryz.func17, Tryz.ntmps17
    go_wp2_with fail
    refine HF.out.mono ?_
    rintro e w1 ⟨rfl, k1⟩
    obtain ⟨W3, hW3⟩ : ∃ W3, (w1.alloc (.cells #[.int .i64 kq, .string xa, .string xb] 49)).alloc (.cells w5cs 9) = W3 := ⟨_, rfl⟩
    have HK := Lib.hid ((k1.alloc (.cells #[.int .i64 kq, .string xa, .string xb] 49)).alloc (.cells w5cs 9))
    have b8 := (Blk.new w1 49 #[.int .i64 kq, .string xa, .string xb]).alloc (.cells w5cs 9)
    have b9 := Blk.new (w1.alloc (.cells #[.int .i64 kq, .string xa, .string xb] 49)) 9 w5cs
    rw [World.size_alloc] at b9
    rw [hW3] at HK b8 b9
    have p0 := b8.cell 0
    have p1 := b8.cell 1
    have p2 := b8.cell 2
    simp only [List.getElem?_toArray, List.getElem?_cons_zero, List.getElem?_cons_succ] at p0 p1 p2
    have pw := word_cell b9 hq1 hq2
    rw [hkw] at pw
    have HW3 := Lib.hid (show (w1.alloc (.cells #[.int .i64 kq, .string xa, .string xb] 49)).alloc (.cells #[.string ⟨#[99, 97, 115, 116]⟩, .string ⟨#[103, 101, 116]⟩, .string ⟨#[112, 117, 116]⟩, .string ⟨#[99, 97, 108, 108]⟩, .string ⟨#[111, 112]⟩] 9) = W3 from hW3)
    clear hW3 b8 b9 k1 hkw
    go_wp2_with (rw [HW3.out])
    have s1 := ((Kept.refl W3).drew).cell p1
    have s2 := ((Kept.refl W3).drew).cell p2
    refine wp_region_held_drew (S := (fun W => W.cell? ⟨w1.heap.size, 1, none⟩ = some (.string xa) ∧ W.cell? ⟨w1.heap.size, 2, none⟩ = some (.string xb) ∧ Kept W3 W)) (by kernel_rfl) ⟨s1, s2, (Kept.refl W3).drew⟩ (fun hHeld0 => ?_)
    clear s1 s2 p0 pw
    refine nkH 0 ?_
    refine nkH 3 ?_
    refine nkH 6 ?_
    refine nkH 9 ?_
    refine nkH 10 ?_
    refine nkH 13 ?_
    refine nkH 14 ?_
    refine rdH [1] ?_
    refine AllReadyH.cons rfl (fun K hK => ?_) AllReadyH.nil
    go_simp
    go_at_call 32
    refine (HDG.out _).mono ?_
    rintro e w4 ⟨rfl, k4⟩
    have k5 := (Kept.refl W3).drew.trans k4
    refine hK.out _ _ ⟨k5.cell p1, k5.cell p2, k5⟩ (fun hHeld1 => ?_)
    clear hK K
    (try simp only [Act.put, List.getElem_toArray, List.getElem_cons_zero, List.getElem_cons_succ, List.setIfInBounds_toArray, List.set_cons_zero, List.set_cons_succ])
    have HK5 := Lib.hid (HK.out.trans k5)
    clear hHeld0 p1 p2 k4 k5
    refine nkC 2 ?_ (.inl ⟨by kernel_rfl, ?_⟩) ?_
    rotate_left
    ·intro w hSw; go_simp; refine if_neg ?_; have := HDL.out; have := HKL.out; (try simp only [ByteArray.size_append]); omega
    refine nkC 4 ?_ (.inl ⟨by kernel_rfl, ?_⟩) ?_
    rotate_left
    ·intro w hSw; go_simp; refine if_neg ?_; have := HDL.out; have := HKL.out; (try simp only [ByteArray.size_append]); omega
    refine nkC 5 ?_ (.inl ⟨by kernel_rfl, ?_⟩) ?_
    rotate_left
    ·intro w hSw; go_simp; refine if_neg ?_; have := HDL.out; have := HKL.out; (try simp only [ByteArray.size_append]); omega
    refine nkC 7 ?_ (.inl ⟨by kernel_rfl, ?_⟩) ?_
    rotate_left
    ·intro w hSw; go_simp; refine if_neg ?_; have := HDL.out; have := HKL.out; (try simp only [ByteArray.size_append]); omega
    refine nkC 8 ?_ (.inl ⟨by kernel_rfl, ?_⟩) ?_
    rotate_left
    ·intro w hSw; go_simp; refine if_neg ?_; have := HDL.out; have := HKL.out; (try simp only [ByteArray.size_append]); omega
    refine nkC 11 ?_ (.inl ⟨by kernel_rfl, ?_⟩) ?_
    rotate_left
    ·intro w hSw; go_simp; refine if_neg ?_; have := HDL.out; have := HKL.out; (try simp only [ByteArray.size_append]); omega
    refine nkC 12 ?_ (.inl ⟨by kernel_rfl, ?_⟩) ?_
    rotate_left
    ·intro w hSw; go_simp; refine if_neg ?_; have := HDL.out; have := HKL.out; (try simp only [ByteArray.size_append]); omega
    refine nkC 15 ?_ (.inl ⟨by kernel_rfl, ?_⟩) ?_
    rotate_left
    ·intro w hSw; go_simp; refine if_neg ?_; have := HDL.out; have := HKL.out; (try simp only [ByteArray.size_append]); omega
    refine nkH 16 ?_
    refine nkH 17 ?_
    refine wpAnyH_done (by kernel_rfl) ?_ _
    go_wp2_with fail
    go_ret2
    exact ⟨by rw [HT2.out]; first | done | rfl, HK5.out⟩
   ·by_cases hqlo : q < 1
    ·skip
     obtain ⟨k, rfl⟩ : ∃ k : Nat, n = k := ⟨n.toNat, by omega⟩
     have hk : k < 100 := by omega
     have hpn : ¬ (k : Int) < 0 := by omega
     rw [if_pos hp, show ((k : Int).natAbs) = k by simp] at HT
     have HDG := Lib.hid (dig_two9 k hk)
     have HDL := Lib.hid (And.intro (dec_len hk) (And.intro HZA.out HZB.out))
     obtain rfl : kq = 0 := HKO.out (by omega)
     have hqq : ¬ 1 ≤ q := by omega
     have hkI : (k : Int) < 100 := by omega
     clear hab hn1 hn2 hp HKI HKO hl
     generalize Lib.decDigits k = dk at HDG HDL HT
     have HT2 := Lib.hid (show ans = ((((((((⟨dk.toArray⟩ ++ ⟨#[32]⟩) ++ ⟨#[43]⟩) ++ ⟨#[32]⟩) ++ ⟨#[63]⟩) ++ ⟨#[32]⟩) ++ xa) ++ ⟨#[32, 62, 32]⟩) ++ xb : ByteArray) from by rw [HT.out]; exact (text_app9 dk [63] ⟨#[43]⟩ xa xb).symm)
     clear HT
     go_enter Tryz.func17, Tryz.ntmps17
     go_wp2_with fail
     refine HF.out.mono ?_
     rintro e w1 ⟨rfl, k1⟩
     obtain ⟨W3, hW3⟩ : ∃ W3, (w1.alloc (.cells #[.int .i64 q, .string xa, .string xb] 49)).alloc (.cells w5cs 9) = W3 := ⟨_, rfl⟩
     have HK := Lib.hid ((k1.alloc (.cells #[.int .i64 q, .string xa, .string xb] 49)).alloc (.cells w5cs 9))
     have b8 := (Blk.new w1 49 #[.int .i64 q, .string xa, .string xb]).alloc (.cells w5cs 9)
     have b9 := Blk.new (w1.alloc (.cells #[.int .i64 q, .string xa, .string xb] 49)) 9 w5cs
     rw [World.size_alloc] at b9
     rw [hW3] at HK b8 b9
     have p0 := b8.cell 0
     have p1 := b8.cell 1
     have p2 := b8.cell 2
     simp only [List.getElem?_toArray, List.getElem?_cons_zero, List.getElem?_cons_succ] at p0 p1 p2
     have HW3 := Lib.hid (show (w1.alloc (.cells #[.int .i64 q, .string xa, .string xb] 49)).alloc (.cells #[.string ⟨#[99, 97, 115, 116]⟩, .string ⟨#[103, 101, 116]⟩, .string ⟨#[112, 117, 116]⟩, .string ⟨#[99, 97, 108, 108]⟩, .string ⟨#[111, 112]⟩] 9) = W3 from hW3)
     clear hW3 b8 b9 k1
     go_wp2_with (rw [HW3.out])
     have s1 := ((Kept.refl W3).drew).cell p1
     have s2 := ((Kept.refl W3).drew).cell p2
     refine wp_region_held_drew (S := (fun W => W.cell? ⟨w1.heap.size, 1, none⟩ = some (.string xa) ∧ W.cell? ⟨w1.heap.size, 2, none⟩ = some (.string xb) ∧ Kept W3 W)) (by kernel_rfl) ⟨s1, s2, (Kept.refl W3).drew⟩ (fun hHeld0 => ?_)
     clear s1 s2 p0
     refine nkH 0 ?_
     refine nkH 3 ?_
     refine nkH 6 ?_
     refine nkH 9 ?_
     refine nkH 10 ?_
     refine nkH 13 ?_
     refine nkH 14 ?_
     refine rdH [1] ?_
     refine AllReadyH.cons rfl (fun K hK => ?_) AllReadyH.nil
     go_simp
     go_at_call 32
     refine (HDG.out _).mono ?_
     rintro e w4 ⟨rfl, k4⟩
     have k5 := (Kept.refl W3).drew.trans k4
     refine hK.out _ _ ⟨k5.cell p1, k5.cell p2, k5⟩ (fun hHeld1 => ?_)
     clear hK K
     (try simp only [Act.put, List.getElem_toArray, List.getElem_cons_zero, List.getElem_cons_succ, List.setIfInBounds_toArray, List.set_cons_zero, List.set_cons_succ])
     have HK5 := Lib.hid (HK.out.trans k5)
     clear hHeld0 p1 p2 k4 k5
     refine nkC 2 ?_ (.inl ⟨by kernel_rfl, ?_⟩) ?_
     rotate_left
     ·intro w hSw; go_simp; refine if_neg ?_; have := HDL.out; (try simp only [ByteArray.size_append]); omega
     refine nkC 4 ?_ (.inl ⟨by kernel_rfl, ?_⟩) ?_
     rotate_left
     ·intro w hSw; go_simp; refine if_neg ?_; have := HDL.out; (try simp only [ByteArray.size_append]); omega
     refine nkC 5 ?_ (.inl ⟨by kernel_rfl, ?_⟩) ?_
     rotate_left
     ·intro w hSw; go_simp; refine if_neg ?_; have := HDL.out; (try simp only [ByteArray.size_append]); omega
     refine nkC 7 ?_ (.inl ⟨by kernel_rfl, ?_⟩) ?_
     rotate_left
     ·intro w hSw; go_simp; refine if_neg ?_; have := HDL.out; (try simp only [ByteArray.size_append]); omega
     refine nkC 8 ?_ (.inl ⟨by kernel_rfl, ?_⟩) ?_
     rotate_left
     ·intro w hSw; go_simp; refine if_neg ?_; have := HDL.out; (try simp only [ByteArray.size_append]); omega
     refine nkC 11 ?_ (.inl ⟨by kernel_rfl, ?_⟩) ?_
     rotate_left
     ·intro w hSw; go_simp; refine if_neg ?_; have := HDL.out; (try simp only [ByteArray.size_append]); omega
     refine nkC 12 ?_ (.inl ⟨by kernel_rfl, ?_⟩) ?_
     rotate_left
     ·intro w hSw; go_simp; refine if_neg ?_; have := HDL.out; (try simp only [ByteArray.size_append]); omega
     refine nkC 15 ?_ (.inl ⟨by kernel_rfl, ?_⟩) ?_
     rotate_left
     ·intro w hSw; go_simp; refine if_neg ?_; have := HDL.out; (try simp only [ByteArray.size_append]); omega
     refine nkH 16 ?_
     refine nkH 17 ?_
     refine wpAnyH_done (by kernel_rfl) ?_ _
     go_wp2_with fail
     go_ret2
     exact ⟨by rw [HT2.out]; first | done | rfl, HK5.out⟩
    ·skip
     obtain ⟨k, rfl⟩ : ∃ k : Nat, n = k := ⟨n.toNat, by omega⟩
     have hk : k < 100 := by omega
     have hpn : ¬ (k : Int) < 0 := by omega
     rw [if_pos hp, show ((k : Int).natAbs) = k by simp] at HT
     have HDG := Lib.hid (dig_two9 k hk)
     have HDL := Lib.hid (And.intro (dec_len hk) (And.intro HZA.out HZB.out))
     obtain rfl : kq = 0 := HKO.out (by omega)
     have hqq : 1 ≤ q := by omega
     have hqr : ¬ q ≤ 5 := by omega
     have hkI : (k : Int) < 100 := by omega
     clear hab hn1 hn2 hp HKI HKO hl
     generalize Lib.decDigits k = dk at HDG HDL HT
     have HT2 := Lib.hid (show ans = ((((((((⟨dk.toArray⟩ ++ ⟨#[32]⟩) ++ ⟨#[43]⟩) ++ ⟨#[32]⟩) ++ ⟨#[63]⟩) ++ ⟨#[32]⟩) ++ xa) ++ ⟨#[32, 62, 32]⟩) ++ xb : ByteArray) from by rw [HT.out]; exact (text_app9 dk [63] ⟨#[43]⟩ xa xb).symm)
     clear HT
     go_enter Tryz.func17, Tryz.ntmps17
     go_wp2_with fail
     refine HF.out.mono ?_
     rintro e w1 ⟨rfl, k1⟩
     obtain ⟨W3, hW3⟩ : ∃ W3, (w1.alloc (.cells #[.int .i64 q, .string xa, .string xb] 49)).alloc (.cells w5cs 9) = W3 := ⟨_, rfl⟩
     have HK := Lib.hid ((k1.alloc (.cells #[.int .i64 q, .string xa, .string xb] 49)).alloc (.cells w5cs 9))
     have b8 := (Blk.new w1 49 #[.int .i64 q, .string xa, .string xb]).alloc (.cells w5cs 9)
     have b9 := Blk.new (w1.alloc (.cells #[.int .i64 q, .string xa, .string xb] 49)) 9 w5cs
     rw [World.size_alloc] at b9
     rw [hW3] at HK b8 b9
     have p0 := b8.cell 0
     have p1 := b8.cell 1
     have p2 := b8.cell 2
     simp only [List.getElem?_toArray, List.getElem?_cons_zero, List.getElem?_cons_succ] at p0 p1 p2
     have HW3 := Lib.hid (show (w1.alloc (.cells #[.int .i64 q, .string xa, .string xb] 49)).alloc (.cells #[.string ⟨#[99, 97, 115, 116]⟩, .string ⟨#[103, 101, 116]⟩, .string ⟨#[112, 117, 116]⟩, .string ⟨#[99, 97, 108, 108]⟩, .string ⟨#[111, 112]⟩] 9) = W3 from hW3)
     clear hW3 b8 b9 k1
     go_wp2_with (rw [HW3.out])
     have s1 := ((Kept.refl W3).drew).cell p1
     have s2 := ((Kept.refl W3).drew).cell p2
     refine wp_region_held_drew (S := (fun W => W.cell? ⟨w1.heap.size, 1, none⟩ = some (.string xa) ∧ W.cell? ⟨w1.heap.size, 2, none⟩ = some (.string xb) ∧ Kept W3 W)) (by kernel_rfl) ⟨s1, s2, (Kept.refl W3).drew⟩ (fun hHeld0 => ?_)
     clear s1 s2 p0
     refine nkH 0 ?_
     refine nkH 3 ?_
     refine nkH 6 ?_
     refine nkH 9 ?_
     refine nkH 10 ?_
     refine nkH 13 ?_
     refine nkH 14 ?_
     refine rdH [1] ?_
     refine AllReadyH.cons rfl (fun K hK => ?_) AllReadyH.nil
     go_simp
     go_at_call 32
     refine (HDG.out _).mono ?_
     rintro e w4 ⟨rfl, k4⟩
     have k5 := (Kept.refl W3).drew.trans k4
     refine hK.out _ _ ⟨k5.cell p1, k5.cell p2, k5⟩ (fun hHeld1 => ?_)
     clear hK K
     (try simp only [Act.put, List.getElem_toArray, List.getElem_cons_zero, List.getElem_cons_succ, List.setIfInBounds_toArray, List.set_cons_zero, List.set_cons_succ])
     have HK5 := Lib.hid (HK.out.trans k5)
     clear hHeld0 p1 p2 k4 k5
     refine nkC 2 ?_ (.inl ⟨by kernel_rfl, ?_⟩) ?_
     rotate_left
     ·intro w hSw; go_simp; refine if_neg ?_; have := HDL.out; (try simp only [ByteArray.size_append]); omega
     refine nkC 4 ?_ (.inl ⟨by kernel_rfl, ?_⟩) ?_
     rotate_left
     ·intro w hSw; go_simp; refine if_neg ?_; have := HDL.out; (try simp only [ByteArray.size_append]); omega
     refine nkC 5 ?_ (.inl ⟨by kernel_rfl, ?_⟩) ?_
     rotate_left
     ·intro w hSw; go_simp; refine if_neg ?_; have := HDL.out; (try simp only [ByteArray.size_append]); omega
     refine nkC 7 ?_ (.inl ⟨by kernel_rfl, ?_⟩) ?_
     rotate_left
     ·intro w hSw; go_simp; refine if_neg ?_; have := HDL.out; (try simp only [ByteArray.size_append]); omega
     refine nkC 8 ?_ (.inl ⟨by kernel_rfl, ?_⟩) ?_
     rotate_left
     ·intro w hSw; go_simp; refine if_neg ?_; have := HDL.out; (try simp only [ByteArray.size_append]); omega
     refine nkC 11 ?_ (.inl ⟨by kernel_rfl, ?_⟩) ?_
     rotate_left
     ·intro w hSw; go_simp; refine if_neg ?_; have := HDL.out; (try simp only [ByteArray.size_append]); omega
     refine nkC 12 ?_ (.inl ⟨by kernel_rfl, ?_⟩) ?_
     rotate_left
     ·intro w hSw; go_simp; refine if_neg ?_; have := HDL.out; (try simp only [ByteArray.size_append]); omega
     refine nkC 15 ?_ (.inl ⟨by kernel_rfl, ?_⟩) ?_
     rotate_left
     ·intro w hSw; go_simp; refine if_neg ?_; have := HDL.out; (try simp only [ByteArray.size_append]); omega
     refine nkH 16 ?_
     refine nkH 17 ?_
     refine wpAnyH_done (by kernel_rfl) ?_ _
     go_wp2_with fail
     go_ret2
     exact ⟨by rw [HT2.out]; first | done | rfl, HK5.out⟩
  ·skip
   by_cases hq : 1 ≤ q ∧ q ≤ 5
   ·skip
    obtain ⟨k, rfl⟩ : ∃ k : Nat, n = -(k : Int) := ⟨(-n).toNat, by omega⟩
    have hk : k < 100 := by omega
    have hpn : -(k : Int) < 0 := by omega
    have hneg : - -(k : Int) = (k : Int) := by omega
    rw [if_neg hp, show ((-(k : Int)).natAbs) = k by simp] at HT
    have HDG := Lib.hid (dig_two9 k hk)
    have HDL := Lib.hid (And.intro (dec_len hk) (And.intro HZA.out HZB.out))
    obtain rfl : kq = q := HKI.out hq.1 hq.2
    obtain ⟨hq1, hq2⟩ := hq
    have HKL := Lib.hid (kindW_len kq)
    have hkI : (k : Int) < 100 := by omega
    clear hab hn1 hn2 hp HKI HKO hl
    generalize Lib.decDigits k = dk at HDG HDL HT
    obtain ⟨kw, hkw⟩ : ∃ kw, Tab.kindW kq = kw := ⟨_, rfl⟩
    rw [hkw] at HT HKL
    have HT2 := Lib.hid (show ans = ((((((((⟨dk.toArray⟩ ++ ⟨#[32]⟩) ++ ⟨#[45]⟩) ++ ⟨#[32]⟩) ++ ⟨kw.toArray⟩) ++ ⟨#[32]⟩) ++ xa) ++ ⟨#[32, 62, 32]⟩) ++ xb : ByteArray) from by rw [HT.out]; exact (text_app9 dk kw ⟨#[45]⟩ xa xb).symm)
    clear HT
    go_enter Tryz.func17, Tryz.ntmps17
    go_wp2_with fail
    refine HF.out.mono ?_
    rintro e w1 ⟨rfl, k1⟩
    obtain ⟨W3, hW3⟩ : ∃ W3, (w1.alloc (.cells #[.int .i64 kq, .string xa, .string xb] 49)).alloc (.cells w5cs 9) = W3 := ⟨_, rfl⟩
    have HK := Lib.hid ((k1.alloc (.cells #[.int .i64 kq, .string xa, .string xb] 49)).alloc (.cells w5cs 9))
    have b8 := (Blk.new w1 49 #[.int .i64 kq, .string xa, .string xb]).alloc (.cells w5cs 9)
    have b9 := Blk.new (w1.alloc (.cells #[.int .i64 kq, .string xa, .string xb] 49)) 9 w5cs
    rw [World.size_alloc] at b9
    rw [hW3] at HK b8 b9
    have p0 := b8.cell 0
    have p1 := b8.cell 1
    have p2 := b8.cell 2
    simp only [List.getElem?_toArray, List.getElem?_cons_zero, List.getElem?_cons_succ] at p0 p1 p2
    have pw := word_cell b9 hq1 hq2
    rw [hkw] at pw
    have HW3 := Lib.hid (show (w1.alloc (.cells #[.int .i64 kq, .string xa, .string xb] 49)).alloc (.cells #[.string ⟨#[99, 97, 115, 116]⟩, .string ⟨#[103, 101, 116]⟩, .string ⟨#[112, 117, 116]⟩, .string ⟨#[99, 97, 108, 108]⟩, .string ⟨#[111, 112]⟩] 9) = W3 from hW3)
    clear hW3 b8 b9 k1 hkw
    go_wp2_with (rw [HW3.out])
    have s1 := ((Kept.refl W3).drew).cell p1
    have s2 := ((Kept.refl W3).drew).cell p2
    refine wp_region_held_drew (S := (fun W => W.cell? ⟨w1.heap.size, 1, none⟩ = some (.string xa) ∧ W.cell? ⟨w1.heap.size, 2, none⟩ = some (.string xb) ∧ Kept W3 W)) (by kernel_rfl) ⟨s1, s2, (Kept.refl W3).drew⟩ (fun hHeld0 => ?_)
    clear s1 s2 p0 pw
    refine nkH 0 ?_
    refine nkH 3 ?_
    refine nkH 6 ?_
    refine nkH 9 ?_
    refine nkH 10 ?_
    refine nkH 13 ?_
    refine nkH 14 ?_
    refine rdH [1] ?_
    refine AllReadyH.cons rfl (fun K hK => ?_) AllReadyH.nil
    go_simp
    go_at_call 32
    refine (HDG.out _).mono ?_
    rintro e w4 ⟨rfl, k4⟩
    have k5 := (Kept.refl W3).drew.trans k4
    refine hK.out _ _ ⟨k5.cell p1, k5.cell p2, k5⟩ (fun hHeld1 => ?_)
    clear hK K
    (try simp only [Act.put, List.getElem_toArray, List.getElem_cons_zero, List.getElem_cons_succ, List.setIfInBounds_toArray, List.set_cons_zero, List.set_cons_succ])
    have HK5 := Lib.hid (HK.out.trans k5)
    clear hHeld0 p1 p2 k4 k5
    refine nkC 2 ?_ (.inl ⟨by kernel_rfl, ?_⟩) ?_
    rotate_left
    ·intro w hSw; go_simp; refine if_neg ?_; have := HDL.out; have := HKL.out; (try simp only [ByteArray.size_append]); omega
    refine nkC 4 ?_ (.inl ⟨by kernel_rfl, ?_⟩) ?_
    rotate_left
    ·intro w hSw; go_simp; refine if_neg ?_; have := HDL.out; have := HKL.out; (try simp only [ByteArray.size_append]); omega
    refine nkC 5 ?_ (.inl ⟨by kernel_rfl, ?_⟩) ?_
    rotate_left
    ·intro w hSw; go_simp; refine if_neg ?_; have := HDL.out; have := HKL.out; (try simp only [ByteArray.size_append]); omega
    refine nkC 7 ?_ (.inl ⟨by kernel_rfl, ?_⟩) ?_
    rotate_left
    ·intro w hSw; go_simp; refine if_neg ?_; have := HDL.out; have := HKL.out; (try simp only [ByteArray.size_append]); omega
    refine nkC 8 ?_ (.inl ⟨by kernel_rfl, ?_⟩) ?_
    rotate_left
    ·intro w hSw; go_simp; refine if_neg ?_; have := HDL.out; have := HKL.out; (try simp only [ByteArray.size_append]); omega
    refine nkC 11 ?_ (.inl ⟨by kernel_rfl, ?_⟩) ?_
    rotate_left
    ·intro w hSw; go_simp; refine if_neg ?_; have := HDL.out; have := HKL.out; (try simp only [ByteArray.size_append]); omega
    refine nkC 12 ?_ (.inl ⟨by kernel_rfl, ?_⟩) ?_
    rotate_left
    ·intro w hSw; go_simp; refine if_neg ?_; have := HDL.out; have := HKL.out; (try simp only [ByteArray.size_append]); omega
    refine nkC 15 ?_ (.inl ⟨by kernel_rfl, ?_⟩) ?_
    rotate_left
    ·intro w hSw; go_simp; refine if_neg ?_; have := HDL.out; have := HKL.out; (try simp only [ByteArray.size_append]); omega
    refine nkH 16 ?_
    refine nkH 17 ?_
    refine wpAnyH_done (by kernel_rfl) ?_ _
    go_wp2_with fail
    go_ret2
    exact ⟨by rw [HT2.out]; first | done | rfl, HK5.out⟩
   ·by_cases hqlo : q < 1
    ·skip
     obtain ⟨k, rfl⟩ : ∃ k : Nat, n = -(k : Int) := ⟨(-n).toNat, by omega⟩
     have hk : k < 100 := by omega
     have hpn : -(k : Int) < 0 := by omega
     have hneg : - -(k : Int) = (k : Int) := by omega
     rw [if_neg hp, show ((-(k : Int)).natAbs) = k by simp] at HT
     have HDG := Lib.hid (dig_two9 k hk)
     have HDL := Lib.hid (And.intro (dec_len hk) (And.intro HZA.out HZB.out))
     obtain rfl : kq = 0 := HKO.out (by omega)
     have hqq : ¬ 1 ≤ q := by omega
     have hkI : (k : Int) < 100 := by omega
     clear hab hn1 hn2 hp HKI HKO hl
     generalize Lib.decDigits k = dk at HDG HDL HT
     have HT2 := Lib.hid (show ans = ((((((((⟨dk.toArray⟩ ++ ⟨#[32]⟩) ++ ⟨#[45]⟩) ++ ⟨#[32]⟩) ++ ⟨#[63]⟩) ++ ⟨#[32]⟩) ++ xa) ++ ⟨#[32, 62, 32]⟩) ++ xb : ByteArray) from by rw [HT.out]; exact (text_app9 dk [63] ⟨#[45]⟩ xa xb).symm)
     clear HT
     go_enter Tryz.func17, Tryz.ntmps17
     go_wp2_with fail
     refine HF.out.mono ?_
     rintro e w1 ⟨rfl, k1⟩
     obtain ⟨W3, hW3⟩ : ∃ W3, (w1.alloc (.cells #[.int .i64 q, .string xa, .string xb] 49)).alloc (.cells w5cs 9) = W3 := ⟨_, rfl⟩
     have HK := Lib.hid ((k1.alloc (.cells #[.int .i64 q, .string xa, .string xb] 49)).alloc (.cells w5cs 9))
     have b8 := (Blk.new w1 49 #[.int .i64 q, .string xa, .string xb]).alloc (.cells w5cs 9)
     have b9 := Blk.new (w1.alloc (.cells #[.int .i64 q, .string xa, .string xb] 49)) 9 w5cs
     rw [World.size_alloc] at b9
     rw [hW3] at HK b8 b9
     have p0 := b8.cell 0
     have p1 := b8.cell 1
     have p2 := b8.cell 2
     simp only [List.getElem?_toArray, List.getElem?_cons_zero, List.getElem?_cons_succ] at p0 p1 p2
     have HW3 := Lib.hid (show (w1.alloc (.cells #[.int .i64 q, .string xa, .string xb] 49)).alloc (.cells #[.string ⟨#[99, 97, 115, 116]⟩, .string ⟨#[103, 101, 116]⟩, .string ⟨#[112, 117, 116]⟩, .string ⟨#[99, 97, 108, 108]⟩, .string ⟨#[111, 112]⟩] 9) = W3 from hW3)
     clear hW3 b8 b9 k1
     go_wp2_with (rw [HW3.out])
     have s1 := ((Kept.refl W3).drew).cell p1
     have s2 := ((Kept.refl W3).drew).cell p2
     refine wp_region_held_drew (S := (fun W => W.cell? ⟨w1.heap.size, 1, none⟩ = some (.string xa) ∧ W.cell? ⟨w1.heap.size, 2, none⟩ = some (.string xb) ∧ Kept W3 W)) (by kernel_rfl) ⟨s1, s2, (Kept.refl W3).drew⟩ (fun hHeld0 => ?_)
     clear s1 s2 p0
     refine nkH 0 ?_
     refine nkH 3 ?_
     refine nkH 6 ?_
     refine nkH 9 ?_
     refine nkH 10 ?_
     refine nkH 13 ?_
     refine nkH 14 ?_
     refine rdH [1] ?_
     refine AllReadyH.cons rfl (fun K hK => ?_) AllReadyH.nil
     go_simp
     go_at_call 32
     refine (HDG.out _).mono ?_
     rintro e w4 ⟨rfl, k4⟩
     have k5 := (Kept.refl W3).drew.trans k4
     refine hK.out _ _ ⟨k5.cell p1, k5.cell p2, k5⟩ (fun hHeld1 => ?_)
     clear hK K
     (try simp only [Act.put, List.getElem_toArray, List.getElem_cons_zero, List.getElem_cons_succ, List.setIfInBounds_toArray, List.set_cons_zero, List.set_cons_succ])
     have HK5 := Lib.hid (HK.out.trans k5)
     clear hHeld0 p1 p2 k4 k5
     refine nkC 2 ?_ (.inl ⟨by kernel_rfl, ?_⟩) ?_
     rotate_left
     ·intro w hSw; go_simp; refine if_neg ?_; have := HDL.out; (try simp only [ByteArray.size_append]); omega
     refine nkC 4 ?_ (.inl ⟨by kernel_rfl, ?_⟩) ?_
     rotate_left
     ·intro w hSw; go_simp; refine if_neg ?_; have := HDL.out; (try simp only [ByteArray.size_append]); omega
     refine nkC 5 ?_ (.inl ⟨by kernel_rfl, ?_⟩) ?_
     rotate_left
     ·intro w hSw; go_simp; refine if_neg ?_; have := HDL.out; (try simp only [ByteArray.size_append]); omega
     refine nkC 7 ?_ (.inl ⟨by kernel_rfl, ?_⟩) ?_
     rotate_left
     ·intro w hSw; go_simp; refine if_neg ?_; have := HDL.out; (try simp only [ByteArray.size_append]); omega
     refine nkC 8 ?_ (.inl ⟨by kernel_rfl, ?_⟩) ?_
     rotate_left
     ·intro w hSw; go_simp; refine if_neg ?_; have := HDL.out; (try simp only [ByteArray.size_append]); omega
     refine nkC 11 ?_ (.inl ⟨by kernel_rfl, ?_⟩) ?_
     rotate_left
     ·intro w hSw; go_simp; refine if_neg ?_; have := HDL.out; (try simp only [ByteArray.size_append]); omega
     refine nkC 12 ?_ (.inl ⟨by kernel_rfl, ?_⟩) ?_
     rotate_left
     ·intro w hSw; go_simp; refine if_neg ?_; have := HDL.out; (try simp only [ByteArray.size_append]); omega
     refine nkC 15 ?_ (.inl ⟨by kernel_rfl, ?_⟩) ?_
     rotate_left
     ·intro w hSw; go_simp; refine if_neg ?_; have := HDL.out; (try simp only [ByteArray.size_append]); omega
     refine nkH 16 ?_
     refine nkH 17 ?_
     refine wpAnyH_done (by kernel_rfl) ?_ _
     go_wp2_with fail
     go_ret2
     exact ⟨by rw [HT2.out]; first | done | rfl, HK5.out⟩
    ·skip
     obtain ⟨k, rfl⟩ : ∃ k : Nat, n = -(k : Int) := ⟨(-n).toNat, by omega⟩
     have hk : k < 100 := by omega
     have hpn : -(k : Int) < 0 := by omega
     have hneg : - -(k : Int) = (k : Int) := by omega
     rw [if_neg hp, show ((-(k : Int)).natAbs) = k by simp] at HT
     have HDG := Lib.hid (dig_two9 k hk)
     have HDL := Lib.hid (And.intro (dec_len hk) (And.intro HZA.out HZB.out))
     obtain rfl : kq = 0 := HKO.out (by omega)
     have hqq : 1 ≤ q := by omega
     have hqr : ¬ q ≤ 5 := by omega
     have hkI : (k : Int) < 100 := by omega
     clear hab hn1 hn2 hp HKI HKO hl
     generalize Lib.decDigits k = dk at HDG HDL HT
     have HT2 := Lib.hid (show ans = ((((((((⟨dk.toArray⟩ ++ ⟨#[32]⟩) ++ ⟨#[45]⟩) ++ ⟨#[32]⟩) ++ ⟨#[63]⟩) ++ ⟨#[32]⟩) ++ xa) ++ ⟨#[32, 62, 32]⟩) ++ xb : ByteArray) from by rw [HT.out]; exact (text_app9 dk [63] ⟨#[45]⟩ xa xb).symm)
     clear HT
     go_enter Tryz.func17, Tryz.ntmps17
     go_wp2_with fail
     refine HF.out.mono ?_
     rintro e w1 ⟨rfl, k1⟩
     obtain ⟨W3, hW3⟩ : ∃ W3, (w1.alloc (.cells #[.int .i64 q, .string xa, .string xb] 49)).alloc (.cells w5cs 9) = W3 := ⟨_, rfl⟩
     have HK := Lib.hid ((k1.alloc (.cells #[.int .i64 q, .string xa, .string xb] 49)).alloc (.cells w5cs 9))
     have b8 := (Blk.new w1 49 #[.int .i64 q, .string xa, .string xb]).alloc (.cells w5cs 9)
     have b9 := Blk.new (w1.alloc (.cells #[.int .i64 q, .string xa, .string xb] 49)) 9 w5cs
     rw [World.size_alloc] at b9
     rw [hW3] at HK b8 b9
     have p0 := b8.cell 0
     have p1 := b8.cell 1
     have p2 := b8.cell 2
     simp only [List.getElem?_toArray, List.getElem?_cons_zero, List.getElem?_cons_succ] at p0 p1 p2
     have HW3 := Lib.hid (show (w1.alloc (.cells #[.int .i64 q, .string xa, .string xb] 49)).alloc (.cells #[.string ⟨#[99, 97, 115, 116]⟩, .string ⟨#[103, 101, 116]⟩, .string ⟨#[112, 117, 116]⟩, .string ⟨#[99, 97, 108, 108]⟩, .string ⟨#[111, 112]⟩] 9) = W3 from hW3)
     clear hW3 b8 b9 k1
     go_wp2_with (rw [HW3.out])
     have s1 := ((Kept.refl W3).drew).cell p1
     have s2 := ((Kept.refl W3).drew).cell p2
     refine wp_region_held_drew (S := (fun W => W.cell? ⟨w1.heap.size, 1, none⟩ = some (.string xa) ∧ W.cell? ⟨w1.heap.size, 2, none⟩ = some (.string xb) ∧ Kept W3 W)) (by kernel_rfl) ⟨s1, s2, (Kept.refl W3).drew⟩ (fun hHeld0 => ?_)
     clear s1 s2 p0
     refine nkH 0 ?_
     refine nkH 3 ?_
     refine nkH 6 ?_
     refine nkH 9 ?_
     refine nkH 10 ?_
     refine nkH 13 ?_
     refine nkH 14 ?_
     refine rdH [1] ?_
     refine AllReadyH.cons rfl (fun K hK => ?_) AllReadyH.nil
     go_simp
     go_at_call 32
     refine (HDG.out _).mono ?_
     rintro e w4 ⟨rfl, k4⟩
     have k5 := (Kept.refl W3).drew.trans k4
     refine hK.out _ _ ⟨k5.cell p1, k5.cell p2, k5⟩ (fun hHeld1 => ?_)
     clear hK K
     (try simp only [Act.put, List.getElem_toArray, List.getElem_cons_zero, List.getElem_cons_succ, List.setIfInBounds_toArray, List.set_cons_zero, List.set_cons_succ])
     have HK5 := Lib.hid (HK.out.trans k5)
     clear hHeld0 p1 p2 k4 k5
     refine nkC 2 ?_ (.inl ⟨by kernel_rfl, ?_⟩) ?_
     rotate_left
     ·intro w hSw; go_simp; refine if_neg ?_; have := HDL.out; (try simp only [ByteArray.size_append]); omega
     refine nkC 4 ?_ (.inl ⟨by kernel_rfl, ?_⟩) ?_
     rotate_left
     ·intro w hSw; go_simp; refine if_neg ?_; have := HDL.out; (try simp only [ByteArray.size_append]); omega
     refine nkC 5 ?_ (.inl ⟨by kernel_rfl, ?_⟩) ?_
     rotate_left
     ·intro w hSw; go_simp; refine if_neg ?_; have := HDL.out; (try simp only [ByteArray.size_append]); omega
     refine nkC 7 ?_ (.inl ⟨by kernel_rfl, ?_⟩) ?_
     rotate_left
     ·intro w hSw; go_simp; refine if_neg ?_; have := HDL.out; (try simp only [ByteArray.size_append]); omega
     refine nkC 8 ?_ (.inl ⟨by kernel_rfl, ?_⟩) ?_
     rotate_left
     ·intro w hSw; go_simp; refine if_neg ?_; have := HDL.out; (try simp only [ByteArray.size_append]); omega
     refine nkC 11 ?_ (.inl ⟨by kernel_rfl, ?_⟩) ?_
     rotate_left
     ·intro w hSw; go_simp; refine if_neg ?_; have := HDL.out; (try simp only [ByteArray.size_append]); omega
     refine nkC 12 ?_ (.inl ⟨by kernel_rfl, ?_⟩) ?_
     rotate_left
     ·intro w hSw; go_simp; refine if_neg ?_; have := HDL.out; (try simp only [ByteArray.size_append]); omega
     refine nkC 15 ?_ (.inl ⟨by kernel_rfl, ?_⟩) ?_
     rotate_left
     ·intro w hSw; go_simp; refine if_neg ?_; have := HDL.out; (try simp only [ByteArray.size_append]); omega
     refine nkH 16 ?_
     refine nkH 17 ?_
     refine wpAnyH_done (by kernel_rfl) ?_ _
     go_wp2_with fail
     go_ret2
     exact ⟨by rw [HT2.out]; first | done | rfl, HK5.out⟩
end Go.Proofs.YtjdkegfckkbpeaaGreatDoor
namespace Go.Proofs.YtjdkegfckkbpeaaGreatDoor
open Go.ChangeShapes Go.WideShapes Go.ChangeAt Go.RowKit
theorem sidesV_form (l : List Tab.St) (n : Int) : ∃ c d e, sidesV l n = .tuple #[.string c, .string d, .int .i64 e] := by
 unfold sidesV
 cases Tab.siteAt l n with
 | none => exact ⟨_, _, _, rfl⟩
 | some x => exact ⟨_, _, _, rfl⟩
theorem mayV_form (t : List Tab.C) (l : List Tab.St) (n : Int) : ∃ b e, mayV t l n = .tuple #[.bool b, .int .i64 e] := by
 unfold mayV
 cases Tab.siteAt l n with
 | none => exact ⟨_, _, rfl⟩
 | some x => exact ⟨_, _, rfl⟩
theorem textV_form (l : List Tab.St) (n : Int) : ∃ s e, textV l n = .tuple #[.string s, .int .i64 e] := by
 unfold textV
 cases Tab.siteAt l n with
 | none => exact ⟨_, _, rfl⟩
 | some x => exact ⟨_, _, rfl⟩
set_option maxHeartbeats 8000000 in
theorem tells9_c (t : List Tab.C) (a : Option Addr) (cp : Nat) (l : List Tab.St) (sa : Option Addr) (sc : Nat) (x1 : Int) (w : World) (hTb : Tb w) (hKw : Kw w) (h : TabAt w (.slice a t.length cp) t) (hs : SitesAt w (.slice sa l.length sc) l) (p1 : -9223372036854775808 ≤ x1) (q1 : x1 ≤ 9223372036854775807) :
  Calls Tryz.prog 4 #[.slice a t.length cp, .slice sa l.length sc, .int .i64 x1] w fun e w' => e = .returned (.bool true) ∧ Kept w w' := by
 have HT := Lib.hid h
 have HSI := Lib.hid hs
 have HA := Lib.hid (fun (W : World) (k : Kept w W) => awake9_c W (hTb.kept k))
 have HS1 := Lib.hid (fun (W : World) (k : Kept w W) => sidesS_c l sa sc x1 W (sites_kept hs k) p1 q1)
 have HS2 := Lib.hid (fun (W : World) (k : Kept w W) => rsides9_c l sa sc x1 W (sites_kept hs k) p1 q1)
 have HM1 := Lib.hid (fun (hS : Small t) (W : World) (k : Kept w W) => mayS_c t a cp l sa sc x1 W (hTb.kept k) (tab_kept h k) hS (sites_kept hs k) p1 q1)
 have HM2 := Lib.hid (fun (hS : Small t) (W : World) (k : Kept w W) => rmay9_c t a cp l sa sc x1 W (tab_kept h k) hS (sites_kept hs k) p1 q1)
 have HT1 := Lib.hid (fun (hl : l.length < 100) (hz : ∀ x ∈ l, x.a.size ≤ 1000 ∧ x.b.size ≤ 1000) (W : World) (k : Kept w W) => textS_c l sa sc x1 W (hKw.kept k) (sites_kept hs k) p1 q1 hl hz)
 have HT2 := Lib.hid (fun (hl : l.length < 100) (hz : ∀ x ∈ l, x.a.size ≤ 1000 ∧ x.b.size ≤ 1000) (W : World) (k : Kept w W) => rtext9_c l sa sc x1 W (sites_kept hs k) p1 q1 hl hz)
 obtain ⟨c, d, e1, hS⟩ := sidesV_form l x1
 obtain ⟨m, e2, hM⟩ := mayV_form t l x1
 obtain ⟨s, e3, hX⟩ := textV_form l x1
 rw [hS] at HS1 HS2
 rw [hM] at HM1 HM2
 rw [hX] at HT1 HT2
 have hc : (c.toList == c.toList) = true := beq_self_eq_true _
 have hd : (d.toList == d.toList) = true := beq_self_eq_true _
 have hx : (s.toList == s.toList) = true := beq_self_eq_true _
 have hm : (m == m) = true := beq_self_eq_true _
 have hf1 : (e1 == e1) = true := beq_self_eq_true _
 have hf2 : (e2 == e2) = true := beq_self_eq_true _
 have hf3 : (e3 == e3) = true := beq_self_eq_true _
 clear hTb hKw h hs hS hM hX
 go_enter Tryz.func4, Tryz.ntmps4
 go_wp2_with fail
 refine (long_c t (.slice a t.length cp) w HT.out).mono ?_
 rintro e w1 ⟨⟨lb, rfl, hsh⟩, k1⟩
 have HK1 := Lib.hid k1
 clear k1
 cases lb with
 | true =>
  clear hsh
  go_wp2_with fail
  refine (HA.out _ HK1.out).mono ?_
  rintro e w2 ⟨rfl, k2⟩
  go_wp2_with fail
  go_ret
  exact ⟨rfl, HK1.out.trans k2⟩
 | false =>
  have HSM := Lib.hid (short_small (hsh rfl))
  clear hsh
  go_wp2_with fail
  refine (longS_c l _ w1 (sites_kept HSI.out HK1.out)).mono ?_
  rintro e w2' ⟨⟨sb, rfl, hsh⟩, rfl⟩
  cases sb with
  | true =>
   clear hsh
   go_wp2_with fail
   refine (HA.out _ HK1.out).mono ?_
   rintro e w2 ⟨rfl, k2⟩
   go_wp2_with fail
   go_ret
   exact ⟨rfl, HK1.out.trans k2⟩
  | false =>
   obtain ⟨hl12, hshort⟩ := hsh rfl
   have HLL := Lib.hid (show l.length < 100 by omega)
   have HZZ := Lib.hid (show ∀ x ∈ l, x.a.size ≤ 1000 ∧ x.b.size ≤ 1000 from fun x hx => ⟨Nat.le_trans (hshort x hx).1 (by omega), Nat.le_trans (hshort x hx).2 (by omega)⟩)
   clear hsh hshort hl12
   go_wp2_with fail
   refine (HS1.out _ HK1.out).mono ?_
   rintro e w3 ⟨rfl, k3⟩
   have HK3 := Lib.hid (HK1.out.trans k3)
   clear k3
   go_wp2_with fail
   refine (HS2.out _ HK3.out).mono ?_
   rintro e w4 ⟨rfl, k4⟩
   have HK4 := Lib.hid (HK3.out.trans k4)
   clear k4
   go_wp2_with fail
   refine (HM1.out HSM.out _ HK4.out).mono ?_
   rintro e w5 ⟨rfl, k5⟩
   have HK5 := Lib.hid (HK4.out.trans k5)
   clear k5
   go_wp2_with fail
   refine (HM2.out HSM.out _ HK5.out).mono ?_
   rintro e w6 ⟨rfl, k6⟩
   have HK6 := Lib.hid (HK5.out.trans k6)
   clear k6
   go_wp2_with fail
   refine (HT1.out HLL.out HZZ.out _ HK6.out).mono ?_
   rintro e w7 ⟨rfl, k7⟩
   have HK7 := Lib.hid (HK6.out.trans k7)
   clear k7
   go_wp2_with fail
   refine (HT2.out HLL.out HZZ.out _ HK7.out).mono ?_
   rintro e w8 ⟨rfl, k8⟩
   have HK8 := Lib.hid (HK7.out.trans k8)
   clear k8
   go_wp2_with fail
   refine (HA.out _ HK8.out).mono ?_
   rintro e w9 ⟨rfl, k9⟩
   go_wp2_with fail
   go_ret
   exact ⟨rfl, HK8.out.trans k9⟩
end Go.Proofs.YtjdkegfckkbpeaaGreatDoor
