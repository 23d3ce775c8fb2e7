/- The contract of sites.Text; the table of the kinds' words. A map from the sides of sites: what a look-up tells, what a store makes of it. The contract of sites.Check. The chapter's table and sites, made by the law's own helpers, and its examples. A slice of sites that came in, opened to its cells. The laws of sites: SitesCasts; the helper LongSites. From what a row lists to what the walks ask: the table of the kinds' words. -/
import Derived.Test.YtjdkegfckkbpeaaGreatDoorQSsn
import Derived.Test.YtjdkegfckkbpeaaGreatDoorQShelf
import Derived.Deep.RegionHeld3
import Derived.Test.YtjdkegfckkbpeaaGreatDoorQz4
import Derived.DeepKeys4
import Derived.Maps.Range
import Derived.Maps.Views
import Derived.WalkKit
import Derived.Sort.MapsRangeIn
import Derived.Test.YtjdkegfckkbpeaaGreatDoorQz26
set_option linter.unusedSimpArgs false
set_option linter.unusedVariables false
set_option maxRecDepth 100000
namespace Go.Proofs.YtjdkegfckkbpeaaGreatDoor
open Go.ChangeShapes Go.WideShapes Go.ChangeAt Go.RowKit
theorem joinExtra : Builder.Extra Tryz.prog Tryz.lays156_ren where
 sizeBuilder := by kernel_rfl
 liesBuilder := by kernel_rfl
 t5 := Tryz.underlying5
 a5 := Tryz.isAgg5
 z5 := Tryz.sizeOf5
 v5 := Tryz.zeroValue5
 infoByte := by kernel_rfl
 cellsByte := by kernel_rfl
 sizeByte := by kernel_rfl
 neB5 := by decide
theorem joinT_c (b c : Nat) (xs : List ByteArray) (sep : ByteArray) (w : World) (hcells : ∀ (j : Nat) x, xs[j]? = some x → w.cell? ⟨b, 0 + j, none⟩ = some (.string x)) (hbk : b < w.heap.size) (hN : xs.length ≤ 140737488355328) (hcap : xs.length ≤ c)
  (hlen : (Lib.join (xs.map (·.data.toList)) sep.data.toList).length ≤ 140737488355328) :
  Calls Tryz.prog 30 #[.slice (some ⟨b, 0, none⟩) xs.length c, .string sep] w fun e w' => e = .returned (.string ⟨(Lib.join (xs.map (·.data.toList)) sep.data.toList).toArray⟩) ∧ Kept w w' :=
 (Any.strings_Join Tryz.lays156 joinExtra b 0 c xs sep w hcells hbk hN hcap hlen).mono fun _ _ h => ⟨h.1, Kept.of_below h.2⟩
theorem itoa_c (i : Nat) (hi : i < 100) (w : World) : Calls Tryz.prog 31 #[.int .i64 i] w fun e w' => e = .returned (.string ⟨(Lib.decDigits i).toArray⟩) ∧ w' = w :=
 Any.strconv_Itoa_small Tryz.lays171 i hi w
def kwcs : Array Value := #[.string ⟨#[63]⟩, .string ⟨#[99, 97, 115, 116]⟩, .string ⟨#[103, 101, 116]⟩, .string ⟨#[112, 117, 116]⟩, .string ⟨#[99, 97, 108, 108]⟩, .string ⟨#[111, 112]⟩]
def Kw (w : World) : Prop := ∃ t fr, w.heap[0]? = some (.cells kwcs t fr)
theorem Kw.kept {w w' : World} (h : Kw w) (k : Kept w w') : Kw w' := by
 obtain ⟨t, fr, a⟩ := h
 exact ⟨t, fr, (k.block _ (Array.getElem?_eq_some_iff.1 a).1).trans a⟩
theorem Kw.cell {w : World} (h : Kw w) {q : Int} (h0 : 0 ≤ q) (h1 : q < 6) : w.cell? ⟨0, q.toNat, none⟩ = some (.string ⟨(Tab.kindW q).toArray⟩) := by
 obtain ⟨t, fr, a⟩ := h
 rw [cell_of_row w _ _ _ t fr a]
 have : q = 0 ∨ q = 1 ∨ q = 2 ∨ q = 3 ∨ q = 4 ∨ q = 5 := by omega
 rcases this with rfl | rfl | rfl | rfl | rfl | rfl <;> rfl
theorem dec_len {k : Nat} (h : k < 100) : (Lib.decDigits k).length ≤ 2 := by
 rw [Lib.decDigits]
 split
 ·simp
 ·rw [Lib.decDigits, dif_pos (by omega)]
  simp
theorem kindW_len (q : Int) : (Tab.kindW q).length ≤ 4 := by
 unfold Tab.kindW
 repeat' split
 all_goals decide
theorem join6_len (p q r s t u : List UInt8) : (Lib.join [p, q, r, s, t, u] [32]).length = p.length + q.length + r.length + s.length + t.length + u.length + 5 := by
 rw [Lib.join_cons, List.length_append, Lib.joinTail_length]
 simp [Lib.lens]
 omega
theorem join6_c (dk kw : List UInt8) (sg x y : ByteArray) (W : World) (h1 : dk.length ≤ 2) (h2 : sg.size ≤ 1) (h3 : kw.length ≤ 4) (h4 : x.size ≤ 1000) (h5 : y.size ≤ 1000) :
  Calls Tryz.prog 30 #[.slice (some ⟨W.heap.size, 0, none⟩) 6 6, .string ⟨#[32]⟩] (W.alloc (.cells #[.string ⟨dk.toArray⟩, .string sg, .string ⟨kw.toArray⟩, .string x, .string ⟨#[62]⟩, .string y] 9)) fun e w' =>
   e = .returned (.string ⟨(Lib.join [dk, sg.data.toList, kw, x.data.toList, [62], y.data.toList] [32]).toArray⟩) ∧ Kept (W.alloc (.cells #[.string ⟨dk.toArray⟩, .string sg, .string ⟨kw.toArray⟩, .string x, .string ⟨#[62]⟩, .string y] 9)) w' := by
 have hB := Blk.new W 9 #[.string ⟨dk.toArray⟩, .string sg, .string ⟨kw.toArray⟩, .string x, .string ⟨#[62]⟩, .string y]
 have h := joinT_c W.heap.size 6 [⟨dk.toArray⟩, sg, ⟨kw.toArray⟩, x, ⟨#[62]⟩, y] ⟨#[32]⟩ (W.alloc (.cells #[.string ⟨dk.toArray⟩, .string sg, .string ⟨kw.toArray⟩, .string x, .string ⟨#[62]⟩, .string y] 9)) (by
  intro j z hz
  rw [Nat.zero_add, hB.cell]
  match j, hz with
  | 0, hz => cases hz; rfl
  | 1, hz => cases hz; rfl
  | 2, hz => cases hz; rfl
  | 3, hz => cases hz; rfl
  | 4, hz => cases hz; rfl
  | 5, hz => cases hz; rfl) hB.lt (by simp) (by simp) (by
   have e1 : sg.data.toList.length = sg.size := Array.length_toList
   have e2 : x.data.toList.length = x.size := Array.length_toList
   have e3 : y.data.toList.length = y.size := Array.length_toList
   have := join6_len dk sg.data.toList kw x.data.toList [62] y.data.toList
   simp only [List.map_cons, List.map_nil]
   show (Lib.join [dk, sg.data.toList, kw, x.data.toList, [62], y.data.toList] [32]).length ≤ _
   rw [this, e1, e2, e3]
   simp
   omega)
 exact h
def textV (l : List Tab.St) (n : Int) : Value := match Tab.siteAt l n with
 | none => .tuple #[.string ⟨#[]⟩, .int .i64 3]
 | some x => .tuple #[.string (Tab.textS n x), .int .i64 0]
set_option maxHeartbeats 8000000 in
theorem textS_c (l : List Tab.St) (a : Option Addr) (cp : Nat) (n : Int) (w : World) (hKw : Kw w) (h : SitesAt w (.slice a l.length cp) l) (hn1 : -9223372036854775808 ≤ n) (hn2 : n ≤ 9223372036854775807) (hl : l.length < 100) (hz : ∀ x ∈ l, x.a.size ≤ 1000 ∧ x.b.size ≤ 1000) :
  Calls Tryz.prog 16 #[.slice a l.length cp, .int .i64 n] w fun e w' => e = .returned (textV l n) ∧ Kept w w' := by
 have HF := Lib.hid (findSt_c l a cp n w h hn1 hn2)
 have HKW := Lib.hid hKw
 unfold FoundS at HF
 clear h hKw
 cases hs : Tab.siteAt l n with
 | none =>
  rw [hs] at HF
  simp only at HF
  rw [show textV l n = .tuple #[.string ⟨#[]⟩, .int .i64 3] by unfold textV; rw [hs]]
  clear hs
  go_enter Tryz.func16, Tryz.ntmps16
  go_wp2_with fail
  refine HF.out.mono ?_
  rintro e w1 ⟨rfl, k1⟩
  have HK := Lib.hid (bx_kept k1 0 ⟨#[]⟩ ⟨#[]⟩ ⟨#[]⟩ ⟨#[]⟩)
  clear k1
  go_wp2_with fail
  go_ret2
  exact ⟨rfl, HK.out⟩
 | some x =>
  rw [hs] at HF
  simp only at HF
  rw [show textV l n = .tuple #[.string (Tab.textS n x), .int .i64 0] by unfold textV; rw [hs]]
  have hxm : x ∈ l := by
   unfold Tab.siteAt at hs
   split at hs
   ·exact List.mem_of_getElem? hs
   ·split at hs
    ·exact List.mem_of_getElem? hs
    ·cases hs
  have hab : ¬ n = 0 ∧ n ≤ l.length ∧ -(l.length : Int) ≤ n := by
   refine ⟨?_, ?_, ?_⟩
   ·intro e
    rw [Tab.siteAt_none (.inl e)] at hs; cases hs
   ·rcases Int.lt_or_le (l.length : Int) n with k | k
    ·rw [Tab.siteAt_none (.inr (.inl k))] at hs; cases hs
    ·exact k
   ·rcases Int.lt_or_le n (-(l.length : Int)) with k | k
    ·rw [Tab.siteAt_none (.inr (.inr k))] at hs; cases hs
    ·exact k
  obtain ⟨za, zb⟩ := hz x hxm
  have HKD := Lib.hid (fun W => kindOf_c x.what x.a x.b W)
  obtain ⟨q, hq⟩ : ∃ q, Tab.kindS ⟨x.what, x.a, x.b⟩ = q := ⟨_, rfl⟩
  have hq0 := Tab.kind_range x
  rw [show Tab.kindS x = q from hq] at hq0
  obtain ⟨hq1, hq2⟩ := hq0
  rw [hq] at HKD
  have HT := Lib.hid (show Tab.textS n x = ⟨(Lib.join [Lib.decDigits n.natAbs, (if 0 < n then [43] else [45]), Tab.kindW q, x.a.data.toList, [62], x.b.data.toList] [32]).toArray⟩ by unfold Tab.textS; rw [show Tab.kindS x = q from hq])
  generalize Tab.textS n x = ans at HT ⊢
  generalize Tab.blamed n x = c at HF
  generalize Tab.other n x = d at HF
  have HWC := Lib.hid (fun (W : World) (k : Kept w W) => (HKW.out.kept k).cell hq1 hq2)
  have HKL := Lib.hid (kindW_len q)
  obtain ⟨kw, hkw⟩ : ∃ kw, Tab.kindW q = kw := ⟨_, rfl⟩
  rw [hkw] at HT HWC HKL
  clear hs hz hxm hq hkw
  by_cases hp : 0 < n
  ·obtain ⟨k, rfl⟩ : ∃ k : Nat, n = k := ⟨n.toNat, by omega⟩
   have hk : k < 100 := by omega
   have hpn : ¬ (k : Int) < 0 := by omega
   rw [if_pos hp] at HT
   have HIT := Lib.hid (itoa_c k hk)
   have HDL := Lib.hid (dec_len hk)
   have HNA := Lib.hid (show ((k : Int).natAbs) = k by simp)
   rw [HNA.out] at HT
   clear hab hn1 hn2
   go_enter Tryz.func16, Tryz.ntmps16
   go_wp2_with fail
   refine HF.out.mono ?_
   rintro e w1 ⟨rfl, k1⟩
   have HK := Lib.hid (bx_kept k1 x.what x.a x.b c d)
   obtain ⟨W3, hW3⟩ : ∃ W3, bxA w1 x.what x.a x.b c d = W3 := ⟨_, rfl⟩
   have b8 := (bx_ends w1 x.what x.a x.b c d).1
   rw [hW3] at HK b8
   have p0 := b8.cell 0
   have p1 := b8.cell 1
   have p2 := b8.cell 2
   simp only [List.getElem?_toArray, List.getElem?_cons_zero, List.getElem?_cons_succ] at p0 p1 p2
   have pw := HWC.out W3 HK.out
   have HW3 := Lib.hid hW3
   clear hW3 b8 k1
   go_wp2_with fail
   rw [show (w1.alloc (.cells #[.int .i64 x.what, .string x.a, .string x.b] 49)).alloc (.cells #[.string c, .string d] 54) = W3 from HW3.out]
   go_region_held3 (fun W => W.cell? ⟨w1.heap.size, 0, none⟩ = some (.int .i64 x.what) ∧ W.cell? ⟨w1.heap.size, 1, none⟩ = some (.string x.a) ∧ W.cell? ⟨w1.heap.size, 2, none⟩ = some (.string x.b) ∧ W.cell? ⟨0, q.toNat, none⟩ = some (.string ⟨kw.toArray⟩) ∧ Kept W3 W)
    (first | (refine ⟨?_, ?_, ?_, ?_, ?_⟩ <;> first | assumption | (exact (Kept.refl _).drew) | (exact Kept.refl _) | (exact Kept.cell (by assumption) (by assumption)) | (exact Kept.trans (by assumption) (by assumption)) | (exact Kept.drew (by assumption)) | (exact Kept.alloc (by assumption) _) | (exact Kept.alloc (And.right (And.right (And.right (And.right (by assumption))))) _) | (go_keep; done)) | go_keep)
    (first | (go_at_call 31; refine (HIT.out _).mono ?_; rintro e w4 ⟨rfl, rfl⟩) | (go_at_call 23; refine (HKD.out _).mono ?_; rintro e w5 ⟨rfl, k5⟩; have k5 := (Kept.refl W3).drew.trans k5) | (go_at_call 30; refine (join6_c _ _ _ _ _ _ HDL.out (by decide) HKL.out za zb).mono ?_; rintro e w7 ⟨rfl, k7⟩; have kk := And.right (And.right (And.right (And.right (show _ ∧ _ ∧ _ ∧ _ ∧ Kept W3 _ by assumption)))); have k8 := Kept.trans kk k7))
   all_goals
    go_wp2_with fail
    go_ret2
    exact ⟨by rw [HT.out]; rfl, HK.out.trans (by first | assumption | (exact And.right (And.right (And.right (And.right (by assumption)))))) ⟩
  ·obtain ⟨k, rfl⟩ : ∃ k : Nat, n = -(k : Int) := ⟨(-n).toNat, by omega⟩
   have hk : k < 100 := by omega
   have hpn : -(k : Int) < 0 := by omega
   have hneg : - -(k : Int) = (k : Int) := by omega
   rw [if_neg hp] at HT
   have HIT := Lib.hid (itoa_c k hk)
   have HDL := Lib.hid (dec_len hk)
   have HNA := Lib.hid (show ((-(k : Int)).natAbs) = k by simp)
   rw [HNA.out] at HT
   clear hab hn1 hn2 hp
   go_enter Tryz.func16, Tryz.ntmps16
   go_wp2_with fail
   refine HF.out.mono ?_
   rintro e w1 ⟨rfl, k1⟩
   have HK := Lib.hid (bx_kept k1 x.what x.a x.b c d)
   obtain ⟨W3, hW3⟩ : ∃ W3, bxA w1 x.what x.a x.b c d = W3 := ⟨_, rfl⟩
   have b8 := (bx_ends w1 x.what x.a x.b c d).1
   rw [hW3] at HK b8
   have p0 := b8.cell 0
   have p1 := b8.cell 1
   have p2 := b8.cell 2
   simp only [List.getElem?_toArray, List.getElem?_cons_zero, List.getElem?_cons_succ] at p0 p1 p2
   have pw := HWC.out W3 HK.out
   have HW3 := Lib.hid hW3
   clear hW3 b8 k1
   go_wp2_with fail
   rw [show (w1.alloc (.cells #[.int .i64 x.what, .string x.a, .string x.b] 49)).alloc (.cells #[.string c, .string d] 54) = W3 from HW3.out]
   go_region_held3 (fun W => W.cell? ⟨w1.heap.size, 0, none⟩ = some (.int .i64 x.what) ∧ W.cell? ⟨w1.heap.size, 1, none⟩ = some (.string x.a) ∧ W.cell? ⟨w1.heap.size, 2, none⟩ = some (.string x.b) ∧ W.cell? ⟨0, q.toNat, none⟩ = some (.string ⟨kw.toArray⟩) ∧ Kept W3 W)
    (first | (refine ⟨?_, ?_, ?_, ?_, ?_⟩ <;> first | assumption | (exact (Kept.refl _).drew) | (exact Kept.refl _) | (exact Kept.cell (by assumption) (by assumption)) | (exact Kept.trans (by assumption) (by assumption)) | (exact Kept.drew (by assumption)) | (exact Kept.alloc (by assumption) _) | (exact Kept.alloc (And.right (And.right (And.right (And.right (by assumption))))) _) | (go_keep; done)) | go_keep)
    (first | (go_at_call 31; refine (HIT.out _).mono ?_; rintro e w4 ⟨rfl, rfl⟩) | (go_at_call 23; refine (HKD.out _).mono ?_; rintro e w5 ⟨rfl, k5⟩; have k5 := (Kept.refl W3).drew.trans k5) | (go_at_call 30; refine (join6_c _ _ _ _ _ _ HDL.out (by decide) HKL.out za zb).mono ?_; rintro e w7 ⟨rfl, k7⟩; have kk := And.right (And.right (And.right (And.right (show _ ∧ _ ∧ _ ∧ _ ∧ Kept W3 _ by assumption)))); have k8 := Kept.trans kk k7))
   all_goals
    go_wp2_with fail
    go_ret2
    exact ⟨by rw [HT.out]; rfl, HK.out.trans (by first | assumption | (exact And.right (And.right (And.right (And.right (by assumption)))))) ⟩
end Go.Proofs.YtjdkegfckkbpeaaGreatDoor
namespace Go.Proofs.YtjdkegfckkbpeaaGreatDoor
open Go.ChangeShapes Go.WideShapes Go.ChangeAt Go.RowKit
open Go.Maps (Keyed)
theorem side_laid : laidOutB Tryz.prog = true := by kernel_rfl
theorem side_row : (54 : TypeId) < Tryz.prog.types.size := of_decide_eq_true (by kernel_rfl)
theorem side_wide : (match Tryz.prog.underlying 54 with | some (.array _ _) | some (.struct _) => true | _ => false) = true := by kernel_rfl
theorem side_law : Keyed Tryz.prog 54 := Keyed.of_law (deep_law_laid side_laid (m := 2) (by omega) side_row (by kernel_rfl) side_wide)
theorem side_keyType : Tryz.prog.keyType 54 = true := by kernel_rfl
theorem side_cells : Tryz.prog.cellsOf 54 = 2 := by kernel_rfl
theorem keyOf_shapeS (v : Value) : keyOf Tryz.prog 54 v = if Tryz.prog.keyType 54 && v.formed Tryz.prog 54 then (Tryz.prog.keyLits (Tryz.prog.types.size + 1) 54 v.cells.toList).map fun ls => .string (keyBytes ls) else none := by
 unfold keyOf
 rw [Tryz.underlying54]
theorem side_lits (d : Nat) (cs : List Value) : Tryz.prog.keyLits (d + 2) 54 cs = match cs with
  | [.string a, .string b] => if a.size ≤ maxLen ∧ b.size ≤ maxLen then some [.string a.data.toList, .string b.data.toList] else none
  | _ => none := by
 have hs : ∀ (d : Nat) (cs : List Value), Tryz.prog.keyLits (d + 1) 9 cs = match cs with | [.string s] => if s.size ≤ maxLen then some [.string s.data.toList] else none | _ => none := by
  intro d cs
  unfold Program.keyLits
  rw [Tryz.underlying9]
  split <;> simp_all
 unfold Program.keyLits
 rw [Tryz.underlying54]
 simp only [side_cells]
 match cs with
 | [] => simp
 | [a] => simp
 | a :: b :: c :: r => simp
 | [a, b] =>
  have c1 : Tryz.prog.cellsOf 9 = 1 := by kernel_rfl
  simp [c1, hs]
  cases a <;> cases b <;> simp
  rename_i x y
  by_cases h1 : x.size ≤ maxLen <;> by_cases h2 : y.size ≤ maxLen <;> simp [h1, h2]
theorem types_bigS : ∃ d, Tryz.prog.types.size + 1 = d + 2 := ⟨Tryz.prog.types.size - 1, by have h : 54 < Tryz.prog.types.size := side_row; omega⟩
theorem keyOf_side {p : Tab.P2} (h : Fine p) : keyOf Tryz.prog 54 (pv p) = some (kl p) := by
 rw [keyOf_shapeS]
 obtain ⟨d, hd⟩ := types_bigS
 rw [hd, side_lits, side_keyType, show (pv p).formed Tryz.prog 54 = true by simp [Value.formed, Tryz.underlying54, side_cells]]
 have : (pv p).cells.toList = [.string p.1, .string p.2] := by simp [Value.cells]
 rw [this]
 simp only [h.1, h.2, and_self, if_true, Bool.and_self, Option.map_some]
 rfl
theorem kl_injS {p q : Tab.P2} (hp : Fine p) (hq : Fine q) (e : kl p = kl q) : p = q := by
 have := side_law.inj (keyOf_side hp) ((keyOf_side hq).trans (by rw [e]))
 simp at this
 exact Prod.ext this.1 this.2
/-- Block b holds a map whose keys are D, of which g tells the elements. -/
def MapS (b n : Nat) (D : List Tab.P2) (g : Tab.P2 → Value) (W : World) : Prop :=
 ∃ d : DataW Value, W.ownsMap Tryz.prog 54 selfElem b n d ∧ Maps.size d = D.length ∧ D.Nodup ∧ (∀ p ∈ D, Fine p) ∧ (∀ p, Fine p → Maps.has d (kl p) = Tab.inP D p) ∧ ∀ p ∈ D, ∀ z, d.atKey (kl p) z = .held (g p)
section
variable {b n : Nat} {D : List Tab.P2} {g : Tab.P2 → Value} {W : World}
theorem MapS.made (W : World) (g : Tab.P2 → Value) : MapS W.heap.size 0 [] g (W.alloc (.map #[] 0)) :=
 ⟨.map [], World.ownsMap_made W _ _ selfElem, rfl, List.nodup_nil, fun p h => (by cases h), fun p _ => rfl, fun p h => (by cases h)⟩
theorem MapS.only {S : Nat → Prop} {W' : World} (h : MapS b n D g W) (ho : Only S W W') (hs : ¬ S b) : MapS b n D g W' := by
 obtain ⟨d, ⟨es, clock, hb, rest⟩, h2⟩ := h
 exact ⟨d, ⟨es, clock, (ho.block b (Array.getElem?_eq_some_iff.1 hb).1 hs).trans hb, rest⟩, h2⟩
theorem MapS.kept {W' : World} (h : MapS b n D g W) (k : Kept W W') : MapS b n D g W' := h.only (S := fun _ => False) (Only.of_kept k) (fun h => h)
theorem MapS.congr (h : MapS b n D g W) {g' : Tab.P2 → Value} (e : ∀ p ∈ D, g' p = g p) : MapS b n D g' W := by
 obtain ⟨d, h1, h2, h3, h4, h5, h6⟩ := h
 exact ⟨d, h1, h2, h3, h4, h5, fun p hp z => by rw [h6 p hp, e p hp]⟩
theorem MapS.look {e t : TypeId} (h : MapS b n D g W) (ht : Tryz.prog.underlying t = some (.map 54 e)) {z : Value} (hz : (zeroValue e).run Tryz.prog W = .ok z W) {p : Tab.P2} (hp : Fine p) :
  (Instr.lookup t (.map (some b)) (pv p) true).run Tryz.prog W = .ok (.tuple #[if Tab.inP D p then g p else z, .bool (Tab.inP D p)]) W := by
 obtain ⟨d, h1, _, _, _, h5, h6⟩ := h
 obtain ⟨v, ps, hr, hv⟩ := h1.look_ok side_law ht hz (zd := .held z) (zp := []) rfl (keyOf_side hp)
 rw [hr, h5 p hp]
 cases e : Tab.inP D p with
 | false =>
  rw [Maps.atKey_of_not_has (by rw [h5 p hp, e])] at hv
  rw [selfElem_inv hv]
  rfl
 | true =>
  rw [h6 p (Tab.inP_iff.1 e)] at hv
  rw [selfElem_inv hv]
  rfl
theorem MapS.store {e t : TypeId} (h : MapS b n D g W) (ht : Tryz.prog.underlying t = some (.map 54 e)) (hn : n < maxLen) {p : Tab.P2} (hp : Fine p) (hd : Tab.inP D p = false) (v : Value) :
  ∃ W', (Instr.mapUpdate t (.map (some b)) (pv p) v).run Tryz.prog W = .ok () W' ∧ MapS b (n + 1) (D ++ [p]) (fun q => if q = p then v else g q) W' ∧ W.grownBy W' (some b) := by
 obtain ⟨d, h1, h2, h3, h4, h5, h6⟩ := h
 have hnd : ¬ p ∈ D := Tab.inP_no.1 hd
 obtain ⟨W', hr, ho, hg⟩ := h1.update side_law ht hn (keyOf_side hp) (show selfElem v = some (.held v, []) from rfl)
 refine ⟨W', hr, ⟨_, ho, ?_, ?_, ?_, ?_, ?_⟩, hg⟩
 ·rw [Maps.size_put (h1.tidy side_law), h5 p hp, hd, h2]
  simp
 ·rw [List.nodup_append]
  refine ⟨h3, by simp, fun x hx y hy e => ?_⟩
  simp at hy
  subst hy
  exact hnd (e ▸ hx)
 ·intro q hq
  rcases List.mem_append.1 hq with hq | hq
  ·exact h4 q hq
  ·simp at hq; subst hq; exact hp
 ·intro q hq
  by_cases e : q = p
  ·subst e
   rw [Maps.has_put_same h1.isMap kl_isKey]
   exact (Tab.inP_iff.2 (by simp)).symm
  ·rw [Maps.has_put_other (fun h => e (kl_injS hq hp h)), h5 q hq]
   unfold Tab.inP
   have : ¬ p = q := fun h => e h.symm
   simp [this]
 ·intro q hq z
  by_cases e : q = p
  ·subst e
   rw [Maps.atKey_put_same h1.isMap kl_isKey]
   simp
  ·rcases List.mem_append.1 hq with hq | hq
   ·rw [Maps.atKey_put_other (fun h => e (kl_injS (h4 q hq) hp h)), h6 q hq]
    simp [e]
   ·simp at hq; exact absurd hq e
end
end Go.Proofs.YtjdkegfckkbpeaaGreatDoor
namespace Go.Proofs.YtjdkegfckkbpeaaGreatDoor
open Go.ChangeShapes Go.WideShapes Go.ChangeAt Go.RowKit
theorem zero_passed (W : World) : (zeroValue 58).run Tryz.prog W = .ok (.agg #[]) W := Tryz.zeroValue58 W
theorem e63 : Tab.dynB.toList = [63] := by kernel_rfl
theorem q63_yes {s : ByteArray} (h : s = Tab.dynB) : (s.toList == [63]) = true := by rw [h, e63]; rfl
theorem q63_no {s : ByteArray} (h : ¬ s = Tab.dynB) : (s.toList == [63]) = false := by have := beq_no h; rwa [e63] at this
/-- Between rounds of Check. -/
def ChS (t : List Tab.C) (l : List Tab.St) (b : Nat) (w : World) (q : Value) (W : World) : Prop :=
 ∃ (i n : Nat) (D : List Tab.P2), i ≤ l.length ∧ n ≤ i ∧ q = .int .i64 i ∧ (∀ x ∈ l.take i, Tab.chkSite t x = 0) ∧ Kept w W ∧ Blk W w.heap.size 30 #[.int .i64 0, .int .i64 0] ∧ MapS b n D (fun _ => .agg #[]) W ∧ (∀ p ∈ D, Tab.isCast t p.1 p.2 = true) ∧ w.heap.size < b
theorem chk_at {t : List Tab.C} {l : List Tab.St} {i : Nat} {x : Tab.St} (hx : l[i]? = some x) (h : ∀ y ∈ l.take i, Tab.chkSite t y = 0) (hn : ¬ Tab.chkSite t x = 0) : Tab.chkSites t 0 l = (Tab.chkSite t x, (i : Int)) := by
 have hi : i < l.length := (List.getElem?_eq_some_iff.1 hx).1
 rw [Tab.chk_drop i h (Nat.le_of_lt hi), List.drop_eq_getElem_cons hi]
 have : l[i] = x := by rw [List.getElem?_eq_getElem hi] at hx; exact Option.some.inj hx
 rw [this]
 unfold Tab.chkSites
 rw [if_neg hn]
 simp
theorem chk_all {t : List Tab.C} {l : List Tab.St} (h : ∀ y ∈ l.take l.length, Tab.chkSite t y = 0) : Tab.chkSites t 0 l = (0, 0) := by
 rw [List.take_length] at h
 exact Tab.chk_zero (Tab.chk_iff.2 h)
theorem chk_more {t : List Tab.C} {l : List Tab.St} {i : Nat} {x : Tab.St} (hx : l[i]? = some x) (h : ∀ y ∈ l.take i, Tab.chkSite t y = 0) (hz : Tab.chkSite t x = 0) : ∀ y ∈ l.take (i + 1), Tab.chkSite t y = 0 := by
 intro y hy
 rw [List.take_add_one, hx] at hy
 rcases List.mem_append.1 hy with hy | hy
 ·exact h y hy
 ·obtain rfl : y = x := by simpa using hy
  exact hz
set_option maxHeartbeats 16000000 in
theorem checkS_c (t : List Tab.C) (ta : Option Addr) (tc : Nat) (l : List Tab.St) (a : Option Addr) (cp : Nat) (w : World) (hTb : Tb w) (ht : TabAt w (.slice ta t.length tc) t) (hS : Small t) (h : SitesAt w (.slice a l.length cp) l) :
  Calls Tryz.prog 9 #[.slice ta t.length tc, .slice a l.length cp] w fun e w' => e = .returned (.agg #[.int .i64 (Tab.sitesV t l).1, .int .i64 (Tab.sitesV t l).2]) ∧ Kept w w' := by
 have HIC := Lib.hid (fun (x y : ByteArray) (W : World) (k : Kept w W) => isCast_c t ta tc x y W (hTb.kept k) (tab_kept ht k) hS)
 obtain ⟨_, c', e, h1, h2, hat⟩ := h
 injection e with e1 _ e3
 subst e1 e3
 unfold maxLen at h2
 have HAT := Lib.hid hat
 obtain ⟨ans, hans⟩ : ∃ r, Tab.sitesV t l = r := ⟨_, rfl⟩
 rw [hans]
 have HA := Lib.hid hans
 clear hat hTb ht hS hans
 have B0 := Lib.hid (Blk.new w 30 #[.int .i64 0, .int .i64 0])
 have HK0 := Lib.hid ((Kept.refl w).alloc (.cells #[.int .i64 0, .int .i64 0] 30))
 by_cases hl : 5000 < l.length
 ·have hlI : (5000 : Int) < (l.length : Int) := by omega
  obtain rfl : ans = (12, 5000) := by rw [← HA.out]; unfold Tab.sitesV; exact if_pos hl
  have p0 := B0.out.cell 0
  have p1 := B0.out.cell 1
  have f0 := B0.out.frozen 0
  have f1 := B0.out.frozen 1
  simp only [List.getElem?_toArray, List.getElem?_cons_zero, List.getElem?_cons_succ] at p0 p1
  go_enter Tryz.func9, Tryz.ntmps9
  go_wp2_with fail
  exact bodyPost_ret (v := .agg #[.int .i64 12, .int .i64 5000]) (by simp [results, Tryz.results9, go_sem]) rfl ⟨rfl, (Kept.refl w).alloc _⟩
 ·have hlI : ¬ (5000 : Int) < (l.length : Int) := by omega
  have HA2 := Lib.hid (show Tab.chkSites t 0 l = ans by rw [← HA.out]; unfold Tab.sitesV; rw [if_neg hl])
  have HM := Lib.hid (MapS.made (w.alloc (.cells #[.int .i64 0, .int .i64 0] 30)) (fun _ => .agg #[]))
  have HK1 := Lib.hid (HK0.out.alloc (.map #[] 0))
  have B1 := Lib.hid (B0.out.alloc (.map #[] 0))
  have hMsz : w.heap.size < (w.alloc (.cells #[.int .i64 0, .int .i64 0] 30)).heap.size := by simp
  have HMK := Lib.hid HM.out
  rw [World.size_alloc] at HMK
  have hmm := @run_makeMap Tryz.prog
  clear hMsz
  go_enter Tryz.func9, Tryz.ntmps9
  go_wp2_with fail
  clear hmm
  go_loopw [18] (fun q wr => ChS t l (w.heap.size + 1) w q wr) (fun q wr => l.length - (intOf q).toNat)
  case atStart => exact ⟨0, 0, [], Nat.zero_le _, Nat.le_refl _, rfl, by simp, HK1.out, B1.out, HMK.out, fun p hp => (by cases hp), Nat.lt_succ_self _⟩
  case round =>
   obtain ⟨i, n, D, hi, hni, rfl, hz, hk, hb, hm, hd, _⟩ := hrel
   have HZ := Lib.hid hz
   have HK := Lib.hid hk
   have HB := Lib.hid hb
   have HMP := Lib.hid hm
   have HD := Lib.hid hd
   clear hz hk hb hm hd
   obtain ⟨wo, rfl⟩ : ∃ wo, wo = wr := ⟨_, rfl⟩
   by_cases hlt : i < l.length
   ·have hltI : (i : Int) < (l.length : Int) := by omega
    have hx : l[i]? = some l[i] := List.getElem?_eq_getElem hlt
    obtain ⟨sb, so, rfl, hst⟩ := HAT.out _ _ hx
    generalize l[i] = x at hx hst
    have HX := Lib.hid hx
    obtain ⟨c0, c1, c2, z1, z2⟩ := hst.kept HK.out
    have HSO := Lib.hid (fun W => sidesOf_c x.what x.a x.b W)
    have HKD := Lib.hid (fun W => kindOf_c x.what x.a x.b W)
    obtain ⟨q, hq⟩ : ∃ q, Tab.kindS ⟨x.what, x.a, x.b⟩ = q := ⟨_, rfl⟩
    have HQ := Lib.hid (show Tab.kindS x = q from hq)
    rw [hq] at HKD
    have HIC2 := Lib.hid (fun W k => HIC.out x.a x.b W k z1 z2)
    have HFI := Lib.hid (show Fine (x.a, x.b) from ⟨z1, z2⟩)
    have B7 := Lib.hid (Blk.new wo 49 #[.int .i64 x.what, .string x.a, .string x.b])
    have HKA := Lib.hid ((Kept.refl wo).alloc (.cells #[.int .i64 x.what, .string x.a, .string x.b] 49))
    obtain ⟨W1, hW1⟩ : ∃ W1, wo.alloc (.cells #[.int .i64 x.what, .string x.a, .string x.b] 49) = W1 := ⟨_, rfl⟩
    rw [hW1] at B7 HKA
    have HW1 := Lib.hid hW1
    clear hx hst hq z1 z2 hW1
    go_wp2_with fail
    refine (HSO.out _).mono ?_
    rintro e w2 ⟨rfl, k2⟩
    rw [show wo.alloc (.cells #[.int .i64 x.what, .string x.a, .string x.b] 49) = W1 from HW1.out] at k2
    have HK2 := Lib.hid (HKA.out.trans k2)
    have b7 := (B7.out.kept k2).alloc (.cells #[.string x.a, .string x.b] 54)
    have b8 := Blk.new w2 54 #[.string x.a, .string x.b]
    have HK3 := Lib.hid (HK2.out.alloc (.cells #[.string x.a, .string x.b] 54))
    have p0 := b7.cell 0
    have p1 := b7.cell 1
    have p2 := b7.cell 2
    simp only [List.getElem?_toArray, List.getElem?_cons_zero, List.getElem?_cons_succ] at p0 p1 p2
    have B8 := Lib.hid b8
    clear k2 b7 b8 c0 c1 c2
    go_wp2_with fail
    refine (HKD.out _).mono ?_
    rintro e w4 ⟨rfl, k4⟩
    have HK4 := Lib.hid (HK3.out.trans k4)
    have b8 := B8.out.kept k4
    have r0 := b8.cell 0
    have r1 := b8.cell 1
    have b4 := HB.out.kept HK4.out
    have B4 := Lib.hid b4
    have g0 := b4.cell 0
    have g1 := b4.cell 1
    have f0 := b4.frozen 0
    have f1 := b4.frozen 1
    simp only [List.getElem?_toArray, List.getElem?_cons_zero, List.getElem?_cons_succ] at r0 r1 g0 g1
    have B84 := Lib.hid b8
    clear p0 p1 p2 k4 b8 b4
    by_cases q0 : q = 0
    ·have HAN := Lib.hid (show ans = (2, (i : Int)) by
      have hc : Tab.chkSite t x = 2 := by unfold Tab.chkSite; rw [HQ.out, if_pos q0]
      rw [← HA2.out, chk_at HX.out HZ.out (by rw [hc]; decide), hc])
     subst q0
     go_wp2_with fail
     have hK := ((HK.out.trans HK4.out).setCell (p := ⟨w.heap.size, 0, none⟩) (Nat.le_refl _) (.int .i64 2)).setCell (p := ⟨w.heap.size, 1, none⟩) (Nat.le_refl _) (.int .i64 (i : Int))
     exact bodyPost_ret (v := .agg #[.int .i64 2, .int .i64 (i : Int)]) (by simp [results, Tryz.results9, go_sem, g0, g1]) rfl ⟨by rw [HAN.out], hK⟩
    ·have q0b : (q == 0) = false := by simpa using q0
     by_cases q1 : q = 1
     ·subst q1
      cases hin : Tab.inP D (x.a, x.b) with
      | true =>
       have HCZ := Lib.hid (show Tab.chkSite t x = 0 by
        unfold Tab.chkSite
        rw [HQ.out, if_neg (by decide), if_pos rfl, if_pos (HD.out _ (Tab.inP_iff.1 hin))])
       have hlk := (HMP.out.kept HK4.out).look (t := 52) (e := 58) Tryz.underlying52 (zero_passed _) HFI.out
       rw [hin] at hlk
       clear hin
       go_wp2_with fail
       go_roundw
       case rel => exact ⟨i + 1, n, D, by omega, by omega, rfl, chk_more HX.out HZ.out HCZ.out, (HK.out.trans HK4.out).alloc _, B4.out.alloc _, (HMP.out.kept HK4.out).kept ((Kept.refl _).alloc _), HD.out, Nat.lt_succ_self _⟩
       case measure => simp [intOf]; omega
      | false =>
       have HIN := Lib.hid hin
       have hlk := (HMP.out.kept HK4.out).look (t := 52) (e := 58) Tryz.underlying52 (zero_passed _) HFI.out
       rw [hin] at hlk
       have HK5 := Lib.hid (HK4.out.alloc (.cells #[] 58))
       have b85 := B84.out.alloc (.cells #[] 58)
       have B85 := Lib.hid b85
       have y0 := b85.cell 0
       have y1 := b85.cell 1
       simp only [List.getElem?_toArray, List.getElem?_cons_zero, List.getElem?_cons_succ] at y0 y1
       have HCA := Lib.hid (HIC2.out (w4.alloc (.cells #[] 58)) (HK.out.trans HK5.out))
       clear hin b85
       cases hca : Tab.isCast t x.a x.b with
       | false =>
        have HAN := Lib.hid (show ans = (7, (i : Int)) by
         have hc : Tab.chkSite t x = 7 := by unfold Tab.chkSite; rw [HQ.out, if_neg (by decide), if_pos rfl, hca]; rfl
         rw [← HA2.out, chk_at HX.out HZ.out (by rw [hc]; decide), hc])
        rw [hca] at HCA
        clear hca
        go_wp2_with fail
        refine HCA.out.mono ?_
        rintro e w6 ⟨rfl, k6⟩
        have HK6 := Lib.hid (HK5.out.trans k6)
        have b46 := HB.out.kept HK6.out
        have u0 := b46.cell 0
        have u1 := b46.cell 1
        have v0 := b46.frozen 0
        have v1 := b46.frozen 1
        simp only [List.getElem?_toArray, List.getElem?_cons_zero, List.getElem?_cons_succ] at u0 u1
        clear g0 g1 f0 f1 y0 y1 r0 r1 k6 b46
        go_wp2_with fail
        have hK := ((HK.out.trans HK6.out).setCell (p := ⟨w.heap.size, 0, none⟩) (Nat.le_refl _) (.int .i64 7)).setCell (p := ⟨w.heap.size, 1, none⟩) (Nat.le_refl _) (.int .i64 (i : Int))
        exact bodyPost_ret (v := .agg #[.int .i64 7, .int .i64 (i : Int)]) (by simp [results, Tryz.results9, go_sem, u0, u1]) rfl ⟨by rw [HAN.out], hK⟩
       | true =>
        have HCZ := Lib.hid (show Tab.chkSite t x = 0 by unfold Tab.chkSite; rw [HQ.out, if_neg (by decide), if_pos rfl, hca]; rfl)
        have HCT := Lib.hid hca
        rw [hca] at HCA
        clear hca
        go_wp2_with fail
        refine HCA.out.mono ?_
        rintro e w6 ⟨rfl, k6⟩
        have HK6 := Lib.hid (HK5.out.trans k6)
        have b86 := B85.out.kept k6
        have u0 := b86.cell 0
        have u1 := b86.cell 1
        simp only [List.getElem?_toArray, List.getElem?_cons_zero, List.getElem?_cons_succ] at u0 u1
        obtain ⟨w7, hup, hm7, hg7⟩ := (HMP.out.kept HK6.out).store (t := 52) (e := 58) Tryz.underlying52 (by unfold maxLen; omega) HFI.out HIN.out (.agg #[])
        have HM7 := Lib.hid (hm7.congr (g' := fun _ => .agg #[]) fun p _ => by simp)
        have HB7 := Lib.hid ((HB.out.kept HK6.out).grownBy hg7 (by intro e; injection e with e; omega))
        have HK7 := Lib.hid ((HK.out.trans HK6.out).grown hg7 fun k e => by injection e with e; omega)
        have HD7 := Lib.hid (show ∀ p ∈ D ++ [(x.a, x.b)], Tab.isCast t p.1 p.2 = true by
         intro p hp
         rcases List.mem_append.1 hp with hp | hp
         ·exact HD.out p hp
         ·obtain rfl := List.mem_singleton.1 hp
          exact HCT.out)
        clear g0 g1 f0 f1 y0 y1 r0 r1 k6 b86 hm7 hg7
        go_wp2_with fail
        go_roundw
        case rel => exact ⟨i + 1, n + 1, D ++ [(x.a, x.b)], by omega, by omega, rfl, chk_more HX.out HZ.out HCZ.out, HK7.out, HB7.out, HM7.out, HD7.out, Nat.lt_succ_self _⟩
        case measure => simp [intOf]; omega
     ·have q1b : (q == 1) = false := by simpa using q1
      by_cases hd : x.a = Tab.dynB ∧ x.b = Tab.dynB
      ·have HCZ := Lib.hid (show Tab.chkSite t x = 0 by unfold Tab.chkSite; rw [HQ.out, if_neg q0, if_neg q1, if_pos hd])
       have qa := q63_yes hd.1
       have qb := q63_yes hd.2
       clear hd
       go_wp2_with fail
       go_roundw
       case rel => exact ⟨i + 1, n, D, by omega, by omega, rfl, chk_more HX.out HZ.out HCZ.out, HK.out.trans HK4.out, B4.out, HMP.out.kept HK4.out, HD.out, Nat.lt_succ_self _⟩
       case measure => simp [intOf]; omega
      ·have HAN := Lib.hid (show ans = (2, (i : Int)) by
        have hc : Tab.chkSite t x = 2 := by unfold Tab.chkSite; rw [HQ.out, if_neg q0, if_neg q1, if_neg hd]
        rw [← HA2.out, chk_at HX.out HZ.out (by rw [hc]; decide), hc])
       by_cases ha : x.a = Tab.dynB
       ·have qa := q63_yes ha
        have qb := q63_no (fun e => hd ⟨ha, e⟩)
        clear ha hd
        go_wp2_with fail
        have hK := ((HK.out.trans HK4.out).setCell (p := ⟨w.heap.size, 0, none⟩) (Nat.le_refl _) (.int .i64 2)).setCell (p := ⟨w.heap.size, 1, none⟩) (Nat.le_refl _) (.int .i64 (i : Int))
        exact bodyPost_ret (v := .agg #[.int .i64 2, .int .i64 (i : Int)]) (by simp [results, Tryz.results9, go_sem, g0, g1]) rfl ⟨by rw [HAN.out], hK⟩
       ·have qa := q63_no ha
        clear ha hd
        by_cases hb : x.b = Tab.dynB
        ·have qb := q63_yes hb
         clear hb
         go_wp2_with fail
         have hK := ((HK.out.trans HK4.out).setCell (p := ⟨w.heap.size, 0, none⟩) (Nat.le_refl _) (.int .i64 2)).setCell (p := ⟨w.heap.size, 1, none⟩) (Nat.le_refl _) (.int .i64 (i : Int))
         exact bodyPost_ret (v := .agg #[.int .i64 2, .int .i64 (i : Int)]) (by simp [results, Tryz.results9, go_sem, g0, g1]) rfl ⟨by rw [HAN.out], hK⟩
        ·have qb := q63_no hb
         clear hb
         go_wp2_with fail
         have hK := ((HK.out.trans HK4.out).setCell (p := ⟨w.heap.size, 0, none⟩) (Nat.le_refl _) (.int .i64 2)).setCell (p := ⟨w.heap.size, 1, none⟩) (Nat.le_refl _) (.int .i64 (i : Int))
         exact bodyPost_ret (v := .agg #[.int .i64 2, .int .i64 (i : Int)]) (by simp [results, Tryz.results9, go_sem, g0, g1]) rfl ⟨by rw [HAN.out], hK⟩
   ·have hltI : ¬ (i : Int) < (l.length : Int) := by omega
    obtain rfl : i = l.length := by omega
    have HAN := Lib.hid (show ans = (0, 0) by rw [← HA2.out, chk_all HZ.out])
    have g0 := HB.out.cell 0
    have g1 := HB.out.cell 1
    have f0 := HB.out.frozen 0
    have f1 := HB.out.frozen 1
    simp only [List.getElem?_toArray, List.getElem?_cons_zero, List.getElem?_cons_succ] at g0 g1
    have hK := (HK.out.setCell (p := ⟨w.heap.size, 0, none⟩) (Nat.le_refl _) (.int .i64 0)).setCell (p := ⟨w.heap.size, 1, none⟩) (Nat.le_refl _) (.int .i64 0)
    go_wp2_with fail
    exact bodyPost_ret (v := .agg #[.int .i64 0, .int .i64 0]) (by simp [results, Tryz.results9, go_sem, g0, g1]) rfl ⟨by rw [HAN.out], hK⟩
end Go.Proofs.YtjdkegfckkbpeaaGreatDoor
namespace Go.Proofs.YtjdkegfckkbpeaaGreatDoor
open Go.ChangeShapes Go.WideShapes Go.ChangeAt Go.RowKit
abbrev c9 (n r : List UInt8) : Tab.C := ⟨t8 n, t8 [], [], [⟨t8 [109], [], t8 r⟩]⟩
abbrev T9 : List Tab.C := [c9 [65] [105, 110, 116], c9 [66] [63]]
theorem t9_small : Small T9 := ⟨by decide, by decide, by decide, by decide⟩
abbrev s9 (q : Int) (a b : List UInt8) : Tab.St := ⟨q, t8 a, t8 b⟩
abbrev F9 : List Tab.St := [s9 1 [63] [65], s9 1 [66] [65], s9 1 [66] [65], s9 5 [63] [63]]
theorem row_2 {α : Type} {k : Nat} {R : World → Nat → Nat → α → Prop} {w : World} {g : Nat} {x y : α} (h : R w g 0 x) (h2 : R w g k y) : Row k R w (.slice (some ⟨g, 0, none⟩) 2 2) [x, y] :=
 ⟨_, 2, rfl, Nat.le_refl _, by decide, fun i a ha => by
  match i, ha with
  | 0, ha => cases ha; exact ⟨g, 0, rfl, by simpa using h⟩
  | 1, ha => cases ha; exact ⟨g, 0, rfl, by simpa using h2⟩⟩
theorem cls9 {W : World} {g o b : Nat} {cs : Array Value} {n r : List UInt8} (h : Blk W g 44 cs) (h0 : cs[o]? = some (.string (t8 n))) (h1 : cs[o + 1]? = some (.string (t8 []))) (h2 : cs[o + 2]? = some (.slice none 0 0)) (h3 : cs[o + 3]? = some (.slice (some ⟨b, 0, none⟩) 1 1))
  (hm : Blk W b 47 #[.string (t8 [109]), .slice none 0 0, .string (t8 r)]) (hn : n.length ≤ 100) (hr : r.length ≤ 100) : ClsAt W g o (c9 n r) :=
 ⟨(h.cell o).trans h0, (h.cell (o + 1)).trans h1, ⟨_, (h.cell (o + 2)).trans h2, Row.nil⟩, ⟨_, (h.cell (o + 3)).trans h3, row_1 ⟨hm.cell 0, ⟨_, hm.cell 1, Row.nil⟩, hm.cell 2, sz8 _ (by decide), sz8 _ hr⟩⟩, sz8 _ hn, sz8 _ (by decide)⟩
theorem site9 {W : World} {g o : Nat} {cs : Array Value} {q : Int} {a b : List UInt8} (h : Blk W g 49 cs) (h0 : cs[o]? = some (.int .i64 q)) (h1 : cs[o + 1]? = some (.string (t8 a))) (h2 : cs[o + 2]? = some (.string (t8 b))) (ha : a.length ≤ 100) (hb : b.length ≤ 100) : SiteAt W g o (s9 q a b) :=
 ⟨(h.cell o).trans h0, (h.cell (o + 1)).trans h1, (h.cell (o + 2)).trans h2, sz8 _ ha, sz8 _ hb⟩
def TwoOut (w : World) (e : Ending) (w' : World) : Prop := ∃ g, e = .returned (.slice (some ⟨g, 0, none⟩) 2 2) ∧ TabAt w' (.slice (some ⟨g, 0, none⟩) 2 2) T9 ∧ Kept w w'
def FourS (w : World) (e : Ending) (w' : World) : Prop := ∃ g, e = .returned (.slice (some ⟨g, 0, none⟩) 4 4) ∧ SitesAt w' (.slice (some ⟨g, 0, none⟩) 4 4) F9 ∧ Kept w w'
set_option maxHeartbeats 4000000 in
theorem two9_c (w : World) : Calls Tryz.prog 34 #[] w (TwoOut w) := by
 go_enter Tryz.func34, Tryz.ntmps34
 go_wp2_with fail
 go_ret
 have M1 := Blk.new w 47 #[.string (t8 [109]), .slice none 0 0, .string (t8 [105, 110, 116])]
 have M2 := Blk.new (w.alloc (.cells #[.string (t8 [109]), .slice none 0 0, .string (t8 [105, 110, 116])] 47)) 47 #[.string (t8 [109]), .slice none 0 0, .string (t8 [63])]
 rw [World.size_alloc] at M2
 have N := Blk.new ((w.alloc (.cells #[.string (t8 [109]), .slice none 0 0, .string (t8 [105, 110, 116])] 47)).alloc (.cells #[.string (t8 [109]), .slice none 0 0, .string (t8 [63])] 47)) 44 #[.string (t8 [65]), .string (t8 []), .slice none 0 0, .slice (some ⟨w.heap.size, 0, none⟩) 1 1, .string (t8 [66]), .string (t8 []), .slice none 0 0, .slice (some ⟨w.heap.size + 1, 0, none⟩) 1 1]
 rw [World.size_alloc, World.size_alloc] at N
 exact ⟨_, rfl, row_2 (cls9 N rfl rfl rfl rfl ((M1.alloc _).alloc _) (by decide) (by decide)) (cls9 N rfl rfl rfl rfl (M2.alloc _) (by decide) (by decide)), (((Kept.refl w).alloc _).alloc _).alloc _⟩
set_option maxHeartbeats 4000000 in
theorem four9_c (w : World) : Calls Tryz.prog 33 #[] w (FourS w) := by
 go_enter Tryz.func33, Tryz.ntmps33
 go_wp2_with fail
 go_ret
 have N := Blk.new w 49 #[.int .i64 1, .string (t8 [63]), .string (t8 [65]), .int .i64 1, .string (t8 [66]), .string (t8 [65]), .int .i64 1, .string (t8 [66]), .string (t8 [65]), .int .i64 5, .string (t8 [63]), .string (t8 [63])]
 exact ⟨_, rfl, row_4 (site9 N rfl rfl rfl (by decide) (by decide)) (site9 N rfl rfl rfl (by decide) (by decide)) (site9 N rfl rfl rfl (by decide) (by decide)) (site9 N rfl rfl rfl (by decide) (by decide)), (Kept.refl w).alloc _⟩
/-- A helper's answer: yes. -/
def Yes (w : World) (e : Ending) (w' : World) : Prop := e = .returned (.bool true) ∧ Kept w w'
set_option maxHeartbeats 4000000 in
theorem checks9_c (q er : Int) (a b : List UInt8) (ha : a.length ≤ 100) (hb : b.length ≤ 100) (hv : Tab.sitesV T9 [s9 q a b] = (er, 0)) (w : World) (hT : Tb w) :
  Calls Tryz.prog 21 #[.int .i64 q, .string (t8 a), .string (t8 b), .int .i64 er] w (Yes w) := by
 have HT := Lib.hid hT
 have HV := Lib.hid hv
 obtain ⟨xa, hxa⟩ : ∃ xa, t8 a = xa := ⟨_, rfl⟩
 obtain ⟨xb, hxb⟩ : ∃ xb, t8 b = xb := ⟨_, rfl⟩
 have hza := sz8 a ha
 have hzb := sz8 b hb
 rw [hxa] at hza ⊢
 rw [hxb] at hzb ⊢
 rw [show s9 q a b = ⟨q, xa, xb⟩ by unfold s9; rw [hxa, hxb]] at HV
 have HZA := Lib.hid hza
 have HZB := Lib.hid hzb
 clear hT hv hxa hxb hza hzb
 unfold Yes
 go_enter Tryz.func21, Tryz.ntmps21
 go_wp2_with fail
 refine (two9_c w).mono ?_
 rintro e w1 ⟨g, rfl, hm, k1⟩
 have HM := Lib.hid hm
 have HK := Lib.hid k1
 have hN := Blk.new w1 49 #[.int .i64 q, .string xa, .string xb]
 have HC := Lib.hid (checkS_c T9 (some ⟨g, 0, none⟩) 2 [⟨q, xa, xb⟩] (some ⟨w1.heap.size, 0, none⟩) 1 (w1.alloc (.cells #[.int .i64 q, .string xa, .string xb] 49)) ((HT.out.kept k1).kept ((Kept.refl _).alloc _)) (tab_kept hm ((Kept.refl _).alloc _)) t9_small
  (row_1 ⟨hN.cell 0, hN.cell 1, hN.cell 2, HZA.out, HZB.out⟩))
 rw [HV.out] at HC
 clear hm k1 hN
 go_wp2_with fail
 refine HC.out.mono ?_
 rintro e w2 ⟨rfl, k2⟩
 have HK2 := Lib.hid ((HK.out.alloc _).trans k2)
 clear k2 HC
 go_wp2_with fail
 go_ret
 exact ⟨by simp, HK2.out⟩
set_option maxHeartbeats 4000000 in
theorem sides9_c (n er : Int) (a b : ByteArray) (hn1 : -9223372036854775808 ≤ n) (hn2 : n ≤ 9223372036854775807) (hv : sidesV F9 n = .tuple #[.string a, .string b, .int .i64 er]) (w : World) :
  Calls Tryz.prog 19 #[.int .i64 n, .string a, .string b, .int .i64 er] w (Yes w) := by
 have HV := Lib.hid hv
 have HN := Lib.hid (And.intro hn1 hn2)
 clear hv hn1 hn2
 unfold Yes
 go_enter Tryz.func19, Tryz.ntmps19
 go_wp2_with fail
 refine (four9_c w).mono ?_
 rintro e w1 ⟨g, rfl, hm, k1⟩
 have HK := Lib.hid k1
 have HC := Lib.hid (sidesS_c F9 (some ⟨g, 0, none⟩) 4 n w1 hm HN.out.1 HN.out.2)
 rw [HV.out] at HC
 clear hm k1
 go_wp2_with fail
 refine HC.out.mono ?_
 rintro e w2 ⟨rfl, k2⟩
 have HK2 := Lib.hid (HK.out.trans k2)
 clear k2 HC
 go_wp2_with fail
 go_ret
 exact ⟨by simp, HK2.out⟩
set_option maxHeartbeats 4000000 in
theorem may9_c (n : Int) (v : Bool) (hn1 : -9223372036854775808 ≤ n) (hn2 : n ≤ 9223372036854775807) (hv : mayV T9 F9 n = .tuple #[.bool v, .int .i64 0]) (w : World) (hT : Tb w) :
  Calls Tryz.prog 20 #[.int .i64 n, .bool v] w (Yes w) := by
 have HT := Lib.hid hT
 have HV := Lib.hid hv
 have HN := Lib.hid (And.intro hn1 hn2)
 clear hv hT hn1 hn2
 unfold Yes
 go_enter Tryz.func20, Tryz.ntmps20
 go_wp2_with fail
 refine (two9_c w).mono ?_
 rintro e w1 ⟨g, rfl, hm, k1⟩
 have HM := Lib.hid hm
 have HK := Lib.hid k1
 clear hm k1
 go_wp2_with fail
 refine (four9_c w1).mono ?_
 rintro e w2 ⟨g2, rfl, hm, k2⟩
 have HK2 := Lib.hid (HK.out.trans k2)
 have HC := Lib.hid (mayS_c T9 (some ⟨g, 0, none⟩) 2 F9 (some ⟨g2, 0, none⟩) 4 n w2 (HT.out.kept HK2.out) (tab_kept HM.out k2) t9_small hm HN.out.1 HN.out.2)
 rw [HV.out] at HC
 clear hm k2
 go_wp2_with fail
 refine HC.out.mono ?_
 rintro e w3 ⟨rfl, k3⟩
 have HK3 := Lib.hid (HK2.out.trans k3)
 clear k3 HC
 cases v with
 | false =>
  go_wp2_with fail
  go_ret
  exact ⟨by first | rfl | simp, HK3.out⟩
 | true =>
  go_wp2_with fail
  go_ret
  exact ⟨by first | rfl | simp, HK3.out⟩
abbrev L9 : List Tab.P2 := [(t8 [65], t8 [66]), (t8 [65], t8 [65]), (t8 [66], t8 [66])]
theorem l9_clo : Tab.cloB T9 L9 = true := by kernel_rfl
theorem pv9_true {s u : ByteArray} (h : (Tab.ats T9 s u && (Tab.alw (s, u) || Tab.inP L9 (s, u))) = true) : Tab.precise T9 s u = true := by
 rw [Bool.and_eq_true, Bool.or_eq_true] at h
 unfold Tab.precise
 rw [h.1, Tab.pcs_iff.2 (h.2.imp_right (Tab.cloB_pre l9_clo))]
 rfl
theorem pv9_false {s u : ByteArray} (h : (Tab.ats T9 s u && (Tab.alw (s, u) || Tab.nec T9 (s, u))) = false) : Tab.precise T9 s u = false := by
 cases hp : Tab.precise T9 s u with
 | false => rfl
 | true =>
  unfold Tab.precise at hp
  rw [Bool.and_eq_true] at hp
  rw [hp.1, Bool.true_and, Bool.or_eq_false_iff] at h
  rcases Tab.pcs_iff.1 hp.2 with h1 | h1
  ·rw [h1] at h; exact absurd h.1 (by simp)
  ·rw [Tab.nec_pre h1] at h; exact absurd h.2 (by simp)
theorem may_cast {t : List Tab.C} {l : List Tab.St} {n : Int} {x : Tab.St} {b : Bool} (hs : Tab.siteAt l n = some x) (hk : Tab.kindS x = 1) (hp : Tab.precise t (Tab.blamed n x) (Tab.other n x) = b) : mayV t l n = .tuple #[.bool (!b), .int .i64 0] := by
 unfold mayV
 rw [hs]
 simp only
 unfold Tab.mayS
 rw [if_pos hk, hp]
theorem m9_1 : mayV T9 F9 1 = .tuple #[.bool true, .int .i64 0] := may_cast (x := s9 1 [63] [65]) rfl rfl (pv9_false (by kernel_rfl))
theorem m9_1n : mayV T9 F9 (-1) = .tuple #[.bool false, .int .i64 0] := may_cast (x := s9 1 [63] [65]) rfl rfl (pv9_true (by kernel_rfl))
theorem m9_2 : mayV T9 F9 2 = .tuple #[.bool true, .int .i64 0] := may_cast (x := s9 1 [66] [65]) rfl rfl (pv9_false (by kernel_rfl))
theorem d9_1 : sidesV F9 1 = .tuple #[.string (t8 [63]), .string (t8 [65]), .int .i64 0] := rfl
theorem d9_2n : sidesV F9 (-2) = .tuple #[.string (t8 [65]), .string (t8 [66]), .int .i64 0] := rfl
theorem k9_6 : Tab.sitesV T9 [s9 6 [63] [63]] = (2, 0) := by kernel_rfl
set_option maxHeartbeats 8000000 in
theorem awake9_c (w : World) (hT : Tb w) : Calls Tryz.prog 7 #[] w fun e w' => e = .returned (.bool true) ∧ Kept w w' := by
 have HT := Lib.hid hT
 have HL0 := Lib.hid (Kept.refl w)
 clear hT
 go_enter Tryz.func7, Tryz.ntmps7
 have HC := Lib.hid (sides9_c 1 0 (t8 [63]) (t8 [65]) (by decide) (by decide) d9_1 w)
 go_wp2_with fail
 refine HC.out.mono ?_
 rintro e w1 ⟨rfl, kk⟩
 have HL1 := Lib.hid (HL0.out.trans kk)
 clear kk HC
 have HC := Lib.hid (sides9_c (-2) 0 (t8 [65]) (t8 [66]) (by decide) (by decide) d9_2n w1)
 go_wp2_with fail
 refine HC.out.mono ?_
 rintro e w2 ⟨rfl, kk⟩
 have HL2 := Lib.hid (HL1.out.trans kk)
 clear kk HC
 have HC := Lib.hid (may9_c 1 true (by decide) (by decide) m9_1 w2 (HT.out.kept HL2.out))
 go_wp2_with fail
 refine HC.out.mono ?_
 rintro e w3 ⟨rfl, kk⟩
 have HL3 := Lib.hid (HL2.out.trans kk)
 clear kk HC
 have HC := Lib.hid (may9_c (-1) false (by decide) (by decide) m9_1n w3 (HT.out.kept HL3.out))
 go_wp2_with fail
 refine HC.out.mono ?_
 rintro e w4 ⟨rfl, kk⟩
 have HL4 := Lib.hid (HL3.out.trans kk)
 clear kk HC
 have HC := Lib.hid (may9_c 2 true (by decide) (by decide) m9_2 w4 (HT.out.kept HL4.out))
 go_wp2_with fail
 refine HC.out.mono ?_
 rintro e w5 ⟨rfl, kk⟩
 have HL5 := Lib.hid (HL4.out.trans kk)
 clear kk HC
 have HC := Lib.hid (checks9_c 6 2 [63] [63] (by decide) (by decide) k9_6 w5 (HT.out.kept HL5.out))
 go_wp2_with fail
 refine HC.out.mono ?_
 rintro e w6 ⟨rfl, kk⟩
 have HL6 := Lib.hid (HL5.out.trans kk)
 clear kk HC
 go_wp2_with fail
 go_ret
 exact ⟨rfl, HL6.out⟩
end Go.Proofs.YtjdkegfckkbpeaaGreatDoor
namespace Go.Proofs.YtjdkegfckkbpeaaGreatDoor
open Go.ChangeShapes Go.WideShapes Go.ChangeAt Go.RowKit Go.Deep
section
variable {H : Type} {enc : TypeId × Value → H} {w : World} {base : Nat} {spare : Nat → Bool} {held : Bool}
theorem site_fields : ∃ fs : Array Field, Tryz.prog.underlying 49 = some (.struct fs) ∧ oneCellFields Tryz.prog fs = true ∧ fs.size = 3 ∧ (∃ f, fs[0]? = some f ∧ f.type = 3) ∧ (∃ f, fs[1]? = some f ∧ f.type = 9) ∧ (∃ f, fs[2]? = some f ∧ f.type = 9) := by
 refine ⟨_, Tryz.underlying49, ?_, rfl, ⟨_, rfl, rfl⟩, ⟨_, rfl, rfl⟩, ⟨_, rfl, rfl⟩⟩
 kernel_rfl
theorem open_site {fuel : Nat} {ad : Addr} {x : DataW H × List MemPlace} {cs : List Value} (hc : w.cells? base ad 3 = some cs) (h : DataW.trod enc Tryz.prog w base spare held fuel 49 cs = some x) :
  ∃ y : Tab.St, w.cell? (ad.add 0) = some (.int .i64 y.what) ∧ w.cell? (ad.add 1) = some (.string y.a) ∧ w.cell? (ad.add 2) = some (.string y.b) ∧ y.a.size ≤ maxLen ∧ y.b.size ≤ maxLen := by
 obtain ⟨fs, hs, hone, hsz, ⟨f0, e0, t0⟩, ⟨f1, e1, t1⟩, ⟨f2, e2, t2⟩⟩ := site_fields
 obtain ⟨ys, n', hn', hy, hlen, hyl, hf⟩ := DataW.trod_struct hs h
 obtain ⟨_, hcl, hat⟩ := World.cells?_some hc
 have hcl3 : cs.length = 3 := hcl
 match cs, hcl3 with
 | [v0, v1, v2], _ =>
  obtain ⟨o0, k0⟩ := hone_of hone 0 f0 e0
  obtain ⟨o1, k1⟩ := hone_of hone 1 f1 e1
  obtain ⟨o2, k2⟩ := hone_of hone 2 f2 e2
  have g0 := hf 0 f0 e0
  have g1 := hf 1 f1 e1
  have g2 := hf 2 f2 e2
  rw [hsz] at hyl
  match ys, hyl with
  | [y0, y1, y2], _ =>
   rw [o0, k0, t0] at g0
   rw [o1, k1, t1] at g1
   rw [o2, k2, t2] at g2
   have c0 := hat 0 (by decide)
   have c1 := hat 1 (by decide)
   have c2 := hat 2 (by decide)
   have g0' : DataW.trod enc Tryz.prog w base spare held n' 3 [v0] = some y0 := g0
   have g1' : DataW.trod enc Tryz.prog w base spare held n' 9 [v1] = some y1 := g1
   have g2' : DataW.trod enc Tryz.prog w base spare held n' 9 [v2] = some y2 := g2
   obtain ⟨m0, r0, _, w0⟩ := DataW.trod_int Tryz.underlying3 g0'
   obtain ⟨s1, r1, _, w1⟩ := DataW.trod_string Tryz.underlying9 g1'
   obtain ⟨s2, r2, _, w2⟩ := DataW.trod_string Tryz.underlying9 g2'
   injection r0 with r0
   injection r1 with r1
   injection r2 with r2
   subst r0 r1 r2
   exact ⟨⟨m0, s1, s2⟩, c0, c1, c2, w1, w2⟩
theorem open_sites {fuel : Nat} {v : Value} {x : DataW H × List MemPlace} (h : DataW.trod enc Tryz.prog w base spare held fuel 23 [v] = some x) :
  ∃ l : List Tab.St, SitesAt w v l := by
 rcases open_slice Tryz.underlying23 h with ⟨hcs, _⟩ | ⟨ad, len, cap, m, k, D, Pl, hcs, hb, hl, hm, hmm, hx, hi⟩
 ·cases hcs
  exact ⟨[], Row.none⟩
 ·cases hcs
  have hC : Tryz.prog.cellsOf 49 = 3 := by kernel_rfl
  obtain ⟨l, hl', hr⟩ := row_of_each (k := 3) (R := SiteAt) (w := w) (ad := ad) hl hm (fun i hin => by
   have hspot : ad.spot = none := by
    obtain ⟨cs0, hc0, ht0⟩ := hi 0 (by rw [hmm]; split <;> omega)
    rw [hC] at hc0
    obtain ⟨_, d0, _⟩ := open_site hc0 ht0
    simpa [Addr.add] using World.cell?_spot d0
   obtain ⟨cs', hc, ht'⟩ := hi i (by rw [hmm]; split <;> omega)
   rw [hC] at hc
   obtain ⟨y, c0, c1, c2, z0, z1⟩ := open_site hc ht'
   obtain ⟨b, off, spot⟩ := ad
   have hs2 : spot = none := hspot
   subst hs2
   simp only [addr_plain, Nat.add_zero] at c0 c1 c2
   exact ⟨y, b, off, rfl, c0, c1, c2, z0, z1⟩)
  exact ⟨l, hr⟩
end
end Go.Proofs.YtjdkegfckkbpeaaGreatDoor
namespace Go.Proofs.YtjdkegfckkbpeaaGreatDoor
open Go.ChangeShapes Go.WideShapes Go.ChangeAt Go.RowKit
theorem short_small {t : List Tab.C} (h : t.length ≤ 9 ∧ ∀ c ∈ t, ShortC c) : Small t :=
 ⟨by omega, fun c hc => by have := (h.2 c hc).1; omega, fun c hc => by have := (h.2 c hc).2.1; omega, fun c hc m hm => by have := (h.2 c hc).2.2 m hm; unfold ShortM at this; omega⟩
def ShortS (x : Tab.St) : Prop := x.a.size ≤ 30 ∧ x.b.size ≤ 30
def LongSP (l : List Tab.St) (e : Ending) : Prop := ∃ b, e = .returned (.bool b) ∧ (b = false → l.length ≤ 12 ∧ ∀ x ∈ l, ShortS x)
theorem longS_yes (l : List Tab.St) : LongSP l (.returned (.bool true)) := ⟨true, rfl, fun h => by cases h⟩
set_option maxHeartbeats 4000000 in
theorem longS_c (l : List Tab.St) (v : Value) (w : World) (h : SitesAt w v l) :
  Calls Tryz.prog 6 #[v] w fun e w' => LongSP l e ∧ w' = w := by
 obtain ⟨a, cp, rfl, h1, h2, hat⟩ := h
 unfold maxLen at h2
 have HAT := Lib.hid hat
 clear hat
 go_enter Tryz.func6, Tryz.ntmps6
 go_wp2_with fail
 go_loopw [3] (fun q wr => ∃ i : Nat, i ≤ l.length ∧ i ≤ 13 ∧ q = .int .i64 i ∧ wr = w ∧ ∀ x ∈ l.take i, ShortS x) (fun q wr => l.length - (intOf q).toNat)
 case atStart => exact ⟨0, Nat.zero_le _, by omega, rfl, rfl, by simp⟩
 case round =>
  obtain ⟨i, hi, hi13, rfl, rfl, hs⟩ := hrel
  have HS := Lib.hid hs
  clear hs
  by_cases hlt : i < l.length
  ·have hltI : (i : Int) < (l.length : Int) := by omega
   by_cases ht : i < 13
   ·have htI : (i : Int) < 13 := by omega
    have hx : l[i]? = some l[i] := List.getElem?_eq_getElem hlt
    have HX := Lib.hid hx
    obtain ⟨b, o, rfl, c0, c1, c2, z1, z2⟩ := HAT.out _ _ hx
    generalize l[i] = x at hx HX c0 c1 c2 z1 z2
    unfold maxLen at z1 z2
    clear hx
    by_cases q1 : 30 < x.a.size
    ·have q1I : (30 : Int) < (x.a.size : Int) := by omega
     go_wp2_with fail
     go_ret
     exact ⟨longS_yes _, rfl⟩
    ·have q1I : ¬ (30 : Int) < (x.a.size : Int) := by omega
     by_cases q2 : 30 < x.b.size
     ·have q2I : (30 : Int) < (x.b.size : Int) := by omega
      go_wp2_with fail
      go_ret
      exact ⟨longS_yes _, rfl⟩
     ·have q2I : ¬ (30 : Int) < (x.b.size : Int) := by omega
      have HN := Lib.hid (all_more HS.out HX.out (show ShortS x from ⟨by omega, by omega⟩))
      go_wp2_with fail
      go_roundw
      case rel => exact ⟨i + 1, by omega, by omega, by go_num, by first | trivial | rfl, HN.out⟩
      case measure => simp [intOf]; omega
   ·have htI : ¬ (i : Int) < 13 := by omega
    have h12 : (12 : Int) < (l.length : Int) := by omega
    go_wp2_with fail
    go_ret
    exact ⟨longS_yes _, rfl⟩
  ·have hltI : ¬ (i : Int) < (l.length : Int) := by omega
   obtain rfl : i = l.length := by omega
   have HN := Lib.hid HS.out
   rw [List.take_length] at HN
   by_cases h12 : 12 < l.length
   ·have h12I : (12 : Int) < (l.length : Int) := by omega
    go_wp2_with fail
    go_ret
    exact ⟨longS_yes _, rfl⟩
   ·have h12I : ¬ (12 : Int) < (l.length : Int) := by omega
    go_wp2_with fail
    go_ret
    exact ⟨⟨false, rfl, fun _ => ⟨by omega, HN.out⟩⟩, rfl⟩
end Go.Proofs.YtjdkegfckkbpeaaGreatDoor
namespace Go.Proofs.YtjdkegfckkbpeaaGreatDoor
open Go.ChangeShapes Go.WideShapes Go.ChangeAt Go.RowKit Go.Lib
def kwL : List (List UInt8) := [[63], [99, 97, 115, 116], [103, 101, 116], [112, 117, 116], [99, 97, 108, 108], [111, 112]]
def kindsD : DataW Unit := .agg (kwL.map fun x => .lit (.string x))
theorem kinds_cells {cs : List Value} {w : World} {fuel : Nat} {q : List MemPlace}
  (h : DataW.trod (fun _ => ()) Tryz.prog w 0 (fun _ => true) false fuel 69 cs = some (kindsD, q)) : cs = kwcs.toList := by
 have hlen : cs.length = 6 := by
  cases fuel with
  | zero => simp [DataW.trod] at h
  | succ n =>
   unfold DataW.trod at h
   rw [Tryz.underlying69] at h
   simp only at h
   split at h
   ·rename_i hl
    rw [hl]
    kernel_rfl
   ·cases h
 have kc : Tryz.prog.cellsOf 9 = 1 := by kernel_rfl
 have E : ∀ (i : Nat) (b : List UInt8), i < 6 → (kwL.map fun x => (DataW.lit (.string x) : DataW Unit))[i]? = some (.lit (.string b)) → (cs.drop i).take 1 = [.string ⟨b.toArray⟩] := by
  intro i b hi hd
  obtain ⟨f', d, q', h1, h2⟩ := array_elem Tryz.underlying69 h i hi
  rw [hd] at h1
  obtain rfl := Option.some.inj h1
  rw [kc, Nat.mul_one] at h2
  obtain ⟨s, c0, e, _⟩ := DataW.trod_string Tryz.underlying9 h2
  rw [c0]
  have : s.data.toList = b := by
   have := congrArg Prod.fst e
   simp at this
   exact this.symm
  subst this
  rfl
 have e0 := E 0 _ (by omega) rfl
 have e1 := E 1 _ (by omega) rfl
 have e2 := E 2 _ (by omega) rfl
 have e3 := E 3 _ (by omega) rfl
 have e4 := E 4 _ (by omega) rfl
 have e5 := E 5 _ (by omega) rfl
 clear E h
 match cs, hlen with
 | [a0, a1, a2, a3, a4, a5], _ =>
  simp at e0 e1 e2 e3 e4 e5
  rw [e0, e1, e2, e3, e4, e5]
  rfl
theorem kw_of_reads {w : World} (h0 : VarReads Tryz.prog w "chaperon/sites.kindWords" kindsD) : Kw w := by
 obtain ⟨g, t, cs, fuel, p, hg, hty, hvar, hd⟩ := h0
 obtain rfl := Option.some.inj ((show Tryz.prog.globalNamed "chaperon/sites.kindWords" = some 0 by kernel_rfl).symm.trans hg)
 obtain rfl := Option.some.inj ((show (Tryz.prog.globals[0]?).map (·.type) = some 69 by kernel_rfl).symm.trans hty)
 have e := kinds_cells hd
 obtain rfl : cs = kwcs := Array.toList_inj.1 e
 exact heap_of_var hg hvar
end Go.Proofs.YtjdkegfckkbpeaaGreatDoor
