/- What a class has by a name, in memory: a map from texts to structs of a method's address and a bool. The contract of table.inherited. -/
import Derived.Test.YtjdkegfckkbpeaaGreatDoorQTkk
import Derived.Test.YtjdkegfckkbpeaaGreatDoorQz2
import Derived.Test.YtjdkegfckkbpeaaGreatDoorQz4
set_option linter.unusedSimpArgs false
set_option linter.unusedVariables false
set_option maxRecDepth 100000
namespace Go.Proofs.YtjdkegfckkbpeaaGreatDoor
open Go.ChangeShapes Go.WideShapes Go.ChangeAt Go.RowKit Go.Shelf
open Go.Maps (Keyed)
/-- The map's values are those that h tells; methods lie where w has them. -/
def HRel (w : World) (h : Tab.Held) (f : ByteArray → Option Value) : Prop :=
 ∀ s, match h s with
  | none => f s = none
  | some (none, b) => f s = some (.agg #[.pointer none, .bool b])
  | some (some m, b) => ∃ k o, f s = some (.agg #[.pointer (some ⟨k, o, none⟩), .bool b]) ∧ SigAt w k o m
theorem HRel.some_iff {w : World} {h : Tab.Held} {f : ByteArray → Option Value} (r : HRel w h f) (s : ByteArray) : (f s).isSome = (h s).isSome := by
 have := r s
 split at this
 ·rename_i e; rw [e, this]; rfl
 ·rename_i e; rw [e, this]; rfl
 ·rename_i e; obtain ⟨_, _, h1, _⟩ := this; rw [e, h1]; rfl
theorem HRel.putF {w : World} {h : Tab.Held} {f : ByteArray → Option Value} (r : HRel w h f) (s : ByteArray) (b : Bool) : HRel w (h.put s (none, b)) (fun x => if x = s then some (.agg #[.pointer none, .bool b]) else f x) := by
 intro x
 unfold Tab.Held.put
 by_cases hx : x = s
 ·rw [if_pos hx]; simp [hx]
 ·rw [if_neg hx]
  have := r x
  simp only [if_neg hx]
  exact this
theorem HRel.putM {w : World} {h : Tab.Held} {f : ByteArray → Option Value} (r : HRel w h f) (s : ByteArray) (m : Tab.M) (b : Bool) {k o : Nat} (hm : SigAt w k o m) : HRel w (h.put s (some m, b)) (fun x => if x = s then some (.agg #[.pointer (some ⟨k, o, none⟩), .bool b]) else f x) := by
 intro x
 unfold Tab.Held.put
 by_cases hx : x = s
 ·rw [if_pos hx]; simp only [if_pos hx]; exact ⟨k, o, rfl, hm⟩
 ·rw [if_neg hx]
  have := r x
  simp only [if_neg hx]
  exact this
/-- Block b holds a map that tells h. -/
def HldAt (w : World) (b n : Nat) (h : Tab.Held) (W : World) : Prop := ∃ f, MapF Tryz.prog 9 b n f W ∧ HRel w h f
theorem HldAt.only {w W W' : World} {b n : Nat} {h : Tab.Held} {S : Nat → Prop} (r : HldAt w b n h W) (ho : Only S W W') (hs : ¬ S b) : HldAt w b n h W' := by
 obtain ⟨f, h1, h2⟩ := r
 exact ⟨f, h1.only ho hs, h2⟩
theorem HldAt.keep {w W W' : World} {b n : Nat} {h : Tab.Held} (r : HldAt w b n h W) (k : Kept W W') : HldAt w b n h W' := r.only (S := fun _ => False) (Only.of_kept k) (fun h => h)
theorem zero_held (W : World) : (zeroValue 185).run Tryz.prog W = .ok (.agg #[.pointer none, .bool false]) W := by kernel_rfl
theorem HldAt.look {w W : World} {b n : Nat} {h : Tab.Held} (r : HldAt w b n h W) (s : ByteArray) (hs : s.size ≤ maxLen) :
  ∃ v, (Instr.lookup 180 (.map (some b)) (.string s) true).run Tryz.prog W = .ok (.tuple #[v, .bool (h s).isSome]) W ∧
   match h s with
   | none => v = .agg #[.pointer none, .bool false]
   | some (none, y) => v = .agg #[.pointer none, .bool y]
   | some (some m, y) => ∃ k o, v = .agg #[.pointer (some ⟨k, o, none⟩), .bool y] ∧ SigAt w k o m := by
 obtain ⟨f, h1, h2⟩ := r
 have hr := h1.look (t := 180) (e := 185) (Maps.string_keyed Tryz.underlying9) Tryz.underlying180 (zero_held W) s (WideMaps.keyOf_string_mk Tryz.underlying9 hs)
 rw [h2.some_iff] at hr
 refine ⟨_, hr, ?_⟩
 have := h2 s
 split at this
 ·rw [this]; rfl
 ·rw [this]; rfl
 ·obtain ⟨k, o, e, hm⟩ := this
  exact ⟨k, o, by rw [e]; rfl, hm⟩
theorem HldAt.putF {w W : World} {b n : Nat} {h : Tab.Held} (r : HldAt w b n h W) (hn : n < maxLen) (s : ByteArray) (hs : s.size ≤ maxLen) (y : Bool) :
  ∃ W', (Instr.mapUpdate 180 (.map (some b)) (.string s) (.agg #[.pointer none, .bool y])).run Tryz.prog W = .ok () W' ∧ HldAt w b (n + 1) (h.put s (none, y)) W' ∧ Only (· = b) W W' := by
 obtain ⟨f, h1, h2⟩ := r
 obtain ⟨W', hr, hm, hg⟩ := h1.store (t := 180) (e := 185) (Maps.string_keyed Tryz.underlying9) Tryz.underlying180 hn s (.agg #[.pointer none, .bool y]) (WideMaps.keyOf_string_mk Tryz.underlying9 hs)
 exact ⟨W', hr, ⟨_, hm, h2.putF s y⟩, (Only.refl _ W).grown hg fun k e => .inl (by injection e with e; exact e.symm)⟩
theorem HldAt.putM {w W : World} {b n : Nat} {h : Tab.Held} (r : HldAt w b n h W) (hn : n < maxLen) (s : ByteArray) (hs : s.size ≤ maxLen) (m : Tab.M) (y : Bool) {k o : Nat} (hm : SigAt w k o m) :
  ∃ W', (Instr.mapUpdate 180 (.map (some b)) (.string s) (.agg #[.pointer (some ⟨k, o, none⟩), .bool y])).run Tryz.prog W = .ok () W' ∧ HldAt w b (n + 1) (h.put s (some m, y)) W' ∧ Only (· = b) W W' := by
 obtain ⟨f, h1, h2⟩ := r
 obtain ⟨W', hr, hm', hg⟩ := h1.store (t := 180) (e := 185) (Maps.string_keyed Tryz.underlying9) Tryz.underlying180 hn s (.agg #[.pointer (some ⟨k, o, none⟩), .bool y]) (WideMaps.keyOf_string_mk Tryz.underlying9 hs)
 exact ⟨W', hr, ⟨_, hm', h2.putM s m y hm⟩, (Only.refl _ W).grown hg fun k e => .inl (by injection e with e; exact e.symm)⟩
end Go.Proofs.YtjdkegfckkbpeaaGreatDoor
namespace Go.Proofs.YtjdkegfckkbpeaaGreatDoor
open Go.ChangeShapes Go.WideShapes Go.ChangeAt Go.RowKit Go.Shelf
attribute [local go_sem] Oper.semAt_some
def inhF (t : List Tab.C) (pre : List Nat) : Tab.Held := pre.foldl (fun h i => Tab.inhC h (Tab.nth t i)) fun _ => none
theorem inhF_snoc (t : List Tab.C) (pre : List Nat) (i : Nat) : inhF t (pre ++ [i]) = Tab.inhC (inhF t pre) (Tab.nth t i) := by unfold inhF; simp
def fldH (h : Tab.Held) (l : List Tab.V) : Tab.Held := l.foldl (fun h f => h.put f.name (none, false)) h
def mthH (h : Tab.Held) (l : List Tab.M) : Tab.Held := l.foldl (fun h m => if (h m.name).isSome then h else h.put m.name (some m, false)) h
theorem fldH_snoc (h : Tab.Held) (l : List Tab.V) (f : Tab.V) : fldH h (l ++ [f]) = (fldH h l).put f.name (none, false) := by unfold fldH; simp
theorem mthH_snoc (h : Tab.Held) (l : List Tab.M) (m : Tab.M) : mthH h (l ++ [m]) = if ((mthH h l) m.name).isSome then mthH h l else (mthH h l).put m.name (some m, false) := by unfold mthH; simp
/-- The map's box, and the map. -/
def InhC (w : World) (n : Nat) (h : Tab.Held) (W : World) : Prop := Blk W (w.heap.size + 1) 180 #[.map (some w.heap.size)] ∧ HldAt w w.heap.size n h W ∧ Kept w W
theorem inhC_only {w A B : World} {n : Nat} {h : Tab.Held} {S : Nat → Prop} (r : InhC w n h A) (ho : Only S A B) (hs : ∀ k, S k → w.heap.size + 2 ≤ k) : InhC w n h B :=
 ⟨r.1.only ho (fun e => by have := hs _ e; omega), r.2.1.only ho (fun e => by have := hs _ e; omega), r.2.2.onlyS ho (fun k e => by have := hs k e; omega)⟩
theorem InhC.keep {w A B : World} {n : Nat} {h : Tab.Held} (r : InhC w n h A) (k : Kept A B) : InhC w n h B := inhC_only r (S := fun _ => False) (Only.of_kept k) (fun _ h => h.elim)
theorem InhC.next {w A B : World} {n m : Nat} {h h' : Tab.Held} (r : InhC w n h A) (hh : HldAt w w.heap.size m h' B) (ho : Only (· = w.heap.size) A B) : InhC w m h' B :=
 ⟨r.1.only ho (by omega), hh, r.2.2.onlyS ho (fun k e => by omega)⟩
def InhI (t : List Tab.C) (w : World) (pre : List Nat) (W : World) : Prop := ∃ n, InhC w n (inhF t pre) W ∧ n ≤ 2000 * pre.length
theorem held_form {w : World} {h : Tab.Held} {f : ByteArray → Option Value} (r : HRel w h f) (s : ByteArray) : ∃ p y, (f s).getD (.agg #[.pointer none, .bool false]) = .agg #[.pointer p, .bool y] := by
 have := r s
 split at this
 ·exact ⟨none, false, by rw [this]; rfl⟩
 ·exact ⟨none, _, by rw [this]; rfl⟩
 ·obtain ⟨k, o, e, _⟩ := this
  exact ⟨_, _, by rw [e]; rfl⟩
set_option maxHeartbeats 4000000 in
theorem inherited_c (a : Option Addr) (c : Nat) (t : List Tab.C) (s : ByteArray) (w : World) (hT : TabAt w (.slice a t.length c) t) (hS : Small t) :
  Calls Tryz.prog 133 #[.slice a t.length c, .string s] w fun e w' => e = .returned (.map (some w.heap.size)) ∧ (∃ n, HldAt w w.heap.size n (Tab.inh t s) w' ∧ n ≤ 2002000) ∧ Kept w w' := by
 have ht := hS.len
 have hmm := @run_makeMap Tryz.prog
 refine (callsIn_wide (n := 3)).1 (callsIn_of_wp_marks Tryz.func133 rfl trivial (wpIn_wide.2 ?_) rfl)
 simp only [Tryz.ntmps133, List.size_toArray, List.length_cons, List.length_nil, Nat.reduceAdd, Nat.reduceSub, Array.replicate_succ, Array.replicate_zero, List.push_toArray, List.append_toArray, List.nil_append, List.cons_append]
 have HT := Lib.hid hT
 clear hT
 go_wp2_with fail
 obtain ⟨W1, hW1⟩ : ∃ W1, (w.alloc (.map #[] 0)).alloc (.cells #[.map (some w.heap.size)] 180) = W1 := ⟨_, rfl⟩
 have hI1 : InhC w 0 (inhF t []) W1 := by
  rw [← hW1]
  have h2 := MapF.made w Tryz.prog 9
  have h3 := Blk.new (w.alloc (.map #[] 0)) 180 #[.map (some w.heap.size)]
  simp only [World.size_alloc] at h3
  exact ⟨h3, ⟨_, h2.only ((Only.refl (fun _ => False) _).alloc _) (fun h => h), fun s => rfl⟩, ((Kept.refl w).alloc _).alloc _⟩
 have HS1 := Lib.hid (show W1.heap.size = w.heap.size + 2 by rw [← hW1]; simp)
 have HI1 := Lib.hid hI1
 rw [hW1]
 clear hW1 hI1
 refine (line_lineC a c t s _).mono ?_
 rintro e w3 ⟨rfl, hw3⟩
 have HK3 := Lib.hid (show Kept W1 w3 by rw [hw3]; exact ((Kept.refl W1).alloc _).alloc _)
 have HS3 := Lib.hid (show w3.heap.size = W1.heap.size + 2 by rw [hw3]; simp)
 have HB1 := Lib.hid (show Blk w3 W1.heap.size 22 #[.slice a t.length c] by rw [hw3]; exact (Blk.new _ _ _).alloc _)
 have HB2 := Lib.hid (show Blk w3 (W1.heap.size + 1) 9 #[.string s] by
  rw [hw3]
  have := Blk.new (W1.alloc (.cells #[.slice a t.length c] 22)) 9 #[.string s]
  simpa using this)
 clear hw3
 go_wp2_with fail
 have e1 : w.heap.size + 2 ≤ W1.heap.size := by have := HS1.out; omega
 have e3 : W1.heap.size + 2 ≤ w3.heap.size := by have := HS3.out; omega
 have hI3 : InhI t w [] w3 := ⟨0, HI1.out.keep HK3.out, Nat.zero_le _⟩
 refine wpIn_wide.1 (wpIn_range_line (w0 := w) (bt := W1.heap.size) (bn := W1.heap.size + 1) a c t s (· = w.heap.size) rfl HT.out ht (HI1.out.keep HK3.out).2.2 HB1.out HB2.out (by omega) (by omega) (by omega) (fun k e => by omega) rfl
  (InhI t w) (fun _ _ _ => False) (fun pre A B ⟨n, h1, h2⟩ ho => ⟨n, inhC_only h1 ho (fun k h => by omega), h2⟩) (fun _ _ _ _ h _ => h) hI3
  (fun i => { tmps := #[.slice a t.length c, .string s, undef, undef, .map none, .pointer (some ⟨w.heap.size + 1, 0, none⟩), elC a i, undef, undef, undef, undef, undef, undef, .map (some w.heap.size), .slice a t.length c, .string s, .func (.func 164) #[] #[.pointer (some ⟨W1.heap.size, 0, none⟩), .pointer (some ⟨W1.heap.size + 1, 0, none⟩)], elC a i, undef, undef, undef, undef, undef, undef, undef, undef, undef, undef, undef, undef, undef, undef, undef, undef, undef, undef, undef, undef, undef, undef, undef, undef, undef, undef, undef, undef, undef, undef, undef, undef, undef, undef, undef, undef, undef, undef, undef, undef, undef, undef, undef, undef, undef, undef, undef, undef], defers := [] }) ?assign ?body ?done ?stop)
 case assign =>
  intro l i W K hK
  gi_wp2
  exact hK
 case body =>
  rintro l pre i b o W hl _ ⟨n0, hC0, hn0⟩ hsize hpre hi' rfl hcl
  have hpl : pre.length ≤ 1000 := by
   have h1 := hpre.length_le
   have h2 := Tab.line_len t s
   simp at h1
   omega
  obtain ⟨_, _, ⟨fu, hfw, hfr⟩, ⟨mu, hmw, hmr⟩, _⟩ := hcl
  have hfc := hC0.2.2.cell hfw
  have hmc := hC0.2.2.cell hmw
  obtain ⟨fa, fc, hfe, _, _, hfat⟩ := hfr
  obtain ⟨ma, mc, hme, _, _, hmat⟩ := hmr
  subst hfe hme
  have HFW := Lib.hid hfw
  have HMW := Lib.hid hmw
  have HFAT := Lib.hid hfat
  have HMAT := Lib.hid hmat
  have HC0 := Lib.hid hC0
  have HFL := Lib.hid (hS.fields _ (nth_mem hi'))
  have HML := Lib.hid (hS.methods _ (nth_mem hi'))
  have HSZ := Lib.hid hsize
  simp only [elC, evC, Option.map_some]
  clear hfw hmw hfat hmat hC0 hpre hI3 HI1 hsize hl
  gi_wp2
  clear hfc hmc
  gi_loopw [23] (fun q wr => ∃ (j n : Nat), j ≤ (Tab.nth t i).fields.length ∧ q = .int .i64 j ∧ InhC w n (fldH (inhF t pre) ((Tab.nth t i).fields.take j)) wr ∧ n ≤ 2000 * pre.length + j ∧ Only (fun k => k = w.heap.size ∨ w3.heap.size + 3 ≤ k) W wr) (fun q wr => (Tab.nth t i).fields.length - (intOf q).toNat)
  case atStart => exact ⟨0, n0, Nat.zero_le _, rfl, HC0.out, by omega, Only.refl _ _⟩
  case round =>
   obtain ⟨j, n, hj, rfl, hC, hn, hO⟩ := hrel
   by_cases hlt : j < (Tab.nth t i).fields.length
   ·have hltI : (j : Int) < ((Tab.nth t i).fields.length : Int) := by omega
    have hx : (Tab.nth t i).fields[j]? = some (Tab.nth t i).fields[j] := List.getElem?_eq_getElem hlt
    obtain ⟨ub, uo, e2, hva⟩ := HFAT.out _ _ hx
    generalize (Tab.nth t i).fields[j] = x at hx hva
    subst e2
    obtain ⟨x0, x1, xs, _⟩ := hva.kept hC.2.2
    have hk1 : Kept wr (wr.alloc (.cells #[.string x.name, .string x.typ] 72)) := (Kept.refl wr).alloc _
    have hC1 := hC.keep hk1
    have hbx := hC1.1.cell 0
    have hfb := (Blk.new wr 72 #[.string x.name, .string x.typ]).cell 0
    have hfl := HFL.out
    obtain ⟨X1, hup, hH, hO1⟩ := hC1.2.1.putF (by unfold maxLen; omega) x.name xs false
    have HX := Lib.hid (show (Tab.nth t i).fields.take (j + 1) = (Tab.nth t i).fields.take j ++ [x] by rw [List.take_add_one, hx]; rfl)
    have HN := Lib.hid (hC1.next hH hO1)
    have HO := Lib.hid ((hO.trans (Only.of_kept hk1)).trans (hO1.mono fun k _ e => .inl e))
    simp at hbx hfb
    clear hx hva hC hC1 hH hO1 hk1 hO
    gi_wp2
    go_roundw
    case rel => exact ⟨j + 1, n + 1, by omega, by go_num, by rw [HX.out, fldH_snoc]; exact HN.out, by omega, HO.out⟩
    case measure => simp [intOf]; omega
   ·have hltI : ¬ (j : Int) < ((Tab.nth t i).fields.length : Int) := by omega
    obtain rfl : j = (Tab.nth t i).fields.length := by omega
    rw [List.take_length] at hC
    have hmc := hC.2.2.cell HMW.out
    have HC1 := Lib.hid hC
    have HO1 := Lib.hid hO
    have HN1 := Lib.hid hn
    clear hC hO hlt hn
    gi_wp2
    clear hmc
    gi_loopw [37] (fun q wr => ∃ (j n : Nat), j ≤ (Tab.nth t i).methods.length ∧ q = .int .i64 j ∧ InhC w n (mthH (fldH (inhF t pre) (Tab.nth t i).fields) ((Tab.nth t i).methods.take j)) wr ∧ n ≤ 2000 * pre.length + (Tab.nth t i).fields.length + j ∧ Only (fun k => k = w.heap.size ∨ w3.heap.size + 3 ≤ k) W wr) (fun q wr => (Tab.nth t i).methods.length - (intOf q).toNat)
    case atStart => exact ⟨0, n, Nat.zero_le _, rfl, HC1.out, by have := HN1.out; omega, HO1.out⟩
    case round =>
     obtain ⟨j, n2, hj, rfl, hC, hn, hO⟩ := hrel
     have hmc := hC.2.2.cell HMW.out
     have hfl := HFL.out
     have hml := HML.out
     by_cases hlt : j < (Tab.nth t i).methods.length
     ·have hltI : (j : Int) < ((Tab.nth t i).methods.length : Int) := by omega
      have hx : (Tab.nth t i).methods[j]? = some (Tab.nth t i).methods[j] := List.getElem?_eq_getElem hlt
      obtain ⟨ub, uo, e2, hva⟩ := HMAT.out _ _ hx
      generalize (Tab.nth t i).methods[j] = x at hx hva
      subst e2
      have HVA := Lib.hid hva
      obtain ⟨x0, _, _, hxs, _⟩ := hva.kept hC.2.2
      have hbx := hC.1.cell 0
      obtain ⟨h, hh⟩ : ∃ h, h = mthH (fldH (inhF t pre) (Tab.nth t i).fields) ((Tab.nth t i).methods.take j) := ⟨_, rfl⟩
      have HH := Lib.hid hh
      rw [← hh] at hC
      obtain ⟨f, hmf, hrf⟩ := hC.2.1
      obtain ⟨p, y, hvv⟩ := held_form hrf x.name
      have hka : Kept wr (wr.alloc (.cells #[.pointer none, .bool false] 185)).drew := ((Kept.refl wr).alloc _).drew
      have hlk1 := (hmf.only (S := fun _ => False) (Only.of_kept (Kept.refl wr).drew) (fun h => h)).look (t := 180) (e := 185) (Maps.string_keyed Tryz.underlying9) Tryz.underlying180 (zero_held _) x.name (WideMaps.keyOf_string_mk Tryz.underlying9 hxs)
      have hlk2 := (hmf.only (S := fun _ => False) (Only.of_kept hka) (fun h => h)).look (t := 180) (e := 185) (Maps.string_keyed Tryz.underlying9) Tryz.underlying180 (zero_held _) x.name (WideMaps.keyOf_string_mk Tryz.underlying9 hxs)
      rw [hvv, hrf.some_iff] at hlk1 hlk2
      have hca := (hC.keep hka).1.cell 0
      have HXA := Lib.hid ((hva.kept (hC.2.2.trans hka)).1)
      have hxa := HXA.out
      have HX := Lib.hid (show (Tab.nth t i).methods.take (j + 1) = (Tab.nth t i).methods.take j ++ [x] by rw [List.take_add_one, hx]; rfl)
      have HC := Lib.hid hC
      have HO := Lib.hid hO
      have hb2 := (Blk.new wr 185 #[.pointer none, .bool false])
      have k0 := hb2.cell 0
      have k1 := hb2.cell 1
      have l0 := hb2.frozen 0
      have l1 := hb2.frozen 1
      simp at hbx hca k0 k1
      clear hx hva hC hO hmf hrf hvv hh hka hb2
      have HKP := Lib.hid (show Kept wr (wr.alloc (.cells #[.pointer p, .bool y] 185)).drew from ((Kept.refl wr).alloc _).drew)
      cases his : (h x.name).isSome with
      | true =>
       rw [his] at hlk1 hlk2
       have HIS := Lib.hid his
       clear his
       gi_wp2
       refine wpIn_region_of_any (by kernel_rfl) (by kernel_rfl) (by rintro ⟨_, _, h⟩; exact h) ?_
       ·change wpAny _ _ _ _ _ _ _ (World.drew _)
        refine tkA 1 ?_
        refine tkA 2 ?_
        refine tkA 3 ?_
        refine rdA [0, 4, 9] ?_
        refine aR (fun K hK => ?_) ?_
        ·go_simp
         refine hK _ _ ?_; clear hK K
         refine rdA [4, 9] ?_
         refine aR (fun K hK => ?_) ?_
         ·go_simp
          refine hK _ _ ?_; clear hK K
          refine rdA [5, 9] ?_
          refine aR (fun K hK => ?_) ?_
          ·go_simp
           refine hK _ _ ?_; clear hK K
           refine tkA 6 ?_
           refine tkA 7 ?_
           refine tkA 8 ?_
           refine rdA [9] ?_
           refine aR (fun K hK => ?_) ?_
           ·go_simp
            refine hK _ _ ?_; clear hK K
            refine rdA [10] ?_
            refine aR (fun K hK => ?_) ?_
            ·go_simp
             refine hK _ _ ?_; clear hK K
             refine tkA 11 ?_
             refine wpAny_done (by kernel_rfl) ?_ _
             gi_wp2
             go_roundw
             case rel => exact ⟨j + 1, n2, by omega, by go_num, by rw [HX.out, mthH_snoc, ← HH.out, HIS.out]; exact HC.out.keep HKP.out, by omega, HO.out.trans (Only.of_kept HKP.out)⟩
             case measure => simp [intOf]; omega
            exact AllReady.nil
           exact AllReady.nil
          refine aR (fun K hK => ?_) ?_
          ·go_simp
           refine hK _ _ ?_; clear hK K
           refine rdA [5] ?_
           refine aR (fun K hK => ?_) ?_
           ·go_simp
            refine hK _ _ ?_; clear hK K
            refine tkA 6 ?_
            refine tkA 7 ?_
            refine tkA 8 ?_
            refine rdA [10] ?_
            refine aR (fun K hK => ?_) ?_
            ·go_simp
             refine hK _ _ ?_; clear hK K
             refine tkA 11 ?_
             refine wpAny_done (by kernel_rfl) ?_ _
             gi_wp2
             go_roundw
             case rel => exact ⟨j + 1, n2, by omega, by go_num, by rw [HX.out, mthH_snoc, ← HH.out, HIS.out]; exact HC.out.keep HKP.out, by omega, HO.out.trans (Only.of_kept HKP.out)⟩
             case measure => simp [intOf]; omega
            exact AllReady.nil
           exact AllReady.nil
          exact AllReady.nil
         refine aR (fun K hK => ?_) ?_
         ·go_simp
          refine hK _ _ ?_; clear hK K
          refine rdA [4] ?_
          refine aR (fun K hK => ?_) ?_
          ·go_simp
           refine hK _ _ ?_; clear hK K
           refine rdA [5] ?_
           refine aR (fun K hK => ?_) ?_
           ·go_simp
            refine hK _ _ ?_; clear hK K
            refine tkA 6 ?_
            refine tkA 7 ?_
            refine tkA 8 ?_
            refine rdA [10] ?_
            refine aR (fun K hK => ?_) ?_
            ·go_simp
             refine hK _ _ ?_; clear hK K
             refine tkA 11 ?_
             refine wpAny_done (by kernel_rfl) ?_ _
             gi_wp2
             go_roundw
             case rel => exact ⟨j + 1, n2, by omega, by go_num, by rw [HX.out, mthH_snoc, ← HH.out, HIS.out]; exact HC.out.keep HKP.out, by omega, HO.out.trans (Only.of_kept HKP.out)⟩
             case measure => simp [intOf]; omega
            exact AllReady.nil
           exact AllReady.nil
          exact AllReady.nil
         exact AllReady.nil
        refine aR (fun K hK => ?_) ?_
        ·go_simp
         refine hK _ _ ?_; clear hK K
         refine rdA [0, 9] ?_
         refine aR (fun K hK => ?_) ?_
         ·go_simp
          refine hK _ _ ?_; clear hK K
          refine rdA [5, 9] ?_
          refine aR (fun K hK => ?_) ?_
          ·go_simp
           refine hK _ _ ?_; clear hK K
           refine tkA 6 ?_
           refine tkA 7 ?_
           refine tkA 8 ?_
           refine rdA [9] ?_
           refine aR (fun K hK => ?_) ?_
           ·go_simp
            refine hK _ _ ?_; clear hK K
            refine rdA [10] ?_
            refine aR (fun K hK => ?_) ?_
            ·go_simp
             refine hK _ _ ?_; clear hK K
             refine tkA 11 ?_
             refine wpAny_done (by kernel_rfl) ?_ _
             gi_wp2
             go_roundw
             case rel => exact ⟨j + 1, n2, by omega, by go_num, by rw [HX.out, mthH_snoc, ← HH.out, HIS.out]; exact HC.out.keep HKP.out, by omega, HO.out.trans (Only.of_kept HKP.out)⟩
             case measure => simp [intOf]; omega
            exact AllReady.nil
           exact AllReady.nil
          refine aR (fun K hK => ?_) ?_
          ·go_simp
           refine hK _ _ ?_; clear hK K
           refine rdA [5] ?_
           refine aR (fun K hK => ?_) ?_
           ·go_simp
            refine hK _ _ ?_; clear hK K
            refine tkA 6 ?_
            refine tkA 7 ?_
            refine tkA 8 ?_
            refine rdA [10] ?_
            refine aR (fun K hK => ?_) ?_
            ·go_simp
             refine hK _ _ ?_; clear hK K
             refine tkA 11 ?_
             refine wpAny_done (by kernel_rfl) ?_ _
             gi_wp2
             go_roundw
             case rel => exact ⟨j + 1, n2, by omega, by go_num, by rw [HX.out, mthH_snoc, ← HH.out, HIS.out]; exact HC.out.keep HKP.out, by omega, HO.out.trans (Only.of_kept HKP.out)⟩
             case measure => simp [intOf]; omega
            exact AllReady.nil
           exact AllReady.nil
          exact AllReady.nil
         refine aR (fun K hK => ?_) ?_
         ·go_simp
          refine hK _ _ ?_; clear hK K
          refine rdA [0] ?_
          refine aR (fun K hK => ?_) ?_
          ·go_simp
           refine hK _ _ ?_; clear hK K
           refine rdA [5] ?_
           refine aR (fun K hK => ?_) ?_
           ·go_simp
            refine hK _ _ ?_; clear hK K
            refine tkA 6 ?_
            refine tkA 7 ?_
            refine tkA 8 ?_
            refine rdA [10] ?_
            refine aR (fun K hK => ?_) ?_
            ·go_simp
             refine hK _ _ ?_; clear hK K
             refine tkA 11 ?_
             refine wpAny_done (by kernel_rfl) ?_ _
             gi_wp2
             go_roundw
             case rel => exact ⟨j + 1, n2, by omega, by go_num, by rw [HX.out, mthH_snoc, ← HH.out, HIS.out]; exact HC.out.keep HKP.out, by omega, HO.out.trans (Only.of_kept HKP.out)⟩
             case measure => simp [intOf]; omega
            exact AllReady.nil
           exact AllReady.nil
          exact AllReady.nil
         exact AllReady.nil
        refine aR (fun K hK => ?_) ?_
        ·go_simp
         refine hK _ _ ?_; clear hK K
         refine rdA [0, 4] ?_
         refine aR (fun K hK => ?_) ?_
         ·go_simp
          refine hK _ _ ?_; clear hK K
          refine rdA [4] ?_
          refine aR (fun K hK => ?_) ?_
          ·go_simp
           refine hK _ _ ?_; clear hK K
           refine rdA [5] ?_
           refine aR (fun K hK => ?_) ?_
           ·go_simp
            refine hK _ _ ?_; clear hK K
            refine tkA 6 ?_
            refine tkA 7 ?_
            refine tkA 8 ?_
            refine rdA [10] ?_
            refine aR (fun K hK => ?_) ?_
            ·go_simp
             refine hK _ _ ?_; clear hK K
             refine tkA 11 ?_
             refine wpAny_done (by kernel_rfl) ?_ _
             gi_wp2
             go_roundw
             case rel => exact ⟨j + 1, n2, by omega, by go_num, by rw [HX.out, mthH_snoc, ← HH.out, HIS.out]; exact HC.out.keep HKP.out, by omega, HO.out.trans (Only.of_kept HKP.out)⟩
             case measure => simp [intOf]; omega
            exact AllReady.nil
           exact AllReady.nil
          exact AllReady.nil
         refine aR (fun K hK => ?_) ?_
         ·go_simp
          refine hK _ _ ?_; clear hK K
          refine rdA [0] ?_
          refine aR (fun K hK => ?_) ?_
          ·go_simp
           refine hK _ _ ?_; clear hK K
           refine rdA [5] ?_
           refine aR (fun K hK => ?_) ?_
           ·go_simp
            refine hK _ _ ?_; clear hK K
            refine tkA 6 ?_
            refine tkA 7 ?_
            refine tkA 8 ?_
            refine rdA [10] ?_
            refine aR (fun K hK => ?_) ?_
            ·go_simp
             refine hK _ _ ?_; clear hK K
             refine tkA 11 ?_
             refine wpAny_done (by kernel_rfl) ?_ _
             gi_wp2
             go_roundw
             case rel => exact ⟨j + 1, n2, by omega, by go_num, by rw [HX.out, mthH_snoc, ← HH.out, HIS.out]; exact HC.out.keep HKP.out, by omega, HO.out.trans (Only.of_kept HKP.out)⟩
             case measure => simp [intOf]; omega
            exact AllReady.nil
           exact AllReady.nil
          exact AllReady.nil
         exact AllReady.nil
        exact AllReady.nil
      | false =>
       rw [his] at hlk1 hlk2
       have HIS := Lib.hid his
       have hC2 := HC.out.keep (HKP.out.trans (Kept.refl _).drew)
       obtain ⟨X1, hup, hH, hO1⟩ := hC2.2.1.putM (by unfold maxLen; omega) x.name hxs x false HVA.out
       have HN := Lib.hid (hC2.next hH hO1)
       have HO2 := Lib.hid ((HO.out.trans (Only.of_kept (HKP.out.trans (Kept.refl _).drew))).trans (hO1.mono fun k _ e => .inl e))
       have ha1 := (HC.out.keep HKP.out).1.cell 0
       have ha2 := (HVA.out.kept (HC.out.2.2.trans HKP.out)).1
       simp at ha1 ha2
       clear his hC2 hH hO1
       gi_wp2
       refine wpIn_region_of_any (by kernel_rfl) (by kernel_rfl) (by rintro ⟨_, _, h⟩; exact h) ?_
       ·change wpAny _ _ _ _ _ _ _ (World.drew _)
        refine tkA 1 ?_
        refine tkA 2 ?_
        refine tkA 3 ?_
        refine rdA [0, 4, 9] ?_
        refine aR (fun K hK => ?_) ?_
        ·go_simp
         refine hK _ _ ?_; clear hK K
         refine rdA [4, 9] ?_
         refine aR (fun K hK => ?_) ?_
         ·go_simp
          refine hK _ _ ?_; clear hK K
          refine rdA [5, 9] ?_
          refine aR (fun K hK => ?_) ?_
          ·go_simp
           refine hK _ _ ?_; clear hK K
           refine tkA 6 ?_
           refine tkA 7 ?_
           refine tkA 8 ?_
           refine rdA [9] ?_
           refine aR (fun K hK => ?_) ?_
           ·go_simp
            refine hK _ _ ?_; clear hK K
            refine rdA [10] ?_
            refine aR (fun K hK => ?_) ?_
            ·go_simp
             refine hK _ _ ?_; clear hK K
             refine tkA 11 ?_
             refine wpAny_done (by kernel_rfl) ?_ _
             gi_wp2
             refine wpIn_region_of_any (by kernel_rfl) (by kernel_rfl) (by rintro ⟨_, _, h⟩; exact h) ?_
             change wpAny _ _ _ _ _ _ _ (World.drew _)
             refine tkA 1 ?_
             refine tkA 2 ?_
             refine tkA 3 ?_
             refine tkA 5 ?_
             refine tkA 6 ?_
             refine rdA [0, 4] ?_
             refine aR (fun K hK => ?_) ?_
             ·go_simp
              refine hK _ _ ?_; clear hK K
              refine rdA [4] ?_
              refine aR (fun K hK => ?_) ?_
              ·go_simp
               refine hK _ _ ?_; clear hK K
               refine rdA [7] ?_
               refine aR (fun K hK => ?_) ?_
               ·go_simp
                refine hK _ _ ?_; clear hK K
                refine wpAny_done (by kernel_rfl) ?_ _
                gi_wp2
                go_roundw
                case rel => exact ⟨j + 1, n2 + 1, by omega, by go_num, by rw [HX.out, mthH_snoc, ← HH.out, HIS.out]; exact HN.out, by omega, HO2.out⟩
                case measure => simp [intOf]; omega
               exact AllReady.nil
              exact AllReady.nil
             refine aR (fun K hK => ?_) ?_
             ·go_simp
              refine hK _ _ ?_; clear hK K
              refine rdA [0] ?_
              refine aR (fun K hK => ?_) ?_
              ·go_simp
               refine hK _ _ ?_; clear hK K
               refine rdA [7] ?_
               refine aR (fun K hK => ?_) ?_
               ·go_simp
                refine hK _ _ ?_; clear hK K
                refine wpAny_done (by kernel_rfl) ?_ _
                gi_wp2
                go_roundw
                case rel => exact ⟨j + 1, n2 + 1, by omega, by go_num, by rw [HX.out, mthH_snoc, ← HH.out, HIS.out]; exact HN.out, by omega, HO2.out⟩
                case measure => simp [intOf]; omega
               exact AllReady.nil
              exact AllReady.nil
             exact AllReady.nil
            exact AllReady.nil
           exact AllReady.nil
          refine aR (fun K hK => ?_) ?_
          ·go_simp
           refine hK _ _ ?_; clear hK K
           refine rdA [5] ?_
           refine aR (fun K hK => ?_) ?_
           ·go_simp
            refine hK _ _ ?_; clear hK K
            refine tkA 6 ?_
            refine tkA 7 ?_
            refine tkA 8 ?_
            refine rdA [10] ?_
            refine aR (fun K hK => ?_) ?_
            ·go_simp
             refine hK _ _ ?_; clear hK K
             refine tkA 11 ?_
             refine wpAny_done (by kernel_rfl) ?_ _
             gi_wp2
             refine wpIn_region_of_any (by kernel_rfl) (by kernel_rfl) (by rintro ⟨_, _, h⟩; exact h) ?_
             change wpAny _ _ _ _ _ _ _ (World.drew _)
             refine tkA 1 ?_
             refine tkA 2 ?_
             refine tkA 3 ?_
             refine tkA 5 ?_
             refine tkA 6 ?_
             refine rdA [0, 4] ?_
             refine aR (fun K hK => ?_) ?_
             ·go_simp
              refine hK _ _ ?_; clear hK K
              refine rdA [4] ?_
              refine aR (fun K hK => ?_) ?_
              ·go_simp
               refine hK _ _ ?_; clear hK K
               refine rdA [7] ?_
               refine aR (fun K hK => ?_) ?_
               ·go_simp
                refine hK _ _ ?_; clear hK K
                refine wpAny_done (by kernel_rfl) ?_ _
                gi_wp2
                go_roundw
                case rel => exact ⟨j + 1, n2 + 1, by omega, by go_num, by rw [HX.out, mthH_snoc, ← HH.out, HIS.out]; exact HN.out, by omega, HO2.out⟩
                case measure => simp [intOf]; omega
               exact AllReady.nil
              exact AllReady.nil
             refine aR (fun K hK => ?_) ?_
             ·go_simp
              refine hK _ _ ?_; clear hK K
              refine rdA [0] ?_
              refine aR (fun K hK => ?_) ?_
              ·go_simp
               refine hK _ _ ?_; clear hK K
               refine rdA [7] ?_
               refine aR (fun K hK => ?_) ?_
               ·go_simp
                refine hK _ _ ?_; clear hK K
                refine wpAny_done (by kernel_rfl) ?_ _
                gi_wp2
                go_roundw
                case rel => exact ⟨j + 1, n2 + 1, by omega, by go_num, by rw [HX.out, mthH_snoc, ← HH.out, HIS.out]; exact HN.out, by omega, HO2.out⟩
                case measure => simp [intOf]; omega
               exact AllReady.nil
              exact AllReady.nil
             exact AllReady.nil
            exact AllReady.nil
           exact AllReady.nil
          exact AllReady.nil
         refine aR (fun K hK => ?_) ?_
         ·go_simp
          refine hK _ _ ?_; clear hK K
          refine rdA [4] ?_
          refine aR (fun K hK => ?_) ?_
          ·go_simp
           refine hK _ _ ?_; clear hK K
           refine rdA [5] ?_
           refine aR (fun K hK => ?_) ?_
           ·go_simp
            refine hK _ _ ?_; clear hK K
            refine tkA 6 ?_
            refine tkA 7 ?_
            refine tkA 8 ?_
            refine rdA [10] ?_
            refine aR (fun K hK => ?_) ?_
            ·go_simp
             refine hK _ _ ?_; clear hK K
             refine tkA 11 ?_
             refine wpAny_done (by kernel_rfl) ?_ _
             gi_wp2
             refine wpIn_region_of_any (by kernel_rfl) (by kernel_rfl) (by rintro ⟨_, _, h⟩; exact h) ?_
             change wpAny _ _ _ _ _ _ _ (World.drew _)
             refine tkA 1 ?_
             refine tkA 2 ?_
             refine tkA 3 ?_
             refine tkA 5 ?_
             refine tkA 6 ?_
             refine rdA [0, 4] ?_
             refine aR (fun K hK => ?_) ?_
             ·go_simp
              refine hK _ _ ?_; clear hK K
              refine rdA [4] ?_
              refine aR (fun K hK => ?_) ?_
              ·go_simp
               refine hK _ _ ?_; clear hK K
               refine rdA [7] ?_
               refine aR (fun K hK => ?_) ?_
               ·go_simp
                refine hK _ _ ?_; clear hK K
                refine wpAny_done (by kernel_rfl) ?_ _
                gi_wp2
                go_roundw
                case rel => exact ⟨j + 1, n2 + 1, by omega, by go_num, by rw [HX.out, mthH_snoc, ← HH.out, HIS.out]; exact HN.out, by omega, HO2.out⟩
                case measure => simp [intOf]; omega
               exact AllReady.nil
              exact AllReady.nil
             refine aR (fun K hK => ?_) ?_
             ·go_simp
              refine hK _ _ ?_; clear hK K
              refine rdA [0] ?_
              refine aR (fun K hK => ?_) ?_
              ·go_simp
               refine hK _ _ ?_; clear hK K
               refine rdA [7] ?_
               refine aR (fun K hK => ?_) ?_
               ·go_simp
                refine hK _ _ ?_; clear hK K
                refine wpAny_done (by kernel_rfl) ?_ _
                gi_wp2
                go_roundw
                case rel => exact ⟨j + 1, n2 + 1, by omega, by go_num, by rw [HX.out, mthH_snoc, ← HH.out, HIS.out]; exact HN.out, by omega, HO2.out⟩
                case measure => simp [intOf]; omega
               exact AllReady.nil
              exact AllReady.nil
             exact AllReady.nil
            exact AllReady.nil
           exact AllReady.nil
          exact AllReady.nil
         exact AllReady.nil
        refine aR (fun K hK => ?_) ?_
        ·go_simp
         refine hK _ _ ?_; clear hK K
         refine rdA [0, 9] ?_
         refine aR (fun K hK => ?_) ?_
         ·go_simp
          refine hK _ _ ?_; clear hK K
          refine rdA [5, 9] ?_
          refine aR (fun K hK => ?_) ?_
          ·go_simp
           refine hK _ _ ?_; clear hK K
           refine tkA 6 ?_
           refine tkA 7 ?_
           refine tkA 8 ?_
           refine rdA [9] ?_
           refine aR (fun K hK => ?_) ?_
           ·go_simp
            refine hK _ _ ?_; clear hK K
            refine rdA [10] ?_
            refine aR (fun K hK => ?_) ?_
            ·go_simp
             refine hK _ _ ?_; clear hK K
             refine tkA 11 ?_
             refine wpAny_done (by kernel_rfl) ?_ _
             gi_wp2
             refine wpIn_region_of_any (by kernel_rfl) (by kernel_rfl) (by rintro ⟨_, _, h⟩; exact h) ?_
             change wpAny _ _ _ _ _ _ _ (World.drew _)
             refine tkA 1 ?_
             refine tkA 2 ?_
             refine tkA 3 ?_
             refine tkA 5 ?_
             refine tkA 6 ?_
             refine rdA [0, 4] ?_
             refine aR (fun K hK => ?_) ?_
             ·go_simp
              refine hK _ _ ?_; clear hK K
              refine rdA [4] ?_
              refine aR (fun K hK => ?_) ?_
              ·go_simp
               refine hK _ _ ?_; clear hK K
               refine rdA [7] ?_
               refine aR (fun K hK => ?_) ?_
               ·go_simp
                refine hK _ _ ?_; clear hK K
                refine wpAny_done (by kernel_rfl) ?_ _
                gi_wp2
                go_roundw
                case rel => exact ⟨j + 1, n2 + 1, by omega, by go_num, by rw [HX.out, mthH_snoc, ← HH.out, HIS.out]; exact HN.out, by omega, HO2.out⟩
                case measure => simp [intOf]; omega
               exact AllReady.nil
              exact AllReady.nil
             refine aR (fun K hK => ?_) ?_
             ·go_simp
              refine hK _ _ ?_; clear hK K
              refine rdA [0] ?_
              refine aR (fun K hK => ?_) ?_
              ·go_simp
               refine hK _ _ ?_; clear hK K
               refine rdA [7] ?_
               refine aR (fun K hK => ?_) ?_
               ·go_simp
                refine hK _ _ ?_; clear hK K
                refine wpAny_done (by kernel_rfl) ?_ _
                gi_wp2
                go_roundw
                case rel => exact ⟨j + 1, n2 + 1, by omega, by go_num, by rw [HX.out, mthH_snoc, ← HH.out, HIS.out]; exact HN.out, by omega, HO2.out⟩
                case measure => simp [intOf]; omega
               exact AllReady.nil
              exact AllReady.nil
             exact AllReady.nil
            exact AllReady.nil
           exact AllReady.nil
          refine aR (fun K hK => ?_) ?_
          ·go_simp
           refine hK _ _ ?_; clear hK K
           refine rdA [5] ?_
           refine aR (fun K hK => ?_) ?_
           ·go_simp
            refine hK _ _ ?_; clear hK K
            refine tkA 6 ?_
            refine tkA 7 ?_
            refine tkA 8 ?_
            refine rdA [10] ?_
            refine aR (fun K hK => ?_) ?_
            ·go_simp
             refine hK _ _ ?_; clear hK K
             refine tkA 11 ?_
             refine wpAny_done (by kernel_rfl) ?_ _
             gi_wp2
             refine wpIn_region_of_any (by kernel_rfl) (by kernel_rfl) (by rintro ⟨_, _, h⟩; exact h) ?_
             change wpAny _ _ _ _ _ _ _ (World.drew _)
             refine tkA 1 ?_
             refine tkA 2 ?_
             refine tkA 3 ?_
             refine tkA 5 ?_
             refine tkA 6 ?_
             refine rdA [0, 4] ?_
             refine aR (fun K hK => ?_) ?_
             ·go_simp
              refine hK _ _ ?_; clear hK K
              refine rdA [4] ?_
              refine aR (fun K hK => ?_) ?_
              ·go_simp
               refine hK _ _ ?_; clear hK K
               refine rdA [7] ?_
               refine aR (fun K hK => ?_) ?_
               ·go_simp
                refine hK _ _ ?_; clear hK K
                refine wpAny_done (by kernel_rfl) ?_ _
                gi_wp2
                go_roundw
                case rel => exact ⟨j + 1, n2 + 1, by omega, by go_num, by rw [HX.out, mthH_snoc, ← HH.out, HIS.out]; exact HN.out, by omega, HO2.out⟩
                case measure => simp [intOf]; omega
               exact AllReady.nil
              exact AllReady.nil
             refine aR (fun K hK => ?_) ?_
             ·go_simp
              refine hK _ _ ?_; clear hK K
              refine rdA [0] ?_
              refine aR (fun K hK => ?_) ?_
              ·go_simp
               refine hK _ _ ?_; clear hK K
               refine rdA [7] ?_
               refine aR (fun K hK => ?_) ?_
               ·go_simp
                refine hK _ _ ?_; clear hK K
                refine wpAny_done (by kernel_rfl) ?_ _
                gi_wp2
                go_roundw
                case rel => exact ⟨j + 1, n2 + 1, by omega, by go_num, by rw [HX.out, mthH_snoc, ← HH.out, HIS.out]; exact HN.out, by omega, HO2.out⟩
                case measure => simp [intOf]; omega
               exact AllReady.nil
              exact AllReady.nil
             exact AllReady.nil
            exact AllReady.nil
           exact AllReady.nil
          exact AllReady.nil
         refine aR (fun K hK => ?_) ?_
         ·go_simp
          refine hK _ _ ?_; clear hK K
          refine rdA [0] ?_
          refine aR (fun K hK => ?_) ?_
          ·go_simp
           refine hK _ _ ?_; clear hK K
           refine rdA [5] ?_
           refine aR (fun K hK => ?_) ?_
           ·go_simp
            refine hK _ _ ?_; clear hK K
            refine tkA 6 ?_
            refine tkA 7 ?_
            refine tkA 8 ?_
            refine rdA [10] ?_
            refine aR (fun K hK => ?_) ?_
            ·go_simp
             refine hK _ _ ?_; clear hK K
             refine tkA 11 ?_
             refine wpAny_done (by kernel_rfl) ?_ _
             gi_wp2
             refine wpIn_region_of_any (by kernel_rfl) (by kernel_rfl) (by rintro ⟨_, _, h⟩; exact h) ?_
             change wpAny _ _ _ _ _ _ _ (World.drew _)
             refine tkA 1 ?_
             refine tkA 2 ?_
             refine tkA 3 ?_
             refine tkA 5 ?_
             refine tkA 6 ?_
             refine rdA [0, 4] ?_
             refine aR (fun K hK => ?_) ?_
             ·go_simp
              refine hK _ _ ?_; clear hK K
              refine rdA [4] ?_
              refine aR (fun K hK => ?_) ?_
              ·go_simp
               refine hK _ _ ?_; clear hK K
               refine rdA [7] ?_
               refine aR (fun K hK => ?_) ?_
               ·go_simp
                refine hK _ _ ?_; clear hK K
                refine wpAny_done (by kernel_rfl) ?_ _
                gi_wp2
                go_roundw
                case rel => exact ⟨j + 1, n2 + 1, by omega, by go_num, by rw [HX.out, mthH_snoc, ← HH.out, HIS.out]; exact HN.out, by omega, HO2.out⟩
                case measure => simp [intOf]; omega
               exact AllReady.nil
              exact AllReady.nil
             refine aR (fun K hK => ?_) ?_
             ·go_simp
              refine hK _ _ ?_; clear hK K
              refine rdA [0] ?_
              refine aR (fun K hK => ?_) ?_
              ·go_simp
               refine hK _ _ ?_; clear hK K
               refine rdA [7] ?_
               refine aR (fun K hK => ?_) ?_
               ·go_simp
                refine hK _ _ ?_; clear hK K
                refine wpAny_done (by kernel_rfl) ?_ _
                gi_wp2
                go_roundw
                case rel => exact ⟨j + 1, n2 + 1, by omega, by go_num, by rw [HX.out, mthH_snoc, ← HH.out, HIS.out]; exact HN.out, by omega, HO2.out⟩
                case measure => simp [intOf]; omega
               exact AllReady.nil
              exact AllReady.nil
             exact AllReady.nil
            exact AllReady.nil
           exact AllReady.nil
          exact AllReady.nil
         exact AllReady.nil
        refine aR (fun K hK => ?_) ?_
        ·go_simp
         refine hK _ _ ?_; clear hK K
         refine rdA [0, 4] ?_
         refine aR (fun K hK => ?_) ?_
         ·go_simp
          refine hK _ _ ?_; clear hK K
          refine rdA [4] ?_
          refine aR (fun K hK => ?_) ?_
          ·go_simp
           refine hK _ _ ?_; clear hK K
           refine rdA [5] ?_
           refine aR (fun K hK => ?_) ?_
           ·go_simp
            refine hK _ _ ?_; clear hK K
            refine tkA 6 ?_
            refine tkA 7 ?_
            refine tkA 8 ?_
            refine rdA [10] ?_
            refine aR (fun K hK => ?_) ?_
            ·go_simp
             refine hK _ _ ?_; clear hK K
             refine tkA 11 ?_
             refine wpAny_done (by kernel_rfl) ?_ _
             gi_wp2
             refine wpIn_region_of_any (by kernel_rfl) (by kernel_rfl) (by rintro ⟨_, _, h⟩; exact h) ?_
             change wpAny _ _ _ _ _ _ _ (World.drew _)
             refine tkA 1 ?_
             refine tkA 2 ?_
             refine tkA 3 ?_
             refine tkA 5 ?_
             refine tkA 6 ?_
             refine rdA [0, 4] ?_
             refine aR (fun K hK => ?_) ?_
             ·go_simp
              refine hK _ _ ?_; clear hK K
              refine rdA [4] ?_
              refine aR (fun K hK => ?_) ?_
              ·go_simp
               refine hK _ _ ?_; clear hK K
               refine rdA [7] ?_
               refine aR (fun K hK => ?_) ?_
               ·go_simp
                refine hK _ _ ?_; clear hK K
                refine wpAny_done (by kernel_rfl) ?_ _
                gi_wp2
                go_roundw
                case rel => exact ⟨j + 1, n2 + 1, by omega, by go_num, by rw [HX.out, mthH_snoc, ← HH.out, HIS.out]; exact HN.out, by omega, HO2.out⟩
                case measure => simp [intOf]; omega
               exact AllReady.nil
              exact AllReady.nil
             refine aR (fun K hK => ?_) ?_
             ·go_simp
              refine hK _ _ ?_; clear hK K
              refine rdA [0] ?_
              refine aR (fun K hK => ?_) ?_
              ·go_simp
               refine hK _ _ ?_; clear hK K
               refine rdA [7] ?_
               refine aR (fun K hK => ?_) ?_
               ·go_simp
                refine hK _ _ ?_; clear hK K
                refine wpAny_done (by kernel_rfl) ?_ _
                gi_wp2
                go_roundw
                case rel => exact ⟨j + 1, n2 + 1, by omega, by go_num, by rw [HX.out, mthH_snoc, ← HH.out, HIS.out]; exact HN.out, by omega, HO2.out⟩
                case measure => simp [intOf]; omega
               exact AllReady.nil
              exact AllReady.nil
             exact AllReady.nil
            exact AllReady.nil
           exact AllReady.nil
          exact AllReady.nil
         refine aR (fun K hK => ?_) ?_
         ·go_simp
          refine hK _ _ ?_; clear hK K
          refine rdA [0] ?_
          refine aR (fun K hK => ?_) ?_
          ·go_simp
           refine hK _ _ ?_; clear hK K
           refine rdA [5] ?_
           refine aR (fun K hK => ?_) ?_
           ·go_simp
            refine hK _ _ ?_; clear hK K
            refine tkA 6 ?_
            refine tkA 7 ?_
            refine tkA 8 ?_
            refine rdA [10] ?_
            refine aR (fun K hK => ?_) ?_
            ·go_simp
             refine hK _ _ ?_; clear hK K
             refine tkA 11 ?_
             refine wpAny_done (by kernel_rfl) ?_ _
             gi_wp2
             refine wpIn_region_of_any (by kernel_rfl) (by kernel_rfl) (by rintro ⟨_, _, h⟩; exact h) ?_
             change wpAny _ _ _ _ _ _ _ (World.drew _)
             refine tkA 1 ?_
             refine tkA 2 ?_
             refine tkA 3 ?_
             refine tkA 5 ?_
             refine tkA 6 ?_
             refine rdA [0, 4] ?_
             refine aR (fun K hK => ?_) ?_
             ·go_simp
              refine hK _ _ ?_; clear hK K
              refine rdA [4] ?_
              refine aR (fun K hK => ?_) ?_
              ·go_simp
               refine hK _ _ ?_; clear hK K
               refine rdA [7] ?_
               refine aR (fun K hK => ?_) ?_
               ·go_simp
                refine hK _ _ ?_; clear hK K
                refine wpAny_done (by kernel_rfl) ?_ _
                gi_wp2
                go_roundw
                case rel => exact ⟨j + 1, n2 + 1, by omega, by go_num, by rw [HX.out, mthH_snoc, ← HH.out, HIS.out]; exact HN.out, by omega, HO2.out⟩
                case measure => simp [intOf]; omega
               exact AllReady.nil
              exact AllReady.nil
             refine aR (fun K hK => ?_) ?_
             ·go_simp
              refine hK _ _ ?_; clear hK K
              refine rdA [0] ?_
              refine aR (fun K hK => ?_) ?_
              ·go_simp
               refine hK _ _ ?_; clear hK K
               refine rdA [7] ?_
               refine aR (fun K hK => ?_) ?_
               ·go_simp
                refine hK _ _ ?_; clear hK K
                refine wpAny_done (by kernel_rfl) ?_ _
                gi_wp2
                go_roundw
                case rel => exact ⟨j + 1, n2 + 1, by omega, by go_num, by rw [HX.out, mthH_snoc, ← HH.out, HIS.out]; exact HN.out, by omega, HO2.out⟩
                case measure => simp [intOf]; omega
               exact AllReady.nil
              exact AllReady.nil
             exact AllReady.nil
            exact AllReady.nil
           exact AllReady.nil
          exact AllReady.nil
         exact AllReady.nil
        exact AllReady.nil
     ·have hltI : ¬ (j : Int) < ((Tab.nth t i).methods.length : Int) := by omega
      obtain rfl : j = (Tab.nth t i).methods.length := by omega
      rw [List.take_length] at hC
      have HC := Lib.hid hC
      have HO := Lib.hid hO
      have HN := Lib.hid (show n2 ≤ 2000 * (pre ++ [i]).length by rw [List.length_append, List.length_singleton]; omega)
      clear hC hO hlt hmc hn
      gi_wp2
      exact ⟨HO.out, n2, by rw [inhF_snoc]; exact HC.out, HN.out⟩
 case done =>
  rintro D W hD ⟨n, hC, hn⟩ hd
  have HD := Lib.hid hD
  have hc := hC.1.cell 0
  have HC := Lib.hid hC
  have HO := Lib.hid (show Only (· = D) W (W.putObj D (.deferred none)) from Only.putObj (Only.refl (· = D) W) (.inl rfl) _)
  have HN := Lib.hid (show n ≤ 2002000 by have := Tab.line_len t s; omega)
  simp at hc
  clear hC hD hI3 HI1 hn
  go_wp2
  refine ⟨by simp, .inl ⟨_, _, rfl, run_takeDeferred hd, ?_⟩⟩
  have hR := inhC_only HC.out HO.out (fun k e => by have := HD.out; omega)
  exact ⟨_, results_tmp rfl _ _ _, rfl, ⟨n, hR.2.1, HN.out⟩, hR.2.2⟩
 case stop =>
  rintro D c pre W _ _ h _
  exact h.elim
end Go.Proofs.YtjdkegfckkbpeaaGreatDoor
