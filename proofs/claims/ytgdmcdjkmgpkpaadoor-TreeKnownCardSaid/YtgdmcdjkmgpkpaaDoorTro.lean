/- How many nodes a tree has, and how deep it is: Count, Depth. -/
import Derived.Test.YtgdmcdjkmgpkpaaDoorTri
import Derived.Shelf.Abstract
set_option linter.unusedSimpArgs false
set_option linter.unusedVariables false
set_option maxRecDepth 100000
namespace Go.Proofs.YtgdmcdjkmgpkpaaDoor
open Go.ChangeShapes Go.WideShapes Go.ChangeAt Go.RowKit Go.Shelf
attribute [local go_sem] Oper.semAt_some

/-- The greatest number of nodes below one another, of the first ones. -/
def depN (l : List (Nat × Nd)) : Nat := l.foldl (fun d p => max d (p.1 + 1)) 0
theorem depN_snoc (l : List (Nat × Nd)) (p : Nat × Nd) : depN (l ++ [p]) = max (depN l) (p.1 + 1) := by unfold depN; simp
def Nd.depth (x : Nd) : Nat := depN (x.all 0)
theorem depN_le {l : List (Nat × Nd)} {n : Nat} (h : ∀ p ∈ l, p.1 < n) : depN l ≤ n := by
  suffices H : ∀ (l : List (Nat × Nd)) (d : Nat), d ≤ n → (∀ p ∈ l, p.1 < n) → l.foldl (fun d p => max d (p.1 + 1)) d ≤ n from H l 0 (Nat.zero_le _) h
  intro l
  induction l with
  | nil => intro d hd _; exact hd
  | cons q r ih => intro d hd h; exact ih _ (by have := h q (by simp); show max d (q.1 + 1) ≤ n; omega) fun p hp => h p (List.mem_cons_of_mem _ hp)

/-- The world behind the box, the counter and the iterator's box. -/
theorem box_kids {w W : World} {s : Value} {l : List Nd} (hk : KidsAt w s l) (k : Kept w W) : KidsD (· < w.heap.size) W s l := (KidsD.low hk).kept k

/-- What holds of count's counter. -/
def countI (x : Nd) (w : World) (cb : Nat) (pre : List ItN) (W : World) (O : Nat → Prop) : Prop := (O = fun k => k = cb) ∧ Blk W cb 3 #[.int .i64 (pre.length : Nat)] ∧ Kept w W ∧ itOk x pre
theorem countI.stay {x : Nd} {w : World} {cb n : Nat} {pre : List ItN} {A B : World} {O : Nat → Prop} (h : countI x w cb pre A O) (k : Only (fun k => n ≤ k ∧ ¬ O k) A B) (hn : w.heap.size ≤ n) : countI x w cb pre B O := by
  obtain ⟨h1, h2, h3, h4⟩ := h
  subst h1
  exact ⟨rfl, h2.only k (fun h => h.2 rfl), h3.only k rfl (fun k h => by have := h.1; omega), h4⟩

set_option maxHeartbeats 8000000 in
theorem count_c (x : Nd) (ad : Option Addr) (ck : Nat) (w : World) (hok : x.ok1) (hk : KidsAt w (.slice ad x.kids.length ck) x.kids) (hcnt : x.count ≤ 1000000000) :
    Calls Tryd.prog 14 #[ndV x (.slice ad x.kids.length ck)] w fun e w' => e = .returned (.int .i64 (x.count : Nat)) ∧ Kept w w' := by
  obtain ⟨W1, hW1⟩ : ∃ W1, (w.alloc (.cells #[.int .i64 x.kind, .string x.text, .string x.typ, .string x.frm, .int .i64 x.n, .slice ad x.kids.length ck] 24)).alloc (.cells #[.int .i64 0] 3) = W1 := ⟨_, rfl⟩
  obtain ⟨W2, hW2⟩ : ∃ W2, W1.alloc (.cells (ndC x (.slice ad x.kids.length ck)).toArray 24) = W2 := ⟨_, rfl⟩
  have k1 : Kept w W1 := by rw [← hW1]; exact ((Kept.refl w).alloc _).alloc _
  have k2 : Kept W1 W2 := by rw [← hW2]; exact (Kept.refl W1).alloc _
  have hs1 : W1.heap.size = w.heap.size + 2 := by rw [← hW1]; simp
  have hs2 : W2.heap.size = w.heap.size + 3 := by rw [← hW2]; simp [hs1]
  have hc1 : Blk W1 (w.heap.size + 1) 3 #[.int .i64 0] := by rw [← hW1]; exact Blk.at (by simp)
  have hb2 : Blk W2 W1.heap.size 24 (ndC x (.slice ad x.kids.length ck)).toArray := by rw [← hW2]; exact Blk.new _ _ _
  have hbx : Blk W1 w.heap.size 24 (ndC x (.slice ad x.kids.length ck)).toArray := by rw [← hW1]; exact (Blk.new _ _ _).alloc _
  have HN := Lib.hid (nodes_c x ad ck W1)
  rw [hW2] at HN
  have HK := Lib.hid (fun W k => box_kids (W := W) hk k)
  have HKW := Lib.hid (k1.trans k2)
  have HS1 := Lib.hid hs1
  have HS2 := Lib.hid hs2
  have HB2 := Lib.hid hb2
  have HI0 := Lib.hid (show countI x w (w.heap.size + 1) [] W2 (fun k => k = w.heap.size + 1) from ⟨rfl, hc1.kept k2, k1.trans k2, ⟨List.nil_prefix, fun i it h => by simp at h⟩⟩)
  have HW1 := Lib.hid hW1
  have HOK := Lib.hid hok
  have HC := Lib.hid hcnt
  clear hW1 hW2 k1 k2 hs1 hs2 hc1 hb2 hbx hk hok
  refine (callsIn_wide (n := 3)).1 (callsIn_of_wp_marks Tryd.func14 rfl trivial (wpIn_wide.2 ?_) rfl)
  simp only [Tryd.ntmps14, List.size_toArray, List.length_cons, List.length_nil, Nat.reduceAdd, Nat.reduceSub, Array.replicate_succ, Array.replicate_zero, List.push_toArray, List.append_toArray, List.nil_append, List.cons_append]
  go_wp2_with fail
  rw [HW1.out]
  refine HN.out.mono ?_
  rintro e w2 ⟨rfl, rfl⟩
  clear HN HW1
  go_wp2_with fail
  refine wpIn_wide.1 (wpIn_rangeFunc_ownO (F := Fence.wide) (n := 3) rfl (by omega) (gf := 40) (lb := #[.pointer (some ⟨W1.heap.size, 0, none⟩)]) rfl trivial (enters_of Tryd.func40 (by kernel_rfl) rfl)
    (encs := encN) (S := itAll x) (Sp := itOk x) (G := itG x w2.heap.size) (b0 := w.heap.size) (fun k => k = w.heap.size + 1) (fun k hk => by have := HS2.out; omega)
    (fun Wq hkq hsq => nodes1_o (3 - 1) (by omega) x ad ck W1.heap.size w.heap.size w2.heap.size Wq (HB2.out.kept hkq) HOK.out (HK.out Wq (HKW.out.trans hkq)) (by omega) (by have := HS2.out; omega) HC.out)
    (fun s A B O h k => h.stay k) (fun _ => rfl) (countI x w (w.heap.size + 1)) (fun _ _ _ => False) (fun s A B O h k => h.stay k (by have := HS2.out; omega)) (fun _ _ _ _ h _ => h.elim) HI0.out
    (fun i W => { tmps := #[ndV x (.slice ad x.kids.length ck), .pointer (some ⟨w.heap.size, 0, none⟩), .int .i64 0, .pointer (some ⟨w.heap.size + 1, 0, none⟩), ndV x (.slice ad x.kids.length ck), .func (.func 40) #[] #[.pointer (some ⟨W1.heap.size, 0, none⟩)], .agg #[.int .i64 i.1.1, .int .i64 i.1.2], .pointer (some ⟨i.2.1.1, i.2.1.2, none⟩), undef, undef, undef], defers := [] })
    (fun i W => W) (fun i W => Kept.refl W) ?assign ?body ?done ?stop)
  case assign =>
    intro lr i W K hK
    gi_wp2
    first | exact hK | simpa using hK
  case body =>
    intro lr pre i W0 W O hlr hl0 hob hOl hI hG hsz
    obtain ⟨hO, hI1, hI2, hI3⟩ := hI
    subst hO
    have c0 := hI1.cell 0
    simp only [List.getElem?_toArray, List.getElem?_cons_zero] at c0
    have fr := hI1.frozen 0
    have hpl : pre.length ≤ 1000000000 := by
      have h1 := hI3.1.length_le
      rw [List.length_map, Nd.count_all] at h1
      have := HC.out; omega
    have b3 := hI1.put 0 (.int .i64 ((pre.length : Int) + 1))
    have ho : Only (fun k => (k = w.heap.size + 1) ∨ W0.heap.size ≤ k) W (W.setCell ⟨w.heap.size + 1, 0, none⟩ (.int .i64 ((pre.length : Int) + 1))) := (Only.refl _ W).setCell (.inl (.inl rfl)) _
    have HR := Lib.hid (show countI x w (w.heap.size + 1) (pre ++ [i]) (W.setCell ⟨w.heap.size + 1, 0, none⟩ (.int .i64 ((pre.length : Int) + 1))) (fun k => k = w.heap.size + 1) from ⟨rfl, by simpa using b3, hI2.only ho rfl (fun k hk => by have := HS2.out; omega), hG.1⟩)
    have HO := Lib.hid ho
    have hz : w.heap.size + 1 < W0.heap.size := by have := HS2.out; omega
    clear hI1 hI2 hI3 b3 ho hG hob HI0
    gi_wp2
    exact ⟨HO.out, _, fun k hk => .inl hk, HR.out⟩
  case done =>
    rintro D xs W O hD hS ⟨hO, hI1, hI2, hI3⟩ hK
    subst hO
    have c0 := hI1.cell 0
    simp only [List.getElem?_toArray, List.getElem?_cons_zero] at c0
    have HZ := Lib.hid (show Kept w (W.putObj D (.deferred none)) from hI2.only ((Only.refl (· = D) _).putObj (.inl rfl) _) rfl (fun k hk => by have := HS2.out; omega))
    have HV := Lib.hid (show xs.length = x.count from by have := congrArg List.length hS.1; rw [List.length_map, Nd.count_all] at this; exact this)
    clear hI1 hI2 hI3
    go_wp2_with fail
    refine ⟨by simp, .inl ⟨_, _, rfl, run_takeDeferred hK, ?_⟩⟩
    refine ⟨_, results_tmp rfl _ _ _, ?_⟩
    exact ⟨by simp [HV.out], HZ.out⟩
  case stop => exact fun D c pre W hD hpre h hK => h.elim

mutual
theorem Nd.above_lt : ∀ (x : Nd) (a : Nat), ∀ p ∈ x.all a, p.1 < a + x.count
  | .mk k t y f n ks, a, p, hp => by
    rw [Nd.all_eq] at hp
    rw [Nd.count_eq]
    rcases List.mem_cons.1 hp with rfl | hp
    · dsimp only; omega
    · have := Nd.aboveL_lt ks (a + 1) p hp
      show p.1 < a + (1 + Nd.countL ks)
      omega
theorem Nd.aboveL_lt : ∀ (l : List Nd) (a : Nat), ∀ p ∈ Nd.allL l a, p.1 < a + Nd.countL l
  | [], a, p, hp => by rw [Nd.allL_nil] at hp; cases hp
  | x :: r, a, p, hp => by
    rw [Nd.allL_cons] at hp
    rw [Nd.countL_cons]
    rcases List.mem_append.1 hp with hp | hp
    · have := Nd.above_lt x a p hp; omega
    · have := Nd.aboveL_lt r a p hp; omega
end

/-- What holds of depth's counter. -/
def depthI (x : Nd) (w : World) (cb : Nat) (pre : List ItN) (W : World) (O : Nat → Prop) : Prop := (O = fun k => k = cb) ∧ Blk W cb 3 #[.int .i64 (depN (pre.map plN) : Nat)] ∧ Kept w W ∧ itOk x pre
theorem depthI.stay {x : Nd} {w : World} {cb n : Nat} {pre : List ItN} {A B : World} {O : Nat → Prop} (h : depthI x w cb pre A O) (k : Only (fun k => n ≤ k ∧ ¬ O k) A B) (hn : w.heap.size ≤ n) : depthI x w cb pre B O := by
  obtain ⟨h1, h2, h3, h4⟩ := h
  subst h1
  exact ⟨rfl, h2.only k (fun h => h.2 rfl), h3.only k rfl (fun k h => by have := h.1; omega), h4⟩

set_option maxHeartbeats 8000000 in
theorem depth_c (x : Nd) (ad : Option Addr) (ck : Nat) (w : World) (hok : x.ok1) (hk : KidsAt w (.slice ad x.kids.length ck) x.kids) (hcnt : x.count ≤ 1000000000) :
    Calls Tryd.prog 16 #[ndV x (.slice ad x.kids.length ck)] w fun e w' => e = .returned (.int .i64 (x.depth : Nat)) ∧ Kept w w' := by
  obtain ⟨W1, hW1⟩ : ∃ W1, (w.alloc (.cells #[.int .i64 x.kind, .string x.text, .string x.typ, .string x.frm, .int .i64 x.n, .slice ad x.kids.length ck] 24)).alloc (.cells #[.int .i64 0] 3) = W1 := ⟨_, rfl⟩
  obtain ⟨W2, hW2⟩ : ∃ W2, W1.alloc (.cells (ndC x (.slice ad x.kids.length ck)).toArray 24) = W2 := ⟨_, rfl⟩
  have k1 : Kept w W1 := by rw [← hW1]; exact ((Kept.refl w).alloc _).alloc _
  have k2 : Kept W1 W2 := by rw [← hW2]; exact (Kept.refl W1).alloc _
  have hs1 : W1.heap.size = w.heap.size + 2 := by rw [← hW1]; simp
  have hs2 : W2.heap.size = w.heap.size + 3 := by rw [← hW2]; simp [hs1]
  have hc1 : Blk W1 (w.heap.size + 1) 3 #[.int .i64 0] := by rw [← hW1]; exact Blk.at (by simp)
  have hb2 : Blk W2 W1.heap.size 24 (ndC x (.slice ad x.kids.length ck)).toArray := by rw [← hW2]; exact Blk.new _ _ _
  have hbx : Blk W1 w.heap.size 24 (ndC x (.slice ad x.kids.length ck)).toArray := by rw [← hW1]; exact (Blk.new _ _ _).alloc _
  have HN := Lib.hid (nodes_c x ad ck W1)
  rw [hW2] at HN
  have HK := Lib.hid (fun W k => box_kids (W := W) hk k)
  have HKW := Lib.hid (k1.trans k2)
  have HS1 := Lib.hid hs1
  have HS2 := Lib.hid hs2
  have HB2 := Lib.hid hb2
  have HI0 := Lib.hid (show depthI x w (w.heap.size + 1) [] W2 (fun k => k = w.heap.size + 1) from ⟨rfl, hc1.kept k2, k1.trans k2, ⟨List.nil_prefix, fun i it h => by simp at h⟩⟩)
  have HW1 := Lib.hid hW1
  have HOK := Lib.hid hok
  have HC := Lib.hid hcnt
  clear hW1 hW2 k1 k2 hs1 hs2 hc1 hb2 hbx hk hok
  refine (callsIn_wide (n := 3)).1 (callsIn_of_wp_marks Tryd.func16 rfl trivial (wpIn_wide.2 ?_) rfl)
  simp only [Tryd.ntmps16, List.size_toArray, List.length_cons, List.length_nil, Nat.reduceAdd, Nat.reduceSub, Array.replicate_succ, Array.replicate_zero, List.push_toArray, List.append_toArray, List.nil_append, List.cons_append]
  go_wp2_with fail
  rw [HW1.out]
  refine HN.out.mono ?_
  rintro e w2 ⟨rfl, rfl⟩
  clear HN HW1
  go_wp2_with fail
  refine wpIn_wide.1 (wpIn_rangeFunc_ownO (F := Fence.wide) (n := 3) rfl (by omega) (gf := 40) (lb := #[.pointer (some ⟨W1.heap.size, 0, none⟩)]) rfl trivial (enters_of Tryd.func40 (by kernel_rfl) rfl)
    (encs := encN) (S := itAll x) (Sp := itOk x) (G := itG x w2.heap.size) (b0 := w.heap.size) (fun k => k = w.heap.size + 1) (fun k hk => by have := HS2.out; omega)
    (fun Wq hkq hsq => nodes1_o (3 - 1) (by omega) x ad ck W1.heap.size w.heap.size w2.heap.size Wq (HB2.out.kept hkq) HOK.out (HK.out Wq (HKW.out.trans hkq)) (by omega) (by have := HS2.out; omega) HC.out)
    (fun s A B O h k => h.stay k) (fun _ => rfl) (depthI x w (w.heap.size + 1)) (fun _ _ _ => False) (fun s A B O h k => h.stay k (by have := HS2.out; omega)) (fun _ _ _ _ h _ => h.elim) HI0.out
    (fun i W => { tmps := #[ndV x (.slice ad x.kids.length ck), .pointer (some ⟨w.heap.size, 0, none⟩), .int .i64 0, .pointer (some ⟨w.heap.size + 1, 0, none⟩), .pointer (some ⟨W.heap.size, 0, none⟩), ndV x (.slice ad x.kids.length ck), .func (.func 40) #[] #[.pointer (some ⟨W1.heap.size, 0, none⟩)], .agg #[.int .i64 i.1.1, .int .i64 i.1.2], .pointer (some ⟨i.2.1.1, i.2.1.2, none⟩), undef, undef, undef, undef, undef, undef], defers := [] })
    (fun i W => W.alloc (.cells #[.int .i64 i.1.1, .int .i64 i.1.2] 51)) (fun i W => (Kept.refl W).alloc _) ?assign ?body ?done ?stop)
  case assign =>
    intro lr i W K hK
    gi_wp2
    first | exact hK | simpa using hK
  case body =>
    intro lr pre i W0 W O hlr hl0 hob hOl hI hG hsz
    obtain ⟨hO, hI1, hI2, hI3⟩ := hI
    subst hO
    have c0 := hI1.cell 0
    simp only [List.getElem?_toArray, List.getElem?_cons_zero] at c0
    have fr := hI1.frozen 0
    have hb5 : Blk W W0.heap.size 51 #[.int .i64 i.1.1, .int .i64 i.1.2] := (Blk.new W0 _ _).only hob (by omega)
    have d1 := hb5.cell 1
    simp only [List.getElem?_toArray, List.getElem?_cons_succ, List.getElem?_cons_zero] at d1
    have hab : i.1.2 < 1000000000 := by
      have h1 := hG.1.1.subset (a := plN i) (by simp)
      have h2 := Nd.above_lt x 0 _ h1
      have := HC.out
      simp [plN] at h2; omega
    have hdl : depN (pre.map plN) ≤ 1000000000 := by
      have := HC.out
      exact Nat.le_trans (depN_le (n := x.count) fun p hp => by have := Nd.above_lt x 0 p (hI3.1.subset hp); omega) (by omega)
    obtain ⟨q, hq⟩ : ∃ q, depN (pre.map plN) = q := ⟨_, rfl⟩
    obtain ⟨a, ha⟩ : ∃ a, i.1.2 = a := ⟨_, rfl⟩
    have hmx : ((max q (a + 1) : Nat) : Int) = max (q : Int) ((a : Int) + 1) := by omega
    rw [hq] at c0 hdl
    rw [ha] at d1 hab
    obtain ⟨mx, hm⟩ : ∃ mx : Int, mx = max (q : Int) ((a : Int) + 1) := ⟨_, rfl⟩
    rw [← hm] at hmx
    have b3 := hI1.put 0 (.int .i64 mx)
    have ho : Only (fun k => (k = w.heap.size + 1) ∨ W0.heap.size ≤ k) W (W.setCell ⟨w.heap.size + 1, 0, none⟩ (.int .i64 mx)) := (Only.refl _ W).setCell (.inl (.inl rfl)) _
    have HR := Lib.hid (show depthI x w (w.heap.size + 1) (pre ++ [i]) (W.setCell ⟨w.heap.size + 1, 0, none⟩ (.int .i64 mx)) (fun k => k = w.heap.size + 1) from ⟨rfl, by
      rw [List.map_append, List.map_singleton, depN_snoc, hq, show (plN i).1 = a from ha, hmx]; simpa using b3, hI2.only ho rfl (fun k hk => by have := HS2.out; omega), hG.1⟩)
    have HO := Lib.hid ho
    have hz : w.heap.size + 1 < W0.heap.size := by have := HS2.out; omega
    clear hI1 hI2 hI3 b3 ho hG hob HI0 hb5 hq ha hmx
    have HMX := Lib.hid hm
    clear hm
    gi_wp2
    all_goals first | (rw [show mx = (a : Int) + 1 by have := HMX.out; omega] at HR HO; exact ⟨HO.out, _, fun k hk => .inl hk, HR.out⟩) | (rw [show mx = (q : Int) by have := HMX.out; omega] at HR HO; exact ⟨HO.out, _, fun k hk => .inl hk, HR.out⟩)
  case done =>
    rintro D xs W O hD hS ⟨hO, hI1, hI2, hI3⟩ hK
    subst hO
    have c0 := hI1.cell 0
    simp only [List.getElem?_toArray, List.getElem?_cons_zero] at c0
    have HZ := Lib.hid (show Kept w (W.putObj D (.deferred none)) from hI2.only ((Only.refl (· = D) _).putObj (.inl rfl) _) rfl (fun k hk => by have := HS2.out; omega))
    have HV := Lib.hid (show depN (xs.map plN) = x.depth from by rw [hS.1]; rfl)
    clear hI1 hI2 hI3
    go_wp2_with fail
    refine ⟨by simp, .inl ⟨_, _, rfl, run_takeDeferred hK, ?_⟩⟩
    refine ⟨_, results_tmp rfl _ _ _, ?_⟩
    exact ⟨by simp [HV.out], HZ.out⟩
  case stop => exact fun D c pre W hD hpre h hK => h.elim

end Go.Proofs.YtgdmcdjkmgpkpaaDoor
