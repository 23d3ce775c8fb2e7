/- Contracts of package lexer's ways: word. -/
import Derived.Test.YtbnifedcfkpohaaDoorLx1
set_option linter.unusedSimpArgs false
set_option linter.unusedVariables false
set_option maxRecDepth 100000
namespace Go.Proofs.YtbnifedcfkpohaaDoor
open Go.ChangeShapes Go.WideShapes Go.ChangeAt Go.RowKit Go.Shelf
attribute [local go_sem] Oper.semAt_some

/-- What a way tells of what is cut off at a place. -/
def wayV (p : Nat) : Lx.R → Value
  | .tok k x v len => .tuple #[tagg k x v p, .int .i64 ((p + len : Nat) : Int), fagg 0 0]
  | .bad e off => badV e ((p + off : Nat) : Int)

/-- The blocks of a way's results. -/
def Res2 (n : Nat) (W : World) : Prop := Blk W n 24 #[.int .i64 0, .string ⟨#[]⟩, .int .i64 0, .int .i64 0] ∧ Blk W (n + 1) 38 #[.int .i64 0, .int .i64 0]
theorem Res2.new (w : World) : Res2 w.heap.size ((w.alloc (.cells #[.int .i64 0, .string ⟨#[]⟩, .int .i64 0, .int .i64 0] 24)).alloc (.cells #[.int .i64 0, .int .i64 0] 38)) := by
  refine ⟨(Blk.new _ _ _).alloc _, ?_⟩
  have := Blk.new (w.alloc (.cells #[.int .i64 0, .string ⟨#[]⟩, .int .i64 0, .int .i64 0] 24)) 38 #[.int .i64 0, .int .i64 0]
  simpa using this
theorem Res2.kept {n : Nat} {W W' : World} (h : Res2 n W) (k : Kept W W') : Res2 n W' := ⟨h.1.kept k, h.2.kept k⟩

theorem Res2.froz {n : Nat} {W : World} (h : Res2 n W) : (W.frozen? ⟨n, 0, none⟩ = false ∧ W.frozen? ⟨n, 1, none⟩ = false ∧ W.frozen? ⟨n, 2, none⟩ = false ∧ W.frozen? ⟨n, 3, none⟩ = false) ∧ W.frozen? ⟨n + 1, 0, none⟩ = false ∧ W.frozen? ⟨n + 1, 1, none⟩ = false :=
  ⟨⟨h.1.frozen 0, h.1.frozen 1, h.1.frozen 2, h.1.frozen 3⟩, h.2.frozen 0, h.2.frozen 1⟩

theorem Res2.cel {n : Nat} {W : World} (h : Res2 n W) : (W.cell? ⟨n, 0, none⟩ = some (.int .i64 0) ∧ W.cell? ⟨n, 1, none⟩ = some (.string ⟨#[]⟩) ∧ W.cell? ⟨n, 2, none⟩ = some (.int .i64 0) ∧ W.cell? ⟨n, 3, none⟩ = some (.int .i64 0)) ∧ W.cell? ⟨n + 1, 0, none⟩ = some (.int .i64 0) ∧ W.cell? ⟨n + 1, 1, none⟩ = some (.int .i64 0) :=
  ⟨⟨h.1.cell 0, h.1.cell 1, h.1.cell 2, h.1.cell 3⟩, h.2.cell 0, h.2.cell 1⟩

/-- The results' blocks written. -/
def put6 (W : World) (n : Nat) (k : Int) (x : ByteArray) (v po e a : Int) : World := (((((W.setCell ⟨n, 0, none⟩ (.int .i64 k)).setCell ⟨n, 1, none⟩ (.string x)).setCell ⟨n, 2, none⟩ (.int .i64 v)).setCell ⟨n, 3, none⟩ (.int .i64 po)).setCell ⟨n + 1, 0, none⟩ (.int .i64 e)).setCell ⟨n + 1, 1, none⟩ (.int .i64 a)

theorem put6_blk {W : World} {n : Nat} (h : Res2 n W) (k : Int) (x : ByteArray) (v po e a : Int) : Blk (put6 W n k x v po e a) n 24 #[.int .i64 k, .string x, .int .i64 v, .int .i64 po] ∧ Blk (put6 W n k x v po e a) (n + 1) 38 #[.int .i64 e, .int .i64 a] := by
  have h1 := (((h.1.put 0 (.int .i64 k)).put 1 (.string x)).put 2 (.int .i64 v)).put 3 (.int .i64 po)
  have o1 : Only (· = n) W ((((W.setCell ⟨n, 0, none⟩ (.int .i64 k)).setCell ⟨n, 1, none⟩ (.string x)).setCell ⟨n, 2, none⟩ (.int .i64 v)).setCell ⟨n, 3, none⟩ (.int .i64 po)) := ((((Only.refl _ W).put 0 _).put 1 _).put 2 _).put 3 _
  have h2 := ((h.2.only o1 (by omega)).put 0 (.int .i64 e)).put 1 (.int .i64 a)
  refine ⟨?_, h2⟩
  exact Blk.only h1 (((Only.refl (· = n + 1) _).put 0 (.int .i64 e)).put 1 (.int .i64 a)) (by omega)

theorem put6_kept {w W : World} {n : Nat} (h : Kept w W) (hn : n = w.heap.size) (k : Int) (x : ByteArray) (v po e a : Int) : Kept w (put6 W n k x v po e a) := by
  subst hn
  unfold put6
  exact (((((h.setCell (by simp) _).setCell (by simp) _).setCell (by simp) _).setCell (by simp) _).setCell (by simp) _).setCell (by simp) _

theorem way_end {fn : Func} (hf : fn.results = #[.cell 4 24, .tmp 5, .cell 6 38]) {tmps : Array Value} {w W : World} {k v po e a : Int} {x : ByteArray} {r : Value} (hr : Res2 w.heap.size W) (hk : Kept w W)
    (h4 : tmps.getD 4 undef = .pointer (some ⟨w.heap.size, 0, none⟩)) (h6 : tmps.getD 6 undef = .pointer (some ⟨w.heap.size + 1, 0, none⟩)) (h : .tuple #[tagg k x v po, tmps.getD 5 undef, fagg e a] = r) :
    bodyPost Tryd.prog fn (fun s w' => s = .returned r ∧ Kept w w') .ret { tmps := tmps, defers := [] } (put6 W w.heap.size k x v po e a) := by
  subst h
  obtain ⟨b1, b2⟩ := put6_blk hr k x v po e a
  exact bodyPost_ret (way_results hf _ _ h4 h6 b1 b2) rfl ⟨rfl, put6_kept hk rfl k x v po e a⟩

theorem Res2.alloc {n : Nat} {W : World} (h : Res2 n W) (o : Obj) : Res2 n (W.alloc o) := h.kept ((Kept.refl W).alloc o)
theorem Res2.set {n : Nat} {W : World} (h : Res2 n W) {g : Nat} (hg : n + 1 < g) (i : Nat) (v : Value) : Res2 n (W.setCell ⟨g, i, none⟩ v) :=
  ⟨h.1.only ((Only.refl (· = g) W).put i v) (by omega), h.2.only ((Only.refl (· = g) W).put i v) (by omega)⟩

set_option maxHeartbeats 4000000 in
theorem word_c (a : Option Addr) (c : Nat) (l : List UInt8) (p : Nat) (w : World) (h : SrcAt w (.slice a l.length c) l) (hT : Tb w) (hp : p < l.length) (h2 : Lx.kd l[p] = 2) (hl : l.length ≤ 20000) :
    Calls Tryd.prog 39 #[.slice a l.length c, .int .i64 p] w fun r w' => r = .returned (wayV p (Lx.word (l.drop p))) ∧ Kept w w' := by
  have hcap := h.cap
  unfold maxLen at hcap
  obtain ⟨k, hk⟩ : ∃ k, Lx.run Lx.an (l.drop p) = k := ⟨_, rfl⟩
  have hk0 : 0 < k := by rw [← hk, drop_at hp]; exact Lx.run_pos (by unfold Lx.an; simp [h2])
  have hkl : p + k ≤ l.length := by have := Lx.run_le Lx.an (l.drop p); rw [hk, List.length_drop] at this; omega
  obtain ⟨x, hx⟩ : ∃ x : ByteArray, ⟨((l.drop p).take k).toArray⟩ = x := ⟨_, rfl⟩
  have hxs : x.size = k := by rw [← hx]; exact Lx.take_size _ _ (by rw [List.length_drop]; omega)
  have HV := Lib.hid (show Lx.word (l.drop p) = Lx.wordR x by unfold Lx.word; rw [hk, hx])
  obtain ⟨b, o, rfl, hcv⟩ := cut_is h hk0 hkl
  rw [hx] at hcv
  obtain ⟨W1, hW1⟩ : ∃ W1, (w.alloc (.cells #[.int .i64 0, .string ⟨#[]⟩, .int .i64 0, .int .i64 0] 24)).alloc (.cells #[.int .i64 0, .int .i64 0] 38) = W1 := ⟨_, rfl⟩
  have k1 : Kept w W1 := by rw [← hW1]; exact ((Kept.refl w).alloc _).alloc _
  have HR1 := Lib.hid (show Res2 w.heap.size W1 by rw [← hW1]; exact Res2.new w)
  have HRUN := Lib.hid (run_c true (some ⟨b, o, none⟩) c l p W1 (src_kept h k1) (by omega))
  rw [if_pos rfl, hk] at HRUN
  have HW := Lib.hid hW1
  have HK1 := Lib.hid k1
  have HCV := Lib.hid hcv
  have HT := Lib.hid hT
  rw [HV.out]
  clear h hT h2 hcv hk hx hW1 k1
  go_enter Tryd.func39, Tryd.ntmps39
  go_wp2_with (rw [HW.out])
  refine HRUN.out.mono ?_
  rintro e W2 ⟨rfl, k2⟩
  have HK2 := Lib.hid (HK1.out.trans k2)
  have HR2 := Lib.hid (HR1.out.kept k2)
  clear k2 HR1 HRUN HK1
  have e1 : (((p + k : Nat) : Int) - (p : Int)) = (k : Int) := by omega
  by_cases h20 : 20 < k
  · have h20I : (20 : Int) < (k : Int) := by omega
    have HE := Lib.hid (show Lx.wordR x = .bad 4 0 by unfold Lx.wordR; rw [if_pos (by omega)])
    go_wp2_with fail
    refine (refuse_c 4 p W2).mono ?_
    rintro e W3 ⟨rfl, k3⟩
    have hr3 := HR2.out.kept k3
    obtain ⟨⟨f0, f1, f2, f3⟩, f4, f5⟩ := hr3.froz
    obtain ⟨⟨c0, c1, c2, c3⟩, c4, c5⟩ := hr3.cel
    have HR3 := Lib.hid hr3
    have HK3 := Lib.hid (HK2.out.trans k3)
    clear hr3 k3 HK2 HR2
    go_wp2_with fail
    exact way_end (by rfl) HR3.out HK3.out rfl rfl (by rw [HE.out]; rfl)
  · have h20I : ¬ (20 : Int) < (k : Int) := by omega
    have hsl := fun W => sliced_is (a := some ⟨b, o, none⟩) rfl hk0 (show p + k ≤ c by omega) W (p : Int) ((p + k : Nat) : Int) rfl rfl l.length
    have hcw := HCV.out W2 HK2.out
    obtain ⟨W3, hW3⟩ : ∃ W3, W2.alloc (.cells #[.int .i64 2, .string x, .int .i64 0, .int .i64 p] 24) = W3 := ⟨_, rfl⟩
    have k23 : Kept W2 W3 := by rw [← hW3]; exact (Kept.refl W2).alloc _
    have hsz := (show w.heap.size + 1 < W2.heap.size from HR2.out.2.lt)
    have HB3 := Lib.hid (show Blk W3 W2.heap.size 24 #[.int .i64 2, .string x, .int .i64 0, .int .i64 p] by rw [← hW3]; exact Blk.new _ _ _)
    have HK3 := Lib.hid (HK2.out.trans k23)
    have HR3 := Lib.hid (HR2.out.kept k23)
    have HKEY := Lib.hid (key_c x W3 (HT.out.kept HK3.out))
    have HNAM := Lib.hid (fun W (k : Kept w W) => name_c x W (HT.out.kept k) (by omega))
    have HW3 := Lib.hid hW3
    have d1 := HB3.out.cell 1
    simp at d1
    clear hW3 k23 HK2 HR2
    go_wp2_with (rw [HW3.out])
    refine HKEY.out.mono ?_
    rintro e W4 ⟨rfl, k4⟩
    have HB4 := Lib.hid (HB3.out.kept k4)
    have HR4 := Lib.hid (HR3.out.kept k4)
    have HK4 := Lib.hid (HK3.out.trans k4)
    clear k4 HB3 HR3 HK3 HKEY d1
    have g0 := HB4.out.frozen 0
    have d0 := HB4.out.cell 0
    have d1 := HB4.out.cell 1
    have d2 := HB4.out.cell 2
    have d3 := HB4.out.cell 3
    simp at d0 d1 d2 d3
    cases hkey : Wrd.key x with
    | true =>
      have HE := Lib.hid (show Lx.wordR x = .tok 3 x 0 k by unfold Lx.wordR; rw [if_neg (by omega), hkey, if_pos rfl, hxs])
      obtain ⟨⟨f0, f1, f2, f3⟩, f4, f5⟩ := HR4.out.froz
      obtain ⟨⟨c0, c1, c2, c3⟩, c4, c5⟩ := HR4.out.cel
      have HR5 := Lib.hid (HR4.out.set hsz 0 (.int .i64 3))
      have HK5 := Lib.hid (HK4.out.setCell (p := ⟨W2.heap.size, 0, none⟩) (by show w.heap.size ≤ W2.heap.size; omega) (.int .i64 3))
      clear hkey HR4 HK4
      go_wp2_with fail
      exact way_end (by rfl) HR5.out HK5.out rfl rfl (by rw [HE.out]; rfl)
    | false =>
      have HN := Lib.hid (HNAM.out W4 HK4.out)
      go_wp2_with fail
      refine HN.out.mono ?_
      rintro e W5 ⟨rfl, k5⟩
      have HB5 := Lib.hid (HB4.out.kept k5)
      have HR5 := Lib.hid (HR4.out.kept k5)
      have HK5 := Lib.hid (HK4.out.trans k5)
      clear k5 HB4 HR4 HK4 HN HNAM g0 d0 d1 d2 d3
      have g0 := HB5.out.frozen 0
      have d0 := HB5.out.cell 0
      have d1 := HB5.out.cell 1
      have d2 := HB5.out.cell 2
      have d3 := HB5.out.cell 3
      simp at d0 d1 d2 d3
      obtain ⟨⟨f0, f1, f2, f3⟩, f4, f5⟩ := HR5.out.froz
      obtain ⟨⟨c0, c1, c2, c3⟩, c4, c5⟩ := HR5.out.cel
      cases hnm : Wrd.name x with
      | true =>
        have HE := Lib.hid (show Lx.wordR x = .tok 1 x 0 k by unfold Lx.wordR; rw [if_neg (by omega), hkey, hnm, if_neg (by decide), if_pos rfl, hxs])
        have HR6 := Lib.hid (HR5.out.set hsz 0 (.int .i64 1))
        have HK6 := Lib.hid (HK5.out.setCell (p := ⟨W2.heap.size, 0, none⟩) (by show w.heap.size ≤ W2.heap.size; omega) (.int .i64 1))
        clear hkey hnm HR5 HK5
        go_wp2_with fail
        exact way_end (by rfl) HR6.out HK6.out rfl rfl (by rw [HE.out]; rfl)
      | false =>
        have HE := Lib.hid (show Lx.wordR x = .tok 2 x 0 k by unfold Lx.wordR; rw [if_neg (by omega), hkey, hnm, if_neg (by decide), if_neg (by decide), hxs])
        clear hkey hnm
        go_wp2_with fail
        exact way_end (by rfl) HR5.out HK5.out rfl rfl (by rw [HE.out]; rfl)

end Go.Proofs.YtbnifedcfkpohaaDoor
