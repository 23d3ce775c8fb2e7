/- Contracts of package lexer's spelling and Spell. -/
import Derived.Test.YtbnifedcfkpohaaDoorLx9
import Derived.Lib.ItoaLen
import Derived.Lib.ConvBytes
import Derived.Laws.StructEq
set_option linter.unusedSimpArgs false
set_option linter.unusedVariables false
set_option maxRecDepth 100000
namespace Go.Proofs.YtbnifedcfkpohaaDoor
open Go.ChangeShapes Go.WideShapes Go.ChangeAt Go.RowKit Go.Shelf
attribute [local go_sem] Oper.semAt_some

/-- A token as a value. -/
abbrev tV (x : Lx.T) : Value := tagg x.kind x.text x.n x.pos
abbrev tC (x : Lx.T) : Array Value := #[.int .i64 x.kind, .string x.text, .int .i64 x.n, .int .i64 x.pos]
/-- What a token holds fits. -/
def TokOk (x : Lx.T) : Prop := -9223372036854775808 ≤ x.n ∧ x.n ≤ 9223372036854775807 ∧ x.text.size ≤ 100000

theorem cat_r (l : List UInt8) : (⟨l.toArray⟩ : ByteArray) ++ ⟨#[114]⟩ = ⟨(l ++ [114]).toArray⟩ := by
  apply ByteArray.ext
  apply Array.toList_inj.1
  simp

set_option maxHeartbeats 4000000 in
theorem spelling_c (x : Lx.T) (w : World) (hT : Tb w) (hP : Pw w) (hx : TokOk x) :
    Calls Tryd.prog 25 #[tV x] w fun e w' => e = .returned (.string (Lx.spl x)) ∧ Kept w w' := by
  obtain ⟨hn0, hn1, hsz⟩ := hx
  obtain ⟨W1, hW1⟩ : ∃ W1, w.alloc (.cells (tC x) 24) = W1 := ⟨_, rfl⟩
  have k1 : Kept w W1 := by rw [← hW1]; exact (Kept.refl w).alloc _
  have b1 : Blk W1 w.heap.size 24 (tC x) := by rw [← hW1]; exact Blk.new w _ _
  have HW1 := Lib.hid hW1
  have HK1 := Lib.hid k1
  obtain ⟨c0, c1, c2, c3⟩ : W1.cell? ⟨w.heap.size, 0, none⟩ = some (.int .i64 x.kind) ∧ W1.cell? ⟨w.heap.size, 1, none⟩ = some (.string x.text) ∧ W1.cell? ⟨w.heap.size, 2, none⟩ = some (.int .i64 x.n) ∧ W1.cell? ⟨w.heap.size, 3, none⟩ = some (.int .i64 x.pos) := ⟨b1.cell 0, b1.cell 1, b1.cell 2, b1.cell 3⟩
  have HI := Lib.hid (itoa_c x.n hn0 hn1 W1 (hP.kept k1))
  have HQ := Lib.hid (quoted_c x.text W1 (hT.kept k1) hsz)
  have hil := Lib.itoa_length_le x.n hn0 hn1
  obtain ⟨R, hR⟩ : ∃ R, Lx.spl x = R := ⟨_, rfl⟩
  rw [hR]
  have HR := Lib.hid hR
  clear hW1 k1 b1 hT hP hn0 hn1 hsz hR
  have HSP : Hid (Lx.spl x = if x.kind = 4 then ⟨(Lib.itoa x.n).toArray⟩ else if x.kind = 5 then ⟨(Lib.itoa x.n ++ [114]).toArray⟩ else if x.kind = 6 then ⟨(34 :: x.text.data.toList.flatMap Lx.spelt ++ [34]).toArray⟩ else x.text) := Lib.hid rfl
  obtain ⟨it, hit⟩ : ∃ it : ByteArray, ⟨(Lib.itoa x.n).toArray⟩ = it := ⟨_, rfl⟩
  have hits : it.size ≤ 21 := by rw [← hit]; show (Lib.itoa x.n).toArray.size ≤ 21; simpa using hil
  rw [hit] at HI HSP
  have HIT := Lib.hid hit
  clear hit hil
  by_cases h4 : x.kind = 4
  · obtain rfl : it = R := by rw [← HR.out, HSP.out, if_pos h4]
    have e4 : (x.kind == 4) = true := by simp [h4]
    clear h4
    go_enter Tryd.func25, Tryd.ntmps25
    go_wp2_with (rw [HW1.out])
    refine HI.out.mono ?_
    rintro e w2 ⟨rfl, k2⟩
    go_wp2_with fail
    go_ret
    exact ⟨rfl, HK1.out.trans k2⟩
  · have e4 : (x.kind == 4) = false := by simp [h4]
    by_cases h5 : x.kind = 5
    · obtain rfl : it ++ ⟨#[114]⟩ = R := by rw [← HR.out, HSP.out, if_neg h4, if_pos h5, ← HIT.out]; exact cat_r _
      have e5 : (x.kind == 5) = true := by simp [h5]
      clear h4 h5
      have hr1 : (⟨#[114]⟩ : ByteArray).size = 1 := rfl
      go_enter Tryd.func25, Tryd.ntmps25
      go_wp2_with (rw [HW1.out])
      refine HI.out.mono ?_
      rintro e w2 ⟨rfl, k2⟩
      go_wp2_with fail
      go_ret
      exact ⟨rfl, HK1.out.trans k2⟩
    · have e5 : (x.kind == 5) = false := by simp [h5]
      by_cases h6 : x.kind = 6
      · rw [if_neg h4, if_neg h5, if_pos h6] at HSP
        rw [HR.out] at HSP
        rw [← HSP.out] at HQ
        have e6 : (x.kind == 6) = true := by simp [h6]
        clear h4 h5 h6
        go_enter Tryd.func25, Tryd.ntmps25
        go_wp2_with (rw [HW1.out])
        refine HQ.out.mono ?_
        rintro e w2 ⟨rfl, k2⟩
        go_wp2_with fail
        go_ret
        exact ⟨rfl, HK1.out.trans k2⟩
      · have e6 : (x.kind == 6) = false := by simp [h6]
        obtain rfl : x.text = R := by rw [← HR.out, HSP.out, if_neg h4, if_neg h5, if_neg h6]
        clear h4 h5 h6
        go_enter Tryd.func25, Tryd.ntmps25
        go_wp2_with (rw [HW1.out])
        go_ret
        exact ⟨rfl, HK1.out⟩

/-- Two tokens compared. -/
theorem neqT (k n p k' n' p' : Int) (s t : ByteArray) (w : World) : (binOp .neq 24 (tagg k s n p) (tagg k' t n' p')).run Tryd.prog w = .ok (.bool (!(k == k' && (decide (s = t) && (n == n' && p == p'))))) w := by
  have hp : Tryd.prog.stoodInHeld 24 = false := by kernel_rfl
  have h0 : (part 3 #[.int .i64 k, .string s, .int .i64 n, .int .i64 p] 0).run Tryd.prog w = .ok (.int .i64 k) w := by kernel_rfl
  have h1 : (part 9 #[.int .i64 k, .string s, .int .i64 n, .int .i64 p] 1).run Tryd.prog w = .ok (.string s) w := by kernel_rfl
  have h2 : (part 3 #[.int .i64 k, .string s, .int .i64 n, .int .i64 p] 2).run Tryd.prog w = .ok (.int .i64 n) w := by kernel_rfl
  have h3 : (part 3 #[.int .i64 k, .string s, .int .i64 n, .int .i64 p] 3).run Tryd.prog w = .ok (.int .i64 p) w := by kernel_rfl
  have g0 : (part 3 #[.int .i64 k', .string t, .int .i64 n', .int .i64 p'] 0).run Tryd.prog w = .ok (.int .i64 k') w := by kernel_rfl
  have g1 : (part 9 #[.int .i64 k', .string t, .int .i64 n', .int .i64 p'] 1).run Tryd.prog w = .ok (.string t) w := by kernel_rfl
  have g2 : (part 3 #[.int .i64 k', .string t, .int .i64 n', .int .i64 p'] 2).run Tryd.prog w = .ok (.int .i64 n') w := by kernel_rfl
  have g3 : (part 3 #[.int .i64 k', .string t, .int .i64 n', .int .i64 p'] 3).run Tryd.prog w = .ok (.int .i64 p') w := by kernel_rfl
  have e1 := fun d => run_equalIn_string (P := Tryd.prog) w d 9 s t Tryd.underlying9
  have e2 := fun d (m n : Int) => run_equalIn_int (P := Tryd.prog) w d 3 .i64 .i64 m n Tryd.underlying3
  have hs : (s.toList == t.toList) = decide (s = t) := by
    by_cases e : s = t
    · subst e; simp
    · rw [decide_eq_false e]
      refine beq_eq_false_iff_ne.2 (fun h => e ?_)
      rw [ByteArray.toList_eq, ByteArray.toList_eq] at h
      exact ByteArray.ext (Array.toList_inj.1 h)
  have hf : Tryd.prog.fieldsOf 24 = #[{ name := "Kind", type := 3, offset := 0, embedded := false, tag := "", pkgPath := "", byteOffset := 0 }, { name := "Text", type := 9, offset := 1, embedded := false, tag := "", pkgPath := "", byteOffset := 8 }, { name := "N", type := 3, offset := 2, embedded := false, tag := "", pkgPath := "", byteOffset := 24 }, { name := "At", type := 3, offset := 3, embedded := false, tag := "", pkgPath := "", byteOffset := 32 }] := by kernel_rfl
  rw [run_neq_struct, show (10000 : Nat) = 9998 + 1 + 1 from rfl, run_equalIn_struct w _ _ _ _ (by rw [hf]; exact Tryd.underlying24) hp, hf]
  simp only [Op.eqFields, Sem.run_bind, Sem.run_ite, h0, h1, h2, h3, g0, g1, g2, g3, e1, e2, Result.andThen_ok, hs]
  cases ha : (k == k') <;> cases h2 : decide (s = t) <;> cases h3 : (n == n') <;> cases h4 : (p == p') <;> simp [Op.eqFields, Result.andThen]

end Go.Proofs.YtbnifedcfkpohaaDoor
