/- What reads one item. -/
import Derived.Test.YtfbbhkhingfdeaaItm
import Derived.Deep.RegionWith
set_option linter.unusedSimpArgs false
set_option linter.unusedVariables false
namespace Go.Proofs.Ytfbbhkhingfdeaa
open Go.ChangeShapes Go.WideShapes Go.ChangeAt Go.RowKit

def rdB (s : List UInt8) (t : Oct.Rs) (x : Itm) : Bool :=
  if x.kind = 0 then ((Oct.numV s t : Nat) : Int) == x.num else if x.kind = 1 then Oct.zag (Oct.numV s t) == x.num else if x.kind = 2 then (Oct.wordV s x.txt.size t == x.txt.toList) else true
def rdS (s : List UInt8) (t : Oct.Rs) (x : Itm) : Oct.Rs := if x.kind = 0 then Oct.numS s t else if x.kind = 1 then Oct.numS s t else if x.kind = 2 then Oct.wordS s x.txt.size t else t

set_option maxHeartbeats 800000 in
theorem reads_c (b : Nat) (s : ByteArray) (t : Oct.Rs) (x : Itm) (w : World) (hx : x.ok) (h : Rd w b s t) :
    Calls Try.prog 30 #[.pointer (some ⟨b, 0, none⟩), .agg #[.int .i64 x.kind, .int .i64 x.num, .string x.txt]] w fun e w' => e = .returned (.bool (rdB s.data.toList t x)) ∧ Only (· = b) w w' ∧ Rd w' b s (rdS s.data.toList t x) := by
  obtain ⟨kind, num, txt⟩ := x
  obtain ⟨⟨a1, a2⟩, ⟨a3, a4⟩, a5⟩ := hx
  dsimp only at *
  have hk : Kept w (w.alloc (.cells #[.int .i64 kind, .int .i64 num, .string txt] 33)) := (Kept.refl w).alloc _
  have HK := Lib.hid hk
  have HR := Lib.hid (h.kept hk)
  have hlt := h.lt
  have hbn : ¬ w.heap.size = b := by omega
  have HB := Lib.hid (Blk.new w 33 #[.int .i64 kind, .int .i64 num, .string txt])
  unfold maxLen at a5
  clear hk h
  by_cases h0 : kind = 0
  · subst h0
    have HE := Lib.hid (show rdB s.data.toList t ⟨0, num, txt⟩ = (((Oct.numV s.data.toList t : Nat) : Int) == num) by unfold rdB; rw [if_pos rfl])
    have HS := Lib.hid (show rdS s.data.toList t ⟨0, num, txt⟩ = Oct.numS s.data.toList t by unfold rdS; rw [if_pos rfl])
    skip
    go_enter Try.func30, Try.ntmps30
    go_wp2
    go_region_with (go_at_call 22; refine (numR_c b s t _ (HR.out.kept (Kept.refl _).drew)).mono ?_; rintro e w1 ⟨rfl, ho, hr⟩; have c0 := (HB.out.drew.only ho hbn).cell 1; simp at c0)
    all_goals
      have HP := Lib.hid (And.intro ((((Only.of_kept HK.out).drew).trans ho)) hr)
      clear ho hr c0
      go_wp2
      go_ret
      exact ⟨by rw [HE.out]; rfl, HP.out.1, by rw [HS.out]; exact HP.out.2⟩
  by_cases h1 : kind = 1
  · subst h1
    have HE := Lib.hid (show rdB s.data.toList t ⟨1, num, txt⟩ = (Oct.zag (Oct.numV s.data.toList t) == num) by unfold rdB; rw [if_neg (by simp), if_pos rfl])
    have HS := Lib.hid (show rdS s.data.toList t ⟨1, num, txt⟩ = Oct.numS s.data.toList t by unfold rdS; rw [if_neg (by simp), if_pos rfl])
    clear h0
    go_enter Try.func30, Try.ntmps30
    go_wp2
    go_region_with (go_at_call 23; refine (wholeR_c b s t _ (HR.out.kept (Kept.refl _).drew)).mono ?_; rintro e w1 ⟨rfl, ho, hr⟩; have c0 := (HB.out.drew.only ho hbn).cell 1; simp at c0)
    all_goals
      have HP := Lib.hid (And.intro ((((Only.of_kept HK.out).drew).trans ho)) hr)
      clear ho hr c0
      go_wp2
      go_ret
      exact ⟨by rw [HE.out]; rfl, HP.out.1, by rw [HS.out]; exact HP.out.2⟩
  by_cases h2 : kind = 2
  · subst h2
    have HE := Lib.hid (show rdB s.data.toList t ⟨2, num, txt⟩ = (Oct.wordV s.data.toList txt.size t == txt.toList) by unfold rdB; rw [if_neg (by simp), if_neg (by simp), if_pos rfl])
    have HS := Lib.hid (show rdS s.data.toList t ⟨2, num, txt⟩ = Oct.wordS s.data.toList txt.size t by unfold rdS; rw [if_neg (by simp), if_neg (by simp), if_pos rfl])
    clear h0 h1
    go_enter Try.func30, Try.ntmps30
    go_wp2
    go_region_with (go_at_call 24; refine (wordR_c b s t txt.size _ (HR.out.kept (Kept.refl _).drew)).mono ?_; rintro e w1 ⟨rfl, ho, hr⟩; have c0 := (HB.out.drew.only ho hbn).cell 2; simp at c0)
    all_goals
      have HP := Lib.hid (And.intro ((((Only.of_kept HK.out).drew).trans ho)) hr)
      clear ho hr c0
      go_wp2
      go_ret
      exact ⟨by rw [HE.out]; rfl, HP.out.1, by rw [HS.out]; exact HP.out.2⟩
  have HE := Lib.hid (show rdB s.data.toList t ⟨kind, num, txt⟩ = true by unfold rdB; rw [if_neg h0, if_neg h1, if_neg h2])
  have HS := Lib.hid (show rdS s.data.toList t ⟨kind, num, txt⟩ = t by unfold rdS; rw [if_neg h0, if_neg h1, if_neg h2])
  have h0' : (kind == 0) = false := by simpa using h0
  have h1' : (kind == 1) = false := by simpa using h1
  have h2' : (kind == 2) = false := by simpa using h2
  clear h0 h1 h2
  go_enter Try.func30, Try.ntmps30
  go_wp2
  go_ret
  exact ⟨by rw [HE.out]; rfl, Only.of_kept HK.out, by rw [HS.out]; exact HR.out⟩
end Go.Proofs.Ytfbbhkhingfdeaa
