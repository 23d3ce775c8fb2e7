/- The walk of OctetNone. -/
import Derived.Test.YtfbbhkhingfdeaaHlp
set_option linter.unusedSimpArgs false
set_option linter.unusedVariables false
namespace Go.Proofs.Ytfbbhkhingfdeaa
open Go.ChangeShapes Go.WideShapes Go.ChangeAt Go.RowKit

/-- What the law has laid: two slices of two pointers each, and the two objects that nobody made. -/
structure Laid (a b c d : Nat) (W : World) : Prop where
  ws : Blk W b 23 #[.pointer none, .pointer (some ⟨a, 0, none⟩)]
  rs : Blk W d 45 #[.pointer none, .pointer (some ⟨c, 0, none⟩)]
  w1 : W.cell? ⟨a, 0, none⟩ = some (.pointer none)
  r1 : W.cell? ⟨c, 0, none⟩ = some (.pointer none)
theorem Laid.kept {a b c d : Nat} {W W' : World} (h : Laid a b c d W) (k : Kept W W') : Laid a b c d W' := ⟨h.ws.kept k, h.rs.kept k, k.cell h.w1, k.cell h.r1⟩

set_option maxRecDepth 100000 in
set_option maxHeartbeats 1600000 in
theorem none_c (n : Int) (b1 : -9223372036854775808 ≤ n) (b2 : n ≤ 9223372036854775807) (w : World) :
    Calls Try.prog 4 #[.int .i64 n] w fun e w' => e = .returned (.bool true) ∧ Kept w w' := by
  have HL : ∀ W, W = (((w.alloc (.cells #[.pointer none, .int .i64 0, .slice none 0 0, .int .i64 0] 43)).alloc (.cells #[.pointer none, .pointer (some ⟨w.heap.size, 0, none⟩)] 23)).alloc (.cells #[.pointer none, .string ⟨#[]⟩, .int .i64 0, .int .i64 0, .int .i64 0] 49)).alloc (.cells #[.pointer none, .pointer (some ⟨w.heap.size + 1 + 1, 0, none⟩)] 45) →
      Kept w W ∧ Laid w.heap.size (w.heap.size + 1) (w.heap.size + 1 + 1) (w.heap.size + 1 + 1 + 1) W := by
    rintro W rfl
    refine ⟨((((Kept.refl w).alloc _).alloc _).alloc _).alloc _, ?_, ?_, ?_, ?_⟩
    · have := (((Blk.new (w.alloc (.cells #[.pointer none, .int .i64 0, .slice none 0 0, .int .i64 0] 43)) 23 #[.pointer none, .pointer (some ⟨w.heap.size, 0, none⟩)]).alloc (.cells #[.pointer none, .string ⟨#[]⟩, .int .i64 0, .int .i64 0, .int .i64 0] 49)).alloc (.cells #[.pointer none, .pointer (some ⟨w.heap.size + 1 + 1, 0, none⟩)] 45))
      rwa [World.size_alloc] at this
    · have := Blk.new ((((w.alloc (.cells #[.pointer none, .int .i64 0, .slice none 0 0, .int .i64 0] 43)).alloc (.cells #[.pointer none, .pointer (some ⟨w.heap.size, 0, none⟩)] 23)).alloc (.cells #[.pointer none, .string ⟨#[]⟩, .int .i64 0, .int .i64 0, .int .i64 0] 49))) 45 #[.pointer none, .pointer (some ⟨w.heap.size + 1 + 1, 0, none⟩)]
      rwa [World.size_alloc, World.size_alloc, World.size_alloc] at this
    · have := ((((Blk.new w 43 #[.pointer none, .int .i64 0, .slice none 0 0, .int .i64 0]).alloc (.cells #[.pointer none, .pointer (some ⟨w.heap.size, 0, none⟩)] 23)).alloc (.cells #[.pointer none, .string ⟨#[]⟩, .int .i64 0, .int .i64 0, .int .i64 0] 49)).alloc (.cells #[.pointer none, .pointer (some ⟨w.heap.size + 1 + 1, 0, none⟩)] 45)).cell 0
      rw [this]; rfl
    · have := ((Blk.new ((w.alloc (.cells #[.pointer none, .int .i64 0, .slice none 0 0, .int .i64 0] 43)).alloc (.cells #[.pointer none, .pointer (some ⟨w.heap.size, 0, none⟩)] 23)) 49 #[.pointer none, .string ⟨#[]⟩, .int .i64 0, .int .i64 0, .int .i64 0]).alloc (.cells #[.pointer none, .pointer (some ⟨w.heap.size + 1 + 1, 0, none⟩)] 45)).cell 0
      rw [World.size_alloc, World.size_alloc] at this
      rw [this]; rfl
  go_enter Try.func4, Try.ntmps4
  go_wp2
  obtain ⟨hk0, hl0⟩ := HL _ rfl
  have HK0 := Lib.hid hk0
  have HL0 := Lib.hid hl0
  clear HL hk0 hl0
  go_loopw [5] (fun s5 wr => ∃ k : Nat, s5 = .int .i64 k ∧ k ≤ 2 ∧ Kept w wr ∧ Laid w.heap.size (w.heap.size + 1) (w.heap.size + 1 + 1) (w.heap.size + 1 + 1 + 1) wr) (fun s5 _ => 2 - (intOf s5).toNat)
  case atStart => exact ⟨0, rfl, by omega, HK0.out, HL0.out⟩
  case round =>
    clear HK0 HL0
    obtain ⟨k, rfl, hk2, hkw, hl⟩ := hrel
    have hk3 : k = 0 ∨ k = 1 ∨ k = 2 := by omega
    have c0 := hl.ws.cell 0
    have c1 := hl.ws.cell 1
    have d0 := hl.rs.cell 0
    have d1 := hl.rs.cell 1
    simp at c0 c1 d0 d1
    have HK := Lib.hid hkw
    have HL := Lib.hid hl
    clear hkw hl hk2
    rcases hk3 with rfl | rfl | rfl
    · have BW := Lib.hid (fun (W : World) (h : Laid w.heap.size (w.heap.size + 1) (w.heap.size + 1 + 1) (w.heap.size + 1 + 1 + 1) W) => show BadW W none from .inl rfl)
      have BR := Lib.hid (fun (W : World) (h : Laid w.heap.size (w.heap.size + 1) (w.heap.size + 1 + 1) (w.heap.size + 1 + 1 + 1) W) => show BadR W none from .inl rfl)
      go_wp2
      go_quiet (fail)
      have HK := Lib.hid (HK.out.drewN nq)
      have HL := Lib.hid (HL.out.kept ((Kept.refl _).drewN nq))
      go_wp2_with fail
      refine (bytesW_f _ _ (BW.out _ HL.out)).mono ?_
      rintro e wn ⟨rfl, kn⟩
      have HK := Lib.hid (HK.out.trans kn)
      have HL := Lib.hid (HL.out.kept kn)
      clear kn
      go_wp2_with fail
      refine (numW_f _ n _ (BW.out _ HL.out)).mono ?_
      rintro e wn ⟨rfl, kn⟩
      have HK := Lib.hid (HK.out.trans kn)
      have HL := Lib.hid (HL.out.kept kn)
      clear kn
      go_wp2_with fail
      refine (wholeW_f _ n _ b1 b2 (BW.out _ HL.out)).mono ?_
      rintro e wn ⟨rfl, kn⟩
      have HK := Lib.hid (HK.out.trans kn)
      have HL := Lib.hid (HL.out.kept kn)
      clear kn
      go_wp2_with fail
      refine (wordW_f _ ⟨#[97]⟩ _ (by decide) (BW.out _ HL.out)).mono ?_
      rintro e wn ⟨rfl, kn⟩
      have HK := Lib.hid (HK.out.trans kn)
      have HL := Lib.hid (HL.out.kept kn)
      clear kn
      go_wp2_with fail
      refine (numR_f _ _ (BR.out _ HL.out)).mono ?_
      rintro e wn ⟨rfl, kn⟩
      have HK := Lib.hid (HK.out.trans kn)
      have HL := Lib.hid (HL.out.kept kn)
      clear kn
      go_wp2_with fail
      refine (wholeR_f _ _ (BR.out _ HL.out)).mono ?_
      rintro e wn ⟨rfl, kn⟩
      have HK := Lib.hid (HK.out.trans kn)
      have HL := Lib.hid (HL.out.kept kn)
      clear kn
      go_wp2_with fail
      refine (wordR_f _ n _ (BR.out _ HL.out)).mono ?_
      rintro e wn ⟨rfl, kn⟩
      have HK := Lib.hid (HK.out.trans kn)
      have HL := Lib.hid (HL.out.kept kn)
      clear kn
      go_wp2_with fail
      refine (restR_f _ _ (BR.out _ HL.out)).mono ?_
      rintro e wn ⟨rfl, kn⟩
      have HK := Lib.hid (HK.out.trans kn)
      have HL := Lib.hid (HL.out.kept kn)
      clear kn
      go_wp2_with fail
      refine (endR_f _ _ (BR.out _ HL.out)).mono ?_
      rintro e wn ⟨rfl, kn⟩
      have HK := Lib.hid (HK.out.trans kn)
      have HL := Lib.hid (HL.out.kept kn)
      clear kn
      go_wp2_with fail
      go_roundw
      case rel => exact ⟨1, rfl, by omega, HK.out, HL.out⟩
      case measure => simp [intOf]
    · have BW := Lib.hid (fun (W : World) (h : Laid w.heap.size (w.heap.size + 1) (w.heap.size + 1 + 1) (w.heap.size + 1 + 1 + 1) W) => show BadW W (some ⟨w.heap.size, 0, none⟩) from .inr ⟨_, rfl, h.w1⟩)
      have BR := Lib.hid (fun (W : World) (h : Laid w.heap.size (w.heap.size + 1) (w.heap.size + 1 + 1) (w.heap.size + 1 + 1 + 1) W) => show BadR W (some ⟨w.heap.size + 1 + 1, 0, none⟩) from .inr ⟨_, rfl, h.r1⟩)
      go_wp2
      go_quiet (fail)
      have HK := Lib.hid (HK.out.drewN nq)
      have HL := Lib.hid (HL.out.kept ((Kept.refl _).drewN nq))
      go_wp2_with fail
      refine (bytesW_f _ _ (BW.out _ HL.out)).mono ?_
      rintro e wn ⟨rfl, kn⟩
      have HK := Lib.hid (HK.out.trans kn)
      have HL := Lib.hid (HL.out.kept kn)
      clear kn
      go_wp2_with fail
      refine (numW_f _ n _ (BW.out _ HL.out)).mono ?_
      rintro e wn ⟨rfl, kn⟩
      have HK := Lib.hid (HK.out.trans kn)
      have HL := Lib.hid (HL.out.kept kn)
      clear kn
      go_wp2_with fail
      refine (wholeW_f _ n _ b1 b2 (BW.out _ HL.out)).mono ?_
      rintro e wn ⟨rfl, kn⟩
      have HK := Lib.hid (HK.out.trans kn)
      have HL := Lib.hid (HL.out.kept kn)
      clear kn
      go_wp2_with fail
      refine (wordW_f _ ⟨#[97]⟩ _ (by decide) (BW.out _ HL.out)).mono ?_
      rintro e wn ⟨rfl, kn⟩
      have HK := Lib.hid (HK.out.trans kn)
      have HL := Lib.hid (HL.out.kept kn)
      clear kn
      go_wp2_with fail
      refine (numR_f _ _ (BR.out _ HL.out)).mono ?_
      rintro e wn ⟨rfl, kn⟩
      have HK := Lib.hid (HK.out.trans kn)
      have HL := Lib.hid (HL.out.kept kn)
      clear kn
      go_wp2_with fail
      refine (wholeR_f _ _ (BR.out _ HL.out)).mono ?_
      rintro e wn ⟨rfl, kn⟩
      have HK := Lib.hid (HK.out.trans kn)
      have HL := Lib.hid (HL.out.kept kn)
      clear kn
      go_wp2_with fail
      refine (wordR_f _ n _ (BR.out _ HL.out)).mono ?_
      rintro e wn ⟨rfl, kn⟩
      have HK := Lib.hid (HK.out.trans kn)
      have HL := Lib.hid (HL.out.kept kn)
      clear kn
      go_wp2_with fail
      refine (restR_f _ _ (BR.out _ HL.out)).mono ?_
      rintro e wn ⟨rfl, kn⟩
      have HK := Lib.hid (HK.out.trans kn)
      have HL := Lib.hid (HL.out.kept kn)
      clear kn
      go_wp2_with fail
      refine (endR_f _ _ (BR.out _ HL.out)).mono ?_
      rintro e wn ⟨rfl, kn⟩
      have HK := Lib.hid (HK.out.trans kn)
      have HL := Lib.hid (HL.out.kept kn)
      clear kn
      go_wp2_with fail
      go_roundw
      case rel => exact ⟨2, rfl, by omega, HK.out, HL.out⟩
      case measure => simp [intOf]
    · go_wp2_with fail
      refine (awake_c _).mono ?_
      rintro e wn ⟨rfl, kn⟩
      have HK := Lib.hid (HK.out.trans kn)
      clear kn
      go_wp2_with fail
      go_ret
      exact ⟨rfl, HK.out⟩
end Go.Proofs.Ytfbbhkhingfdeaa
