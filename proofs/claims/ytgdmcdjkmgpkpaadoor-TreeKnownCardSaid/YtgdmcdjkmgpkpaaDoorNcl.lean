/- copied at a node without kids. -/
import Derived.Test.YtgdmcdjkmgpkpaaDoorNkc
set_option linter.unusedSimpArgs false
set_option linter.unusedVariables false
set_option maxRecDepth 100000
namespace Go.Proofs.YtgdmcdjkmgpkpaaDoor
open Go.ChangeShapes Go.WideShapes Go.ChangeAt Go.RowKit

theorem info_nd : (Tryd.prog.info? 24).map (fun i => (i.zero, i.size, i.bytes)) = some (some (.agg #[.int .i64 0, .string ⟨#[]⟩, .string ⟨#[]⟩, .string ⟨#[]⟩, .int .i64 0, .slice none 0 0]), 6, 88) := by kernel_rfl
theorem src_nil (a : Option Addr) (c : Nat) (w : World) : Src Tryd.prog 6 22 (.slice a 0 c) 0 [] w := by
  cases a with
  | none => exact Src.ofNil w Tryd.underlying22 c
  | some a => exact Src.ofSlice w Tryd.underlying22 a 0 c [] rfl (fun j u h => by simp at h) (fun u h => by cases h)
def lenV : Value → Nat
  | .slice _ n _ => n
  | _ => 0
theorem owns_nil_slice {w : World} {base k : Nat} {e : TypeId} {v : Value} {xs : List Value} (h : w.ownsRow base e k v (0 + 0) xs) : ∃ a c, v = .slice a 0 c := by
  rcases h.2 with ⟨rfl, _⟩ | ⟨g, cap, cur, rfl, _⟩
  · exact ⟨_, _, rfl⟩
  · exact ⟨_, _, rfl⟩

/-- Of a copy without kids nothing more is told. -/
def noR : World → Value → Prop := fun _ _ => True

set_option maxHeartbeats 8000000 in
theorem copied3 (a : Option Addr) (c : Nat) (w : World) : Calls Tryd.prog 32 #[ndV threeT (.slice a 0 c)] w (CpyR w threeT noR) := by
  show Calls Tryd.prog 32 #[.agg #[.int .i64 7, .string ⟨#[]⟩, .string ⟨#[]⟩, .string ⟨#[]⟩, .int .i64 3, .slice a 0 c]] w _
  obtain ⟨i0, hi, hz0, hzz1, hzz2⟩ := info_parts info_nd
  obtain ⟨W1, hW1⟩ : ∃ W1, (((w.alloc (.cells #[.int .i64 7, .string ⟨#[]⟩, .string ⟨#[]⟩, .string ⟨#[]⟩, .int .i64 3, .slice a 0 c] 24)).alloc (.cells #[.int .i64 0, .string ⟨#[]⟩, .string ⟨#[]⟩, .string ⟨#[]⟩, .int .i64 0, .slice none 0 0] 24)).alloc (.cells #[.pointer (some ⟨w.heap.size, 0, none⟩)] 52)) = W1 := ⟨_, rfl⟩
  have k1 : Kept w W1 := by rw [← hW1]; exact (((Kept.refl w).alloc _).alloc _).alloc _
  have hs1 : W1.heap.size = w.heap.size + 3 := by rw [← hW1]; simp
  have bn : Blk W1 w.heap.size 24 #[.int .i64 7, .string ⟨#[]⟩, .string ⟨#[]⟩, .string ⟨#[]⟩, .int .i64 3, .slice a 0 c] := by rw [← hW1]; exact ((Blk.new _ _ _).alloc _).alloc _
  have br : Blk W1 (w.heap.size + 1) 24 #[.int .i64 0, .string ⟨#[]⟩, .string ⟨#[]⟩, .string ⟨#[]⟩, .int .i64 0, .slice none 0 0] := by rw [← hW1]; exact (Blk.at (by simp)).alloc _
  have bs : Blk W1 (w.heap.size + 2) 52 #[.pointer (some ⟨w.heap.size, 0, none⟩)] := by rw [← hW1]; exact Blk.at (by simp)
  have HBN := Lib.hid bn
  have HBR := Lib.hid br
  have HBS := Lib.hid bs
  have HK1 := Lib.hid k1
  have HS1 := Lib.hid hs1
  have HW1 := Lib.hid hW1
  clear hW1 k1 hs1 bn br bs
  go_enter Tryd.func32, Tryd.ntmps32
  go_wp2_with (rw [HW1.out])
  go_loopw [3] (fun s wr => (s = .slice (some ⟨w.heap.size + 2, 0, none⟩) 1 1 ∧ wr = W1) ∨ (∃ a' c', s = .slice (some ⟨w.heap.size + 2, 0, none⟩) 0 1 ∧ Hid (Blk wr w.heap.size 24 #[.int .i64 7, .string ⟨#[]⟩, .string ⟨#[]⟩, .string ⟨#[]⟩, .int .i64 3, .slice a' 0 c']) ∧ Hid (Blk wr (w.heap.size + 1) 24 #[.int .i64 0, .string ⟨#[]⟩, .string ⟨#[]⟩, .string ⟨#[]⟩, .int .i64 0, .slice none 0 0]) ∧ Hid (Kept w wr))) (fun s wr => lenV s)
  case atStart => exact .inl ⟨rfl, rfl⟩
  case round =>
    rcases hrel with ⟨rfl, rfl⟩ | ⟨a', c', rfl, HN, HR, HK⟩
    · have d0 := HBS.out.cell 0
      have e5 := HBN.out.cell 5
      have f5 := HBN.out.frozen 5
      simp only [List.getElem?_toArray, List.getElem?_cons_zero, List.getElem?_cons_succ] at d0 e5
      go_wp2_with (at_builtin; refine wpList_apk rfl (.const (.slice none 0 0)) (.tmp 25) 22 22 rfl wr.heap.size 6 24 i0 _ 88 Tryd.underlying22 hi hz0 hzz1 hzz2 rfl rfl (World.ownsRow_nil _ _ _ _) rfl (src_nil _ _ _) (by decide) (by decide) (Nat.le_refl _) ?_; intro v' w4 hown' hgrow hlies; have HO := Lib.hid (Only.grown (Only.refl (fun k => False) wr) hgrow fun k e => by cases e); obtain ⟨a', c', rfl⟩ := owns_nil_slice hown'; clear hown' hgrow hlies; have e6 := (HBN.out.only HO.out (fun h => h)).cell 5; have f6 := (HBN.out.only HO.out (fun h => h)).frozen 5; simp only [List.getElem?_toArray, List.getElem?_cons_zero, List.getElem?_cons_succ] at e6)
      have HN2 := Lib.hid ((HBN.out.only HO.out (fun h => h)).put 5 (.slice a' 0 c'))
      have HO2 := Lib.hid ((HO.out.mono fun k _ h => h.elim : Only (· = w.heap.size) wr w4).put 5 (.slice a' 0 c'))
      clear e5 f5 e6 f6 d0
      go_loopw [3, 34] (fun s i wq => s = .slice (some ⟨w.heap.size + 2, 0, none⟩) 0 1 ∧ i = .int .i64 0 ∧ wq = w4.setCell ⟨w.heap.size, 5, none⟩ (.slice a' 0 c')) (fun s i wq => 0)
      case atStart => exact ⟨rfl, rfl, rfl⟩
      case round =>
        obtain ⟨rfl, rfl, rfl⟩ := hrel
        go_wp2_with fail
        go_roundw
        case rel => exact .inr ⟨a', c', rfl, Lib.hid (by simpa only [List.setIfInBounds_toArray, List.set_cons_zero, List.set_cons_succ] using HN2.out), Lib.hid (HBR.out.only HO2.out (fun e => by omega)), Lib.hid (HK1.out.only HO2.out rfl (fun k h => by omega))⟩
        case measure => simp [lenV]
    · have d5 := HR.out
      have b0 := HN.out.cell 0
      have b1 := HN.out.cell 1
      have b2 := HN.out.cell 2
      have b3 := HN.out.cell 3
      have b4 := HN.out.cell 4
      have b5 := HN.out.cell 5
      have f0 := d5.frozen 0
      have f1 := d5.frozen 1
      have f2 := d5.frozen 2
      have f3 := d5.frozen 3
      have f4 := d5.frozen 4
      have f5 := d5.frozen 5
      have c0 := d5.cell 0
      have c1 := d5.cell 1
      have c2 := d5.cell 2
      have c3 := d5.cell 3
      have c4 := d5.cell 4
      have c5 := d5.cell 5
      simp only [List.getElem?_toArray, List.getElem?_cons_zero, List.getElem?_cons_succ] at b0 b1 b2 b3 b4 b5 c0 c1 c2 c3 c4 c5
      clear d5
      go_wp2_with fail
      have hb6 := (((((HR.out.put 0 (.int .i64 7)).put 1 (.string ⟨#[]⟩)).put 2 (.string ⟨#[]⟩)).put 3 (.string ⟨#[]⟩)).put 4 (.int .i64 3)).put 5 (.slice a' 0 c')
      simp only [List.setIfInBounds_toArray, List.set_cons_zero, List.set_cons_succ] at hb6
      have ho := ((((((Only.refl (· = w.heap.size + 1) wr).put 0 (.int .i64 7)).put 1 (.string ⟨#[]⟩)).put 2 (.string ⟨#[]⟩)).put 3 (.string ⟨#[]⟩)).put 4 (.int .i64 3)).put 5 (.slice a' 0 c')
      exact bodyPost_ret (node_results (by rfl) _ _ rfl hb6) rfl ⟨a', c', rfl, trivial, HK.out.only ho rfl (fun k hk => by omega)⟩

end Go.Proofs.YtgdmcdjkmgpkpaaDoor
