/- LexerBack's walk. -/
import Derived.Test.YtbnifedcfkpohaaDoorLxm
import Derived.Test.YtbnifedcfkpohaaDoorLxn
import Derived.Test.YtbnifedcfkpohaaDoorLxf
set_option linter.unusedSimpArgs false
set_option linter.unusedVariables false
set_option maxRecDepth 100000
namespace Go.Proofs.YtbnifedcfkpohaaDoor
open Go.ChangeShapes Go.WideShapes Go.ChangeAt Go.RowKit Go.Shelf
attribute [local go_sem] Oper.semAt_some

theorem src_tok1 (x : Lx.T) {W : World} {g : Nat} (h : Blk W g 24 #[.int .i64 x.kind, .string x.text, .int .i64 x.n, .int .i64 x.pos]) : Src Tryd.prog 4 30 (.slice (some ⟨g, 0, none⟩) 1 1) 1 (tCells x) W := by
  refine Src.ofSlice W Tryd.underlying30 ⟨g, 0, none⟩ 1 1 _ rfl ?_ ?_
  · intro j u hu
    rw [addr_plainT, Nat.zero_add, h.cell j]
    have : (#[Value.int .i64 x.kind, .string x.text, .int .i64 x.n, .int .i64 x.pos] : Array Value)[j]? = (tCells x)[j]? := by rw [← Array.getElem?_toList]; rfl
    rw [this, hu]
  · intro u hu
    simp [tCells] at hu
    rcases hu with rfl | rfl | rfl | rfl <;> rfl

theorem spl_le {x : Lx.T} (hx : TokOk x) (h : x.text.size ≤ 1100) : (Lx.spl x).data.toList.length ≤ 2299 := by
  obtain ⟨h0, h1, h2⟩ := hx
  have hil := Lib.itoa_length_le x.n h0 h1
  have e : (Lx.spl x).data.toList.length = (Lx.spl x).size := by rw [Array.length_toList]; rfl
  rw [e]
  unfold Lx.spl
  split
  · show (Lib.itoa x.n).toArray.size ≤ _; simp; omega
  · split
    · show (Lib.itoa x.n ++ [114]).toArray.size ≤ _; simp; omega
    · split
      · have h3 := quP_len x.text.data.toList x.text.size
        unfold quP at h3
        rw [List.take_of_length_le (by rw [Array.length_toList]; exact Nat.le_refl _), List.length_cons] at h3
        show (34 :: x.text.data.toList.flatMap Lx.spelt ++ [34]).toArray.size ≤ _
        rw [List.size_toArray, List.length_append, List.length_cons, List.length_singleton]; omega
      · omega
theorem tl_le : ∀ (r : List Lx.T), (∀ x ∈ r, (Lx.spl x).data.toList.length ≤ 2299) → (Lx.tl r).length ≤ r.length * 2300
  | [], _ => Nat.le_refl _
  | x :: r, h => by
    have IH := tl_le r (fun y hy => h y (by simp [hy]))
    have h1 := h x (by simp)
    show (32 :: (Lx.spl x).data.toList ++ Lx.tl r).length ≤ (r.length + 1) * 2300
    rw [List.length_append, List.length_cons]; omega
theorem joinB_small {l : List Lx.T} (hl : l.length ≤ 300) (h : ∀ x ∈ l, (Lx.spl x).data.toList.length ≤ 2299) : (Lx.joinB l).length ≤ 900000 := by
  cases l with
  | nil => show (0 : Nat) ≤ _; omega
  | cons x r =>
    have h1 := h x (by simp)
    have h2 := tl_le r (fun y hy => h y (by simp [hy]))
    show ((Lx.spl x).data.toList ++ Lx.tl r).length ≤ _
    rw [List.length_append]
    simp at hl
    omega

def keptT (l : List Lx.T) : List Lx.T := l.filter Lx.isTok
theorem kept_yes {l : List Lx.T} {x : Lx.T} (h : Lx.isTok x = true) : keptT (l ++ [x]) = keptT l ++ [x] := by unfold keptT; rw [List.filter_append]; simp [h]
theorem kept_no {l : List Lx.T} {x : Lx.T} (h : Lx.isTok x = false) : keptT (l ++ [x]) = keptT l := by unfold keptT; rw [List.filter_append]; simp [h]
theorem kept_all (l : List Lx.T) : ∀ x ∈ keptT l, Lx.isTok x = true := fun x hx => (List.mem_filter.1 hx).2
theorem kept_mem {l : List Lx.T} {x : Lx.T} (h : x ∈ keptT l) : x ∈ l := (List.mem_filter.1 h).1
theorem kept_len (l : List Lx.T) : (keptT l).length ≤ l.length := List.length_filter_le _ _

set_option maxHeartbeats 16000000 in
theorem back_c (l : List Lx.T) (a : Option Addr) (c : Nat) (w : World) (hT : Tb w) (hE : Er w) (hP : Pw w) (hin : TksI w (.slice a l.length c) l) :
    Calls Tryd.prog 4 #[.slice a l.length c] w fun e w' => e = .returned (.bool true) ∧ Kept w w' := by
  obtain ⟨i0, hi, hz0, hzz1, hzz2⟩ := info_parts info_tok
  have h := hin.at
  have HNUM := Lib.hid hin.num
  have hcap : l.length ≤ c ∧ c ≤ maxLen := by
    obtain ⟨a', c', e, h1, h2, h3⟩ := h
    injection e with e1 e2 e3
    subst e1 e3
    exact ⟨h1, h2⟩
  unfold maxLen at hcap
  have HAT : Hid (∀ i (hi : i < l.length) W, Kept w W → ∃ b o, a = some ⟨b, o, none⟩ ∧ TokR W b (o + i * 4) l[i]) := Lib.hid (by
    intro i hi W k
    obtain ⟨a', c', e, h1, h2, h3⟩ := tks_kept h k
    injection e with e1 e2 e3
    subst e1 e3
    exact h3 i l[i] (List.getElem?_eq_getElem hi))
  have HIN := Lib.hid (fun W (k : Kept w W) => longT_c a c l W (tks_kept h k))
  have HA := Lib.hid (known_c w hT hP hE)
  have HT := Lib.hid hT
  have HE := Lib.hid hE
  have HP := Lib.hid hP
  clear h hin hT hE hP
  go_enter Tryd.func4, Tryd.ntmps4
  go_wp2_with fail
  refine HA.out.mono ?_
  rintro e w1 ⟨rfl, k1⟩
  have HK1 := Lib.hid k1
  clear k1 HA
  go_wp2_with fail
  refine (HIN.out w1 HK1.out).mono ?_
  rintro e w2 ⟨lb, rfl, hlb, k2⟩
  have HK2 := Lib.hid (HK1.out.trans k2)
  clear k2 HK1 HIN
  cases lb with
  | true =>
    go_wp2_with fail
    go_ret
    exact ⟨rfl, HK2.out⟩
  | false =>
    obtain ⟨hl3, ht⟩ := hlb rfl
    have HOK : Hid (∀ x ∈ l, TokOk x ∧ x.text.size ≤ 1100) := Lib.hid (fun x hx => ⟨⟨(HNUM.out x hx).1, (HNUM.out x hx).2, by have := ht x hx; omega⟩, ht x hx⟩)
    have hsz2 := HK2.out.size
    clear hlb ht HNUM
    go_wp2_with fail
    go_loopw [4, 5] (fun kv i wr => ∃ (k n : Nat) (va : Option Addr) (vc : Nat), k ≤ l.length ∧ i = .int .i64 k ∧ kv = .slice va n vc ∧ n ≤ k ∧ Hid (n = (keptT (l.take k)).length) ∧ Hid (wr.ownsRow w.heap.size 24 4 (.slice va n vc) n ((keptT (l.take k)).flatMap tCells)) ∧ Hid (Kept w wr)) (fun kv i wr => l.length - (intOf i).toNat)
    case atStart => exact ⟨0, 0, none, 0, Nat.zero_le _, rfl, rfl, Nat.le_refl _, Lib.hid rfl, Lib.hid (World.ownsRow_nil _ _ _ _), HK2⟩
    case round =>
      clear HK2 hsz2
      obtain ⟨k, n, va, vc, hk, rfl, rfl, hnk, HN, HR, HK⟩ := hrel
      by_cases hlt : k < l.length
      · have hltI : (k : Int) < (l.length : Int) := by omega
        obtain ⟨b, o, rfl, g0, g1, g2, g3⟩ := HAT.out k hlt wr HK.out
        have HXR : Hid (∀ W, Kept w W → TokR W b (o + k * 4) l[k]) := Lib.hid (fun W kW => by
          obtain ⟨b', o', e, r⟩ := HAT.out k hlt W kW
          injection e with e
          injection e with e1 e2
          subst e1 e2
          exact r)
        have HTK := Lib.hid (show l.take (k + 1) = l.take k ++ [l[k]] from List.take_succ_eq_append_getElem hlt)
        have hxk := HOK.out l[k] (List.getElem_mem hlt)
        have HXK := Lib.hid hxk.1
        have hxt := hxk.2
        clear hxk
        generalize l[k] = x at *
        have HSP := Lib.hid (spell_c x wr (HT.out.kept HK.out) (HP.out.kept HK.out) (HE.out.kept HK.out) HXK.out)
        cases htk : Lx.isTok x with
        | false =>
          have HKN := Lib.hid (show keptT (l.take (k + 1)) = keptT (l.take k) by rw [HTK.out, kept_no htk])
          rw [htk] at HSP
          unfold spellV at HSP
          clear htk
          go_wp2_with fail
          refine HSP.out.mono ?_
          rintro e w3 ⟨rfl, k3⟩
          have HK3 := Lib.hid (HK.out.trans k3)
          have HR3 := Lib.hid (owns_keptT HR.out k3)
          clear k3
          go_wp2_with fail
          go_roundw
          case rel => exact ⟨k + 1, n, va, vc, by omega, by go_num, rfl, by omega, Lib.hid (by rw [HKN.out]; exact HN.out), Lib.hid (by rw [HKN.out]; exact HR3.out), HK3⟩
          case measure => simp [intOf]; omega
        | true =>
          have HKN := Lib.hid (show keptT (l.take (k + 1)) = keptT (l.take k) ++ [x] by rw [HTK.out, kept_yes htk])
          have HONE := Lib.hid (Lx.tok_one htk)
          have hspz : (Lx.spl x).size ≤ 2299 := by
            have := spl_le HXK.out hxt
            rwa [Array.length_toList] at this
          rw [htk] at HSP
          unfold spellV at HSP
          clear htk
          generalize Lx.spl x = sp at *
          go_wp2_with fail
          refine HSP.out.mono ?_
          rintro e w3 ⟨rfl, k3⟩
          have HK3 := Lib.hid (HK.out.trans k3)
          have HR3 := Lib.hid (owns_keptT HR.out k3)
          obtain ⟨s0, s1, s2, s3⟩ := HXR.out w3 HK3.out
          obtain ⟨W4, hW4⟩ : ∃ W4, w3.alloc (.cells #[.int .i64 x.kind, .string x.text, .int .i64 x.n, .int .i64 x.pos] 24) = W4 := ⟨_, rfl⟩
          have k4 : Kept w3 W4 := by rw [← hW4]; exact (Kept.refl w3).alloc _
          have hb4 : Blk W4 w3.heap.size 24 #[.int .i64 x.kind, .string x.text, .int .i64 x.n, .int .i64 x.pos] := by rw [← hW4]; exact Blk.new w3 _ _
          have HSR := Lib.hid (src_tok1 x hb4)
          have HR4 := Lib.hid (owns_keptT HR3.out k4)
          have HK4 := Lib.hid (HK3.out.trans k4)
          have hsz4 : w.heap.size ≤ W4.heap.size := HK4.out.size
          have HW4 := Lib.hid hW4
          clear k3 hW4 k4 hb4 HR HSP HK g0 g1 g2 g3
          go_wp2_with (first | rw [HW4.out] | (at_builtin; refine wpList_apk rfl (.tmp 30) (.tmp 35) 30 30 rfl w.heap.size 4 24 i0 _ 40 Tryd.underlying30 hi hz0 hzz1 hzz2 rfl rfl HR4.out rfl HSR.out (by unfold maxLen; omega) (by omega) hsz4 ?_; intro v' w5 hown' hgrow hlies; have HN5 := Lib.hid hown'; have HK5 := Lib.hid (HK4.out.grown hgrow fun k e => (rown_T HR4.out e).1); obtain ⟨va', vc', rfl⟩ := owns_valT hown'; obtain ⟨t0, t1, t2, t3⟩ := HXR.out w5 HK5.out; clear hown' hgrow hlies s0 s1 s2 s3))
          have k6 : Kept w5 (w5.alloc (.cells #[.int .i64 x.kind, .string x.text, .int .i64 x.n, .int .i64 x.pos] 24)) := (Kept.refl w5).alloc _
          have HK6 := Lib.hid (HK5.out.trans k6)
          have HR6 := Lib.hid (owns_keptT HN5.out k6)
          have HLS := lexes_c sp (by omega) [x] (some ⟨w5.heap.size, 0, none⟩) 1 _ (tks_lit [x] (Blk.new w5 24 #[.int .i64 x.kind, .string x.text, .int .i64 x.n, .int .i64 x.pos]) rfl 1 rfl (by simp)) (HT.out.kept HK6.out) (HE.out.kept HK6.out)
          rw [HONE.out] at HLS
          refine HLS.mono ?_
          rintro e w7 ⟨rfl, k7⟩
          have HK7 := Lib.hid (HK6.out.trans k7)
          have HR7 := Lib.hid (owns_keptT HR6.out k7)
          clear k6 k7 HLS HK6 HR6 t0 t1 t2 t3
          go_wp2_with fail
          go_roundw
          case rel => exact ⟨k + 1, n + 1, va', vc', by omega, by go_num, rfl, by omega, Lib.hid (by rw [HKN.out, List.length_append, ← HN.out]; rfl), Lib.hid (by rw [HKN.out, List.flatMap_append]; simpa using HR7.out), HK7⟩
          case measure => simp [intOf]; omega
      · obtain rfl : k = l.length := by omega
        have hltI : ¬ (l.length : Int) < (l.length : Int) := by omega
        rw [show l.take l.length = l from List.take_of_length_le (Nat.le_refl _)] at HN HR
        have hKT := owns_tks HN.out HR.out
        have hsm : ∀ x ∈ keptT l, (Lx.spl x).data.toList.length ≤ 2299 := fun x hx => spl_le (HOK.out x (kept_mem hx)).1 (HOK.out x (kept_mem hx)).2
        have hjl := joinB_small (Nat.le_trans (kept_len l) hl3) hsm
        have HJ0 := (join_c (keptT l) va vc wr (by rw [← HN.out]; exact hKT) (HT.out.kept HK.out) (HP.out.kept HK.out) (HE.out.kept HK.out) (fun x hx => (HOK.out x (kept_mem hx)).1) hjl)
        rw [← HN.out] at HJ0
        have HJ := Lib.hid HJ0
        rw [show (keptT l).all Lx.isTok = true from List.all_eq_true.2 (kept_all l)] at HJ
        unfold spellV at HJ
        have HKT := Lib.hid (fun W (k : Kept wr W) => tks_kept hKT k)
        have HJN := Lib.hid (Lx.joined (keptT l) (kept_all l))
        obtain ⟨J, hJ⟩ : ∃ J : ByteArray, (⟨(Lx.joinB (keptT l)).toArray⟩ : ByteArray) = J := ⟨_, rfl⟩
        have hjz : J.size = (Lx.joinB (keptT l)).length := by rw [← hJ]; show (Lx.joinB (keptT l)).toArray.size = _; simp
        have HJD := Lib.hid (show J.data.toList = Lx.joinB (keptT l) by rw [← hJ])
        rw [hJ] at HJ
        generalize (Lx.joinB (keptT l)).length = jn at *
        clear hJ hKT hsm HJ0
        go_wp2_with fail
        refine HJ.out.mono ?_
        rintro e w3 ⟨rfl, k3⟩
        have HK3 := Lib.hid (HK.out.trans k3)
        by_cases hlong : 20000 < J.size
        · have hlongI : (20000 : Int) < (J.size : Int) := by omega
          clear k3
          go_wp2_with fail
          go_ret
          exact ⟨rfl, HK3.out⟩
        · have hlongI : ¬ (20000 : Int) < (J.size : Int) := by omega
          have hKT3 := HKT.out w3 k3
          have HLS0 := lexes_c J (by omega) (keptT l) va vc w3 (by rw [← HN.out]; exact hKT3) (HT.out.kept HK3.out) (HE.out.kept HK3.out)
          rw [HJN.out (by omega) J HJD.out, ← HN.out] at HLS0
          have HLS := Lib.hid HLS0
          clear k3 hKT3 HLS0
          go_wp2_with fail
          refine HLS.out.mono ?_
          rintro e w9 ⟨rfl, k9⟩
          go_wp2_with fail
          go_ret
          exact ⟨rfl, HK3.out.trans k9⟩

end Go.Proofs.YtbnifedcfkpohaaDoor
