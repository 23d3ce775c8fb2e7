/- LexerBlanks' walk. -/
import Derived.Test.YtbnifedcfkpohaaDoorLxk
import Derived.Test.YtbnifedcfkpohaaDoorLxf
import Derived.Test.YtbnifedcfkpohaaDoorPkv
import Derived.Test.YtbnifedcfkpohaaDoorKtt
set_option linter.unusedSimpArgs false
set_option linter.unusedVariables false
set_option maxRecDepth 100000
namespace Go.Proofs.YtbnifedcfkpohaaDoor
open Go.ChangeShapes Go.WideShapes Go.ChangeAt Go.RowKit Go.Shelf
attribute [local go_sem] Oper.semAt_some

/-! ### Numbers that came in -/
def IntRL (w : World) (b o : Nat) (x : Int) : Prop := w.cell? ⟨b, o, none⟩ = some (.int .i64 x) ∧ -9223372036854775808 ≤ x ∧ x ≤ 9223372036854775807
abbrev IntsL (w : World) (v : Value) (l : List Int) : Prop := Row 1 IntRL w v l
theorem intsL_of {w : World} {a : Option Addr} {len cap : Nat} {z : List Int} (h : (a = none ∧ len = 0 ∧ cap = 0 ∧ z = []) ∨ ∃ x, a = some x ∧ len ≤ cap ∧ cap ≤ maxLen ∧ z.length = cap ∧ (∀ i, i < z.length → w.cell? (x.add i) = some (.int .i64 (z.getD i 0))) ∧ ∀ n ∈ z, (Lit.int .i64 n).wf = true) :
    ∃ ns : List Int, ns.length = len ∧ IntsL w (.slice a ns.length cap) ns := by
  rcases h with ⟨rfl, rfl, rfl, rfl⟩ | ⟨x, rfl, h1, h2, h3, h4, h5⟩
  · exact ⟨[], rfl, Row.nil⟩
  · have hl : (z.take len).length = len := by rw [List.length_take]; omega
    refine ⟨z.take len, hl, some x, cap, rfl, by omega, h2, fun i y hy => ?_⟩
    have hi : i < len := by have := (List.getElem?_eq_some_iff.1 hy).1; omega
    rw [List.getElem?_take, if_pos hi] at hy
    have hz : i < z.length := by omega
    have hc := h4 i hz
    have hb := bounds_i64 (h5 _ (List.mem_of_getElem? hy))
    rw [show z.getD i 0 = y by rw [List.getD_eq_getElem?_getD, hy]; rfl] at hc
    obtain ⟨b, o, sp⟩ := x
    cases sp with
    | none =>
      refine ⟨b, o, rfl, ?_, hb.1, hb.2⟩
      rw [addr_plainT] at hc
      rw [Nat.mul_one]
      exact hc
    | some s =>
      exfalso
      have h0 := World.cell?_spot (h4 0 (by omega))
      unfold Addr.add at h0
      cases h0

/-! ### The blanks -/
def blankV (j : Nat) : ByteArray := if j = 0 then ⟨#[32]⟩ else if j = 1 then ⟨#[32, 32]⟩ else if j = 2 then ⟨#[9]⟩ else if j = 3 then ⟨#[10]⟩ else if j = 4 then ⟨#[13, 10]⟩ else if j = 5 then ⟨#[47, 47, 32, 120, 10]⟩ else ⟨#[32, 47, 47, 10, 32]⟩
theorem blank_small (j : Nat) : (blankV j).size ≤ 5 := by unfold blankV; (repeat' split) <;> decide
theorem blank_closed (j : Nat) : Lx.Closed (blankV j).data.toList := by
  unfold blankV
  split
  · exact Lx.closed_cons (by decide) Lx.closed_nil
  · split
    · exact Lx.closed_cons (by decide) (Lx.closed_cons (by decide) Lx.closed_nil)
    · split
      · exact Lx.closed_cons (by decide) Lx.closed_nil
      · split
        · exact Lx.closed_cons (by decide) Lx.closed_nil
        · split
          · exact Lx.closed_cons (by decide) (Lx.closed_cons (by decide) Lx.closed_nil)
          · split
            · exact Lx.closed_x
            · exact Lx.closed_y
theorem blank7 {j : Nat} (h : j < 7) : (#[Value.string ⟨#[32]⟩, .string ⟨#[32, 32]⟩, .string ⟨#[9]⟩, .string ⟨#[10]⟩, .string ⟨#[13, 10]⟩, .string ⟨#[47, 47, 32, 120, 10]⟩, .string ⟨#[32, 47, 47, 10, 32]⟩] : Array Value)[j]? = some (.string (blankV j)) := by
  rcases (show j = 0 ∨ j = 1 ∨ j = 2 ∨ j = 3 ∨ j = 4 ∨ j = 5 ∨ j = 6 by omega) with rfl | rfl | rfl | rfl | rfl | rfl | rfl <;> rfl

set_option maxHeartbeats 4000000 in
theorem blank_c (x : Int) (w : World) (h1 : -9223372036854775808 ≤ x) (h2 : x ≤ 9223372036854775807) :
    Calls Tryd.prog 17 #[.int .i64 x] w fun e w' => e = .returned (.string (blankV (pickN x 7))) ∧ Kept w w' := by
  obtain ⟨q, hq⟩ : ∃ q, pickN x 7 = q := ⟨_, rfl⟩
  have hq7 : q < 7 := by rw [← hq]; exact pickN_lt x (by omega)
  obtain ⟨W1, hW1⟩ : ∃ W1, w.alloc (.cells #[.string ⟨#[32]⟩, .string ⟨#[32, 32]⟩, .string ⟨#[9]⟩, .string ⟨#[10]⟩, .string ⟨#[13, 10]⟩, .string ⟨#[47, 47, 32, 120, 10]⟩, .string ⟨#[32, 47, 47, 10, 32]⟩] 9) = W1 := ⟨_, rfl⟩
  have k1 : Kept w W1 := by rw [← hW1]; exact (Kept.refl w).alloc _
  have b1 : Blk W1 w.heap.size 9 #[.string ⟨#[32]⟩, .string ⟨#[32, 32]⟩, .string ⟨#[9]⟩, .string ⟨#[10]⟩, .string ⟨#[13, 10]⟩, .string ⟨#[47, 47, 32, 120, 10]⟩, .string ⟨#[32, 47, 47, 10, 32]⟩] := by rw [← hW1]; exact Blk.new w _ _
  have c0 := b1.cell q
  rw [blank7 hq7] at c0
  have HP := Lib.hid (pick_v x 7 W1 (by omega) (by omega) h1 h2)
  rw [hq] at HP ⊢
  have hq7I : (q : Int) < 7 := by omega
  generalize blankV q = bv at *
  have HW := Lib.hid hW1
  have HK := Lib.hid k1
  clear hW1 k1 b1 hq
  go_enter Tryd.func17, Tryd.ntmps17
  go_wp2_with (rw [HW.out])
  refine HP.out.mono ?_
  rintro e w2 ⟨rfl, rfl⟩
  go_wp2_with fail
  go_ret
  exact ⟨rfl, HK.out⟩

/-! ### Cuts of bytes -/
theorem cut_u {w : World} {a : Option Addr} {c : Nat} {l : List UInt8} {p k : Nat} (h : SrcAt w (.slice a l.length c) l) (hk : 0 < k) (hpk : p + k ≤ l.length) :
    ∃ b o, a = some ⟨b, o, none⟩ ∧ ∀ W, Kept w W → (convert 35 9 (.slice (some ⟨b, o + p, none⟩) k (c - p))).run Tryd.prog W = .ok (.string ⟨((l.drop p).take k).toArray⟩) W := by
  obtain ⟨b, o, ha, _⟩ := h.at (i := p) (by omega)
  refine ⟨b, o, ha, fun W hW => ?_⟩
  have hlen : ((l.drop p).take k).length = k := by simp; omega
  have := run_convert_bytes_back (P := Tryd.prog) W 35 9 5 ⟨b, o + p, none⟩ (c - p) ((l.drop p).take k) (by kernel_rfl) (by kernel_rfl) (by kernel_rfl) (fun j hj => by
    have hjk : j < k := by omega
    obtain ⟨b', o', e, hc⟩ := h.at (i := p + j) (by omega)
    rw [ha] at e
    injection e with e
    injection e with e1 e2
    subst e1 e2
    rw [show (⟨b, o + p, none⟩ : Addr).add j = ⟨b, o + (p + j), none⟩ by unfold Addr.add; split <;> simp [Nat.add_assoc] <;> omega]
    rw [hW.cell hc]
    simp)
  rw [hlen] at this
  exact this
theorem bytes_elem : Tryd.prog.elem 35 = 5 := by kernel_rfl
theorem sliced_u {a : Option Addr} {b o c p k : Nat} (ha : a = some ⟨b, o, none⟩) (hk : 0 < k) (hpk : p + k ≤ c) (W : World) (P' H : Int) (e1 : P' = p) (e2 : H = (p + k : Nat)) (n : Nat) :
    (Instr.slice 35 (.slice a n c) (some (.int .i64 P')) (some (.int .i64 H)) none).run Tryd.prog W = .ok (.slice (some ⟨b, o + p, none⟩) k (c - p)) W := by
  subst e1 e2 ha
  have hu : Tryd.prog.underlying 35 = some (.slice (Tryd.prog.elem 35)) := by kernel_rfl
  rw [run_slice_lh (t := 35) (a := some ⟨b, o, none⟩) (len := n) (cap := c) W hu .i64 .i64 (p : Int) ((p + k : Nat) : Int) (by omega) (by omega) (by omega)]
  have hs : ∀ W, (sizeOf (Tryd.prog.elem 35)).run Tryd.prog W = .ok 1 W := fun W => by rw [bytes_elem]; kernel_rfl
  rw [hs]
  show Result.ok (sliced (some ⟨b, o, none⟩) ((p : Int)).toNat (((p + k : Nat) : Int)).toNat c 1) W = _
  rw [Int.toNat_natCast, Int.toNat_natCast]
  unfold sliced
  rw [if_neg (by omega), Nat.add_sub_cancel_left, Nat.mul_one]
  simp only [Option.map_some]
  rw [show (⟨b, o, none⟩ : Addr).add p = ⟨b, o + p, none⟩ by unfold Addr.add; split <;> simp <;> omega]

/-! ### A round's step -/
theorem tx_step {l : List UInt8} {bls : List (List UInt8)} {Q0 : List Lx.Q} {k : Nat} (hk : k < Q0.length) : Lx.Tx l (bls.drop k) (Q0.drop k) = (bls.drop k).headD [] ++ Lx.chunk l Q0[k] (Q0.drop (k + 1)) ++ 10 :: Lx.Tx l (bls.drop (k + 1)) (Q0.drop (k + 1)) := by
  rw [List.drop_eq_getElem_cons hk, Lx.Tx, List.tail_drop]
theorem app_bl {s b x : ByteArray} {B X A TX : List UInt8} (h : s.data.toList ++ (B ++ X ++ 10 :: A) = TX) (hB : B = b.data.toList) (hX : X = x.data.toList) : (((s ++ b) ++ x) ++ ⟨#[10]⟩ : ByteArray).data.toList ++ A = TX := by
  subst hB hX
  rw [← h]; simp [ByteArray.data_append]
theorem app_no {s x : ByteArray} {B X A TX : List UInt8} (h : s.data.toList ++ (B ++ X ++ 10 :: A) = TX) (hB : B = []) (hX : X = x.data.toList) : ((s ++ x) ++ ⟨#[10]⟩ : ByteArray).data.toList ++ A = TX := by
  subst hB hX
  rw [← h]; simp [ByteArray.data_append]
theorem end_next {l : List UInt8} {Q0 : List Lx.Q} {k : Nat} (h : k + 1 < Q0.length) : Lx.endOf l (Q0.drop (k + 1)) = Q0[k + 1].1.pos.toNat := by rw [List.drop_eq_getElem_cons h]; rfl
theorem end_last {l : List UInt8} {Q0 : List Lx.Q} {k : Nat} (h : Q0.length ≤ k + 1) : Lx.endOf l (Q0.drop (k + 1)) = l.length := by rw [List.drop_of_length_le h]; rfl
theorem chunk_is {l : List UInt8} {q : Lx.Q} {r : List Lx.Q} {P e : Nat} (hP : q.1.pos = (P : Int)) (he : Lx.endOf l r = e) : Lx.chunk l q r = (l.drop P).take (e - P) := by
  unfold Lx.chunk
  rw [hP, he, Int.toNat_natCast]

def blsV (ns : List Int) : List (List UInt8) := ns.map fun x => (blankV (pickN x 7)).data.toList
theorem bls_closed (ns : List Int) : ∀ b ∈ blsV ns, Lx.Closed b := by
  intro b hb
  unfold blsV at hb
  obtain ⟨x, _, rfl⟩ := List.mem_map.1 hb
  exact blank_closed _
theorem bls_small (ns : List Int) : ∀ b ∈ blsV ns, b.length ≤ 5 := by
  intro b hb
  unfold blsV at hb
  obtain ⟨x, _, rfl⟩ := List.mem_map.1 hb
  rw [Array.length_toList]
  exact blank_small _
theorem bls_head {ns : List Int} {k : Nat} (h : k < ns.length) : ((blsV ns).drop k).headD [] = (blankV (pickN ns[k] 7)).data.toList := by
  unfold blsV
  rw [List.drop_eq_getElem_cons (by rw [List.length_map]; exact h)]
  simp
theorem bls_none {ns : List Int} {k : Nat} (h : ns.length ≤ k) : ((blsV ns).drop k).headD [] = [] := by
  unfold blsV
  rw [List.drop_of_length_le (by rw [List.length_map]; exact h)]
  rfl

set_option maxHeartbeats 16000000 in
theorem blanks_c (a : Option Addr) (c : Nat) (l : List UInt8) (ia : Option Addr) (ic : Nat) (ns : List Int) (w : World) (h : SrcAt w (.slice a l.length c) l) (hi : IntsL w (.slice ia ns.length ic) ns) (hT : Tb w) (hP : Pw w) (hE : Er w) :
    Calls Tryd.prog 5 #[.slice a l.length c, .slice ia ns.length ic] w fun e w' => e = .returned (.bool true) ∧ Kept w w' := by
  have hcap := h.cap
  unfold maxLen at hcap
  have hicap : ns.length ≤ ic ∧ ic ≤ maxLen := by
    obtain ⟨a', c', e, h1, h2, h3⟩ := hi
    injection e with e1 e2 e3
    subst e1 e3
    exact ⟨h1, h2⟩
  unfold maxLen at hicap
  have HIN : Hid (∀ k x, ns[k]? = some x → ∀ W, Kept w W → ∃ b o, ia = some ⟨b, o, none⟩ ∧ W.cell? ⟨b, o + k, none⟩ = some (.int .i64 x) ∧ -9223372036854775808 ≤ x ∧ x ≤ 9223372036854775807) := Lib.hid (by
    intro k x hx W kW
    obtain ⟨a', c', e, h1, h2, h3⟩ := hi
    injection e with e1 e2 e3
    subst e1 e3
    obtain ⟨b, o, e, hc⟩ := h3 k x hx
    rw [Nat.mul_one] at hc
    exact ⟨b, o, e, kW.cell hc.1, hc.2⟩)
  have HA := Lib.hid (known_c w hT hP hE)
  have HS := Lib.hid h
  have HT := Lib.hid hT
  have HE := Lib.hid hE
  clear h hT hP hE hi
  go_enter Tryd.func5, Tryd.ntmps5
  go_wp2_with fail
  refine HA.out.mono ?_
  rintro e w1 ⟨rfl, k1⟩
  have HK1 := Lib.hid k1
  clear k1 HA
  by_cases hl : 1000 < l.length
  · have hlI : (1000 : Int) < (l.length : Int) := by omega
    go_wp2_with fail
    go_ret
    exact ⟨rfl, HK1.out⟩
  by_cases hl6 : 60 < ns.length
  · have hlI : ¬ (1000 : Int) < (l.length : Int) := by omega
    have hlI6 : (60 : Int) < (ns.length : Int) := by omega
    go_wp2_with fail
    go_ret
    exact ⟨rfl, HK1.out⟩
  have hlI : ¬ (1000 : Int) < (l.length : Int) := by omega
  have hlI6 : ¬ (60 : Int) < (ns.length : Int) := by omega
  have HLX := Lib.hid (lex_c a c l w1 (src_kept HS.out HK1.out) (HT.out.kept HK1.out) (HE.out.kept HK1.out))
  go_wp2_with fail
  refine HLX.out.mono ?_
  rintro e w2 ⟨a', c', rfl, hrow, k2⟩
  have HK2 := Lib.hid (HK1.out.trans k2)
  have HROW := Lib.hid hrow
  clear k2 HLX HK1 hrow
  obtain ⟨L, hL⟩ : ∃ L, (Lx.lex l).1 = L := ⟨_, rfl⟩
  obtain ⟨ev, hev⟩ : ∃ ev, (Lx.lex l).2.1 = ev := ⟨_, rfl⟩
  obtain ⟨av, hav⟩ : ∃ av, (Lx.lex l).2.2 = av := ⟨_, rfl⟩
  have HLL := Lib.hid hL
  have HEV := Lib.hid hev
  have HAV := Lib.hid hav
  rw [hL] at HROW ⊢
  rw [hev, hav]
  clear hL hev hav
  obtain ⟨W3, hW3⟩ : ∃ W3, w2.alloc (.cells #[.int .i64 ev, .int .i64 av] 38) = W3 := ⟨_, rfl⟩
  have k3 : Kept w2 W3 := by rw [← hW3]; exact (Kept.refl w2).alloc _
  have hb3 : Blk W3 w2.heap.size 38 #[.int .i64 ev, .int .i64 av] := by rw [← hW3]; exact Blk.new w2 _ _
  obtain ⟨e0, e1⟩ : W3.cell? ⟨w2.heap.size, 0, none⟩ = some (.int .i64 ev) ∧ W3.cell? ⟨w2.heap.size, 1, none⟩ = some (.int .i64 av) := ⟨hb3.cell 0, hb3.cell 1⟩
  have HW3 := Lib.hid hW3
  have HK3 := Lib.hid (HK2.out.trans k3)
  have HR3 := Lib.hid (tks_kept HROW.out k3)
  clear hW3 k3 hb3 HROW HK2
  by_cases hev : ev = 0
  · have hevI : (ev != 0) = false := by simp [hev]
    have hok : (Lx.lex l).2.1 = 0 := by rw [HEV.out, hev]
    obtain ⟨hg, hle⟩ := Lx.lex_ok hok (by omega)
    obtain ⟨Q0, hQ⟩ : ∃ Q0, Lx.seq l = Q0 := ⟨_, rfl⟩
    have HLQ := Lib.hid (show L = Q0.map (·.1) by rw [← HLL.out, hle, hQ])
    have hsq := seq_len l
    have HASC : Hid (Lx.Asc l Q0) := Lib.hid (by
      obtain ⟨ha1, ha2⟩ := Lx.seqF_asc (l.length + 1) 0 l (Lx.seq l) rfl hg
      rw [hQ] at ha1 ha2
      exact ⟨fun q hq => by obtain ⟨P, h1, _, h3⟩ := ha1 q hq; exact ⟨P, h1, by omega⟩, ha2⟩)
    obtain ⟨TX, hTX⟩ : ∃ TX, Lx.Tx l (blsV ns) Q0 = TX := ⟨_, rfl⟩
    rw [hQ] at hsq
    have HTL : Hid (TX.length ≤ 8000) := Lib.hid (by
      have := Lx.Tx_len l (blsV ns) Q0 (bls_small ns) HASC.out
      rw [hTX] at this
      have h2 : l.length - (match Q0 with | [] => l.length | q :: _ => q.1.pos.toNat) ≤ l.length := Nat.sub_le _ _
      omega)
    have HEND : Hid (∀ s : ByteArray, s.data.toList = TX → Lx.lexesV s L = true) := Lib.hid (by
      intro s hs
      rw [← HLL.out]
      exact Lx.lex_tx (by omega) hok (bls_closed ns) (bls_small ns) s (by rw [hs, ← hTX, hQ]))
    have hLn : L.length = Q0.length := by rw [HLQ.out, List.length_map]
    have HAT : Hid (∀ k (q : Lx.Q), Q0[k]? = some q → ∀ W, Kept W3 W → ∃ b o, a' = some ⟨b, o, none⟩ ∧ W.cell? ⟨b, o + k * 4 + 3, none⟩ = some (.int .i64 q.1.pos)) := Lib.hid (by
      intro k q hq W kW
      obtain ⟨x, y, e, h1, h2, h3⟩ := tks_kept HR3.out kW
      injection e with q1 q2 q3
      subst q1 q3
      obtain ⟨b, o, e, hc⟩ := h3 k q.1 (by rw [HLQ.out, List.getElem?_map, hq]; rfl)
      exact ⟨b, o, e, hc.2.2.2⟩)
    have hrc : L.length ≤ c' ∧ c' ≤ 9223372036854775807 := by
      obtain ⟨x, y, e, h1, h2, h3⟩ := HR3.out
      injection e with q1 q2 q3
      subst q1 q3
      exact ⟨h1, h2⟩
    have HRE := Lib.hid (fun W (k : Kept W3 W) => tks_kept HR3.out k)
    have HST : Hid ((⟨#[]⟩ : ByteArray).data.toList ++ Lx.Tx l ((blsV ns).drop 0) (Q0.drop 0) = TX) := Lib.hid (by rw [List.drop_zero, List.drop_zero, hTX]; rfl)
    rw [hLn] at HRE hrc ⊢
    obtain ⟨n, hn⟩ : ∃ n, Q0.length = n := ⟨_, rfl⟩
    have HN := Lib.hid hn
    rw [hn] at HRE hrc hsq ⊢
    have HK0 := Lib.hid (Kept.refl W3)
    clear hev hok hle hg hQ hTX hLn hn HR3 HLL HEV HAV
    go_wp2_with (rw [HW3.out])
    go_loopw [8, 9, 10] (fun t q i wr => ∃ (k p : Nat) (s : ByteArray), k ≤ n ∧ p ≤ l.length ∧ t = .string s ∧ q = .int .i64 p ∧ i = .int .i64 k ∧ Hid (s.data.toList ++ Lx.Tx l ((blsV ns).drop k) (Q0.drop k) = TX) ∧ Hid (∀ x, Q0[k]? = some x → (p : Int) ≤ x.1.pos) ∧ Hid (Kept W3 wr)) (fun t q i wr => n - (intOf i).toNat)
    case atStart => exact ⟨0, 0, ⟨#[]⟩, Nat.zero_le _, Nat.zero_le _, rfl, rfl, rfl, HST, Lib.hid (fun x hx => by obtain ⟨P, hP, _⟩ := HASC.out.1 x (List.mem_of_getElem? hx); rw [hP]; omega), HK0⟩
    case round =>
      clear e0 e1 HST HK0 HW3
      obtain ⟨k, p, s, hk, hp, rfl, rfl, rfl, HTS, HNX, HK⟩ := hrel
      have hss : s.size ≤ 8000 := by
        have h1 := HTL.out
        rw [← HTS.out, List.length_append, Array.length_toList] at h1
        have : s.size = s.data.size := rfl
        omega
      by_cases hlt : k < n
      · have hltI : (k : Int) < (n : Int) := by omega
        have hltQ : k < Q0.length := by rw [HN.out]; exact hlt
        obtain ⟨P, hP, hPl⟩ := HASC.out.1 Q0[k] (List.getElem_mem hltQ)
        have hpP : p ≤ P := by have := HNX.out Q0[k] (List.getElem?_eq_getElem hltQ); rw [hP] at this; omega
        obtain ⟨g, o, rfl, d0⟩ := HAT.out k Q0[k] (List.getElem?_eq_getElem hltQ) wr HK.out
        rw [hP] at d0
        have hc1 : ¬ (P : Int) < (p : Int) := by omega
        have hc2 : ¬ (l.length : Int) ≤ (P : Int) := by omega
        have HSTEP := Lib.hid (tx_step (l := l) (bls := blsV ns) hltQ)
        by_cases hnx : k + 1 < n
        · have hnxI : (k : Int) + 1 < (n : Int) := by omega
          have hnxQ : k + 1 < Q0.length := by rw [HN.out]; exact hnx
          obtain ⟨e, he, hel⟩ := HASC.out.1 Q0[k + 1] (List.getElem_mem hnxQ)
          have hPe : P < e := by
            have := HASC.out.2 k _ _ (List.getElem?_eq_getElem hltQ) (List.getElem?_eq_getElem hnxQ)
            rw [hP, he] at this; omega
          obtain ⟨g', o', eg, d1⟩ := HAT.out (k + 1) Q0[k + 1] (List.getElem?_eq_getElem hnxQ) wr HK.out
          injection eg with eg
          injection eg with eg1 eg2
          subst eg1 eg2
          rw [he] at d1
          have HCH := Lib.hid (chunk_is (l := l) (r := Q0.drop (k + 1)) hP (show _ = e by rw [end_next hnxQ, he, Int.toNat_natCast]))
          have HNX2 : Hid (∀ x, Q0[k + 1]? = some x → (e : Int) ≤ x.1.pos) := Lib.hid (fun x hx => by rw [List.getElem?_eq_getElem hnxQ] at hx; injection hx with hx; rw [← hx, he]; omega)
          have hel' : e ≤ l.length := by omega
          obtain ⟨sb, so, rfl, hcv⟩ := cut_u (src_kept HS.out HK3.out) (show 0 < e - P by omega) (show P + (e - P) ≤ l.length by omega)
          have HCV := Lib.hid hcv
          have hsl := fun W => sliced_u (a := some ⟨sb, so, none⟩) rfl (show 0 < e - P by omega) (show P + (e - P) ≤ c by omega) W (P : Int) (e : Int) rfl (by omega) l.length
          have hxs : (⟨((l.drop P).take (e - P)).toArray⟩ : ByteArray).size ≤ 1000 := by
            show ((l.drop P).take (e - P)).toArray.size ≤ 1000
            rw [List.size_toArray, List.length_take, List.length_drop]; omega
          obtain ⟨x, hx⟩ : ∃ x : ByteArray, ⟨((l.drop P).take (e - P)).toArray⟩ = x := ⟨_, rfl⟩
          have HXD := Lib.hid (show Lx.chunk l Q0[k] (Q0.drop (k + 1)) = x.data.toList by rw [HCH.out, ← hx])
          rw [hx] at HCV hxs
          have hc3 : ¬ (e : Int) ≤ (P : Int) := by omega
          have hc4 : ¬ (l.length : Int) < (e : Int) := by omega
          clear hx hcv HCH he
          by_cases hbl : k < ns.length
          · have hblI : (k : Int) < (ns.length : Int) := by omega
            obtain ⟨ib, io, rfl, y0, y1, y2⟩ := HIN.out k ns[k] (List.getElem?_eq_getElem hbl) wr (HK3.out.trans HK.out)
            have HBL := Lib.hid (fun W => blank_c ns[k] W y1 y2)
            have HBH := Lib.hid (bls_head hbl)
            have hbz := blank_small (pickN ns[k] 7)
            generalize ns[k] = iv at *
            generalize blankV (pickN iv 7) = bv at *
            clear y1 y2
            go_wp2_with fail
            refine (HBL.out _).mono ?_
            rintro e9 w4 ⟨rfl, k4⟩
            have HK4 := Lib.hid (HK.out.trans k4)
            have hcw := HCV.out w4 HK4.out
            have d0' := k4.cell d0
            clear k4 y0 HBL d0
            go_wp2_with fail
            go_roundw
            case rel => exact ⟨k + 1, e, _, by omega, hel', rfl, rfl, by go_num, Lib.hid (app_bl (by rw [HSTEP.out] at HTS; exact HTS.out) HBH.out HXD.out), HNX2, HK4⟩
            case measure => simp [intOf]; omega
          · have hblI : ¬ (k : Int) < (ns.length : Int) := by omega
            have HBH := Lib.hid (bls_none (ns := ns) (k := k) (by omega))
            have hcw := HCV.out wr HK.out
            go_wp2_with fail
            go_roundw
            case rel => exact ⟨k + 1, e, _, by omega, hel', rfl, rfl, by go_num, Lib.hid (app_no (by rw [HSTEP.out] at HTS; exact HTS.out) HBH.out HXD.out), HNX2, HK⟩
            case measure => simp [intOf]; omega
        · have hnxI : ¬ (k : Int) + 1 < (n : Int) := by omega
          have hPe : P < l.length := by omega
          have HCH := Lib.hid (chunk_is (l := l) (r := Q0.drop (k + 1)) hP (show _ = l.length by rw [end_last (by rw [HN.out]; omega)]))
          have HNX2 : Hid (∀ x, Q0[k + 1]? = some x → (l.length : Int) ≤ x.1.pos) := Lib.hid (fun x hx => by have := (List.getElem?_eq_some_iff.1 hx).1; rw [HN.out] at this; omega)
          have hel' : l.length ≤ l.length := by omega
          obtain ⟨sb, so, rfl, hcv⟩ := cut_u (src_kept HS.out HK3.out) (show 0 < l.length - P by omega) (show P + (l.length - P) ≤ l.length by omega)
          have HCV := Lib.hid hcv
          have hsl := fun W => sliced_u (a := some ⟨sb, so, none⟩) rfl (show 0 < l.length - P by omega) (show P + (l.length - P) ≤ c by omega) W (P : Int) (l.length : Int) rfl (by omega) l.length
          have hxs : (⟨((l.drop P).take (l.length - P)).toArray⟩ : ByteArray).size ≤ 1000 := by
            show ((l.drop P).take (l.length - P)).toArray.size ≤ 1000
            rw [List.size_toArray, List.length_take, List.length_drop]; omega
          obtain ⟨x, hx⟩ : ∃ x : ByteArray, ⟨((l.drop P).take (l.length - P)).toArray⟩ = x := ⟨_, rfl⟩
          have HXD := Lib.hid (show Lx.chunk l Q0[k] (Q0.drop (k + 1)) = x.data.toList by rw [HCH.out, ← hx])
          rw [hx] at HCV hxs
          have hc3 : ¬ (l.length : Int) ≤ (P : Int) := by omega
          have hc4 : ¬ (l.length : Int) < (l.length : Int) := by omega
          clear hx hcv HCH
          by_cases hbl : k < ns.length
          · have hblI : (k : Int) < (ns.length : Int) := by omega
            obtain ⟨ib, io, rfl, y0, y1, y2⟩ := HIN.out k ns[k] (List.getElem?_eq_getElem hbl) wr (HK3.out.trans HK.out)
            have HBL := Lib.hid (fun W => blank_c ns[k] W y1 y2)
            have HBH := Lib.hid (bls_head hbl)
            have hbz := blank_small (pickN ns[k] 7)
            generalize ns[k] = iv at *
            generalize blankV (pickN iv 7) = bv at *
            clear y1 y2
            go_wp2_with fail
            refine (HBL.out _).mono ?_
            rintro e9 w4 ⟨rfl, k4⟩
            have HK4 := Lib.hid (HK.out.trans k4)
            have hcw := HCV.out w4 HK4.out
            have d0' := k4.cell d0
            clear k4 y0 HBL d0
            go_wp2_with fail
            go_roundw
            case rel => exact ⟨k + 1, l.length, _, by omega, hel', rfl, rfl, by go_num, Lib.hid (app_bl (by rw [HSTEP.out] at HTS; exact HTS.out) HBH.out HXD.out), HNX2, HK4⟩
            case measure => simp [intOf]; omega
          · have hblI : ¬ (k : Int) < (ns.length : Int) := by omega
            have HBH := Lib.hid (bls_none (ns := ns) (k := k) (by omega))
            have hcw := HCV.out wr HK.out
            go_wp2_with fail
            go_roundw
            case rel => exact ⟨k + 1, l.length, _, by omega, hel', rfl, rfl, by go_num, Lib.hid (app_no (by rw [HSTEP.out] at HTS; exact HTS.out) HBH.out HXD.out), HNX2, HK⟩
            case measure => simp [intOf]; omega
      · obtain rfl : k = n := by omega
        have hltI : ¬ (k : Int) < (k : Int) := by omega
        have hs := HTS.out
        rw [show Q0.drop k = [] from List.drop_of_length_le (by rw [HN.out]; omega), show Lx.Tx l ((blsV ns).drop k) [] = [] by simp [Lx.Tx], List.append_nil] at hs
        have HLS := Lib.hid (lexes_c s (by omega) L a' c' wr (by rw [show L.length = k by rw [HLQ.out, List.length_map, HN.out]]; exact HRE.out wr HK.out) (HT.out.kept (HK3.out.trans HK.out)) (HE.out.kept (HK3.out.trans HK.out)))
        rw [HEND.out s hs, show L.length = k by rw [HLQ.out, List.length_map, HN.out]] at HLS
        clear hs
        go_wp2_with fail
        refine HLS.out.mono ?_
        rintro e w9 ⟨rfl, k9⟩
        go_wp2_with fail
        go_ret
        exact ⟨rfl, (HK3.out.trans HK.out).trans k9⟩
  · have hevI : (ev != 0) = true := by simp [hev]
    obtain ⟨f1, f2, f3⟩ := Lx.lex_fault (l := l) (by omega) (by rw [HEV.out]; exact hev)
    rw [HAV.out] at f2 f3
    rw [HLL.out] at f1
    have h0 : L.length = 0 := by rw [f1]; rfl
    have h0I : ((L.length : Int) == 0) = true := by rw [h0]; rfl
    have f2I : decide ((0 : Int) ≤ av) = true := decide_eq_true f2
    have f3I : decide (av < (l.length : Int)) = true := decide_eq_true f3
    have hmx : max (l.length : Int) 1 = (l.length : Int) := by omega
    clear hev h0 f1
    generalize L.length = n at *
    go_wp2_with (rw [HW3.out])
    go_ret
    exact ⟨rfl, HK3.out⟩

end Go.Proofs.YtbnifedcfkpohaaDoor
