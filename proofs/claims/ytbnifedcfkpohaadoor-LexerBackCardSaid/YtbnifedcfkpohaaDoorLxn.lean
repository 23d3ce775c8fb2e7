/- Tokens that came in; LongTokens. -/
import Derived.Test.YtbnifedcfkpohaaDoorLxa
import Derived.Test.YtbnifedcfkpohaaDoorKtt
import Derived.OpenShut
import Derived.Carry
import Derived.ShutString
import Derived.ProofKit
import Derived.Deep.Fields
import Derived.Deep.Slices
import Derived.ChangeSame
import Derived.Lib.LaidTab
set_option linter.unusedSimpArgs false
set_option linter.unusedVariables false
set_option maxRecDepth 100000
namespace Go.Proofs.YtbnifedcfkpohaaDoor
open Go.ChangeShapes Go.WideShapes Go.ChangeAt Go.RowKit Go.Deep Go.Shelf
attribute [local go_sem] Oper.semAt_some

/-- A token that came in: its numbers are numbers of the language. -/
def TokI (w : World) (b o : Nat) (x : Lx.T) : Prop := TokR w b o x ∧ -9223372036854775808 ≤ x.n ∧ x.n ≤ 9223372036854775807
abbrev TksI (w : World) (v : Value) (l : List Lx.T) : Prop := Row 4 TokI w v l
theorem TksI.at {w : World} {v : Value} {l : List Lx.T} (h : TksI w v l) : TksAt w v l := by
  obtain ⟨a, c, e, h1, h2, h3⟩ := h
  exact ⟨a, c, e, h1, h2, fun i x hx => by obtain ⟨b, o, e, r⟩ := h3 i x hx; exact ⟨b, o, e, r.1⟩⟩
theorem TksI.num {w : World} {v : Value} {l : List Lx.T} (h : TksI w v l) : ∀ x ∈ l, -9223372036854775808 ≤ x.n ∧ x.n ≤ 9223372036854775807 := by
  obtain ⟨a, c, e, h1, h2, h3⟩ := h
  intro x hx
  obtain ⟨i, hi, e⟩ := List.getElem_of_mem hx
  obtain ⟨b, o, _, r⟩ := h3 i x (by rw [List.getElem?_eq_getElem hi, e])
  exact r.2

theorem row_of_eachT {α : Type} {k : Nat} {R : World → Nat → Nat → α → Prop} {w : World} {ad : Addr} {n c : Nat} (hl : n ≤ c) (hm : c ≤ maxLen)
    (each : ∀ i, i < n → ∃ y : α, ∃ b o, ad = ⟨b, o, none⟩ ∧ R w b (o + i * k) y) : ∃ l : List α, l.length = n ∧ Row k R w (.slice (some ad) n c) l := by
  let g : Fin n → α := fun i => Classical.choose (each i.1 i.2)
  have gs : ∀ i : Fin n, ∃ b o, ad = ⟨b, o, none⟩ ∧ R w b (o + i.1 * k) (g i) := fun i => Classical.choose_spec (each i.1 i.2)
  have hlen : (List.ofFn g).length = n := List.length_ofFn
  refine ⟨List.ofFn g, hlen, some ad, c, by rw [hlen], by rw [hlen]; exact hl, hm, fun i y hy => ?_⟩
  obtain ⟨hin, hyy⟩ := List.getElem?_eq_some_iff.1 hy
  have hin' : i < n := by rw [hlen] at hin; exact hin
  have hyg : y = g ⟨i, hin'⟩ := by rw [← hyy]; simp
  rw [hyg]
  obtain ⟨b, o, e, hr⟩ := gs ⟨i, hin'⟩
  exact ⟨b, o, by rw [e], hr⟩

section
variable {H : Type} {enc : TypeId × Value → H} {w : World} {base : Nat} {spare : Nat → Bool} {held : Bool}

theorem tok_fields : ∃ fs : Array Field, Tryd.prog.underlying 24 = some (.struct fs) ∧ oneCellFields Tryd.prog fs = true ∧ fs.size = 4 ∧ (∃ f, fs[0]? = some f ∧ f.type = 3) ∧ (∃ f, fs[1]? = some f ∧ f.type = 9) ∧ (∃ f, fs[2]? = some f ∧ f.type = 3) ∧ (∃ f, fs[3]? = some f ∧ f.type = 3) := by
  refine ⟨_, Tryd.underlying24, ?_, rfl, ⟨_, rfl, rfl⟩, ⟨_, rfl, rfl⟩, ⟨_, rfl, rfl⟩, ⟨_, rfl, rfl⟩⟩
  kernel_rfl

theorem open_tok {fuel : Nat} {ad : Addr} {x : DataW H × List MemPlace} {cs : List Value} (hc : w.cells? base ad 4 = some cs) (h : DataW.trod enc Tryd.prog w base spare held fuel 24 cs = some x) :
    ∃ y : Lx.T, w.cell? (ad.add 0) = some (.int .i64 y.kind) ∧ w.cell? (ad.add 1) = some (.string y.text) ∧ w.cell? (ad.add 2) = some (.int .i64 y.n) ∧ w.cell? (ad.add 3) = some (.int .i64 y.pos) ∧ -9223372036854775808 ≤ y.n ∧ y.n ≤ 9223372036854775807 := by
  obtain ⟨fs, hs, hone, hsz, ⟨f0, e0, t0⟩, ⟨f1, e1, t1⟩, ⟨f2, e2, t2⟩, ⟨f3, e3, t3⟩⟩ := tok_fields
  obtain ⟨ys, n', hn', hy, hlen, hyl, hf⟩ := DataW.trod_struct hs h
  obtain ⟨_, hcl, hat⟩ := World.cells?_some hc
  have hcl4 : cs.length = 4 := hcl
  match cs, hcl4 with
  | [v0, v1, v2, v3], _ =>
    obtain ⟨o0, k0⟩ := hone_of hone 0 f0 e0
    obtain ⟨o1, k1⟩ := hone_of hone 1 f1 e1
    obtain ⟨o2, k2⟩ := hone_of hone 2 f2 e2
    obtain ⟨o3, k3⟩ := hone_of hone 3 f3 e3
    have g0 := hf 0 f0 e0
    have g1 := hf 1 f1 e1
    have g2 := hf 2 f2 e2
    have g3 := hf 3 f3 e3
    rw [hsz] at hyl
    match ys, hyl with
    | [y0, y1, y2, y3], _ =>
      rw [o0, k0, t0] at g0
      rw [o1, k1, t1] at g1
      rw [o2, k2, t2] at g2
      rw [o3, k3, t3] at g3
      have c0 := hat 0 (by decide)
      have c1 := hat 1 (by decide)
      have c2 := hat 2 (by decide)
      have c3 := hat 3 (by decide)
      have g0' : DataW.trod enc Tryd.prog w base spare held n' 3 [v0] = some y0 := g0
      have g1' : DataW.trod enc Tryd.prog w base spare held n' 9 [v1] = some y1 := g1
      have g2' : DataW.trod enc Tryd.prog w base spare held n' 3 [v2] = some y2 := g2
      have g3' : DataW.trod enc Tryd.prog w base spare held n' 3 [v3] = some y3 := g3
      obtain ⟨m0, r0, _, w0⟩ := DataW.trod_int Tryd.underlying3 g0'
      obtain ⟨s1, r1, _, w1⟩ := DataW.trod_string Tryd.underlying9 g1'
      obtain ⟨m2, r2, _, w2⟩ := DataW.trod_int Tryd.underlying3 g2'
      obtain ⟨m3, r3, _, w3⟩ := DataW.trod_int Tryd.underlying3 g3'
      injection r0 with r0
      injection r1 with r1
      injection r2 with r2
      injection r3 with r3
      subst r0 r1 r2 r3
      have hb := bounds_i64 w2
      exact ⟨⟨m0, s1, m2, m3⟩, c0, c1, c2, c3, hb.1, hb.2⟩

theorem open_tks {fuel : Nat} {v : Value} {x : DataW H × List MemPlace} (h : DataW.trod enc Tryd.prog w base spare held fuel 30 [v] = some x) :
    ∃ l : List Lx.T, TksI w v l := by
  rcases open_slice Tryd.underlying30 h with ⟨hcs, _⟩ | ⟨ad, len, cap, m, k, D, Pl, hcs, hb, hl, hm, hmm, hx, hi⟩
  · cases hcs
    exact ⟨[], Row.nil⟩
  · cases hcs
    have hC : Tryd.prog.cellsOf 24 = 4 := by kernel_rfl
    obtain ⟨l, hl', hr⟩ := row_of_eachT (k := 4) (R := TokI) (w := w) (ad := ad) hl hm (fun i hin => by
      have hspot : ad.spot = none := by
        obtain ⟨cs0, hc0, ht0⟩ := hi 0 (by rw [hmm]; split <;> omega)
        rw [hC] at hc0
        obtain ⟨_, d0, _⟩ := open_tok hc0 ht0
        simpa [Addr.add] using World.cell?_spot d0
      obtain ⟨cs', hc, ht'⟩ := hi i (by rw [hmm]; split <;> omega)
      rw [hC] at hc
      obtain ⟨y, c0, c1, c2, c3, z0⟩ := open_tok hc ht'
      obtain ⟨b, off, spot⟩ := ad
      have hs2 : spot = none := hspot
      subst hs2
      simp only [addr_plainT, Nat.add_zero] at c0 c1 c2 c3
      exact ⟨y, b, off, rfl, ⟨c0, c1, c2, c3⟩, z0⟩)
    exact ⟨l, hr⟩
end

/-! ### LongTokens -/
def LongP (l : List Lx.T) (b : Bool) : Prop := b = false → l.length ≤ 300 ∧ ∀ x ∈ l, x.text.size ≤ 1100
def LongE (l : List Lx.T) (w : World) (e : Ending) (w' : World) : Prop := ∃ b, e = .returned (.bool b) ∧ LongP l b ∧ Kept w w'

set_option maxHeartbeats 4000000 in
theorem longT_c (a : Option Addr) (c : Nat) (l : List Lx.T) (w : World) (h : TksAt w (.slice a l.length c) l) :
    Calls Tryd.prog 14 #[.slice a l.length c] w (LongE l w) := by
  have hcap : l.length ≤ c ∧ c ≤ maxLen := by
    obtain ⟨a', c', e, h1, h2, h3⟩ := h
    injection e with e1 e2 e3
    subst e1 e3
    exact ⟨h1, h2⟩
  unfold maxLen at hcap
  have HAT : Hid (∀ i (hi : i < l.length) W, Kept w W → ∃ b o, a = some ⟨b, o, none⟩ ∧ TokR W b (o + i * 4) l[i]) := Lib.hid (by
    intro i hi W k
    obtain ⟨a', c', e, h1, h2, h3⟩ := tks_kept h k
    injection e with e1 e2 e3
    subst e1 e3
    exact h3 i l[i] (List.getElem?_eq_getElem hi))
  have HK0 := Lib.hid (Kept.refl w)
  clear h
  go_enter Tryd.func14, Tryd.ntmps14
  go_wp2_with fail
  go_loopw [3, 4] (fun nv i wr => ∃ k n : Nat, k ≤ l.length ∧ k ≤ 301 ∧ n ≤ k * 1100 ∧ nv = .int .i64 n ∧ i = .int .i64 k ∧ Hid (∀ x ∈ l.take k, x.text.size ≤ 1100) ∧ Hid (Kept w wr)) (fun nv i wr => l.length - (intOf i).toNat)
  case atStart => exact ⟨0, 0, by omega, by omega, by omega, rfl, rfl, Lib.hid (by simp), HK0⟩
  case round =>
    clear HK0
    obtain ⟨k, n, hk, hk3, hn, rfl, rfl, HA, HK⟩ := hrel
    by_cases hlt : k < l.length
    · by_cases h3 : k < 301
      · have hltI : (k : Int) < (l.length : Int) := by omega
        have h3I : (k : Int) < 301 := by omega
        obtain ⟨b, o, rfl, g0, g1, g2, g3⟩ := HAT.out k hlt wr HK.out
        have HTK := Lib.hid (show l.take (k + 1) = l.take k ++ [l[k]] from List.take_succ_eq_append_getElem hlt)
        generalize l[k] = x at *
        by_cases hz : 1100 < x.text.size
        · have hzI : (1100 : Int) < (x.text.size : Int) := by omega
          go_wp2_with fail
          go_ret
          exact ⟨true, rfl, (fun h => by cases h), HK.out⟩
        · have hzI : ¬ (1100 : Int) < (x.text.size : Int) := by omega
          go_wp2_with fail
          go_roundw
          case rel =>
            refine ⟨k + 1, n + x.text.size, by omega, by omega, by omega, by go_num, by go_num, Lib.hid (fun y hy => ?_), HK⟩
            rw [HTK.out] at hy
            rcases List.mem_append.1 hy with h | h
            · exact HA.out y h
            · rw [List.mem_singleton] at h; rw [h]; omega
          case measure => simp [intOf]; omega
      · have hltI : (k : Int) < (l.length : Int) := by omega
        have h3I : ¬ (k : Int) < 301 := by omega
        have hl3 : (300 : Int) < (l.length : Int) := by omega
        go_wp2_with fail
        go_ret
        exact ⟨true, rfl, (fun h => by cases h), HK.out⟩
    · obtain rfl : k = l.length := by omega
      have hltI : ¬ (l.length : Int) < (l.length : Int) := by omega
      have HP : Hid (∀ b, (b = false → l.length ≤ 300) → LongP l b) := Lib.hid (fun b hb h => ⟨hb h, fun x hx => HA.out x (by rw [List.take_of_length_le (Nat.le_refl _)]; exact hx)⟩)
      by_cases hl3 : 300 < l.length
      · have hl3I : (300 : Int) < (l.length : Int) := by omega
        go_wp2_with fail
        go_ret
        exact ⟨true, rfl, (fun h => by cases h), HK.out⟩
      · have hl3I : ¬ (300 : Int) < (l.length : Int) := by omega
        by_cases hn4 : 4000 < n
        · have hn4I : (4000 : Int) < (n : Int) := by omega
          go_wp2_with fail
          go_ret
          exact ⟨true, rfl, (fun h => by cases h), HK.out⟩
        · have hn4I : ¬ (4000 : Int) < (n : Int) := by omega
          go_wp2_with fail
          go_ret
          exact ⟨false, rfl, HP.out false (fun _ => by omega), HK.out⟩

end Go.Proofs.YtbnifedcfkpohaaDoor
