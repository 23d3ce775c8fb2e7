/- The walk of OctetBack. -/
import Derived.Test.YtfbbhkhingfdeaaBkp
import Derived.Test.YtfbbhkhingfdeaaOne
import Derived.Deep.AppendLies
import Derived.Deep.LoopGhost
set_option linter.unusedSimpArgs false
set_option linter.unusedVariables false
namespace Go.Proofs.Ytfbbhkhingfdeaa
open Go.ChangeShapes Go.WideShapes Go.ChangeAt Go.RowKit

theorem info_item : (Try.prog.info? 33).map (fun i => (i.zero, i.size, i.bytes)) = some (some (.agg #[.int .i64 0, .int .i64 0, .string ⟨#[]⟩]), 3, 32) := by kernel_rfl

def cellsI (x : Itm) : List Value := [.int .i64 x.kind, .int .i64 x.num, .string x.txt]
def cellsL (l : List Itm) : List Value := l.flatMap cellsI
theorem cellsL_len : ∀ l : List Itm, (cellsL l).length = l.length * 3
  | [] => rfl
  | x :: l => by
    have h := cellsL_len l
    unfold cellsL at *
    rw [List.flatMap_cons, List.length_append, h, List.length_cons]
    show 3 + _ = _
    omega
theorem cellsL_at : ∀ (l : List Itm) (i : Nat) (x : Itm), l[i]? = some x → ∀ j, j < 3 → (cellsL l)[i * 3 + j]? = (cellsI x)[j]?
  | [], i, x, h, _, _ => by simp at h
  | y :: l, 0, x, h, j, hj => by
    have e : y = x := by simpa using h
    subst e
    unfold cellsL
    rw [List.flatMap_cons, Nat.zero_mul, Nat.zero_add, List.getElem?_append_left (by show j < 3; exact hj)]
  | y :: l, i + 1, x, h, j, hj => by
    have ih := cellsL_at l i x (by simpa using h) j hj
    unfold cellsL at *
    rw [List.flatMap_cons, List.getElem?_append_right (by show 3 ≤ _; omega)]
    have : (i + 1) * 3 + j - (cellsI y).length = i * 3 + j := by show (i + 1) * 3 + j - 3 = _; omega
    rw [this]
    exact ih

/-- The items that were kept: a row of the law's own. -/
def KRow (w : World) (v : Value) (l : List Itm) : Prop := w.ownsRow 0 33 3 v l.length (cellsL l)

theorem KRow.only {S : Nat → Prop} {w w' : World} {v : Value} {l : List Itm} (h : KRow w v l) (k : Only S w w') (hs : ∀ g, v.ownBlock = some g → ¬ S g) : KRow w' v l := by
  refine ⟨h.1, ?_⟩
  rcases h.2 with hn | ⟨g, cap, cur, rfl, hb, hgg, rest⟩
  · exact .inl hn
  · refine .inr ⟨g, cap, cur, rfl, hb, ?_, rest⟩
    rw [k.block g (Array.getElem?_eq_some_iff.1 hgg).1 (hs g rfl)]
    exact hgg
theorem KRow.has {w : World} {v : Value} {l : List Itm} (h : KRow w v l) (hl : ∀ x ∈ l, x.ok) : ∃ A c, v = .slice A l.length c ∧ l.length ≤ c ∧ c ≤ maxLen ∧ Has w A l ∧ (∀ b off, A = some ⟨b, off, none⟩ → v.ownBlock = some b) := by
  rcases id h.2 with ⟨rfl, h0⟩ | ⟨g, cap, cur, rfl, _, _, h1, h2, _⟩
  · obtain rfl : l = [] := List.eq_nil_of_length_eq_zero h0
    exact ⟨none, 0, rfl, Nat.le_refl _, Nat.zero_le _, fun h => absurd rfl h, fun b off e => by cases e⟩
  · refine ⟨_, _, rfl, h1, h2, fun _ => ⟨g, 0, rfl, fun i x hx => ?_⟩, fun b off e => by cases e; rfl⟩
    have hc := World.ownsRow.cells h (g := g) rfl
    have at3 : ∀ j u, j < 3 → (cellsI x)[j]? = some u → w.cell? ⟨g, i * 3 + j, none⟩ = some u := fun j u hj hu => by
      have := hc (i * 3 + j) u (by rw [cellsL_at l i x hx j hj]; exact hu)
      rwa [add_plain, Nat.zero_add] at this
    refine ⟨hl x (List.mem_of_getElem? hx), ?_, ?_, ?_⟩
    · rw [Nat.zero_add]; exact at3 0 _ (by omega) rfl
    · rw [Nat.zero_add]; exact at3 1 _ (by omega) rfl
    · rw [Nat.zero_add]; exact at3 2 _ (by omega) rfl

/-- Behind k items written. -/
def L1 (w : World) (b : Nat) (l : List Itm) (k : Nat) (v : Value) (wr : World) : Prop :=
  ∃ O : Nat → Prop, Kept w wr ∧ Wr wr O b 1048576 (encL (l.take k), 0) ∧ (∀ g, O g → w.heap.size ≤ g) ∧ KRow wr v (l.take k) ∧ (∀ g, v.ownBlock = some g → w.heap.size ≤ g ∧ ¬ O g) ∧ ∀ x ∈ l.take k, fitI x

theorem L1.next {w wr w1 w2 : World} {b k : Nat} {l : List Itm} {v v' : Value} {x : Itm} {O : Nat → Prop} {c : Int} (h1 : Kept w wr) (h3 : ∀ g, O g → w.heap.size ≤ g) (h4 : KRow wr v (l.take k)) (h5 : ∀ g, v.ownBlock = some g → w.heap.size ≤ g ∧ ¬ O g) (h6 : ∀ x ∈ l.take k, fitI x)
    (hx : l[k]? = some x) (hc : codeI 1048576 (encL (l.take k), 0) x = 0) (hp : WriPost O b 1048576 (encL (l.take k), 0) x wr (.returned (.int .i64 c)) w1)
    (hr : KRow w2 v' (l.take (k + 1))) (hg : (w1.alloc (.cells (cellsI x).toArray 33)).grownBy w2 v.ownBlock) (hl : v'.ownBlock = v.ownBlock ∨ v'.ownBlock = some (w1.alloc (.cells (cellsI x).toArray 33)).heap.size) :
    L1 w b l (k + 1) v' w2 := by
  obtain ⟨_, O', hw, hgr, ho⟩ := hp
  obtain ⟨hf, hpu⟩ := putI_ok hc
  rw [hpu] at hw
  have hvlt : ∀ g, v.ownBlock = some g → g < wr.heap.size := fun g e => (World.ownsRow.lt h4 g e).2
  have hO'lt := hw.lt
  have hno : ∀ g, v.ownBlock = some g → ¬ O' g := fun g e h => by
    rcases hgr g h with h | h
    · exact (h5 g e).2 h
    · have := hvlt g e; omega
  have hO : Only (fun g => v.ownBlock = some g) w1 w2 := (((Only.refl _ w1).alloc _).grown hg fun k e => .inl e)
  have s1 := h1.size
  have s2 := ho.size
  refine ⟨O', (h1.only ho rfl h3).only hO rfl (fun g e => (h5 g e).1), ?_, ?_, hr, ?_, ?_⟩
  · rw [enc_step l hx]
    exact hw.only hO (fun g hg' e => hno g e hg')
  · intro g hg'
    rcases hgr g hg' with h | h
    · exact h3 g h
    · omega
  · intro g e
    rcases hl with h | h
    · rw [h] at e
      exact ⟨(h5 g e).1, hno g e⟩
    · rw [h] at e
      cases e
      refine ⟨by simp; omega, fun h => ?_⟩
      have := hO'lt _ h
      simp at this
      omega
  · intro y hy
    rw [List.take_add_one, hx] at hy
    rcases List.mem_append.1 hy with h | h
    · exact h6 y h
    · simp at h; subst h; exact hf

theorem Has.only {S : Nat → Prop} {w w' : World} {a : Option Addr} {l : List Itm} (h : Has w a l) (k : Only S w w') (hs : ∀ b off, a = some ⟨b, off, none⟩ → ¬ S b) : Has w' a l := fun hl => by
  obtain ⟨b, off, e, hi⟩ := h hl
  refine ⟨b, off, e, fun i x hx => ?_⟩
  obtain ⟨h1, h2, h3, h4⟩ := hi i x hx
  have hb : w'.heap[b]? = w.heap[b]? := k.block b (World.block_lt_of_cell? w ⟨b, _, none⟩ h2) (hs b off e)
  exact ⟨h1, (World.cell?_of_block (w := w) (a := ⟨b, _, none⟩) hb).trans h2, (World.cell?_of_block (w := w) (a := ⟨b, _, none⟩) hb).trans h3, (World.cell?_of_block (w := w) (a := ⟨b, _, none⟩) hb).trans h4⟩
theorem Has.oks {w : World} {a : Option Addr} {l : List Itm} (h : Has w a l) : ∀ x ∈ l, x.ok := fun x hx => by
  obtain ⟨i, hi⟩ := List.mem_iff_getElem?.1 hx
  obtain ⟨b, off, e, hh⟩ := h (by rintro rfl; simp at hx)
  exact (hh i x hi).1

/-- A reader over bytes, the items beside it, and the bytes' own row. -/
def L2 (w : World) (R : Nat) (s : ByteArray) (t : Oct.Rs) (l : List Itm) (A : Option Addr) (vb : Value) (bs : List UInt8) (wr : World) : Prop :=
  Kept w wr ∧ w.heap.size ≤ R ∧ Rd wr R s t ∧ Has wr A l ∧ (∀ b off, A = some ⟨b, off, none⟩ → b ≠ R) ∧ Row wr vb bs ∧ (∀ g, vb.ownBlock = some g → g ≠ R)
theorem L2.kept {w wr w' : World} {R : Nat} {s : ByteArray} {t : Oct.Rs} {l : List Itm} {A : Option Addr} {vb : Value} {bs : List UInt8} (h : L2 w R s t l A vb bs wr) (k : Kept wr w') : L2 w R s t l A vb bs w' := by
  obtain ⟨h1, h2, h3, h4, h5, h6, h7⟩ := h
  exact ⟨h1.trans k, h2, h3.kept k, h4.kept k, h5, h6.only (S := fun _ => False) (Only.of_kept k) (fun _ _ h => h), h7⟩
theorem L2.step {w wr w' : World} {R : Nat} {s : ByteArray} {t t' : Oct.Rs} {l : List Itm} {A : Option Addr} {vb : Value} {bs : List UInt8} (h : L2 w R s t l A vb bs wr) (ho : Only (· = R) wr w') (hr : Rd w' R s t') : L2 w R s t' l A vb bs w' := by
  obtain ⟨h1, h2, h3, h4, h5, h6, h7⟩ := h
  exact ⟨h1.only (n₀ := w.heap.size) ho rfl (fun k e => by rw [e]; exact h2), h2, hr, h4.only ho h5, h5, h6.only ho h7, h7⟩
theorem Row.cut {w : World} {A : Option Addr} {n c : Nat} {bs : List UInt8} (h : Row w (.slice A n c) bs) {m : Nat} (hm : m ≤ bs.length) (h0 : bs ≠ []) : Str w (.slice A m c) (bs.take m) := by
  intro w' k
  have h' := h.only (S := fun _ => False) (Only.of_kept k) (fun _ _ h => h)
  rcases id h'.2 with ⟨_, e⟩ | ⟨g, cap, cur, e, _⟩
  · exact absurd (List.eq_nil_of_length_eq_zero e) h0
  · cases e
    have hl : (bs.take m).length = m := by rw [List.length_take]; omega
    have := run_convert_bytes_back (P := Try.prog) w' 36 9 5 ⟨g, 0, none⟩ c (bs.take m) Try.underlying36 (by kernel_rfl) Try.underlying9 (fun j hj => by
      refine World.ownsRow.cells h' (g := g) rfl j _ ?_
      rw [List.getElem?_map]
      have hj' : j < bs.length := by omega
      rw [List.getElem?_eq_getElem hj']
      simp)
    rw [hl] at this
    exact this

theorem code_put {most : Int} {st : Oct.Ws} {x : Itm} (h : codeI most st x ≠ 0) : (putI most st x).2 = codeI most st x := by
  unfold codeI at *
  split
  · rfl
  · rw [if_neg ‹_›] at h; exact absurd rfl h

set_option maxRecDepth 100000 in
set_option maxHeartbeats 3200000 in
theorem back_c (a : Option Addr) (cap : Nat) (l : List Itm) (w : World) (hA : Has w a l) (hl : l.length ≤ cap) (hcm : cap ≤ maxLen) (hlong : longB l = false) :
    Calls Try.prog 6 #[.slice a l.length cap] w fun e w' => e = .returned (.bool true) ∧ Kept w w' := by
  obtain ⟨h40, h100⟩ := not_long hlong
  have HA := Lib.hid hA
  have HLG := Lib.hid (fun w' (k : Kept w w') => long_c a l cap w' hl hcm (hA.kept k))
  rw [hlong] at HLG
  have h40I : (l.length : Int) ≤ 40 := by omega
  have HXS := Lib.hid (fun (k : Nat) (x : Itm) (hx : l[k]? = some x) => show x.txt.size ≤ 1099511627776 from by have := h100 x (List.mem_of_getElem? hx); omega)
  unfold maxLen at hcm
  obtain ⟨i0, hi, hz0, hz1, hz2⟩ := info_parts info_item
  clear hA hlong h100
  go_enter Try.func6, Try.ntmps6
  go_wp2_with fail
  refine (known_c _).mono ?_
  rintro e wk ⟨rfl, kk⟩
  have HK := Lib.hid kk
  clear kk
  go_wp2_with fail
  refine (newW_c 1048576 _ (by decide) (by decide)).mono ?_
  rintro e w1 ⟨rfl, k1, hw1⟩
  have HK1 := Lib.hid (HK.out.trans k1)
  have HW := Lib.hid hw1
  clear k1 hw1
  go_wp2_with fail
  refine (HLG.out _ HK1.out).mono ?_
  rintro e w2 ⟨rfl, rfl⟩
  have HL1 := Lib.hid (show L1 w wk.heap.size l 0 (.slice none 0 0) w1 from
    ⟨(· = wk.heap.size), HK1.out, by rw [List.take_zero]; exact HW.out, fun g e => by rw [e]; exact HK.out.size, World.ownsRow_nil _ _ _ _, (fun g e => by cases e), (fun x hx => by simp at hx)⟩)
  clear HW
  generalize wk.heap.size = b at *
  go_wp2_with fail
  go_loopw [6, 7] (fun s6 s7 wr => ∃ (k : Nat) (v : Value), s7 = .int .i64 k ∧ v = s6 ∧ k ≤ l.length ∧ L1 w b l k v wr) (fun _ s7 _ => l.length - (intOf s7).toNat)
  case atStart => exact ⟨0, _, rfl, rfl, by omega, HL1.out⟩
  case round =>
    obtain ⟨k, v, rfl, rfl, hk, hL⟩ := hrel
    by_cases hkl : k < l.length
    · obtain ⟨O, q1, q2, q3, q4, q5, q6⟩ := hL
      obtain ⟨ab, off, x, rfl, hx, hok, c0, c1, c2⟩ := (HA.out.kept q1).at hkl
      have hkI : (k : Int) < (l.length : Int) := by omega
      have HWC := Lib.hid (writes_c O b 1048576 (encL (l.take k), 0) x wr hok (HXS.out k x hx) q2)
      have HOK := Lib.hid hok
      have HX := Lib.hid hx
      have Q1 := Lib.hid q1
      have Q3 := Lib.hid q3
      have Q4 := Lib.hid q4
      have Q5 := Lib.hid q5
      have Q6 := Lib.hid q6
      clear hok hx q1 q2 q3 q4 q5 q6
      by_cases hcode : codeI 1048576 (encL (l.take k), 0) x = 0
      · have HC := Lib.hid hcode
        go_wp2_with fail
        refine HWC.out.mono ?_
        intro e w3 hp
        obtain rfl : e = .returned (.int .i64 0) := by rw [hp.1, hcode]
        have HP := Lib.hid hp
        have hkw : Kept w w3 := by
          obtain ⟨_, O', _, _, ho⟩ := hp
          exact Q1.out.only ho rfl Q3.out
        have hrow : KRow w3 v (l.take k) := by
          obtain ⟨_, O', _, _, ho⟩ := hp
          exact Q4.out.only ho fun g e => (Q5.out g e).2
        obtain ⟨ab', off', x', e1, e2, _, d0, d1, d2⟩ := (HA.out.kept hkw).at hkl
        cases e1
        obtain rfl : x' = x := Option.some.inj (e2.symm.trans HX.out)
        have HROW := Lib.hid (show (w3.alloc (.cells (cellsI x').toArray 33)).ownsRow 0 33 3 v (l.take k).length (cellsL (l.take k)) from World.ownsRow.alloc hrow _)
        have HNEWS := Lib.hid (World.news_of_block (w := w3.alloc (.cells (cellsI x').toArray 33)) (B := w3.heap.size) (cs := (cellsI x').toArray) (t := 33) (fr := (0, 0)) (heap_alloc_new w3 _))
        have HTK := Lib.hid (show (l.take k).length = k by rw [List.length_take]; omega)
        have HNX := Lib.hid (fun (g c : Nat) (w4 : World) (r1 : w4.ownsRow 0 33 3 (.slice (some ⟨g, 0, none⟩) ((l.take k).length + 1) c) ((l.take k).length + 1) (cellsL (l.take k) ++ cellsI x')) (r2 : (w3.alloc (.cells (cellsI x').toArray 33)).grownBy w4 v.ownBlock) (r3 : v.ownBlock = some g ∨ g = (w3.alloc (.cells (cellsI x').toArray 33)).heap.size) =>
          show L1 w b l (k + 1) (.slice (some ⟨g, 0, none⟩) ((l.take k).length + 1) c) w4 from by
            refine L1.next Q1.out Q3.out Q4.out Q5.out Q6.out HX.out hcode HP.out ?_ r2 ?_
            · unfold KRow
              have e1 : (l.take (k + 1)).length = (l.take k).length + 1 := by rw [List.length_take, List.length_take]; omega
              have e2 : cellsL (l.take (k + 1)) = cellsL (l.take k) ++ cellsI x' := by rw [List.take_add_one, HX.out]; unfold cellsL; simp
              rw [e1, e2]
              exact r1
            · rcases r3 with h | h
              · exact .inl h.symm
              · exact .inr (by rw [h]; rfl))
        clear hp hcode hkw hrow e2
        go_wp2_with (at_builtin; refine wpList_append_lies _ rfl (.tmp 56) (.tmp 61) 22 rfl 0 33 i0 _ 3 32 Try.underlying22 hi hz0 hz1 hz2 rfl (by decide) v (l.take k).length (cellsL (l.take k)) rfl HROW.out ⟨w3.heap.size, 0, none⟩ 1 1 (cellsI x') rfl rfl HNEWS.out (by simp [cellsI, Value.oneCell']) (by decide) (by rw [HTK.out]; unfold maxLen; omega) (by rw [HTK.out]; omega) (Nat.zero_le _) _ rfl ?_; intro g c w4 r1 r2 r3 r4; have hn := HNX.out g c w4 r1 r2 r3; rw [HTK.out] at hn; have HN := Lib.hid hn; clear hn r1 r2 r3 r4)
        go_roundw
        case rel => exact ⟨k + 1, _, by go_num, rfl, by omega, HN.out⟩
        case measure => simp [intOf]; omega
      · have HCP := Lib.hid (code_put hcode)
        have hc' : (codeI 1048576 (encL (l.take k), 0) x != 0) = true := by simpa using hcode
        have HC := Lib.hid hcode
        clear hcode
        generalize hcg : codeI 1048576 (encL (l.take k), 0) x = c at hc'
        go_wp2_with fail
        refine HWC.out.mono ?_
        intro e w3 hp
        obtain rfl : e = .returned (.int .i64 c) := by rw [hp.1, hcg]
        obtain ⟨_, O', hw', hg', ho'⟩ := hp
        have HKW := Lib.hid (Q1.out.only ho' rfl Q3.out)
        have HB := bytesW_c _ _ _ _ _ hw'
        unfold BytesPost at HB
        rw [HCP.out, hcg] at HB
        have HB := Lib.hid HB
        have HC0 := Lib.hid (show c ≠ 0 by rw [← hcg]; exact HC.out)
        clear hw' hg' ho' hcg
        go_wp2_with fail
        refine HB.out.mono ?_
        rintro e w4 (⟨h, _⟩ | ⟨_, rfl, k4⟩)
        · exact absurd h HC0.out
        have HK4 := Lib.hid (HKW.out.trans k4)
        clear k4
        go_wp2_with fail
        go_ret
        exact ⟨rfl, HK4.out⟩
    · have hkI : ¬ (k : Int) < (l.length : Int) := by omega
      obtain rfl : k = l.length := by omega
      obtain ⟨O, q1, q2, q3, q4, q5, q6⟩ := hL
      rw [List.take_length] at q2 q4 q6
      have hlenE : (encL l).length ≤ 1048576 := by
        obtain ⟨_, bs, _, _, hh, _⟩ := q2
        obtain ⟨e1, e2⟩ := hh rfl
        rw [e1] at e2
        dsimp only at e2
        omega
      obtain ⟨A, c, rfl, hc1, hc2, hHas, hblk⟩ := KRow.has q4 HA.out.oks
      unfold maxLen at hc2
      have Q1 := Lib.hid q1
      have Q2 := Lib.hid q2
      have Q5 := Lib.hid q5
      have Q6 := Lib.hid q6
      have QH := Lib.hid hHas
      have QB := Lib.hid hblk
      have QV := Lib.hid (fun g (e : (Value.slice A l.length c).ownBlock = some g) => (World.ownsRow.lt q4 g e).2)
      clear q1 q2 q3 q4 q5 q6 hHas hblk hk
      obtain ⟨s0, hs0⟩ : ∃ s0 : ByteArray, s0.data.toList = encL l := ⟨⟨(encL l).toArray⟩, rfl⟩
      have hz0' : s0.size = (encL l).length := by rw [← hs0, len_data]
      go_wp2_with fail
      refine (bytesW_c _ _ _ _ _ Q2.out).mono ?_
      intro e w3 hB
      obtain ⟨vb, rfl, hr, kb, hown⟩ : ∃ v, e = .returned (.tuple #[v, .int .i64 0]) ∧ NewRow (encL l) wr v w3 := by
        rcases hB with ⟨_, h⟩ | ⟨h, _⟩
        · exact h
        · exact absurd rfl h
      clear hB
      have HSTR := hr.str w3 (Kept.refl _)
      rw [← hs0, back] at HSTR
      have HSTR := Lib.hid HSTR
      have HR := Lib.hid hr
      have KB := Lib.hid kb
      have HOWN := Lib.hid hown
      have HS0 := Lib.hid hs0
      have HZ0 := Lib.hid hz0'
      clear hr kb hown hs0 hz0'
      go_wp2_with fail
      refine (newR_c _ s0 _ HSTR.out).mono ?_
      rintro e w4 ⟨rfl, k4, hb4⟩
      have HL2 := Lib.hid (show L2 w w3.heap.size s0 ((encL (l.take 0)).length, 0, 0) l A vb (encL l) w4 from by
        have s1 := Q1.out.size
        have s2 := KB.out.size
        refine ⟨(Q1.out.trans KB.out).trans k4, by omega, rd_new (by unfold maxLen; rw [HZ0.out]; omega) hb4, (QH.out.kept KB.out).kept k4, ?_, HR.out.only (S := fun _ => False) (Only.of_kept k4) (fun _ _ h => h), ?_⟩
        · intro b' off e
          have := QV.out b' (QB.out b' off e)
          omega
        · intro g e
          have := HR.out.lt g e
          omega)
      have QA := Lib.hid (fun (b' off : Nat) (e : A = some ⟨b', off, none⟩) => show b' < w3.heap.size from Nat.lt_of_lt_of_le (QV.out b' (QB.out b' off e)) KB.out.size)
      clear k4 hb4 HSTR
      generalize w3.heap.size = R at *
      clear HR KB HOWN QV QB QH Q1 Q2 Q5
      go_wp2_with fail
      go_loopw [14] (fun s14 wr => ∃ k : Nat, s14 = .int .i64 k ∧ k ≤ l.length ∧ L2 w R s0 ((encL (l.take k)).length, 0, 0) l A vb (encL l) wr) (fun s14 _ => l.length - (intOf s14).toNat)
      case atStart => exact ⟨0, rfl, by omega, HL2.out⟩
      case round =>
        clear HL2
        obtain ⟨k, rfl, hk, hL⟩ := hrel
        by_cases hkl : k < l.length
        · have hL' := hL
          obtain ⟨p1, p2, p3, p4, p5, p6, p7⟩ := hL'
          obtain ⟨ab', off', x, rfl, hx, hok, c0, c1, c2⟩ := p4.at hkl
          have hkI : (k : Int) < (l.length : Int) := by omega
          have hfx : fitI x := Q6.out x (List.mem_of_getElem? hx)
          have hread := read_at (pre := encL (l.take k)) (r := encL (l.drop (k + 1))) hok hfx (HXS.out k x hx)
          rw [← enc_split l hx] at hread
          have HRC := reads_c R s0 _ x _ hok p3
          rw [HS0.out, hread.1, hread.2] at HRC
          have HRC := Lib.hid HRC
          have HEN := Lib.hid (show (encL (l.take (k + 1))).length = (encL (l.take k)).length + (encI x).length by rw [enc_step l hx, List.length_append])
          have HL := Lib.hid hL
          clear hL p1 p2 p3 p4 p5 p6 p7 hx hok hfx hread
          go_wp2_with fail
          refine HRC.out.mono ?_
          rintro e w5 ⟨rfl, ho, hr⟩
          have HN := Lib.hid (HL.out.step ho hr)
          clear ho hr
          go_wp2_with fail
          go_roundw
          case rel => exact ⟨k + 1, by go_num, by omega, by rw [HEN.out]; exact HN.out⟩
          case measure => simp [intOf]; omega
        · have hkI : ¬ (k : Int) < (l.length : Int) := by omega
          obtain rfl : k = l.length := by omega
          rw [List.take_length] at hL
          have HL := Lib.hid hL
          clear hL hk
          have hnl : ¬ (encL l).length < s0.data.toList.length := by rw [HS0.out]; omega
          have he := ende_eq hnl
          have HE := Lib.hid (ends_t R s0 _ 0 0 _ HL.out.2.2.1 he.1 (by rw [he.2]; rfl))
          clear he hnl
          go_wp2_with fail
          refine HE.out.mono ?_
          rintro e w5 ⟨rfl, k5⟩
          have HL := Lib.hid (HL.out.kept k5)
          clear k5
          have HRT := restR_c _ _ _ _ HL.out.2.2.1
          rw [rest_at, HS0.out, Nat.sub_self] at HRT
          have HRT := Lib.hid HRT
          go_wp2_with fail
          refine HRT.out.mono ?_
          rintro e w6 ⟨rfl, k6⟩
          have HL := Lib.hid (HL.out.kept k6)
          clear k6
          obtain ⟨⟨Ab, cb, rfl⟩, _⟩ := HL.out.2.2.2.2.2.1.len
          by_cases hE0 : encL l = []
          · have hz : (((encL l).length : Int) == 0) = true := by rw [hE0]; rfl
            have HKF := Lib.hid HL.out.1
            clear hE0
            go_wp2_with fail
            go_ret
            exact ⟨rfl, HKF.out⟩
          · have hp : 1 ≤ ((encL l).length : Int) := by have := List.length_pos_iff.2 hE0; omega
            have hz : (((encL l).length : Int) == 0) = false := by simp; exact hE0
            have hlI : ((encL l).length : Int) ≤ 1048576 := by omega
            have hcbI : ((encL l).length : Int) ≤ (cb : Int) := by
              rcases HL.out.2.2.2.2.2.1.2 with ⟨_, e⟩ | ⟨g, cap', cur, e, _, _, h, _⟩
              · omega
              · cases e; omega
            have HE0 := Lib.hid hE0
            obtain ⟨s1, hs1⟩ : ∃ s1 : ByteArray, s1.data.toList = (encL l).take ((encL l).length - 1) := ⟨⟨((encL l).take ((encL l).length - 1)).toArray⟩, rfl⟩
            have HST1 := HL.out.2.2.2.2.2.1.cut (m := (encL l).length - 1) (by omega) hE0 _ (Kept.refl _)
            rw [← hs1, back] at HST1
            have HST1 := Lib.hid HST1
            have HS1 := Lib.hid hs1
            have HZ1 := Lib.hid (show s1.size ≤ maxLen by rw [← len_data, hs1, List.length_take]; unfold maxLen; omega)
            clear hE0 hs1
            go_wp2_with fail
            refine (newR_c _ s1 _ HST1.out).mono ?_
            rintro e w7 ⟨rfl, k7, hb7⟩
            have HL3 := Lib.hid (show L2 w w6.heap.size s1 (runL s1.data.toList (0, 0, 0) (l.take 0)) l A (.slice none 0 0) [] w7 from by
              have r1 := HL.out.1.size
              have r2 := HL.out.2.2.1.lt
              exact ⟨HL.out.1.trans k7, r1, rd_new HZ1.out hb7, HL.out.2.2.2.1.kept k7, (fun b' off e => by have := QA.out b' off e; omega), Row.nil _, (fun g e => by cases e)⟩)
            clear k7 hb7 HST1 HL HRT HE QA
            generalize w6.heap.size = S at *
            go_wp2_with fail
            go_loopw [16] (fun s16 wr => ∃ k : Nat, s16 = .int .i64 k ∧ k ≤ l.length ∧ L2 w S s1 (runL s1.data.toList (0, 0, 0) (l.take k)) l A (.slice none 0 0) [] wr) (fun s16 _ => l.length - (intOf s16).toNat)
            case atStart => exact ⟨0, rfl, by omega, HL3.out⟩
            case round =>
              clear HL3
              obtain ⟨k, rfl, hk, hL⟩ := hrel
              by_cases hkl : k < l.length
              · have hL' := hL
                obtain ⟨p1, p2, p3, p4, p5, p6, p7⟩ := hL'
                obtain ⟨ab', off', x, rfl, hx, hok, c0, c1, c2⟩ := p4.at hkl
                have hkI : (k : Int) < (l.length : Int) := by omega
                have HRC := Lib.hid (reads_c S s1 _ x _ hok p3)
                have HST := Lib.hid (run_step s1.data.toList (0, 0, 0) l hx)
                have HL := Lib.hid hL
                clear hL p1 p2 p3 p4 p5 p6 p7 hx hok
                go_wp2_with fail
                refine HRC.out.mono ?_
                rintro e w8 ⟨rfl, ho, hr⟩
                have HN := Lib.hid (HL.out.step ho hr)
                clear ho hr
                go_wp2_with fail
                go_roundw
                case rel => exact ⟨k + 1, by go_num, by omega, by rw [HST.out]; exact HN.out⟩
                case measure => simp [intOf]; omega
              · have hkI : ¬ (k : Int) < (l.length : Int) := by omega
                obtain rfl : k = l.length := by omega
                rw [List.take_length] at hL
                obtain ⟨p, q, hrun⟩ := run_cut l [] (fun x hx => ⟨HA.out.oks x hx, Q6.out x hx, by obtain ⟨i, hi⟩ := List.mem_iff_getElem?.1 hx; exact HXS.out i x hi⟩) HE0.out
                rw [List.nil_append, List.length_nil, ← HS1.out] at hrun
                rw [hrun] at hL
                have HEN := endR_c _ _ _ _ hL.2.2.1
                obtain ⟨e1, e2⟩ := ende_e s1.data.toList p q (show (13 : Int) ≠ 0 by decide)
                rw [e1, e2] at HEN
                have HEN := Lib.hid HEN
                have HL := Lib.hid hL
                clear hL hk hrun e1 e2
                go_wp2_with fail
                refine HEN.out.mono ?_
                rintro e w8 ⟨rfl, k8⟩
                have HKF := Lib.hid (HL.out.1.trans k8)
                clear k8
                have hfld : ∀ w, (Instr.field 47 (.agg #[.int .i64 13, .int .i64 (q : Int)]) 0).run Try.prog w = .ok (.int .i64 13) w := fun _ => by kernel_rfl
                go_wp2_with fail
                go_ret
                exact ⟨rfl, HKF.out⟩
end Go.Proofs.Ytfbbhkhingfdeaa
