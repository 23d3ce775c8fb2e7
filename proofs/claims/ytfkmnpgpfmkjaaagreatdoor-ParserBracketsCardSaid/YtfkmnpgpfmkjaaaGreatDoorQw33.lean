/- From what a row lists to what the parser's walks ask: the words' and the lexer's tables, which bytes are blanks, the library's error, the parser's names of tokens. -/
import Derived.Test.YtfkmnpgpfmkjaaaGreatDoorQw32
import Derived.Lib.LaidTab
import Derived.Lib.LaidU8
import Derived.ChangeSame
import Derived.Deep.Slices
import Derived.Deep.Fields
import Derived.ProofKit
import Derived.OpenShut
import Derived.ShutString
import Derived.Carry
import Derived.Test.YtfkmnpgpfmkjaaaGreatDoorQy30
set_option linter.unusedSimpArgs false
set_option linter.unusedVariables false
set_option maxRecDepth 100000
namespace Go.Proofs.YtfkmnpgpfmkjaaaGreatDoor
open Go.ChangeShapes Go.WideShapes Go.ChangeAt Go.RowKit Go.Lib
theorem cell_two {x : List Value} {w : World} {fuel : Nat} {b : List UInt8} {n : Int} {q : List MemPlace}
  (h : DataW.trod (fun _ => ()) Tryz.prog w 0 (fun _ => true) false fuel 174 x = some (.agg [.lit (.string b), .lit (.int .i64 n)], q)) : x = [.string ⟨b.toArray⟩, .int .i64 n] := by
 obtain ⟨y0, y1, m, he, hl, h0, h1⟩ := trod_struct2 Tryz.underlying174 h
 rw [show Tryz.prog.cellsOf 174 = 2 by kernel_rfl] at hl
 obtain ⟨s, c0, rfl, _⟩ := DataW.trod_string Tryz.underlying9 h0
 obtain ⟨z, c1, rfl, _⟩ := DataW.trod_int Tryz.underlying3 h1
 have e1 : s.data.toList = b ∧ z = n := by
  have := congrArg Prod.fst he
  simp at this
  exact ⟨this.1.symm, this.2.symm⟩
 obtain ⟨rfl, rfl⟩ := e1
 match x, hl with
 | [a0, a1], _ =>
  have k1 : Tryz.prog.cellsOf 9 = 1 := by kernel_rfl
  have k2 : Tryz.prog.cellsOf 3 = 1 := by kernel_rfl
  rw [k1] at c0
  rw [k2] at c1
  simp at c0 c1
  rw [c0, c1]
def basesD : DataW Unit := .agg (Wrd.bs.zipIdx.map fun x => .agg [.lit (.string x.1.data.toList), .lit (.int .i64 (x.2 + 1))])
theorem bases_cells {cs : List Value} {w : World} {fuel : Nat} {q : List MemPlace}
  (h : DataW.trod (fun _ => ()) Tryz.prog w 0 (fun _ => true) false fuel 175 cs = some (basesD, q)) : cs = bcs.toList := by
 have hlen : cs.length = 10 := by
  cases fuel with
  | zero => simp [DataW.trod] at h
  | succ n =>
   unfold DataW.trod at h
   rw [Tryz.underlying175] at h
   simp only at h
   split at h
   ·rename_i hl
    rw [hl]
    kernel_rfl
   ·cases h
 have kc : Tryz.prog.cellsOf 174 = 2 := by kernel_rfl
 have E : ∀ (i : Nat) (b : List UInt8) (n : Int), i < 5 → (Wrd.bs.zipIdx.map fun x => (DataW.agg [.lit (.string x.1.data.toList), .lit (.int .i64 (x.2 + 1))] : DataW Unit))[i]? = some (.agg [.lit (.string b), .lit (.int .i64 n)]) → (cs.drop (i * 2)).take 2 = [.string ⟨b.toArray⟩, .int .i64 n] := by
  intro i b n hi hd
  obtain ⟨f', d, q', h1, h2⟩ := array_elem Tryz.underlying175 h i hi
  rw [hd] at h1
  obtain rfl := Option.some.inj h1
  rw [kc] at h2
  exact cell_two h2
 have e0 := E 0 _ _ (by omega) rfl
 have e1 := E 1 _ _ (by omega) rfl
 have e2 := E 2 _ _ (by omega) rfl
 have e3 := E 3 _ _ (by omega) rfl
 have e4 := E 4 _ _ (by omega) rfl
 clear E h
 match cs, hlen with
 | [a0, a1, a2, a3, a4, a5, a6, a7, a8, a9], _ =>
  simp at e0 e1 e2 e3 e4
  rw [e0.1, e0.2, e1.1, e1.2, e2.1, e2.2, e3.1, e3.2, e4.1, e4.2]
  rfl
theorem cell_esc {x : List Value} {w : World} {fuel : Nat} {a b : Int} {q : List MemPlace}
  (h : DataW.trod (fun _ => ()) Tryz.prog w 0 (fun _ => true) false fuel 148 x = some (.agg [.lit (.int .u8 a), .lit (.int .u8 b)], q)) : x = [.int .u8 a, .int .u8 b] := by
 obtain ⟨y0, y1, m, he, hl, h0, h1⟩ := trod_struct2 Tryz.underlying148 h
 rw [show Tryz.prog.cellsOf 148 = 2 by kernel_rfl] at hl
 obtain ⟨s, c0, rfl, _⟩ := DataW.trod_int Tryz.underlying120 h0
 obtain ⟨z, c1, rfl, _⟩ := DataW.trod_int Tryz.underlying120 h1
 have e1 : s = a ∧ z = b := by
  have := congrArg Prod.fst he
  simp at this
  exact ⟨this.1.symm, this.2.symm⟩
 obtain ⟨rfl, rfl⟩ := e1
 match x, hl with
 | [a0, a1], _ =>
  have k1 : Tryz.prog.cellsOf 120 = 1 := by kernel_rfl
  rw [k1] at c0 c1
  simp at c0 c1
  rw [c0, c1]
def escD : DataW Unit := .agg [.agg [.lit (.int .u8 34), .lit (.int .u8 34)], .agg [.lit (.int .u8 92), .lit (.int .u8 92)], .agg [.lit (.int .u8 110), .lit (.int .u8 10)]]
theorem esc_cells {cs : List Value} {w : World} {fuel : Nat} {q : List MemPlace}
  (h : DataW.trod (fun _ => ()) Tryz.prog w 0 (fun _ => true) false fuel 149 cs = some (escD, q)) : cs = ecs.toList := by
 have hlen : cs.length = 6 := by
  cases fuel with
  | zero => simp [DataW.trod] at h
  | succ n =>
   unfold DataW.trod at h
   rw [Tryz.underlying149] at h
   simp only at h
   split at h
   ·rename_i hl
    rw [hl]
    kernel_rfl
   ·cases h
 have kc : Tryz.prog.cellsOf 148 = 2 := by kernel_rfl
 have E : ∀ (i : Nat) (a b : Int), i < 3 → ([.agg [.lit (.int .u8 34), .lit (.int .u8 34)], .agg [.lit (.int .u8 92), .lit (.int .u8 92)], .agg [.lit (.int .u8 110), .lit (.int .u8 10)]] : List (DataW Unit))[i]? = some (.agg [.lit (.int .u8 a), .lit (.int .u8 b)]) → (cs.drop (i * 2)).take 2 = [.int .u8 a, .int .u8 b] := by
  intro i a b hi hd
  obtain ⟨f', d, q', h1, h2⟩ := array_elem Tryz.underlying149 h i hi
  rw [hd] at h1
  obtain rfl := Option.some.inj h1
  rw [kc] at h2
  exact cell_esc h2
 have e0 := E 0 _ _ (by omega) rfl
 have e1 := E 1 _ _ (by omega) rfl
 have e2 := E 2 _ _ (by omega) rfl
 clear E h
 match cs, hlen with
 | [a0, a1, a2, a3, a4, a5], _ =>
  simp at e0 e1 e2
  rw [e0.1, e0.2, e1.1, e1.2, e2.1, e2.2]
  rfl
theorem heap_of_varL {w : World} {name : String} {g : Nat} {cs : Array Value} (hg : Tryz.prog.globalNamed name = some g) (h : w.var? Tryz.prog name = some cs) : ∃ t fr, w.heap[g]? = some (.cells cs t fr) := by
 unfold World.var? at h
 rw [hg] at h
 simp only [Option.bind_some] at h
 split at h
 ·rename_i c t fr e
  cases h
  exact ⟨t, fr, e⟩
 ·cases h
def errD : DataW Unit := .iface "*errors.errorString" (.ptr (.agg [.lit (.string [118, 97, 108, 117, 101, 32, 111, 117, 116, 32, 111, 102, 32, 114, 97, 110, 103, 101])]))
theorem err_cells {cs : List Value} {w : World} {fuel : Nat} {q : List MemPlace} {d : DataW Unit} {nm : String}
  (h : DataW.trod (fun _ => ()) Tryz.prog w 0 (fun _ => true) false fuel 68 cs = some (.iface nm d, q)) : ∃ te pe, cs = [.iface te pe] := by
 cases fuel with
 | zero => simp [DataW.trod] at h
 | succ n =>
  unfold DataW.trod at h
  rw [Tryz.underlying68] at h
  simp only at h
  split at h
  all_goals first | (exact ⟨_, _, rfl⟩) | (rename_i e1; cases e1; done) | (rename_i e1 e2; cases e1; done) | (cases h; done) | (simp at h; done)
theorem er_of_reads {w : World} (h1 : VarReads Tryz.prog w "strconv.ErrRange" errD) : Er w := by
 obtain ⟨g, t, cs, fuel, p, hg, hty, hvar, hd⟩ := h1
 obtain rfl := Option.some.inj ((show Tryz.prog.globalNamed "strconv.ErrRange" = some 6 by kernel_rfl).symm.trans hg)
 obtain rfl := Option.some.inj ((show (Tryz.prog.globals[6]?).map (·.type) = some 68 by kernel_rfl).symm.trans hty)
 obtain ⟨te, pe, e⟩ := err_cells hd
 obtain ⟨ty, fr, hh⟩ := heap_of_varL hg hvar
 have hc : cs = #[.iface te pe] := Array.toList_inj.1 e
 subst hc
 exact ⟨.iface te pe, (cell_of_row w _ 0 _ ty fr hh).trans rfl, .inr ⟨te, pe, rfl⟩⟩
def sortsL : List ByteArray := [Ps.theEnd, Ps.aName, Ps.aClass, ⟨#[]⟩, Ps.anInt, Ps.aReal, Ps.aStr]
def sortsD : DataW Unit := .agg (sortsL.map fun s => .lit (.string s.data.toList))
theorem cell_str {x : List Value} {w : World} {fuel : Nat} {b : List UInt8} {q : List MemPlace} (h : DataW.trod (fun _ => ()) Tryz.prog w 0 (fun _ => true) false fuel 9 x = some (.lit (.string b), q)) : x = [.string ⟨b.toArray⟩] := by
 obtain ⟨s, c0, he, _⟩ := DataW.trod_string Tryz.underlying9 h
 have e : s.data.toList = b := by
  have := congrArg id he
  simp at this
  exact this.1.symm
 subst e
 exact c0
theorem sorts_cells {cs : List Value} {w : World} {fuel : Nat} {q : List MemPlace}
  (h : DataW.trod (fun _ => ()) Tryz.prog w 0 (fun _ => true) false fuel 136 cs = some (sortsD, q)) : cs = sortsL.map Value.string := by
 have hlen : cs.length = 7 := by
  cases fuel with
  | zero => simp [DataW.trod] at h
  | succ n =>
   unfold DataW.trod at h
   rw [Tryz.underlying136] at h
   simp only at h
   split at h
   ·rename_i hl
    rw [hl]
    kernel_rfl
   ·cases h
 have kc : Tryz.prog.cellsOf 9 = 1 := by kernel_rfl
 have E : ∀ (i : Nat) (b : List UInt8), i < 7 → (sortsL.map fun s => (DataW.lit (.string s.data.toList) : DataW Unit))[i]? = some (.lit (.string b)) → (cs.drop (i * 1)).take 1 = [.string ⟨b.toArray⟩] := by
  intro i b hi hd
  obtain ⟨f', d, q', h1, h2⟩ := array_elem Tryz.underlying136 h i hi
  rw [hd] at h1
  obtain rfl := Option.some.inj h1
  rw [kc] at h2
  exact cell_str h2
 have e0 := E 0 _ (by omega) rfl
 have e1 := E 1 _ (by omega) rfl
 have e2 := E 2 _ (by omega) rfl
 have e3 := E 3 _ (by omega) rfl
 have e4 := E 4 _ (by omega) rfl
 have e5 := E 5 _ (by omega) rfl
 have e6 := E 6 _ (by omega) rfl
 clear E h
 match cs, hlen with
 | [a0, a1, a2, a3, a4, a5, a6], _ =>
  simp at e0 e1 e2 e3 e4 e5 e6
  rw [e0, e1, e2, e3, e4, e5, e6]
  rfl
theorem ptab_of_reads {w : World} (h1 : VarReads Tryz.prog w "strings.asciiSpace" (tabData .u8 spl)) (h0 : VarReads Tryz.prog w "chaperon/words.bases" basesD) (h2 : VarReads Tryz.prog w "chaperon/lexer.escapes" escD)
  (h3 : VarReads Tryz.prog w "strconv.ErrRange" errD) (h4 : VarReads Tryz.prog w "chaperon/parser.sorts" sortsD) : PTab w := by
 refine ⟨⟨?_, ?_, ?_⟩, er_of_reads h3, ?_⟩
 ·obtain ⟨g, t, cs, fuel, p, hg, hty, hvar, hd⟩ := h0
  obtain rfl := Option.some.inj ((show Tryz.prog.globalNamed "chaperon/words.bases" = some 4 by kernel_rfl).symm.trans hg)
  obtain rfl := Option.some.inj ((show (Tryz.prog.globals[4]?).map (·.type) = some 175 by kernel_rfl).symm.trans hty)
  have e := bases_cells hd
  obtain rfl : cs = bcs := Array.toList_inj.1 e
  exact heap_of_varL hg hvar
 ·obtain ⟨g, t, cs, fuel, p, hg, hty, hvar, hd⟩ := h1
  obtain rfl := Option.some.inj ((show Tryz.prog.globalNamed "strings.asciiSpace" = some 2 by kernel_rfl).symm.trans hg)
  obtain rfl := Option.some.inj ((show (Tryz.prog.globals[2]?).map (·.type) = some 150 by kernel_rfl).symm.trans hty)
  have e := cells_of_tab Tryz.underlying150 Tryz.underlying5 (by kernel_rfl) (by kernel_rfl) hd
  obtain rfl : cs = spcs := Array.toList_inj.1 (e.trans (by unfold spcs; simp))
  exact heap_of_varL hg hvar
 ·obtain ⟨g, t, cs, fuel, p, hg, hty, hvar, hd⟩ := h2
  obtain rfl := Option.some.inj ((show Tryz.prog.globalNamed "chaperon/lexer.escapes" = some 1 by kernel_rfl).symm.trans hg)
  obtain rfl := Option.some.inj ((show (Tryz.prog.globals[1]?).map (·.type) = some 149 by kernel_rfl).symm.trans hty)
  have e := esc_cells hd
  obtain rfl : cs = ecs := Array.toList_inj.1 e
  exact heap_of_varL hg hvar
 ·obtain ⟨g, t, cs, fuel, p, hg, hty, hvar, hd⟩ := h4
  obtain rfl := Option.some.inj ((show Tryz.prog.globalNamed "chaperon/parser.sorts" = some 0 by kernel_rfl).symm.trans hg)
  obtain rfl := Option.some.inj ((show (Tryz.prog.globals[0]?).map (·.type) = some 136 by kernel_rfl).symm.trans hty)
  have e := sorts_cells hd
  obtain rfl : cs = (sortsL.map Value.string).toArray := Array.toList_inj.1 e
  exact heap_of_varL hg hvar
end Go.Proofs.YtfkmnpgpfmkjaaaGreatDoor
namespace Go.Proofs.YtfkmnpgpfmkjaaaGreatDoor
open Go.ChangeShapes Go.WideShapes Go.ChangeAt Go.RowKit Go.Shelf
attribute [local go_sem] Oper.semAt_some
theorem ppick_c (p n : Int) (w : World) (hn : 0 < n) (hm : n ≤ 1000000000) (hp : -9223372036854775808 ≤ p ∧ p ≤ 9223372036854775807) :
  Calls Tryz.prog 21 #[.int .i64 p, .int .i64 n] w fun e w' => e = .returned (.int .i64 (p % n)) ∧ w' = w := by
 have ht := Int.tmod_add_mul_tdiv p n
 have h1 : n ≠ 0 := by omega
 obtain ⟨r, hr⟩ : ∃ r, p.tmod n = r := ⟨_, rfl⟩
 have hb : -n < r ∧ r < n := by
  rw [← hr]
  exact ⟨by have := Int.lt_tmod_of_pos p hn; omega, Int.tmod_lt_of_pos p hn⟩
 have hq : (if r < 0 then r + n else r) = p % n := by
  have e : p % n = r % n := by rw [← Int.add_mul_emod_self_left r n (p.tdiv n), ← hr, ht]
  by_cases h0 : r < 0
  ·rw [if_pos h0, e, ← Int.add_emod_right r n, Int.emod_eq_of_lt (by omega) (by omega)]
  ·rw [if_neg h0, e, Int.emod_eq_of_lt (by omega) (by omega)]
 have HQ := Lib.hid hq
 clear hq ht
 by_cases h0 : r < 0
 ·rw [if_pos h0] at HQ
  go_enter Tryz.func21, Tryz.ntmps21
  go_wp2_with fail
  go_ret
  exact ⟨congrArg (fun z => Ending.returned (.int .i64 z)) HQ.out, rfl⟩
 ·rw [if_neg h0] at HQ
  go_enter Tryz.func21, Tryz.ntmps21
  go_wp2_with fail
  go_ret
  exact ⟨congrArg (fun z => Ending.returned (.int .i64 z)) HQ.out, rfl⟩
/-- A text, and another one behind it, so many times. -/
def repB (p s : ByteArray) : Nat → ByteArray
 | 0 => p
 | k + 1 => repB p s k ++ s
theorem repB_list (p s : ByteArray) : ∀ k, (repB p s k).data.toList = p.data.toList ++ (List.replicate k s.data.toList).flatten
 | 0 => by simp [repB]
 | k + 1 => by
  rw [repB, ByteArray.data_append, Array.toList_append, repB_list p s k, List.replicate_succ', List.flatten_concat, List.append_assoc]
theorem repB_size (p s : ByteArray) (k : Nat) : (repB p s k).size = p.size + k * s.size := by
 induction k with
 | zero => simp [repB]
 | succ k ih => rw [repB, ByteArray.size_append, ih, Nat.add_mul]; omega
end Go.Proofs.YtfkmnpgpfmkjaaaGreatDoor
namespace Go.Proofs.YtfkmnpgpfmkjaaaGreatDoor
open Go.ChangeShapes Go.WideShapes Go.ChangeAt Go.RowKit Go.Shelf
attribute [local go_sem] Oper.semAt_some
abbrev bOp : ByteArray := ⟨#[40]⟩
abbrev bSh : ByteArray := ⟨#[41]⟩
theorem repB_one (c : UInt8) (k : Nat) : (repB ⟨#[]⟩ ⟨#[c]⟩ k).data.toList = List.replicate k c := by
 rw [repB_list]
 show [] ++ (List.replicate k [c]).flatten = _
 induction k with
 | zero => rfl
 | succ k ih => rw [List.replicate_succ, List.flatten_cons, List.replicate_succ]; rw [List.nil_append] at ih ⊢; rw [ih]; rfl
theorem repB_len (c : UInt8) (k : Nat) : (repB ⟨#[]⟩ ⟨#[c]⟩ k).size = k := by
 have := repB_size ⟨#[]⟩ ⟨#[c]⟩ k
 have h1 : (⟨#[]⟩ : ByteArray).size = 0 := rfl
 have h2 : (⟨#[c]⟩ : ByteArray).size = 1 := rfl
 rw [h1, h2] at this
 omega
/-- A node's boxes hold what was told. -/
theorem kid0 {w : World} {a : Option Addr} {c : Nat} {b : Nd} (h : KidsAt w (.slice a 1 c) [b]) : ∃ g o ad ck, a = some ⟨g, o, none⟩ ∧ w.cell? ⟨g, o + 5, none⟩ = some (.slice ad b.kids.length ck) ∧ 1 ≤ c ∧ c ≤ maxLen := by
 obtain ⟨g, o, rfl, _, h1, h2, h3, _⟩ := KidsD.head h
 obtain ⟨ad, ck, h4, _⟩ := h3.open
 exact ⟨g, o, ad, ck, rfl, h4 5 _ rfl, h1, h2⟩
/-- What the law tells of the second parse. -/
def Two (L : List Lx.T) (S : ByteArray) (x : Nd) : Prop :=
 ((∃ L0 t, L = L0 ++ [t] ∧ t.text = Ps.kSemi) ∧ ∃ q, parseP ((Pr.hA ++ S) ++ Pr.hC).data.toList = .fault 5 q) ∨
  (parseP ((Pr.hA ++ S) ++ Pr.hC).data.toList = .tree x ∧ ((∃ b, x.kids = [b] ∧ b.kids.length = 1) → ∀ q, q ≤ 100 → parseP ((((Pr.hA ++ repB ⟨#[]⟩ bOp (q + 1)) ++ S) ++ repB ⟨#[]⟩ bSh (q + 1)) ++ Pr.hB).data.toList = .tree x))
theorem two_of {L : List Lx.T} {S : ByteArray} (hS : S.data.toList = Lx.joinB L) (hx : ∀ t ∈ L, Lx.isTok t = true) (hl : (Lx.joinB L).length ≤ 5000) {x : Nd} (h : parseP ((Pr.hA ++ S) ++ Pr.hB).data.toList = .tree x) : x.kids.length = 1 ∧ Two L S x := by
 have e : ∀ a b : ByteArray, (a ++ b).data.toList = a.data.toList ++ b.data.toList := fun a b => by rw [ByteArray.data_append, Array.toList_append]
 unfold Two
 simp only [e, repB_one, hS] at h ⊢
 exact Pr.brk_src hx hl h
set_option maxHeartbeats 16000000 in
theorem pbrackets_c (a : Option Addr) (c : Nat) (l : List UInt8) (g : Int) (w : World) (hs : SrcAt w (.slice a l.length c) l) (hg : -9223372036854775808 ≤ g ∧ g ≤ 9223372036854775807) (hT : PTab w) (hP : Pw w) :
  Calls Tryz.prog 5 #[.slice a l.length c, .int .i64 g] w fun e w' => e = .returned (.bool true) ∧ Kept w w' := by
 have HTB := Lib.hid hT
 have HPW := Lib.hid hP
 have HKK := Lib.hid (Kept.refl w)
 have HSR := Lib.hid hs
 have HPK := Lib.hid (ppick_c g 21 · (by decide) (by decide) hg)
 obtain ⟨m, hm, em⟩ : ∃ i : Nat, i < 21 ∧ g % 21 = i := ⟨(g % 21).toNat, by omega, by omega⟩
 rw [em] at HPK
 have HM := Lib.hid hm
 clear hT hP hs em hm
 go_enter Tryz.func5, Tryz.ntmps5
 go_wp2_with fail
 refine (pknown_c _ HTB.out).mono ?_
 rintro e w1 ⟨rfl, k1⟩
 replace HTB := Lib.hid (HTB.out.kept k1)
 replace HPW := Lib.hid (HPW.out.kept k1)
 replace HSR := Lib.hid (src_kept HSR.out k1)
 replace HKK := Lib.hid (HKK.out.trans k1)
 clear k1
 by_cases hl : 1500 < l.length
 ·have hlI : (1500 : Int) < (l.length : Int) := by omega
  clear hl
  go_wp2_with fail
  go_ret
  exact ⟨rfl, HKK.out⟩
 have hlI : ¬ (1500 : Int) < (l.length : Int) := by omega
 have HL := Lib.hid hl
 clear hl
 have HLX := Lib.hid (lex_c a c l w1 HSR.out HTB.out.tb HTB.out.er)
 go_wp2_with fail
 refine HLX.out.mono ?_
 rintro e w8 ⟨a8, c8, rfl, ht8, k8⟩
 obtain ⟨L, hL⟩ : ∃ L, (Lx.lex l).1 = L := ⟨_, rfl⟩
 obtain ⟨le, hle⟩ : ∃ e, (Lx.lex l).2.1 = e := ⟨_, rfl⟩
 obtain ⟨la, hla⟩ : ∃ e, (Lx.lex l).2.2 = e := ⟨_, rfl⟩
 rw [hL] at ht8
 rw [hL, hle, hla]
 have HF := Lib.hid (show le ≠ 0 → L = [] from fun h => by rw [← hL]; exact (Lx.lex_fault (by have := HL.out; omega) (by rw [hle]; exact h)).1)
 have HG := Lib.hid (show (∀ t ∈ L, Lx.isTok t = true) ∧ (Lx.joinB L).length ≤ 4500 from by
  by_cases h0 : le = 0
  ·have h1 := Lx.lex_isTok (hle.trans h0)
   have h2 := Lx.lex_join_len (hle.trans h0)
   rw [hL] at h1 h2
   exact ⟨h1.2, by have := HL.out; omega⟩
  ·rw [HF.out h0]
   exact ⟨fun t ht => (by cases ht), Nat.zero_le _⟩)
 obtain ⟨Z9, hZ9⟩ : ∃ Z, w8.alloc (.cells #[.int .i64 0, .int .i64 0] 36) = Z := ⟨_, rfl⟩
 obtain ⟨W9, hW9⟩ : ∃ Z, (Z9.setCell ⟨w8.heap.size, 0, none⟩ (.int .i64 le)).setCell ⟨w8.heap.size, 1, none⟩ (.int .i64 la) = Z := ⟨_, rfl⟩
 obtain ⟨z9, b9, k9⟩ := one_box w8 le la hZ9 hW9
 have HZ9 := Lib.hid hZ9
 have HW9 := Lib.hid hW9
 have p0 := z9.cell 0
 have p1 := z9.cell 1
 have r0 := z9.frozen 0
 have r1 := z9.frozen 1
 clear z9 hZ9
 replace HTB := Lib.hid ((HTB.out.kept k8).kept k9)
 replace HPW := Lib.hid ((HPW.out.kept k8).kept k9)
 replace HKK := Lib.hid ((HKK.out.trans k8).trans k9)
 have HTK := Lib.hid (tks_kept ht8 k9)
 have HB9 := Lib.hid b9
 have HJN := Lib.hid (join_c L a8 c8 W9 HTK.out HTB.out.tb HPW.out HTB.out.er (fun t ht => tok_okT (HG.out.1 t ht)) (by have := HG.out.2; omega))
 rw [show L.all Lx.isTok = true from List.all_eq_true.2 HG.out.1] at HJN
 have HJN := Lib.hid (show Calls Tryz.prog 19 #[.slice a8 L.length c8] W9 fun e w' => e = .returned (.tuple #[.string ⟨(Lx.joinB L).toArray⟩, .int .i64 0]) ∧ Kept W9 w' from HJN.out)
 clear hW9 b9 k8 k9 ht8 hL hle hla HLX HSR
 go_wp2_with (first | rw [HZ9.out] | rw [HW9.out])
 clear p0 p1 r0 r1
 refine HJN.out.mono ?_
 rintro e w10 ⟨rfl, k10⟩
 replace HTB := Lib.hid (HTB.out.kept k10)
 replace HPW := Lib.hid (HPW.out.kept k10)
 replace HKK := Lib.hid (HKK.out.trans k10)
 replace HTK := Lib.hid (tks_kept HTK.out k10)
 have i0 := (HB9.out.kept k10).cell 0
 clear k10 HJN
 by_cases h0 : le = 0
 rotate_left
 ·have hb1 : (le == 0) = false := by simpa using h0
  have hb2 : (le != 0) = true := by simpa using h0
  clear h0
  go_wp2_with fail
  go_ret
  exact ⟨rfl, HKK.out⟩
 subst h0
 obtain ⟨S, hS⟩ : ∃ S : ByteArray, (⟨(Lx.joinB L).toArray⟩ : ByteArray) = S := ⟨_, rfl⟩
 have hSl : S.data.toList = Lx.joinB L := by rw [← hS]
 have hSZ : S.size ≤ 5000 := by
  have : S.size = (Lx.joinB L).length := by rw [← hSl, Array.length_toList]; rfl
  have := HG.out.2
  omega
 have HSZ := Lib.hid hSZ
 have HTW := Lib.hid (fun (x : Nd) (h : parseP ((Pr.hA ++ S) ++ Pr.hB).data.toList = .tree x) => two_of hSl HG.out.1 (by have := HG.out.2; omega) h)
 have hAS : (Pr.hA ++ S).size ≤ 6000 := by rw [ByteArray.size_append]; have : (Pr.hA).size = 11 := rfl; omega
 rw [hS]
 clear hS hSl
 obtain ⟨P1, hP1⟩ : ∃ Q : ByteArray, (Pr.hA ++ S) ++ Pr.hB = Q := ⟨_, rfl⟩
 have hz1 : P1.size ≤ 1000000 := by rw [← hP1]; simp only [ByteArray.size_append]; have := HSZ.out; have e1 : (Pr.hA).size = 11 := rfl; have e2 : (Pr.hB).size = 2 := rfl; have e3 : (Pr.hC).size = 4 := rfl; omega
 have hl1 : P1.data.toList.length = P1.size := by rw [Array.length_toList]; rfl
 have hcv := Lib.run_convert_string_bytes (P := Tryz.prog) w10 9 33 5 P1 Tryz.underlying9 Tryz.underlying33 Tryz.underlying5
 have hsrc := src_of_text P1 w10 hz1
 obtain ⟨V1, hV⟩ : ∃ W4, Lib.bytesWorld w10 5 P1 = W4 := ⟨_, rfl⟩
 have kV1 : Kept w10 V1 := by rw [← hV]; exact Kept.of_below (Lib.bytesWorld_below _ _ _)
 rw [hV] at hcv hsrc
 replace HTB := Lib.hid (HTB.out.kept kV1)
 replace HPW := Lib.hid (HPW.out.kept kV1)
 replace HKK := Lib.hid (HKK.out.trans kV1)
 replace HTK := Lib.hid (tks_kept HTK.out kV1)
 have HPC := Lib.hid (parse_c (some ⟨w10.heap.size, 0, none⟩) _ P1.data.toList V1 hsrc HTB.out.tb HTB.out.er HTB.out.so)
 rw [hl1] at HPC
 have HP1 := Lib.hid hP1
 clear hsrc hV kV1 hl1 HB9 hP1
 go_wp2_with (rw [HP1.out])
 refine HPC.out.mono ?_
 rintro e w5 (⟨x, ks, v, h1, rfl, hx, hk, hok, hcnt, hce, k5⟩ | ⟨er, ea, h1, h0, rfl, k5⟩)
 rotate_left
 ·obtain ⟨Z6a, h6⟩ : ∃ Z, (w5.alloc (.cells pzN nT)).alloc (.cells #[.int .i64 0, .int .i64 0] 36) = Z := ⟨_, rfl⟩
  obtain ⟨Z7a, h7⟩ : ∃ Z, put6n Z6a w5.heap.size (Ps.nd 0 Ps.e0 Ps.e0 0 []) (.slice none 0 0) = Z := ⟨_, rfl⟩
  obtain ⟨W7a, hW7⟩ : ∃ Z, (Z7a.setCell ⟨w5.heap.size + 1, 0, none⟩ (.int .i64 er)).setCell ⟨w5.heap.size + 1, 1, none⟩ (.int .i64 ea) = Z := ⟨_, rfl⟩
  obtain ⟨t1, t2, b6, b7, k7⟩ := two_boxes w5 (Ps.nd 0 Ps.e0 Ps.e0 0 []) (.slice none 0 0) er ea h6 h7 hW7
  have HZ6a := Lib.hid h6
  have HZ7a := Lib.hid (show (((((Z6a.setCell ⟨w5.heap.size, 0, none⟩ (.int .i64 0)).setCell ⟨w5.heap.size, 1, none⟩ (.string ⟨#[]⟩)).setCell ⟨w5.heap.size, 2, none⟩ (.string ⟨#[]⟩)).setCell ⟨w5.heap.size, 3, none⟩ (.string ⟨#[]⟩)).setCell ⟨w5.heap.size, 4, none⟩ (.int .i64 0)).setCell ⟨w5.heap.size, 5, none⟩ (.slice none 0 0) = Z7a from h7)
  have HW7a := Lib.hid hW7
  obtain ⟨⟨q0, q1, q2, q3, q4, q5⟩, f0, f1, f2, f3, f4, f5⟩ := nd_six t1
  have p0 := t2.cell 0
  have p1 := t2.cell 1
  have r0 := t2.frozen 0
  have r1 := t2.frozen 1
  have i0 := b7.cell 0
  have i1 := b7.cell 1
  have HB6a := Lib.hid b6
  have HB7a := Lib.hid b7
  have HK7a := Lib.hid k7
  clear t1 t2 h6 h7 hW7 b6 b7 k7
  have hb1 : (er == 0) = false := by simpa using h0
  have hb2 : (er != 0) = true := by simpa using h0
  have HKE := Lib.hid ((HKK.out.trans k5).trans HK7a.out)
  clear h1 h0 k5 hcv
  go_wp2_with (first | rw [HZ6a.out] | rw [HZ7a.out] | rw [HW7a.out])
  go_ret
  exact ⟨rfl, HKE.out⟩
 obtain ⟨a5, c5, rfl⟩ := hk.slice
 have hl5 : ks.length = x.kids.length := by rw [hx, List.length_map]
 have hkk : KidsAt w5 (.slice a5 x.kids.length c5) x.kids := by
  have := hk.kids.at
  rw [← hx, hl5] at this
  exact this
 rw [hl5]
 obtain ⟨gk, gt⟩ := HTW.out x (by rw [HP1.out]; exact h1)
 have HGT := Lib.hid gt
 obtain ⟨Z6a, h6⟩ : ∃ Z, (w5.alloc (.cells pzN nT)).alloc (.cells #[.int .i64 0, .int .i64 0] 36) = Z := ⟨_, rfl⟩
 obtain ⟨Z7a, h7⟩ : ∃ Z, put6n Z6a w5.heap.size x (.slice a5 x.kids.length c5) = Z := ⟨_, rfl⟩
 obtain ⟨W7a, hW7⟩ : ∃ Z, (Z7a.setCell ⟨w5.heap.size + 1, 0, none⟩ (.int .i64 0)).setCell ⟨w5.heap.size + 1, 1, none⟩ (.int .i64 0) = Z := ⟨_, rfl⟩
 obtain ⟨t1, t2, b6, b7, k7⟩ := two_boxes w5 x (.slice a5 x.kids.length c5) 0 0 h6 h7 hW7
 have HZ6a := Lib.hid h6
 have HZ7a := Lib.hid (show (((((Z6a.setCell ⟨w5.heap.size, 0, none⟩ (.int .i64 x.kind)).setCell ⟨w5.heap.size, 1, none⟩ (.string x.text)).setCell ⟨w5.heap.size, 2, none⟩ (.string x.typ)).setCell ⟨w5.heap.size, 3, none⟩ (.string x.frm)).setCell ⟨w5.heap.size, 4, none⟩ (.int .i64 x.n)).setCell ⟨w5.heap.size, 5, none⟩ (.slice a5 x.kids.length c5) = Z7a from h7)
 have HW7a := Lib.hid hW7
 obtain ⟨⟨q0, q1, q2, q3, q4, q5⟩, f0, f1, f2, f3, f4, f5⟩ := nd_six t1
 have p0 := t2.cell 0
 have p1 := t2.cell 1
 have r0 := t2.frozen 0
 have r1 := t2.frozen 1
 have i0 := b7.cell 0
 have i1 := b7.cell 1
 have HB6a := Lib.hid b6
 have HB7a := Lib.hid b7
 have HK7a := Lib.hid k7
 clear t1 t2 h6 h7 hW7 b6 b7 k7
 replace HTB := Lib.hid ((HTB.out.kept k5).kept HK7a.out)
 replace HPW := Lib.hid ((HPW.out.kept k5).kept HK7a.out)
 replace HKK := Lib.hid ((HKK.out.trans k5).trans HK7a.out)
 replace HTK := Lib.hid (tks_kept (tks_kept HTK.out k5) HK7a.out)
 have HMK := Lib.hid (show Mk W7a x (.slice a5 x.kids.length c5) from ⟨hok, a5, c5, rfl, KidsD.kept hkk HK7a.out⟩)
 have HGK := Lib.hid gk
 clear k5 hx hk hok hcnt hce hkk hl5 h1 gk gt hcv HTW
 obtain ⟨P2, hP2⟩ : ∃ Q : ByteArray, (Pr.hA ++ S) ++ Pr.hC = Q := ⟨_, rfl⟩
 have hz2 : P2.size ≤ 1000000 := by rw [← hP2]; simp only [ByteArray.size_append]; have := HSZ.out; have e1 : (Pr.hA).size = 11 := rfl; have e2 : (Pr.hB).size = 2 := rfl; have e3 : (Pr.hC).size = 4 := rfl; omega
 have hl2 : P2.data.toList.length = P2.size := by rw [Array.length_toList]; rfl
 have hcv := Lib.run_convert_string_bytes (P := Tryz.prog) W7a 9 33 5 P2 Tryz.underlying9 Tryz.underlying33 Tryz.underlying5
 have hsrc := src_of_text P2 W7a hz2
 obtain ⟨V2, hV⟩ : ∃ W4, Lib.bytesWorld W7a 5 P2 = W4 := ⟨_, rfl⟩
 have kV2 : Kept W7a V2 := by rw [← hV]; exact Kept.of_below (Lib.bytesWorld_below _ _ _)
 rw [hV] at hcv hsrc
 have HP2 := Lib.hid hP2
 have HPC := Lib.hid (parse_c (some ⟨W7a.heap.size, 0, none⟩) _ P2.data.toList V2 hsrc (HTB.out.kept kV2).tb (HTB.out.kept kV2).er (HTB.out.kept kV2).so)
 rw [hl2] at HPC
 replace HTB := Lib.hid (HTB.out.kept kV2)
 replace HPW := Lib.hid (HPW.out.kept kV2)
 replace HKK := Lib.hid (HKK.out.trans kV2)
 replace HTK := Lib.hid (tks_kept HTK.out kV2)
 replace HMK := Lib.hid (HMK.out.kept kV2)
 replace HB6a := Lib.hid (HB6a.out.kept kV2)
 clear hsrc hV kV2 hl2 hP2
 go_wp2_with (first | rw [HZ6a.out] | rw [HZ7a.out] | rw [HW7a.out] | rw [HP2.out])
 clear q0 q1 q2 q3 q4 q5 f0 f1 f2 f3 f4 f5 p0 p1 r0 r1 i0 i1
 refine HPC.out.mono ?_
 rintro e w6 (⟨x2, ks, v, h1, rfl, hx, hk, hok, hcnt, hce, k6⟩ | ⟨er, ea, h1, h0, rfl, k6⟩)
 rotate_left
 ·obtain ⟨Z6b, h6⟩ : ∃ Z, (w6.alloc (.cells pzN nT)).alloc (.cells #[.int .i64 0, .int .i64 0] 36) = Z := ⟨_, rfl⟩
  obtain ⟨Z7b, h7⟩ : ∃ Z, put6n Z6b w6.heap.size (Ps.nd 0 Ps.e0 Ps.e0 0 []) (.slice none 0 0) = Z := ⟨_, rfl⟩
  obtain ⟨W7b, hW7⟩ : ∃ Z, (Z7b.setCell ⟨w6.heap.size + 1, 0, none⟩ (.int .i64 er)).setCell ⟨w6.heap.size + 1, 1, none⟩ (.int .i64 ea) = Z := ⟨_, rfl⟩
  obtain ⟨t1, t2, b6, b7, k7⟩ := two_boxes w6 (Ps.nd 0 Ps.e0 Ps.e0 0 []) (.slice none 0 0) er ea h6 h7 hW7
  have HZ6b := Lib.hid h6
  have HZ7b := Lib.hid (show (((((Z6b.setCell ⟨w6.heap.size, 0, none⟩ (.int .i64 0)).setCell ⟨w6.heap.size, 1, none⟩ (.string ⟨#[]⟩)).setCell ⟨w6.heap.size, 2, none⟩ (.string ⟨#[]⟩)).setCell ⟨w6.heap.size, 3, none⟩ (.string ⟨#[]⟩)).setCell ⟨w6.heap.size, 4, none⟩ (.int .i64 0)).setCell ⟨w6.heap.size, 5, none⟩ (.slice none 0 0) = Z7b from h7)
  have HW7b := Lib.hid hW7
  obtain ⟨⟨q0, q1, q2, q3, q4, q5⟩, f0, f1, f2, f3, f4, f5⟩ := nd_six t1
  have p0 := t2.cell 0
  have p1 := t2.cell 1
  have r0 := t2.frozen 0
  have r1 := t2.frozen 1
  have i0 := b7.cell 0
  have i1 := b7.cell 1
  have HB6b := Lib.hid b6
  have HB7b := Lib.hid b7
  have HK7b := Lib.hid k7
  clear t1 t2 h6 h7 hW7 b6 b7 k7
  have hb1 : (er == 0) = false := by simpa using h0
  have hb2 : (er != 0) = true := by simpa using h0
  have HKE := Lib.hid ((HKK.out.trans k6).trans HK7b.out)
  have HTE := Lib.hid (tks_kept (tks_kept HTK.out k6) HK7b.out)
  obtain ⟨L0, t, hLL, htx⟩ : ∃ L0 t, L = L0 ++ [t] ∧ t.text = Ps.kSemi := by
   rcases HGT.out with ⟨h, _⟩ | ⟨h, _⟩
   ·exact h
   ·rw [HP2.out, h1] at h; cases h
  have hLN : L.length = L0.length + 1 := by rw [hLL]; simp
  obtain ⟨at_, ac, eat, hc1, hc2, hrow⟩ := HTE.out
  injection eat with ea1 ea2 ea3
  subst ea1 ea3
  obtain ⟨gb, go, rfl, g0, g1, g2, g3⟩ := hrow L0.length t (by rw [hLL]; simp)
  rw [htx] at g1
  have hi1 : ((L0.length + 1 : Nat) : Int) - 1 = (L0.length : Int) := by omega
  have hi2 : (0 : Int) < ((L0.length + 1 : Nat) : Int) := by omega
  rw [hLN] at hc1 ⊢
  unfold maxLen at hc2
  have g1 : W7b.cell? ⟨gb, go + L0.length * 4 + 1, none⟩ = some (.string ⟨#[59]⟩) := g1
  have hse : ((⟨#[59]⟩ : ByteArray).toList == [59]) = true := by kernel_rfl
  clear h1 h0 k6 hcv hrow HTE HTK hLL htx g0 g2 g3 HGT HG HF HMK
  generalize L0.length = mm at *
  go_wp2_with (first | rw [HZ6b.out] | rw [HZ7b.out] | rw [HW7b.out])
  go_ret
  exact ⟨rfl, HKE.out⟩
 obtain ⟨rfl, gq⟩ : x2 = x ∧ ((∃ b, x.kids = [b] ∧ b.kids.length = 1) → ∀ q, q ≤ 100 → parseP ((((Pr.hA ++ repB ⟨#[]⟩ bOp (q + 1)) ++ S) ++ repB ⟨#[]⟩ bSh (q + 1)) ++ Pr.hB).data.toList = .tree x) := by
  rcases HGT.out with ⟨_, q, h⟩ | ⟨h, g⟩
  ·rw [HP2.out, h1] at h; cases h
  ·rw [HP2.out, h1] at h
   injection h with h
   exact ⟨h, g⟩
 obtain ⟨a6, c6, rfl⟩ := hk.slice
 have hl6 : ks.length = x2.kids.length := by rw [hx, List.length_map]
 have hkk : KidsAt w6 (.slice a6 x2.kids.length c6) x2.kids := by
  have := hk.kids.at
  rw [← hx, hl6] at this
  exact this
 rw [hl6]
 obtain ⟨Z6b, h6⟩ : ∃ Z, (w6.alloc (.cells pzN nT)).alloc (.cells #[.int .i64 0, .int .i64 0] 36) = Z := ⟨_, rfl⟩
 obtain ⟨Z7b, h7⟩ : ∃ Z, put6n Z6b w6.heap.size x2 (.slice a6 x2.kids.length c6) = Z := ⟨_, rfl⟩
 obtain ⟨W7b, hW7⟩ : ∃ Z, (Z7b.setCell ⟨w6.heap.size + 1, 0, none⟩ (.int .i64 0)).setCell ⟨w6.heap.size + 1, 1, none⟩ (.int .i64 0) = Z := ⟨_, rfl⟩
 obtain ⟨t1, t2, b6, b7, k7⟩ := two_boxes w6 x2 (.slice a6 x2.kids.length c6) 0 0 h6 h7 hW7
 have HZ6b := Lib.hid h6
 have HZ7b := Lib.hid (show (((((Z6b.setCell ⟨w6.heap.size, 0, none⟩ (.int .i64 x2.kind)).setCell ⟨w6.heap.size, 1, none⟩ (.string x2.text)).setCell ⟨w6.heap.size, 2, none⟩ (.string x2.typ)).setCell ⟨w6.heap.size, 3, none⟩ (.string x2.frm)).setCell ⟨w6.heap.size, 4, none⟩ (.int .i64 x2.n)).setCell ⟨w6.heap.size, 5, none⟩ (.slice a6 x2.kids.length c6) = Z7b from h7)
 have HW7b := Lib.hid hW7
 obtain ⟨⟨q0, q1, q2, q3, q4, q5⟩, f0, f1, f2, f3, f4, f5⟩ := nd_six t1
 have p0 := t2.cell 0
 have p1 := t2.cell 1
 have r0 := t2.frozen 0
 have r1 := t2.frozen 1
 have i0 := b7.cell 0
 have i1 := b7.cell 1
 have HB6b := Lib.hid b6
 have HB7b := Lib.hid b7
 have HK7b := Lib.hid k7
 clear t1 t2 h6 h7 hW7 b6 b7 k7
 replace HTB := Lib.hid ((HTB.out.kept k6).kept HK7b.out)
 replace HKK := Lib.hid ((HKK.out.trans k6).trans HK7b.out)
 replace HMK := Lib.hid ((HMK.out.kept k6).kept HK7b.out)
 replace HB6a := Lib.hid ((HB6a.out.kept k6).kept HK7b.out)
 have HMK2 := Lib.hid (show Mk W7b x2 (.slice a6 x2.kids.length c6) from ⟨hok, a6, c6, rfl, KidsD.kept hkk HK7b.out⟩)
 have HGQ := Lib.hid gq
 clear k6 hx hk hok hcnt hce hkk hl6 h1 gq hcv HGT HPC HTK HG HF
 go_wp2_with (first | rw [HZ6b.out] | rw [HZ7b.out] | rw [HW7b.out])
 clear q0 q1 q2 q3 q4 q5 f0 f1 f2 f3 f4 f5 p0 p1 r0 r1 i0 i1
 refine (HPK.out _).mono ?_
 rintro e w7 ⟨rfl, rfl⟩
 clear HPK
 go_wp2_with fail
 have hm20 : m ≤ 20 := by have := HM.out; omega
 go_loop [14, 15, 16] (fun a b p => ∃ k : Nat, k ≤ m + 1 ∧ a = .string (repB ⟨#[]⟩ bOp k) ∧ b = .string (repB ⟨#[]⟩ bSh k) ∧ p = .int .i64 ((m : Int) - k)) (fun _ _ p => (intOf p + 1).toNat)
 case atStart => exact ⟨0, Nat.zero_le _, rfl, rfl, by simp⟩
 case round =>
  obtain ⟨k, hk, rfl, rfl, rfl⟩ := hrel
  by_cases hlt : k ≤ m
  ·have hltI : 0 ≤ (m : Int) - (k : Int) := by omega
   have hs1 : (repB ⟨#[]⟩ bOp k).size ≤ 900 := by have : (repB ⟨#[]⟩ bOp k).size = k := repB_len 40 k; omega
   have hs2 : (repB ⟨#[]⟩ bSh k).size ≤ 900 := by have : (repB ⟨#[]⟩ bSh k).size = k := repB_len 41 k; omega
   have HN1 := Lib.hid (show repB ⟨#[]⟩ bOp k ++ bOp = repB ⟨#[]⟩ bOp (k + 1) from rfl)
   have HN2 := Lib.hid (show repB ⟨#[]⟩ bSh k ++ bSh = repB ⟨#[]⟩ bSh (k + 1) from rfl)
   generalize repB ⟨#[]⟩ bOp k = sl at *
   generalize repB ⟨#[]⟩ bSh k = sr at *
   go_wp2
   exact ⟨⟨k + 1, by omega, by rw [← HN1.out], by rw [← HN2.out], by go_num⟩, by simp [intOf]; omega⟩
  ·obtain rfl : k = m + 1 := by omega
   have hltI : ¬ 0 ≤ (m : Int) - ((m + 1 : Nat) : Int) := by omega
   have hs1 : (repB ⟨#[]⟩ bOp (m + 1)).size ≤ 21 := by have : (repB ⟨#[]⟩ bOp (m + 1)).size = m + 1 := repB_len 40 (m + 1); omega
   have hs2 : (repB ⟨#[]⟩ bSh (m + 1)).size ≤ 21 := by have : (repB ⟨#[]⟩ bSh (m + 1)).size = m + 1 := repB_len 41 (m + 1); omega
   obtain ⟨⟨y0, y1, y2, y3, y4, y5⟩, _⟩ := nd_six HB6a.out
   obtain ⟨⟨z0, z1, z2, z3, z4, z5⟩, _⟩ := nd_six HB6b.out
   obtain ⟨_, n1, n2, en1, hn1⟩ := HMK.out
   injection en1 with en1 _ en2
   subst en1 en2
   obtain ⟨_, n3, n4, en3, hn3⟩ := HMK2.out
   injection en3 with en3 _ en4
   subst en3 en4
   have HSN := Lib.hid (sameN_c x2 a5 c5 a6 c6 w7 hn1 hn3)
   have HKD := Lib.hid hn1
   have hgkI : ((x2.kids.length : Nat) : Int) = 1 := by have := HGK.out; omega
   have HGQ := Lib.hid (fun h => HGQ.out h m (by omega))
   clear hn1 hn3 hlt hltI
   generalize repB ⟨#[]⟩ bOp (m + 1) = sl at *
   generalize repB ⟨#[]⟩ bSh (m + 1) = sr at *
   have hltI : ¬ 0 ≤ (m : Int) - ((m + 1 : Nat) : Int) := by omega
   go_wp2_with fail
   refine HSN.out.mono ?_
   rintro e w9 ⟨rfl, k9⟩
   replace HTB := Lib.hid (HTB.out.kept k9)
   replace HKK := Lib.hid (HKK.out.trans k9)
   replace HMK := Lib.hid (HMK.out.kept k9)
   have HKD9 := Lib.hid (KidsD.kept HKD.out k9)
   have HB9a := Lib.hid (HB6a.out.kept k9)
   clear y0 y1 y2 y3 y4 y5 z0 z1 z2 z3 z4 z5 k9 HSN
   obtain ⟨⟨y0, y1, y2, y3, y4, y5⟩, _⟩ := nd_six HB9a.out
   obtain ⟨b, hb⟩ : ∃ b, x2.kids = [b] := List.length_eq_one_iff.1 HGK.out
   obtain ⟨kg, ko, kad, kck, ea5, kcell, kc1, kc2⟩ := kid0 (b := b) (by have := HKD9.out; rw [hb] at this; exact this)
   unfold maxLen at kc2
   have HMKx := Lib.hid (show ∀ (Q : ByteArray) (W : World), Q.size ≤ 1000000 → Kept w9 W → parseP Q.data.toList = .tree x2 → Calls Tryz.prog 13 #[.string Q, .agg #[.int .i64 x2.kind, .string x2.text, .string x2.typ, .string x2.frm, .int .i64 x2.n, .slice a5 1 c5]] W fun e w' => e = .returned (.bool true) ∧ Kept W w' from fun Q W hQ k h => by
    have := means_c Q hQ x2 (.slice a5 x2.kids.length c5) W (HTB.out.kept k) (HMK.out.kept k) h
    rw [HGK.out] at this
    exact this)
   have HGQb := Lib.hid (fun h => HGQ.out ⟨b, hb, h⟩)
   rw [HGK.out] at y5
   subst ea5
   have HBL := Lib.hid hb
   clear hb hgkI HGQ HKD HKD9 HMK HMK2 HB6a HB6b HB7a HB7b HZ6a HZ7a HW7a HZ6b HZ7b HW7b HB9a HGK
   generalize x2.kind = xk at *
   generalize x2.text = xt at *
   generalize x2.typ = xy at *
   generalize x2.frm = xf at *
   generalize x2.n = xn at *
   by_cases hk1 : b.kids.length = 1
   ·have hq1 : (((b.kids.length : Nat) : Int) != 1) = false := by simp [hk1]
    have hq2 : (((b.kids.length : Nat) : Int) == 1) = true := by simp [hk1]
    rw [hk1] at kcell
    have hpq := HGQb.out hk1
    have hlA : (Pr.hA).size = 11 := rfl
    have hlB : (Pr.hB).size = 2 := rfl
    have hsz := HSZ.out
    have hc1 : (Pr.hA ++ sl).size ≤ 40 := by rw [ByteArray.size_append]; omega
    have hc2 : ((Pr.hA ++ sl) ++ S).size ≤ 6000 := by rw [ByteArray.size_append]; omega
    have hc3 : (((Pr.hA ++ sl) ++ S) ++ sr).size ≤ 6100 := by rw [ByteArray.size_append]; omega
    obtain ⟨Q, hQ⟩ : ∃ Q, (((Pr.hA ++ sl) ++ S) ++ sr) ++ Pr.hB = Q := ⟨_, rfl⟩
    have hQz : Q.size ≤ 1000000 := by rw [← hQ, ByteArray.size_append]; omega
    rw [hQ] at hpq
    have HMN := Lib.hid (HMKx.out Q w9 hQz (Kept.refl _) hpq)
    have HQ := Lib.hid hQ
    clear hpq hQ hlA hlB HMKx hk1 hq1 hq2 HGQb HBL
    go_wp2_with (rw [HQ.out])
    refine HMN.out.mono ?_
    rintro e w11 ⟨rfl, k11⟩
    have HKE := Lib.hid (HKK.out.trans k11)
    clear k11
    go_wp2_with fail
    go_ret
    exact ⟨rfl, HKE.out⟩
   ·have hk2 : ¬ ((b.kids.length : Nat) : Int) = 1 := by omega
    have hq1 : (((b.kids.length : Nat) : Int) != 1) = true := by simpa using hk2
    have hq2 : (((b.kids.length : Nat) : Int) == 1) = false := by simpa using hk2
    clear hk1 HMKx HGQb
    generalize b.kids.length = bn at *
    go_wp2_with fail
    go_ret
    exact ⟨rfl, HKK.out⟩
end Go.Proofs.YtfkmnpgpfmkjaaaGreatDoor
namespace Go.Proofs.YtfkmnpgpfmkjaaaGreatDoor
open Go.ChangeShapes Go.WideShapes Go.ChangeAt Go.RowKit Go.Lib
theorem pw_of_reads {w : World} (h1 : VarReads Tryz.prog w "internal/strconv.uint64pow10" (tabData .u64 Lib.pow10Tab)) : Pw w := by
 obtain ⟨g, t, cs, fuel, p, hg, hty, hvar, hd⟩ := h1
 obtain rfl := Option.some.inj ((show Tryz.prog.globalNamed "internal/strconv.uint64pow10" = some 9 by kernel_rfl).symm.trans hg)
 obtain rfl := Option.some.inj ((show (Tryz.prog.globals[9]?).map (·.type) = some 200 by kernel_rfl).symm.trans hty)
 have e := cells_of_tab Tryz.underlying200 Tryz.underlying169 (by kernel_rfl) (by kernel_rfl) hd
 unfold Pw Lib.TabIs
 rw [hvar, ← e]
end Go.Proofs.YtfkmnpgpfmkjaaaGreatDoor
