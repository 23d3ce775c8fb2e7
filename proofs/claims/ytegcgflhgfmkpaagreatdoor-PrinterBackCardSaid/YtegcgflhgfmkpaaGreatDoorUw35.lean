/- Texts. -/
import Derived.Test.YtegcgflhgfmkpaaGreatDoorUw33
import Derived.Lib.LaidTab
import Derived.Lib.LaidU8
import Derived.ChangeSame
import Derived.Deep.Slices
import Derived.Deep.Fields
import Derived.ProofKit
import Derived.OpenShut
import Derived.ShutString
import Derived.Carry
import Derived.Test.YtegcgflhgfmkpaaGreatDoorUw31
set_option linter.unusedSimpArgs false
set_option linter.unusedVariables false
set_option maxRecDepth 100000
namespace Go.Proofs.YtegcgflhgfmkpaaGreatDoor
open _root_.Go.Proofs.Tryz
open Go.ChangeShapes Go.WideShapes Go.ChangeAt Go.RowKit Go.Lib
theorem cell_two {x : List Value} {w : World} {fuel : Nat} {b : List UInt8} {n : Int} {q : List MemPlace}
  (h : DataW.trod (fun _ => ()) prog w 0 (fun _ => true) false fuel 177 x = some (.agg [.lit (.string b), .lit (.int .i64 n)], q)) : x = [.string ⟨b.toArray⟩, .int .i64 n] := by
 obtain ⟨y0, y1, m, he, hl, h0, h1⟩ := trod_struct2 underlying177 h;rw [show prog.cellsOf 177 = 2 by kernel_rfl] at hl;obtain ⟨s, c0, rfl, _⟩ := DataW.trod_string underlying9 h0;obtain ⟨z, c1, rfl, _⟩ := DataW.trod_int underlying3 h1;have e1 : s.data.toList = b /\ z = n := by
  have := congrArg Prod.fst he;simp at this;exact ⟨this.1.symm, this.2.symm⟩
 obtain ⟨rfl, rfl⟩ := e1
 match x, hl with
 | [a0, a1], _ =>
  have k1 : prog.cellsOf 9 = 1 := by kernel_rfl
  have k2 : prog.cellsOf 3 = 1 := by kernel_rfl
  rw [k1] at c0;rw [k2] at c1;simp at c0 c1;rw [c0, c1]
def basesD : DataW Unit := .agg (Wrd.bs.zipIdx.map fun x => .agg [.lit (.string x.1.data.toList), .lit (.int .i64 (x.2 + 1))])
theorem bases_cells {cs : List Value} {w : World} {fuel : Nat} {q : List MemPlace}
  (h : DataW.trod (fun _ => ()) prog w 0 (fun _ => true) false fuel 178 cs = some (basesD, q)) : cs = bcs.toList := by
 have hlen : cs.length = 10 := by
  cases fuel with
  | zero => simp [DataW.trod] at h
  | succ n =>
   unfold DataW.trod at h;rw [underlying178] at h;simp only at h
   split at h
   ·rename_i hl
    rw [hl]
    kernel_rfl
   ·cases h
 have kc : prog.cellsOf 177 = 2 := by kernel_rfl
 have E : ∀ (i : Nat) (b : List UInt8) (n : Int), i < 5 -> (Wrd.bs.zipIdx.map fun x => (DataW.agg [.lit (.string x.1.data.toList), .lit (.int .i64 (x.2 + 1))] : DataW Unit))[i]? = some (.agg [.lit (.string b), .lit (.int .i64 n)]) -> (cs.drop (i * 2)).take 2 = [.string ⟨b.toArray⟩, .int .i64 n] := by
  intro i b n hi hd;obtain ⟨f', d, q', h1, h2⟩ := array_elem underlying178 h i hi;rw [hd] at h1;obtain rfl := Option.some.inj h1;rw [kc] at h2;exact cell_two h2
 have e0 := E 0 _ _ (by omega) rfl;have e1 := E 1 _ _ (by omega) rfl;have e2 := E 2 _ _ (by omega) rfl;have e3 := E 3 _ _ (by omega) rfl;have e4 := E 4 _ _ (by omega) rfl;clear E h
 match cs, hlen with
 | [a0, a1, a2, a3, a4, a5, a6, a7, a8, a9], _ =>
  simp at e0 e1 e2 e3 e4;rw [e0.1, e0.2, e1.1, e1.2, e2.1, e2.2, e3.1, e3.2, e4.1, e4.2]
  rfl
theorem cell_esc {x : List Value} {w : World} {fuel : Nat} {a b : Int} {q : List MemPlace}
  (h : DataW.trod (fun _ => ()) prog w 0 (fun _ => true) false fuel 170 x = some (.agg [.lit (.int .u8 a), .lit (.int .u8 b)], q)) : x = [.int .u8 a, .int .u8 b] := by
 obtain ⟨y0, y1, m, he, hl, h0, h1⟩ := trod_struct2 underlying170 h;rw [show prog.cellsOf 170 = 2 by kernel_rfl] at hl;obtain ⟨s, c0, rfl, _⟩ := DataW.trod_int underlying150 h0;obtain ⟨z, c1, rfl, _⟩ := DataW.trod_int underlying150 h1;have e1 : s = a /\ z = b := by
  have := congrArg Prod.fst he;simp at this;exact ⟨this.1.symm, this.2.symm⟩
 obtain ⟨rfl, rfl⟩ := e1
 match x, hl with
 | [a0, a1], _ =>
  have k1 : prog.cellsOf 150 = 1 := by kernel_rfl
  rw [k1] at c0 c1;simp at c0 c1;rw [c0, c1]
def escD : DataW Unit := .agg [.agg [.lit (.int .u8 34), .lit (.int .u8 34)], .agg [.lit (.int .u8 92), .lit (.int .u8 92)], .agg [.lit (.int .u8 110), .lit (.int .u8 10)]]
theorem esc_cells {cs : List Value} {w : World} {fuel : Nat} {q : List MemPlace}
  (h : DataW.trod (fun _ => ()) prog w 0 (fun _ => true) false fuel 171 cs = some (escD, q)) : cs = ecs.toList := by
 have hlen : cs.length = 6 := by
  cases fuel with
  | zero => simp [DataW.trod] at h
  | succ n =>
   unfold DataW.trod at h;rw [underlying171] at h;simp only at h
   split at h
   ·rename_i hl
    rw [hl]
    kernel_rfl
   ·cases h
 have kc : prog.cellsOf 170 = 2 := by kernel_rfl
 have E : ∀ (i : Nat) (a b : Int), i < 3 -> ([.agg [.lit (.int .u8 34), .lit (.int .u8 34)], .agg [.lit (.int .u8 92), .lit (.int .u8 92)], .agg [.lit (.int .u8 110), .lit (.int .u8 10)]] : List (DataW Unit))[i]? = some (.agg [.lit (.int .u8 a), .lit (.int .u8 b)]) -> (cs.drop (i * 2)).take 2 = [.int .u8 a, .int .u8 b] := by
  intro i a b hi hd;obtain ⟨f', d, q', h1, h2⟩ := array_elem underlying171 h i hi;rw [hd] at h1;obtain rfl := Option.some.inj h1;rw [kc] at h2;exact cell_esc h2
 have e0 := E 0 _ _ (by omega) rfl;have e1 := E 1 _ _ (by omega) rfl;have e2 := E 2 _ _ (by omega) rfl;clear E h
 match cs, hlen with
 | [a0, a1, a2, a3, a4, a5], _ =>
  simp at e0 e1 e2;rw [e0.1, e0.2, e1.1, e1.2, e2.1, e2.2]
  rfl
theorem heap_of_varL {w : World} {name : String} {g : Nat} {cs : Array Value} (hg : prog.globalNamed name = some g) (h : w.var? prog name = some cs) : ∃ t fr, w.heap[g]? = some (.cells cs t fr) := by
 unfold World.var? at h;rw [hg] at h;simp only [Option.bind_some] at h
 split at h
 ·rename_i c t fr e
  cases h
  exact ⟨t, fr, e⟩
 ·cases h
def errD : DataW Unit := .iface "*errors.errorString" (.ptr (.agg [.lit (.string [118, 97, 108, 117, 101, 32, 111, 117, 116, 32, 111, 102, 32, 114, 97, 110, 103, 101])]))
theorem err_cells {cs : List Value} {w : World} {fuel : Nat} {q : List MemPlace} {d : DataW Unit} {nm : String}
  (h : DataW.trod (fun _ => ()) prog w 0 (fun _ => true) false fuel 73 cs = some (.iface nm d, q)) : ∃ te pe, cs = [.iface te pe] := by
 cases fuel with
 | zero => simp [DataW.trod] at h
 | succ n =>
  unfold DataW.trod at h;rw [underlying73] at h;simp only at h
  split at h
  all_goals first | (exact ⟨_, _, rfl⟩) | (rename_i e1; cases e1; done) | (rename_i e1 e2; cases e1; done) | (cases h; done) | (simp at h; done)
theorem er_of_reads {w : World} (h1 : VarReads prog w "strconv.ErrRange" errD) : Er w := by
 obtain ⟨g, t, cs, fuel, p, hg, hty, hvar, hd⟩ := h1;obtain rfl := Option.some.inj ((show prog.globalNamed "strconv.ErrRange" = some 11 by kernel_rfl).symm.trans hg);obtain rfl := Option.some.inj ((show (prog.globals[11]?).map (·.type) = some 73 by kernel_rfl).symm.trans hty);obtain ⟨te, pe, e⟩ := err_cells hd;obtain ⟨ty, fr, hh⟩ := heap_of_varL hg hvar;have hc : cs = #[.iface te pe] := Array.toList_inj.1 e;subst hc;exact ⟨.iface te pe, (cell_of_row w _ 0 _ ty fr hh).trans rfl, .inr ⟨te, pe, rfl⟩⟩
def sortsL : List ByteArray := [Ps.theEnd, Ps.aName, Ps.aClass, ⟨#[]⟩, Ps.anInt, Ps.aReal, Ps.aStr]
def sortsD : DataW Unit := .agg (sortsL.map fun s => .lit (.string s.data.toList))
theorem cell_str {x : List Value} {w : World} {fuel : Nat} {b : List UInt8} {q : List MemPlace} (h : DataW.trod (fun _ => ()) prog w 0 (fun _ => true) false fuel 9 x = some (.lit (.string b), q)) : x = [.string ⟨b.toArray⟩] := by
 obtain ⟨s, c0, he, _⟩ := DataW.trod_string underlying9 h;have e : s.data.toList = b := by
  have := congrArg id he;simp at this;exact this.1.symm
 subst e;exact c0
theorem sorts_cells {cs : List Value} {w : World} {fuel : Nat} {q : List MemPlace}
  (h : DataW.trod (fun _ => ()) prog w 0 (fun _ => true) false fuel 167 cs = some (sortsD, q)) : cs = sortsL.map Value.string := by
 have hlen : cs.length = 7 := by
  cases fuel with
  | zero => simp [DataW.trod] at h
  | succ n =>
   unfold DataW.trod at h;rw [underlying167] at h;simp only at h
   split at h
   ·rename_i hl
    rw [hl]
    kernel_rfl
   ·cases h
 have kc : prog.cellsOf 9 = 1 := by kernel_rfl
 have E : ∀ (i : Nat) (b : List UInt8), i < 7 -> (sortsL.map fun s => (DataW.lit (.string s.data.toList) : DataW Unit))[i]? = some (.lit (.string b)) -> (cs.drop (i * 1)).take 1 = [.string ⟨b.toArray⟩] := by
  intro i b hi hd;obtain ⟨f', d, q', h1, h2⟩ := array_elem underlying167 h i hi;rw [hd] at h1;obtain rfl := Option.some.inj h1;rw [kc] at h2;exact cell_str h2
 have e0 := E 0 _ (by omega) rfl;have e1 := E 1 _ (by omega) rfl;have e2 := E 2 _ (by omega) rfl;have e3 := E 3 _ (by omega) rfl;have e4 := E 4 _ (by omega) rfl;have e5 := E 5 _ (by omega) rfl;have e6 := E 6 _ (by omega) rfl;clear E h
 match cs, hlen with
 | [a0, a1, a2, a3, a4, a5, a6], _ =>
  simp at e0 e1 e2 e3 e4 e5 e6;rw [e0, e1, e2, e3, e4, e5, e6]
  rfl
theorem ptab_of_reads {w : World} (h1 : VarReads prog w "strings.asciiSpace" (tabData .u8 spl)) (h0 : VarReads prog w "chaperon/words.bases" basesD) (h2 : VarReads prog w "chaperon/lexer.escapes" escD)
  (h3 : VarReads prog w "strconv.ErrRange" errD) (h4 : VarReads prog w "chaperon/parser.sorts" sortsD) : PTab w := by
 refine ⟨⟨?_, ?_, ?_⟩, er_of_reads h3, ?_⟩
 ·obtain ⟨g, t, cs, fuel, p, hg, hty, hvar, hd⟩ := h0;obtain rfl := Option.some.inj ((show prog.globalNamed "chaperon/words.bases" = some 4 by kernel_rfl).symm.trans hg);obtain rfl := Option.some.inj ((show (prog.globals[4]?).map (·.type) = some 178 by kernel_rfl).symm.trans hty);have e := bases_cells hd;obtain rfl : cs = bcs := Array.toList_inj.1 e;exact heap_of_varL hg hvar
 ·obtain ⟨g, t, cs, fuel, p, hg, hty, hvar, hd⟩ := h1;obtain rfl := Option.some.inj ((show prog.globalNamed "strings.asciiSpace" = some 0 by kernel_rfl).symm.trans hg);obtain rfl := Option.some.inj ((show (prog.globals[0]?).map (·.type) = some 158 by kernel_rfl).symm.trans hty);have e := cells_of_tab underlying158 underlying5 (by kernel_rfl) (by kernel_rfl) hd;obtain rfl : cs = spcs := Array.toList_inj.1 (e.trans (by unfold spcs; simp));exact heap_of_varL hg hvar
 ·obtain ⟨g, t, cs, fuel, p, hg, hty, hvar, hd⟩ := h2;obtain rfl := Option.some.inj ((show prog.globalNamed "chaperon/lexer.escapes" = some 2 by kernel_rfl).symm.trans hg);obtain rfl := Option.some.inj ((show (prog.globals[2]?).map (·.type) = some 171 by kernel_rfl).symm.trans hty);have e := esc_cells hd;obtain rfl : cs = ecs := Array.toList_inj.1 e;exact heap_of_varL hg hvar
 ·obtain ⟨g, t, cs, fuel, p, hg, hty, hvar, hd⟩ := h4;obtain rfl := Option.some.inj ((show prog.globalNamed "chaperon/parser.sorts" = some 1 by kernel_rfl).symm.trans hg);obtain rfl := Option.some.inj ((show (prog.globals[1]?).map (·.type) = some 167 by kernel_rfl).symm.trans hty);have e := sorts_cells hd;obtain rfl : cs = (sortsL.map Value.string).toArray := Array.toList_inj.1 e;exact heap_of_varL hg hvar
theorem pw_of_reads {w : World} (h1 : VarReads prog w "internal/strconv.uint64pow10" (tabData .u64 Lib.pow10Tab)) : Pw w := by
 obtain ⟨g, t, cs, fuel, p, hg, hty, hvar, hd⟩ := h1;obtain rfl := Option.some.inj ((show prog.globalNamed "internal/strconv.uint64pow10" = some 7 by kernel_rfl).symm.trans hg);obtain rfl := Option.some.inj ((show (prog.globals[7]?).map (·.type) = some 209 by kernel_rfl).symm.trans hty);have e := cells_of_tab underlying209 underlying181 (by kernel_rfl) (by kernel_rfl) hd;unfold Pw Lib.TabIs;rw [hvar, <- e]
end Go.Proofs.YtegcgflhgfmkpaaGreatDoor
