/- From what a row lists to what the parser's walks ask: the words' and the lexer's tables, which bytes are blanks, the library's error, the parser's names of tokens. -/
import Derived.Test.YtfpklgffdniegaaGreatDoorQw32
import Derived.Lib.LaidTab
import Derived.Lib.LaidU8
import Derived.ChangeSame
import Derived.Deep.Slices
import Derived.Deep.Fields
import Derived.ProofKit
import Derived.OpenShut
import Derived.ShutString
import Derived.Carry
import Derived.Test.YtfpklgffdniegaaGreatDoorQw30
set_option linter.unusedSimpArgs false
set_option linter.unusedVariables false
set_option maxRecDepth 100000
namespace Go.Proofs.YtfpklgffdniegaaGreatDoor
open Go.ChangeShapes Go.WideShapes Go.ChangeAt Go.RowKit Go.Lib
theorem cell_two {x : List Value} {w : World} {fuel : Nat} {b : List UInt8} {n : Int} {q : List MemPlace}
  (h : DataW.trod (fun _ => ()) Tryz.prog w 0 (fun _ => true) false fuel 182 x = some (.agg [.lit (.string b), .lit (.int .i64 n)], q)) : x = [.string ⟨b.toArray⟩, .int .i64 n] := by
 obtain ⟨y0, y1, m, he, hl, h0, h1⟩ := trod_struct2 Tryz.underlying182 h
 rw [show Tryz.prog.cellsOf 182 = 2 by kernel_rfl] at hl
 obtain ⟨s, c0, rfl, _⟩ := DataW.trod_string Tryz.underlying9 h0
 obtain ⟨z, c1, rfl, _⟩ := DataW.trod_int Tryz.underlying3 h1
 have e1 : s.data.toList = b ∧ z = n := by
  have := congrArg Prod.fst he
  simp at this
  exact ⟨this.1.symm, this.2.symm⟩
 obtain ⟨rfl, rfl⟩ := e1
 match x, hl with
 | [a0, a1], _ =>
  have k1 : Tryz.prog.cellsOf 9 = 1 := by kernel_rfl
  have k2 : Tryz.prog.cellsOf 3 = 1 := by kernel_rfl
  rw [k1] at c0
  rw [k2] at c1
  simp at c0 c1
  rw [c0, c1]
def basesD : DataW Unit := .agg (Wrd.bs.zipIdx.map fun x => .agg [.lit (.string x.1.data.toList), .lit (.int .i64 (x.2 + 1))])
theorem bases_cells {cs : List Value} {w : World} {fuel : Nat} {q : List MemPlace}
  (h : DataW.trod (fun _ => ()) Tryz.prog w 0 (fun _ => true) false fuel 183 cs = some (basesD, q)) : cs = bcs.toList := by
 have hlen : cs.length = 10 := by
  cases fuel with
  | zero => simp [DataW.trod] at h
  | succ n =>
   unfold DataW.trod at h
   rw [Tryz.underlying183] at h
   simp only at h
   split at h
   ·rename_i hl
    rw [hl]
    kernel_rfl
   ·cases h
 have kc : Tryz.prog.cellsOf 182 = 2 := by kernel_rfl
 have E : ∀ (i : Nat) (b : List UInt8) (n : Int), i < 5 → (Wrd.bs.zipIdx.map fun x => (DataW.agg [.lit (.string x.1.data.toList), .lit (.int .i64 (x.2 + 1))] : DataW Unit))[i]? = some (.agg [.lit (.string b), .lit (.int .i64 n)]) → (cs.drop (i * 2)).take 2 = [.string ⟨b.toArray⟩, .int .i64 n] := by
  intro i b n hi hd
  obtain ⟨f', d, q', h1, h2⟩ := array_elem Tryz.underlying183 h i hi
  rw [hd] at h1
  obtain rfl := Option.some.inj h1
  rw [kc] at h2
  exact cell_two h2
 have e0 := E 0 _ _ (by omega) rfl
 have e1 := E 1 _ _ (by omega) rfl
 have e2 := E 2 _ _ (by omega) rfl
 have e3 := E 3 _ _ (by omega) rfl
 have e4 := E 4 _ _ (by omega) rfl
 clear E h
 match cs, hlen with
 | [a0, a1, a2, a3, a4, a5, a6, a7, a8, a9], _ =>
  simp at e0 e1 e2 e3 e4
  rw [e0.1, e0.2, e1.1, e1.2, e2.1, e2.2, e3.1, e3.2, e4.1, e4.2]
  rfl
theorem cell_esc {x : List Value} {w : World} {fuel : Nat} {a b : Int} {q : List MemPlace}
  (h : DataW.trod (fun _ => ()) Tryz.prog w 0 (fun _ => true) false fuel 176 x = some (.agg [.lit (.int .u8 a), .lit (.int .u8 b)], q)) : x = [.int .u8 a, .int .u8 b] := by
 obtain ⟨y0, y1, m, he, hl, h0, h1⟩ := trod_struct2 Tryz.underlying176 h
 rw [show Tryz.prog.cellsOf 176 = 2 by kernel_rfl] at hl
 obtain ⟨s, c0, rfl, _⟩ := DataW.trod_int Tryz.underlying164 h0
 obtain ⟨z, c1, rfl, _⟩ := DataW.trod_int Tryz.underlying164 h1
 have e1 : s = a ∧ z = b := by
  have := congrArg Prod.fst he
  simp at this
  exact ⟨this.1.symm, this.2.symm⟩
 obtain ⟨rfl, rfl⟩ := e1
 match x, hl with
 | [a0, a1], _ =>
  have k1 : Tryz.prog.cellsOf 164 = 1 := by kernel_rfl
  rw [k1] at c0 c1
  simp at c0 c1
  rw [c0, c1]
def escD : DataW Unit := .agg [.agg [.lit (.int .u8 34), .lit (.int .u8 34)], .agg [.lit (.int .u8 92), .lit (.int .u8 92)], .agg [.lit (.int .u8 110), .lit (.int .u8 10)]]
theorem esc_cells {cs : List Value} {w : World} {fuel : Nat} {q : List MemPlace}
  (h : DataW.trod (fun _ => ()) Tryz.prog w 0 (fun _ => true) false fuel 177 cs = some (escD, q)) : cs = ecs.toList := by
 have hlen : cs.length = 6 := by
  cases fuel with
  | zero => simp [DataW.trod] at h
  | succ n =>
   unfold DataW.trod at h
   rw [Tryz.underlying177] at h
   simp only at h
   split at h
   ·rename_i hl
    rw [hl]
    kernel_rfl
   ·cases h
 have kc : Tryz.prog.cellsOf 176 = 2 := by kernel_rfl
 have E : ∀ (i : Nat) (a b : Int), i < 3 → ([.agg [.lit (.int .u8 34), .lit (.int .u8 34)], .agg [.lit (.int .u8 92), .lit (.int .u8 92)], .agg [.lit (.int .u8 110), .lit (.int .u8 10)]] : List (DataW Unit))[i]? = some (.agg [.lit (.int .u8 a), .lit (.int .u8 b)]) → (cs.drop (i * 2)).take 2 = [.int .u8 a, .int .u8 b] := by
  intro i a b hi hd
  obtain ⟨f', d, q', h1, h2⟩ := array_elem Tryz.underlying177 h i hi
  rw [hd] at h1
  obtain rfl := Option.some.inj h1
  rw [kc] at h2
  exact cell_esc h2
 have e0 := E 0 _ _ (by omega) rfl
 have e1 := E 1 _ _ (by omega) rfl
 have e2 := E 2 _ _ (by omega) rfl
 clear E h
 match cs, hlen with
 | [a0, a1, a2, a3, a4, a5], _ =>
  simp at e0 e1 e2
  rw [e0.1, e0.2, e1.1, e1.2, e2.1, e2.2]
  rfl
theorem heap_of_varL {w : World} {name : String} {g : Nat} {cs : Array Value} (hg : Tryz.prog.globalNamed name = some g) (h : w.var? Tryz.prog name = some cs) : ∃ t fr, w.heap[g]? = some (.cells cs t fr) := by
 unfold World.var? at h
 rw [hg] at h
 simp only [Option.bind_some] at h
 split at h
 ·rename_i c t fr e
  cases h
  exact ⟨t, fr, e⟩
 ·cases h
def errD : DataW Unit := .iface "*errors.errorString" (.ptr (.agg [.lit (.string [118, 97, 108, 117, 101, 32, 111, 117, 116, 32, 111, 102, 32, 114, 97, 110, 103, 101])]))
theorem err_cells {cs : List Value} {w : World} {fuel : Nat} {q : List MemPlace} {d : DataW Unit} {nm : String}
  (h : DataW.trod (fun _ => ()) Tryz.prog w 0 (fun _ => true) false fuel 83 cs = some (.iface nm d, q)) : ∃ te pe, cs = [.iface te pe] := by
 cases fuel with
 | zero => simp [DataW.trod] at h
 | succ n =>
  unfold DataW.trod at h
  rw [Tryz.underlying83] at h
  simp only at h
  split at h
  all_goals first | (exact ⟨_, _, rfl⟩) | (rename_i e1; cases e1; done) | (rename_i e1 e2; cases e1; done) | (cases h; done) | (simp at h; done)
theorem er_of_reads {w : World} (h1 : VarReads Tryz.prog w "strconv.ErrRange" errD) : Er w := by
 obtain ⟨g, t, cs, fuel, p, hg, hty, hvar, hd⟩ := h1
 obtain rfl := Option.some.inj ((show Tryz.prog.globalNamed "strconv.ErrRange" = some 9 by kernel_rfl).symm.trans hg)
 obtain rfl := Option.some.inj ((show (Tryz.prog.globals[9]?).map (·.type) = some 83 by kernel_rfl).symm.trans hty)
 obtain ⟨te, pe, e⟩ := err_cells hd
 obtain ⟨ty, fr, hh⟩ := heap_of_varL hg hvar
 have hc : cs = #[.iface te pe] := Array.toList_inj.1 e
 subst hc
 exact ⟨.iface te pe, (cell_of_row w _ 0 _ ty fr hh).trans rfl, .inr ⟨te, pe, rfl⟩⟩
theorem pw_of_reads {w : World} (h1 : VarReads Tryz.prog w "internal/strconv.uint64pow10" (tabData .u64 Lib.pow10Tab)) : Pw w := by
 obtain ⟨g, t, cs, fuel, p, hg, hty, hvar, hd⟩ := h1
 obtain rfl := Option.some.inj ((show Tryz.prog.globalNamed "internal/strconv.uint64pow10" = some 7 by kernel_rfl).symm.trans hg)
 obtain rfl := Option.some.inj ((show (Tryz.prog.globals[7]?).map (·.type) = some 214 by kernel_rfl).symm.trans hty)
 have e := cells_of_tab Tryz.underlying214 Tryz.underlying189 (by kernel_rfl) (by kernel_rfl) hd
 unfold Pw Lib.TabIs
 rw [hvar, ← e]
end Go.Proofs.YtfpklgffdniegaaGreatDoor
