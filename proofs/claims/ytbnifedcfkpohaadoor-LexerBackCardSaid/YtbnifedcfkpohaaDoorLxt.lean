/- From what a row lists to what the walks ask: the lexer's escapes, which bytes are blanks, the library's error and its powers of ten. -/
import Derived.Test.YtbnifedcfkpohaaDoorLxf
import Derived.Lib.LaidTab
import Derived.Lib.LaidU8
import Derived.ChangeSame
import Derived.Deep.Slices
import Derived.Deep.Fields
import Derived.ProofKit
import Derived.OpenShut
import Derived.ShutString
import Derived.Carry
set_option linter.unusedSimpArgs false
set_option linter.unusedVariables false
set_option maxRecDepth 100000
namespace Go.Proofs.YtbnifedcfkpohaaDoor
open Go.ChangeShapes Go.WideShapes Go.ChangeAt Go.RowKit Go.Lib

theorem cell_esc {x : List Value} {w : World} {fuel : Nat} {a b : Int} {q : List MemPlace}
    (h : DataW.trod (fun _ => ()) Tryd.prog w 0 (fun _ => true) false fuel 75 x = some (.agg [.lit (.int .u8 a), .lit (.int .u8 b)], q)) : x = [.int .u8 a, .int .u8 b] := by
  obtain ⟨y0, y1, m, he, hl, h0, h1⟩ := trod_struct2 Tryd.underlying75 h
  rw [show Tryd.prog.cellsOf 75 = 2 by kernel_rfl] at hl
  obtain ⟨s, c0, rfl, _⟩ := DataW.trod_int Tryd.underlying71 h0
  obtain ⟨z, c1, rfl, _⟩ := DataW.trod_int Tryd.underlying71 h1
  have e1 : s = a ∧ z = b := by
    have := congrArg Prod.fst he
    simp at this
    exact ⟨this.1.symm, this.2.symm⟩
  obtain ⟨rfl, rfl⟩ := e1
  match x, hl with
  | [a0, a1], _ =>
    have k1 : Tryd.prog.cellsOf 71 = 1 := by kernel_rfl
    rw [k1] at c0 c1
    simp at c0 c1
    rw [c0, c1]

def escD : DataW Unit := .agg [.agg [.lit (.int .u8 34), .lit (.int .u8 34)], .agg [.lit (.int .u8 92), .lit (.int .u8 92)], .agg [.lit (.int .u8 110), .lit (.int .u8 10)]]

theorem esc_cells {cs : List Value} {w : World} {fuel : Nat} {q : List MemPlace}
    (h : DataW.trod (fun _ => ()) Tryd.prog w 0 (fun _ => true) false fuel 76 cs = some (escD, q)) : cs = ecs.toList := by
  have hlen : cs.length = 6 := by
    cases fuel with
    | zero => simp [DataW.trod] at h
    | succ n =>
      unfold DataW.trod at h
      rw [Tryd.underlying76] at h
      simp only at h
      split at h
      · rename_i hl
        rw [hl]
        kernel_rfl
      · cases h
  have kc : Tryd.prog.cellsOf 75 = 2 := by kernel_rfl
  have E : ∀ (i : Nat) (a b : Int), i < 3 → ([.agg [.lit (.int .u8 34), .lit (.int .u8 34)], .agg [.lit (.int .u8 92), .lit (.int .u8 92)], .agg [.lit (.int .u8 110), .lit (.int .u8 10)]] : List (DataW Unit))[i]? = some (.agg [.lit (.int .u8 a), .lit (.int .u8 b)]) → (cs.drop (i * 2)).take 2 = [.int .u8 a, .int .u8 b] := by
    intro i a b hi hd
    obtain ⟨f', d, q', h1, h2⟩ := array_elem Tryd.underlying76 h i hi
    rw [hd] at h1
    obtain rfl := Option.some.inj h1
    rw [kc] at h2
    exact cell_esc h2
  have e0 := E 0 _ _ (by omega) rfl
  have e1 := E 1 _ _ (by omega) rfl
  have e2 := E 2 _ _ (by omega) rfl
  clear E h
  match cs, hlen with
  | [a0, a1, a2, a3, a4, a5], _ =>
    simp at e0 e1 e2
    rw [e0.1, e0.2, e1.1, e1.2, e2.1, e2.2]
    rfl

theorem heap_of_varL {w : World} {name : String} {g : Nat} {cs : Array Value} (hg : Tryd.prog.globalNamed name = some g) (h : w.var? Tryd.prog name = some cs) : ∃ t fr, w.heap[g]? = some (.cells cs t fr) := by
  unfold World.var? at h
  rw [hg] at h
  simp only [Option.bind_some] at h
  split at h
  · rename_i c t fr e
    cases h
    exact ⟨t, fr, e⟩
  · cases h

theorem tb_of_readsL {w : World} (h1 : VarReads Tryd.prog w "strings.asciiSpace" (tabData .u8 spl)) (h0 : VarReads Tryd.prog w "chaperon/lexer.escapes" escD) : Tb w := by
  constructor
  · obtain ⟨g, t, cs, fuel, p, hg, hty, hvar, hd⟩ := h0
    obtain rfl := Option.some.inj ((show Tryd.prog.globalNamed "chaperon/lexer.escapes" = some 0 by kernel_rfl).symm.trans hg)
    obtain rfl := Option.some.inj ((show (Tryd.prog.globals[0]?).map (·.type) = some 76 by kernel_rfl).symm.trans hty)
    have e := esc_cells hd
    obtain rfl : cs = ecs := Array.toList_inj.1 e
    exact heap_of_varL hg hvar
  · obtain ⟨g, t, cs, fuel, p, hg, hty, hvar, hd⟩ := h1
    obtain rfl := Option.some.inj ((show Tryd.prog.globalNamed "strings.asciiSpace" = some 1 by kernel_rfl).symm.trans hg)
    obtain rfl := Option.some.inj ((show (Tryd.prog.globals[1]?).map (·.type) = some 93 by kernel_rfl).symm.trans hty)
    have e := cells_of_tab Tryd.underlying93 Tryd.underlying5 (by kernel_rfl) (by kernel_rfl) hd
    obtain rfl : cs = spcs := Array.toList_inj.1 (e.trans (by unfold spcs; simp))
    exact heap_of_varL hg hvar

theorem pw_of_reads {w : World} (h1 : VarReads Tryd.prog w "internal/strconv.uint64pow10" (tabData .u64 Lib.pow10Tab)) : Pw w := by
  obtain ⟨g, t, cs, fuel, p, hg, hty, hvar, hd⟩ := h1
  obtain rfl := Option.some.inj ((show Tryd.prog.globalNamed "internal/strconv.uint64pow10" = some 2 by kernel_rfl).symm.trans hg)
  obtain rfl := Option.some.inj ((show (Tryd.prog.globals[2]?).map (·.type) = some 98 by kernel_rfl).symm.trans hty)
  have e := cells_of_tab Tryd.underlying98 Tryd.underlying86 (by kernel_rfl) (by kernel_rfl) hd
  unfold Pw Lib.TabIs
  rw [hvar, ← e]

def errD : DataW Unit := .iface "*errors.errorString" (.ptr (.agg [.lit (.string [118, 97, 108, 117, 101, 32, 111, 117, 116, 32, 111, 102, 32, 114, 97, 110, 103, 101])]))

theorem err_cells {cs : List Value} {w : World} {fuel : Nat} {q : List MemPlace} {d : DataW Unit} {nm : String}
    (h : DataW.trod (fun _ => ()) Tryd.prog w 0 (fun _ => true) false fuel 50 cs = some (.iface nm d, q)) : ∃ te pe, cs = [.iface te pe] := by
  cases fuel with
  | zero => simp [DataW.trod] at h
  | succ n =>
    unfold DataW.trod at h
    rw [Tryd.underlying50] at h
    simp only at h
    split at h
    all_goals first | (exact ⟨_, _, rfl⟩) | (rename_i e1; cases e1; done) | (rename_i e1 e2; cases e1; done) | (cases h; done) | (simp at h; done)

theorem er_of_reads {w : World} (h1 : VarReads Tryd.prog w "strconv.ErrRange" errD) : Er w := by
  obtain ⟨g, t, cs, fuel, p, hg, hty, hvar, hd⟩ := h1
  obtain rfl := Option.some.inj ((show Tryd.prog.globalNamed "strconv.ErrRange" = some 5 by kernel_rfl).symm.trans hg)
  obtain rfl := Option.some.inj ((show (Tryd.prog.globals[5]?).map (·.type) = some 50 by kernel_rfl).symm.trans hty)
  obtain ⟨te, pe, e⟩ := err_cells hd
  obtain ⟨ty, fr, hh⟩ := heap_of_varL hg hvar
  have hc : cs = #[.iface te pe] := Array.toList_inj.1 e
  subst hc
  exact ⟨.iface te pe, (cell_of_row w _ 0 _ ty fr hh).trans rfl, .inr ⟨te, pe, rfl⟩⟩

end Go.Proofs.YtbnifedcfkpohaaDoor
