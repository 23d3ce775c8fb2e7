/- SameNode at two trees that are the same (as in Nsa): true. -/
import Derived.Test.YtfpklgffdniegaaGreatDoorQw29
import Derived.Test.YtfpklgffdniegaaGreatDoorQw31
import Derived.Test.YtfpklgffdniegaaGreatDoorQw3
import Derived.Test.YtfpklgffdniegaaGreatDoorQw28
set_option linter.unusedSimpArgs false
set_option linter.unusedVariables false
set_option maxRecDepth 100000
namespace Go.Proofs.YtfpklgffdniegaaGreatDoor
open Go.ChangeShapes Go.WideShapes Go.ChangeAt Go.RowKit Go.Shelf
attribute [local go_sem] Oper.semAt_some
-- open
theorem chkF_zero : ∀ (l : List (Nat × Nd)) (k : Nat), (chkF k l).1 = 0 → chkF k l = (0, 0)
 | [], k, _ => rfl
 | p :: r, k, h => by
  rw [chkF] at h ⊢
  split at h
  ·cases h
  ·rename_i h1
   rw [if_neg h1]
   split at h
   ·rename_i h2; exact absurd h h2
   ·rename_i h2
    rw [if_neg h2]
    exact chkF_zero r _ h
theorem check_zero {x : Nd} (h : (checkE x).1 = 0) : checkE x = (0, 0) := by
 unfold checkE at h ⊢
 split at h
 ·rename_i h1; exact absurd h h1
 ·rename_i h1
  rw [if_neg h1]
  exact chkF_zero _ _ h
end Go.Proofs.YtfpklgffdniegaaGreatDoor
namespace Go.Proofs.YtfpklgffdniegaaGreatDoor
open Ps (kDot kOpen kShut kEq kComma kSemi kLeft kRight kColon kAny)
/-! ### A tree without fault -/
theorem chkF_all : ∀ (l : List (Nat × Nd)) (k : Nat), (chkF k l).1 = 0 → ∀ p ∈ l, nodeE p.2 = 0
 | [], _, _, p, hp => by cases hp
 | q :: r, k, h, p, hp => by
  rw [chkF] at h
  split at h
  ·cases h
  ·split at h
   ·rename_i h2; exact absurd h h2
   ·rename_i h2
    rcases List.mem_cons.1 hp with rfl | hp
    ·simpa using h2
    ·exact chkF_all r _ h p hp
theorem mem_allL {y : Nd} : ∀ {l : List Nd} {a : Nat} {p : Nat × Nd}, y ∈ l → p ∈ y.all a → p ∈ Nd.allL l a
 | x :: r, a, p, hy, hp => by
  rw [Nd.allL_cons, List.mem_append]
  rcases List.mem_cons.1 hy with rfl | hy
  ·exact .inl hp
  ·exact .inr (mem_allL hy hp)
theorem wf_all (x : Nd) : ∀ a, (∀ p ∈ x.all a, nodeE p.2 = 0) → Wf x := by
 refine Nd.ind (P := fun x => ∀ a, (∀ p ∈ x.all a, nodeE p.2 = 0) → Wf x) (fun x ih a h => ?_) x
 rw [Nd.all_eq] at h
 exact .mk x (node_sh (h (a, x) (by simp))) fun y hy => ih y hy (a + 1) fun p hp => h p (List.mem_cons_of_mem _ (mem_allL hy hp))
theorem check_wf {x : Nd} (h : (checkE x).1 = 0) : Wf x ∧ x.kind = 1 ∧ x.count ≤ 5000 := by
 unfold checkE at h
 split at h
 ·rename_i h1; exact absurd h h1
 ·rename_i h1
  refine ⟨wf_all x 0 (chkF_all _ _ h), ?_, ?_⟩
  ·rw [Nd.all_eq, chkF] at h
   split at h
   ·cases h
   ·rename_i h2
    exact Decidable.byContradiction fun hc => h2 ⟨rfl, hc⟩
  ·unfold sizeE at h1
   split at h1
   ·exact absurd (show ((12 : Int), (0 : Int)).1 ≠ 0 by decide) h1
   ·omega
namespace Pr
open Lx (spl isTok)
/-! ### Tokens -/
def All (l : List T) : Prop := ∀ t ∈ l, isTok t = true
theorem all_nil : All [] := fun t h => by cases h
theorem all_cons {t : T} {l : List T} (h : isTok t = true) (k : All l) : All (t :: l) := fun u hu => by
 rcases List.mem_cons.1 hu with rfl | hu
 ·exact h
 ·exact k u hu
theorem all_app {l m : List T} (h : All l) (k : All m) : All (l ++ m) := fun u hu => by
 rcases List.mem_append.1 hu with hu | hu
 ·exact h u hu
 ·exact k u hu
theorem sg_ok {x : ByteArray} (h : x ∈ Lx.sw) : isTok (sgn x) = true := Lx.isTok_sgns x h
theorem ky_ok {x : ByteArray} (h : x ∈ Wrd.ws) : isTok (key x) = true := Lx.isTok_keys x h
theorem nm_ok {x : ByteArray} (h : Wrd.name x = true) : isTok (nam x) = true := Lx.isTok_name h
theorem cl_ok {x : ByteArray} (h : Wrd.cls x = true) : isTok (tk 2 x 0) = true := Lx.isTok_cls h
theorem ty_ok {y : ByteArray} (h : Wrd.typ y = true) : isTok (typT y) = true := by
 rcases typ_three h with hb | rfl | hc
 ·have : typT y = key y := by unfold typT; rw [hb, if_pos rfl]
  rw [this]
  unfold isBase at hb
  simp only [Bool.or_eq_true, decide_eq_true_eq] at hb
  rcases hb with (((rfl | rfl) | rfl) | rfl) | rfl <;> exact ky_ok (by simp [Wrd.ws, Nd.text])
 ·exact sg_ok (by simp [Lx.sw, Nd.text])
 ·rw [typT_cls hc]; exact cl_ok hc
theorem tc_ok {y : ByteArray} (h : Wrd.cls y = true) : isTok (typT y) = true := by rw [typT_cls h]; exact cl_ok h
theorem ann_ok {y om : ByteArray} (h : y = om ∨ isTok (typT y) = true) : All (ann y om) := by
 unfold ann
 by_cases hy : y = om
 ·rw [if_pos hy]; exact all_nil
 ·rw [if_neg hy]
  exact all_cons (sg_ok (by simp [Lx.sw, Nd.text])) (all_cons (h.resolve_left hy) all_nil)
theorem sep_ok {s : List T} (hs : All s) : ∀ {l : List Kd}, (∀ p ∈ l, All p.2) → All (sep s l)
 | [], _ => all_nil
 | [p], h => h p (by simp)
 | p :: q :: r, h => all_app (all_app (h p (by simp)) hs) (sep_ok hs (l := q :: r) fun z hz => h z (List.mem_cons_of_mem _ hz))
theorem brk_ok {l : List Kd} (h : ∀ p ∈ l, All p.2) : All (brk l) := all_app (all_cons (sg_ok (by simp [Lx.sw, Nd.text])) (sep_ok (all_cons (sg_ok (by simp [Lx.sw, Nd.text])) all_nil) h)) (all_cons (sg_ok (by simp [Lx.sw, Nd.text])) all_nil)
theorem at_ok {i : Int} {p : Kd} (h : All p.2) : All (at1 i p) := by
 unfold at1
 split
 ·exact all_app (all_cons (sg_ok (by simp [Lx.sw, Nd.text])) h) (all_cons (sg_ok (by simp [Lx.sw, Nd.text])) all_nil)
 ·exact h
theorem ct_ok {t : ByteArray} (h : contsB t = true) (hs : t.size ≤ 1000) : isTok (tk 6 t 0) = true := by
 refine Lx.isTok_str (fun c hc => ?_) hs
 unfold contsB at h
 exact List.all_eq_true.1 h c hc
theorem op_in {t : ByteArray} (h : hasW wBin t = true) : t ∈ Lx.sw := by
 have h : Wrd.has (Wrd.flds wBin) t = true := h
 rw [flds_bin] at h
 unfold Wrd.has at h
 simp only [List.any_cons, List.any_nil, Bool.or_eq_true, decide_eq_true_eq, Bool.or_false] at h
 rcases h with rfl | rfl | rfl | rfl | rfl | rfl | rfl | rfl | rfl | rfl | rfl <;> simp [Lx.sw, Nd.text]
theorem toks_ok (x : Nd) : Wf x → All (toks x) := by
 refine Nd.ind (P := fun x => Wf x → All (toks x)) (fun x ih hw => ?_) x
 have hk : ∀ y ∈ x.kids, All (toks y) := fun y hy => ih y hy (hw.kid hy)
 have hs := hw.sh
 clear ih hw
 have hm : ∀ l : List Nd, (∀ y ∈ l, All (toks y)) → ∀ p ∈ l.map kdN, All p.2 := by
  intro l hl p hp
  obtain ⟨y, hy, rfl⟩ := List.mem_map.1 hp
  exact hl y hy
 rw [toks_eq]
 cases hs with
 | prog cs b h1 h2 =>
  show All (sep [] ((cs ++ [b]).map kdN).dropLast ++ key ⟨#[109, 97, 105, 110]⟩ :: (lastK ((cs ++ [b]).map kdN)).2)
  rw [List.map_append, List.map_cons, List.map_nil, List.dropLast_concat, lastK, List.getLastD_concat]
  exact all_app (sep_ok all_nil (hm cs fun y hy => hk y (by simp [Nd.kids, hy]))) (all_cons (ky_ok (by simp [Wrd.ws, Nd.text])) (hk b (by simp [Nd.kids])))
 | clas t y fs ms ht hy h1 h2 => exact all_app (all_app (all_cons (ky_ok (by simp [Wrd.ws, Nd.text])) (all_cons (tc_ok ht) (ann_ok (hy.imp id tc_ok)))) (all_cons (sg_ok (by simp [Lx.sw, Nd.text])) (sep_ok all_nil (hm _ hk)))) (all_cons (sg_ok (by simp [Lx.sw, Nd.text])) all_nil)
 | field t y ht hy => exact all_app (all_cons (ky_ok (by simp [Wrd.ws, Nd.text])) (all_cons (nm_ok ht) (ann_ok (.inr (ty_ok hy))))) (all_cons (sg_ok (by simp [Lx.sw, Nd.text])) all_nil)
 | method t y ps b ht hy h1 h2 =>
  show All (key ⟨#[100, 101, 102]⟩ :: nam t :: brk ((ps ++ [b]).map kdN).dropLast ++ ann y kAny ++ (lastK ((ps ++ [b]).map kdN)).2)
  rw [List.map_append, List.map_cons, List.map_nil, List.dropLast_concat, lastK, List.getLastD_concat]
  exact all_app (all_app (all_cons (ky_ok (by simp [Wrd.ws, Nd.text])) (all_cons (nm_ok ht) (brk_ok (hm ps fun y hy => hk y (by simp [Nd.kids, hy]))))) (ann_ok (.inr (ty_ok hy)))) (hk b (by simp [Nd.kids]))
 | param t y ht hy => exact all_cons (nm_ok ht) (ann_ok (.inr (ty_ok hy)))
 | block l h => exact all_app (all_cons (sg_ok (by simp [Lx.sw, Nd.text])) (sep_ok (all_cons (sg_ok (by simp [Lx.sw, Nd.text])) all_nil) (hm _ hk))) (all_cons (sg_ok (by simp [Lx.sw, Nd.text])) all_nil)
 | int n h => exact all_cons (Lx.isTok_int h) all_nil
 | real n h => exact all_cons (Lx.isTok_real h) all_nil
 | noNum t h => rcases h with rfl | rfl <;> exact all_cons (ky_ok (by simp [Wrd.ws, Nd.text])) all_nil
 | bool n h => rcases h with rfl | rfl <;> exact all_cons (ky_ok (by simp [Wrd.ws, Nd.text])) all_nil
 | str t h hs => exact all_cons (ct_ok h hs) all_nil
 | unit => exact brk_ok (fun p hp => by cases hp)
 | none y hy => exact all_cons (ky_ok (by simp [Wrd.ws, Nd.text])) (all_cons (tc_ok hy) all_nil)
 | this => exact all_cons (ky_ok (by simp [Wrd.ws, Nd.text])) all_nil
 | var t ht => exact all_cons (nm_ok ht) all_nil
 | let_ t y a ht hy h => exact all_app (all_cons (ky_ok (by simp [Wrd.ws, Nd.text])) (all_cons (nm_ok ht) (ann_ok (.inr (ty_ok hy))))) (all_cons (sg_ok (by simp [Lx.sw, Nd.text])) (hk a (by simp [Nd.kids])))
 | set t a ht h => exact all_cons (nm_ok ht) (all_cons (sg_ok (by simp [Lx.sw, Nd.text])) (hk a (by simp [Nd.kids])))
 | get t a ht h => exact all_app (at_ok (hk a (by simp [Nd.kids]))) (all_cons (sg_ok (by simp [Lx.sw, Nd.text])) (all_cons (nm_ok ht) all_nil))
 | put t a b ht h h2 => exact all_app (at_ok (hk a (by simp [Nd.kids]))) (all_cons (sg_ok (by simp [Lx.sw, Nd.text])) (all_cons (nm_ok ht) (all_cons (sg_ok (by simp [Lx.sw, Nd.text])) (hk b (by simp [Nd.kids])))))
 | call t a l ht h hl => exact all_app (at_ok (hk a (by simp [Nd.kids]))) (all_cons (sg_ok (by simp [Lx.sw, Nd.text])) (all_cons (nm_ok ht) (brk_ok (hm l fun y hy => hk y (by simp [Nd.kids, hy])))))
 | super t l ht hl => exact all_cons (ky_ok (by simp [Wrd.ws, Nd.text])) (all_cons (sg_ok (by simp [Lx.sw, Nd.text])) (all_cons (nm_ok ht) (brk_ok (hm _ hk))))
 | new y l hy hl => exact all_cons (ky_ok (by simp [Wrd.ws, Nd.text])) (all_cons (tc_ok hy) (brk_ok (hm _ hk)))
 | cond a b c h h1 h2 => exact all_app (all_app (all_cons (ky_ok (by simp [Wrd.ws, Nd.text])) (hk a (by simp [Nd.kids]))) (hk b (by simp [Nd.kids]))) (all_cons (ky_ok (by simp [Wrd.ws, Nd.text])) (hk c (by simp [Nd.kids])))
 | loop a b h h1 => exact all_cons (ky_ok (by simp [Wrd.ws, Nd.text])) (sep_ok all_nil (hm _ hk))
 | un t a ht h => exact all_cons (sg_ok (by rcases ht with rfl | rfl <;> simp [Lx.sw, Nd.text])) (at_ok (hk a (by simp [Nd.kids])))
 | bin t a b ht h h2 => exact all_app (at_ok (hk a (by simp [Nd.kids]))) (all_cons (sg_ok (op_in ht)) (at_ok (hk b (by simp [Nd.kids]))))
 | read => exact all_cons (ky_ok (by simp [Wrd.ws, Nd.text])) (brk_ok (fun p hp => by cases hp))
 | print a h => exact all_cons (ky_ok (by simp [Wrd.ws, Nd.text])) (brk_ok (hm _ hk))
 | as_ y a hy h => exact all_app (all_cons (sg_ok (by simp [Lx.sw, Nd.text])) (hk a (by simp [Nd.kids]))) (all_cons (sg_ok (by simp [Lx.sw, Nd.text])) (all_cons (ty_ok hy) (all_cons (sg_ok (by simp [Lx.sw, Nd.text])) all_nil)))
 | conv t a ht h => exact all_cons (ky_ok (by rcases ht with rfl | rfl | rfl <;> simp [Wrd.ws, Nd.text])) (brk_ok (hm _ hk))
end Pr
end Go.Proofs.YtfpklgffdniegaaGreatDoor
namespace Go.Proofs.YtfpklgffdniegaaGreatDoor
open Ps (kDot kOpen kShut kEq kComma kSemi kLeft kRight kColon kAny)
namespace Pr
open Lx (isTok)
def wt (t : T) : Nat := (Lx.spl t).data.toList.length + 1
def W (l : List T) : Nat := (l.map wt).sum
theorem W_app (l m : List T) : W (l ++ m) = W l + W m := by unfold W; rw [List.map_append, List.sum_append]
theorem W_cons (t : T) (l : List T) : W (t :: l) = wt t + W l := by unfold W; rw [List.map_cons, List.sum_cons]
theorem W_len : ∀ l : List T, l.length ≤ W l
 | [] => Nat.zero_le _
 | t :: l => by rw [W_cons, List.length_cons]; have := W_len l; unfold wt; omega
theorem wt_word {k : Int} {x : ByteArray} (hk : k ≠ 4 ∧ k ≠ 5 ∧ k ≠ 6) (h : x.size ≤ 20) : wt (tk k x 0) ≤ 23 := by
 have e : Lx.spl (tk k x 0) = x := by
  show (if k = 4 then _ else if k = 5 then _ else if k = 6 then _ else x) = x
  rw [if_neg hk.1, if_neg hk.2.1, if_neg hk.2.2]
 unfold wt
 rw [e, Array.length_toList]
 show x.size + 1 ≤ 23
 omega
theorem sw_le : ∀ x ∈ Lx.sw, x.size ≤ 20 := by decide +kernel
theorem ws_le : ∀ x ∈ Wrd.ws, x.size ≤ 20 := by decide +kernel
theorem sg_w {x : ByteArray} (h : x ∈ Lx.sw) : wt (sgn x) ≤ 23 := wt_word (by decide) (sw_le x h)
theorem ky_w {x : ByteArray} (h : x ∈ Wrd.ws) : wt (key x) ≤ 23 := wt_word (by decide) (ws_le x h)
theorem name_le {x : ByteArray} (h : Wrd.name x = true) : x.size ≤ 20 := by
 unfold Wrd.name at h
 rw [Bool.and_eq_true] at h
 exact (Lx.spelt_parts h.1).1
theorem cls_le {x : ByteArray} (h : Wrd.cls x = true) : x.size ≤ 20 := (Lx.spelt_parts (show Wrd.spelt x 1 = true from h)).1
theorem nm_w {x : ByteArray} (h : Wrd.name x = true) : wt (nam x) ≤ 23 := wt_word (by decide) (name_le h)
theorem ty_w {y : ByteArray} (h : Wrd.typ y = true) : wt (typT y) ≤ 23 := by
 rcases typ_three h with hb | rfl | hc
 ·have : typT y = key y := by unfold typT; rw [hb, if_pos rfl]
  rw [this]
  unfold isBase at hb
  simp only [Bool.or_eq_true, decide_eq_true_eq] at hb
  rcases hb with (((rfl | rfl) | rfl) | rfl) | rfl <;> exact ky_w (by simp [Wrd.ws])
 ·exact sg_w (by simp [Lx.sw])
 ·rw [typT_cls hc]; exact wt_word (by decide) (cls_le hc)
theorem tc_w {y : ByteArray} (h : Wrd.cls y = true) : wt (typT y) ≤ 23 := by rw [typT_cls h]; exact wt_word (by decide) (cls_le h)
theorem it_w {n : Int} (h : 0 ≤ n ∧ n ≤ 9223372036854775807) : wt (tk 4 Ps.e0 n) ≤ 23 := by
 have := Lib.itoa_length_le n (by omega) h.2
 show (Lib.itoa n).length + 1 ≤ 23
 omega
theorem rl_w {n : Int} (h : 0 ≤ n ∧ n ≤ 9007199254740992) : wt (tk 5 Ps.e0 n) ≤ 23 := by
 have := Lib.itoa_length_le n (by omega) (by omega)
 show (Lib.itoa n ++ [114]).length + 1 ≤ 23
 rw [List.length_append, List.length_singleton]
 omega
theorem st_w {t : ByteArray} (hs : t.size ≤ 1000) : wt (tk 6 t 0) ≤ 2003 := by
 have h1 := Lx.flat_le t.data.toList
 have h2 : t.data.toList.length = t.size := by rw [Array.length_toList]; rfl
 show (34 :: t.data.toList.flatMap Lx.spelt ++ [34]).length + 1 ≤ 2003
 rw [List.length_append, List.length_cons, List.length_singleton]
 omega
theorem wb_nil : W [] ≤ 0 := Nat.le_refl _
theorem wb_nil0 : W [] ≤ 23 := Nat.zero_le _
theorem wb_cons {t : T} {l : List T} {n : Nat} (h : wt t ≤ 23) (k : W l ≤ n) : W (t :: l) ≤ n + 23 := by rw [W_cons]; omega
theorem wb_app {l m : List T} {a b : Nat} (h : W l ≤ a) (k : W m ≤ b) : W (l ++ m) ≤ a + b := by rw [W_app]; omega
def S (l : List Kd) : Nat := (l.map fun p => W p.2 + 69).sum
theorem S_nil : S [] = 0 := rfl
theorem S_cons (p : Kd) (l : List Kd) : S (p :: l) = W p.2 + 69 + S l := by unfold S; rw [List.map_cons, List.sum_cons]
def kS (l : List Nd) : Nat := S (l.map kdN)
theorem S_map (l : List Nd) : S (l.map kdN) = kS l := rfl
theorem kS_nil : kS [] = 0 := rfl
theorem kS_cons (x : Nd) (l : List Nd) : kS (x :: l) = W (toks x) + 69 + kS l := S_cons _ _
theorem kS_app : ∀ l m : List Nd, kS (l ++ m) = kS l + kS m
 | [], m => by rw [kS_nil, List.nil_append]; omega
 | x :: l, m => by rw [List.cons_append, kS_cons, kS_cons, kS_app l m]; omega
theorem ann_w {y om : ByteArray} (h : y = om ∨ isTok (typT y) = true) (hw : y = om ∨ wt (typT y) ≤ 23) : W (ann y om) ≤ 46 := by
 unfold ann
 by_cases hy : y = om
 ·rw [if_pos hy]; exact Nat.zero_le _
 ·rw [if_neg hy]
  exact wb_cons (sg_w (by simp [Lx.sw])) (wb_cons (hw.resolve_left hy) wb_nil)
theorem sep_w {s : List T} (hs : W s ≤ 23) : ∀ (l : List Kd), W (sep s l) ≤ S l
 | [] => Nat.zero_le _
 | [p] => by rw [S_cons]; show W p.2 ≤ _; omega
 | p :: q :: r => by
  have := sep_w hs (q :: r)
  rw [S_cons, sep, W_app, W_app]
  omega
theorem brk_w (l : List Kd) : W (brk l) ≤ S l + 46 := by
 have h := sep_w (s := [sgn kComma]) (wb_cons (sg_w (by simp [Lx.sw])) wb_nil) l
 have := wb_app (wb_cons (sg_w (x := kOpen) (by simp [Lx.sw])) h) (wb_cons (sg_w (x := kShut) (by simp [Lx.sw])) wb_nil)
 exact Nat.le_trans this (by omega)
theorem at_w {i : Int} {p : Kd} {n : Nat} (h : W p.2 ≤ n) : W (at1 i p) ≤ n + 46 := by
 unfold at1
 split
 ·have := wb_app (wb_cons (sg_w (x := kOpen) (by simp [Lx.sw])) h) (wb_cons (sg_w (x := kShut) (by simp [Lx.sw])) wb_nil)
  exact Nat.le_trans this (by omega)
 ·omega
theorem kS_le : ∀ l : List Nd, (∀ y ∈ l, W (toks y) + 69 ≤ 2100 * y.count) → kS l ≤ 2100 * Nd.countL l
 | [], _ => Nat.zero_le _
 | x :: l, h => by
  have h1 := h x (by simp)
  have h2 := kS_le l fun y hy => h y (List.mem_cons_of_mem _ hy)
  rw [kS_cons, Nd.countL_cons]
  omega
set_option maxHeartbeats 2000000 in
/-- A node's own tokens, and what its kids have. -/
theorem own_w (x : Nd) (hw : Wf x) : W (toks x) ≤ 2003 + kS x.kids := by
 have hs := hw.sh
 clear hw
 rw [toks_eq]
 cases hs with
 | prog cs b h1 h2 =>
  show W (sep [] ((cs ++ [b]).map kdN).dropLast ++ key ⟨#[109, 97, 105, 110]⟩ :: (lastK ((cs ++ [b]).map kdN)).2) ≤ _
  rw [List.map_append, List.map_cons, List.map_nil, List.dropLast_concat, lastK, List.getLastD_concat]
  refine Nat.le_trans (wb_app (sep_w wb_nil0 (cs.map kdN)) (wb_cons (ky_w (by simp [Wrd.ws, Nd.text])) (Nat.le_refl _))) ?_
  simp only [Nd.kids, kdN, kd, S_map, S_nil, S_cons, kS_nil, kS_cons, kS_app, List.getD_cons_zero, List.getD_cons_succ, List.map_cons, List.map_nil]
  omega
 | clas t y fs ms ht hy h1 h2 =>
  refine Nat.le_trans (wb_app (wb_app (wb_cons (ky_w (by simp [Wrd.ws, Nd.text])) (wb_cons (tc_w ht) (ann_w (hy.imp id tc_ok) (hy.imp id tc_w)))) (wb_cons (sg_w (by simp [Lx.sw, Nd.text])) (sep_w wb_nil0 ((fs ++ ms).map kdN)))) (wb_cons (sg_w (by simp [Lx.sw, Nd.text])) wb_nil)) ?_
  simp only [Nd.kids, kdN, kd, S_map, S_nil, S_cons, kS_nil, kS_cons, kS_app, List.getD_cons_zero, List.getD_cons_succ, List.map_cons, List.map_nil]
  omega
 | field t y ht hy =>
  refine Nat.le_trans (wb_app (wb_cons (ky_w (by simp [Wrd.ws, Nd.text])) (wb_cons (nm_w ht) (ann_w (.inr (ty_ok hy)) (.inr (ty_w hy))))) (wb_cons (sg_w (by simp [Lx.sw, Nd.text])) wb_nil)) ?_
  simp only [Nd.kids, kdN, kd, S_map, S_nil, S_cons, kS_nil, kS_cons, kS_app, List.getD_cons_zero, List.getD_cons_succ, List.map_cons, List.map_nil]
  omega
 | method t y ps b ht hy h1 h2 =>
  show W (key ⟨#[100, 101, 102]⟩ :: nam t :: brk ((ps ++ [b]).map kdN).dropLast ++ ann y kAny ++ (lastK ((ps ++ [b]).map kdN)).2) ≤ _
  rw [List.map_append, List.map_cons, List.map_nil, List.dropLast_concat, lastK, List.getLastD_concat]
  refine Nat.le_trans (wb_app (wb_app (wb_cons (ky_w (by simp [Wrd.ws, Nd.text])) (wb_cons (nm_w ht) (brk_w (ps.map kdN)))) (ann_w (.inr (ty_ok hy)) (.inr (ty_w hy)))) (Nat.le_refl _)) ?_
  simp only [Nd.kids, kdN, kd, S_map, S_nil, S_cons, kS_nil, kS_cons, kS_app, List.getD_cons_zero, List.getD_cons_succ, List.map_cons, List.map_nil]
  omega
 | param t y ht hy =>
  refine Nat.le_trans (wb_cons (nm_w ht) (ann_w (.inr (ty_ok hy)) (.inr (ty_w hy)))) ?_
  simp only [Nd.kids, kdN, kd, S_map, S_nil, S_cons, kS_nil, kS_cons, kS_app, List.getD_cons_zero, List.getD_cons_succ, List.map_cons, List.map_nil]
  omega
 | block l h =>
  refine Nat.le_trans (wb_app (wb_cons (sg_w (by simp [Lx.sw, Nd.text])) (sep_w (wb_cons (sg_w (x := kSemi) (by simp [Lx.sw])) wb_nil) (l.map kdN))) (wb_cons (sg_w (by simp [Lx.sw, Nd.text])) wb_nil)) ?_
  simp only [Nd.kids, kdN, kd, S_map, S_nil, S_cons, kS_nil, kS_cons, kS_app, List.getD_cons_zero, List.getD_cons_succ, List.map_cons, List.map_nil]
  omega
 | int n h =>
  refine Nat.le_trans (wb_cons (it_w h) wb_nil) ?_
  simp only [Nd.kids, kdN, kd, S_map, S_nil, S_cons, kS_nil, kS_cons, kS_app, List.getD_cons_zero, List.getD_cons_succ, List.map_cons, List.map_nil]
  omega
 | real n h =>
  refine Nat.le_trans (wb_cons (rl_w h) wb_nil) ?_
  simp only [Nd.kids, kdN, kd, S_map, S_nil, S_cons, kS_nil, kS_cons, kS_app, List.getD_cons_zero, List.getD_cons_succ, List.map_cons, List.map_nil]
  omega
 | noNum t h =>
  rcases h with rfl | rfl <;> exact Nat.le_trans ((wb_cons (ky_w (by simp [Wrd.ws, Nd.text])) wb_nil) : W [key _] ≤ _) (by decide +revert)
 | bool n h =>
  rcases h with rfl | rfl <;> exact Nat.le_trans ((wb_cons (ky_w (by simp [Wrd.ws, Nd.text])) wb_nil) : W [key _] ≤ _) (by decide +revert)
 | str t h hs =>
  show W [tk 6 t 0] ≤ _
  rw [W_cons]
  have := st_w hs
  have e : W [] = 0 := rfl
  omega
 | unit =>
  refine Nat.le_trans (brk_w []) ?_
  simp only [Nd.kids, kdN, kd, S_map, S_nil, S_cons, kS_nil, kS_cons, kS_app, List.getD_cons_zero, List.getD_cons_succ, List.map_cons, List.map_nil]
  omega
 | none y hy =>
  refine Nat.le_trans (wb_cons (ky_w (by simp [Wrd.ws, Nd.text])) (wb_cons (tc_w hy) wb_nil)) ?_
  simp only [Nd.kids, kdN, kd, S_map, S_nil, S_cons, kS_nil, kS_cons, kS_app, List.getD_cons_zero, List.getD_cons_succ, List.map_cons, List.map_nil]
  omega
 | this =>
  refine Nat.le_trans (wb_cons (ky_w (by simp [Wrd.ws, Nd.text])) wb_nil) ?_
  simp only [Nd.kids, kdN, kd, S_map, S_nil, S_cons, kS_nil, kS_cons, kS_app, List.getD_cons_zero, List.getD_cons_succ, List.map_cons, List.map_nil]
  omega
 | var t ht =>
  refine Nat.le_trans (wb_cons (nm_w ht) wb_nil) ?_
  simp only [Nd.kids, kdN, kd, S_map, S_nil, S_cons, kS_nil, kS_cons, kS_app, List.getD_cons_zero, List.getD_cons_succ, List.map_cons, List.map_nil]
  omega
 | let_ t y a ht hy h =>
  refine Nat.le_trans (wb_app (wb_cons (ky_w (by simp [Wrd.ws, Nd.text])) (wb_cons (nm_w ht) (ann_w (.inr (ty_ok hy)) (.inr (ty_w hy))))) (wb_cons (sg_w (by simp [Lx.sw, Nd.text])) (Nat.le_refl _))) ?_
  simp only [Nd.kids, kdN, kd, S_map, S_nil, S_cons, kS_nil, kS_cons, kS_app, List.getD_cons_zero, List.getD_cons_succ, List.map_cons, List.map_nil]
  omega
 | set t a ht h =>
  refine Nat.le_trans (wb_cons (nm_w ht) (wb_cons (sg_w (by simp [Lx.sw, Nd.text])) (Nat.le_refl _))) ?_
  simp only [Nd.kids, kdN, kd, S_map, S_nil, S_cons, kS_nil, kS_cons, kS_app, List.getD_cons_zero, List.getD_cons_succ, List.map_cons, List.map_nil]
  omega
 | get t a ht h =>
  refine Nat.le_trans (wb_app (at_w (Nat.le_refl _)) (wb_cons (sg_w (by simp [Lx.sw, Nd.text])) (wb_cons (nm_w ht) wb_nil))) ?_
  simp only [Nd.kids, kdN, kd, S_map, S_nil, S_cons, kS_nil, kS_cons, kS_app, List.getD_cons_zero, List.getD_cons_succ, List.map_cons, List.map_nil]
  omega
 | put t a b ht h h2 =>
  refine Nat.le_trans (wb_app (at_w (Nat.le_refl _)) (wb_cons (sg_w (by simp [Lx.sw, Nd.text])) (wb_cons (nm_w ht) (wb_cons (sg_w (by simp [Lx.sw, Nd.text])) (Nat.le_refl _))))) ?_
  simp only [Nd.kids, kdN, kd, S_map, S_nil, S_cons, kS_nil, kS_cons, kS_app, List.getD_cons_zero, List.getD_cons_succ, List.map_cons, List.map_nil]
  omega
 | call t a l ht h hl =>
  refine Nat.le_trans (wb_app (at_w (Nat.le_refl _)) (wb_cons (sg_w (by simp [Lx.sw, Nd.text])) (wb_cons (nm_w ht) (brk_w (l.map kdN))))) ?_
  simp only [Nd.kids, kdN, kd, S_map, S_nil, S_cons, kS_nil, kS_cons, kS_app, List.getD_cons_zero, List.getD_cons_succ, List.map_cons, List.map_nil]
  omega
 | super t l ht hl =>
  refine Nat.le_trans (wb_cons (ky_w (by simp [Wrd.ws, Nd.text])) (wb_cons (sg_w (by simp [Lx.sw, Nd.text])) (wb_cons (nm_w ht) (brk_w (l.map kdN))))) ?_
  simp only [Nd.kids, kdN, kd, S_map, S_nil, S_cons, kS_nil, kS_cons, kS_app, List.getD_cons_zero, List.getD_cons_succ, List.map_cons, List.map_nil]
  omega
 | new y l hy hl =>
  refine Nat.le_trans (wb_cons (ky_w (by simp [Wrd.ws, Nd.text])) (wb_cons (tc_w hy) (brk_w (l.map kdN)))) ?_
  simp only [Nd.kids, kdN, kd, S_map, S_nil, S_cons, kS_nil, kS_cons, kS_app, List.getD_cons_zero, List.getD_cons_succ, List.map_cons, List.map_nil]
  omega
 | cond a b c h h1 h2 =>
  refine Nat.le_trans (wb_app (wb_app (wb_cons (ky_w (by simp [Wrd.ws, Nd.text])) (Nat.le_refl _)) (Nat.le_refl _)) (wb_cons (ky_w (by simp [Wrd.ws, Nd.text])) (Nat.le_refl _))) ?_
  simp only [Nd.kids, kdN, kd, S_map, S_nil, S_cons, kS_nil, kS_cons, kS_app, List.getD_cons_zero, List.getD_cons_succ, List.map_cons, List.map_nil]
  omega
 | loop a b h h1 =>
  refine Nat.le_trans (wb_cons (ky_w (by simp [Wrd.ws, Nd.text])) (sep_w wb_nil0 ([a, b].map kdN))) ?_
  simp only [Nd.kids, kdN, kd, S_map, S_nil, S_cons, kS_nil, kS_cons, kS_app, List.getD_cons_zero, List.getD_cons_succ, List.map_cons, List.map_nil]
  omega
 | un t a ht h =>
  refine Nat.le_trans (wb_cons (sg_w (by rcases ht with rfl | rfl <;> simp [Lx.sw, Nd.text])) (at_w (Nat.le_refl _))) ?_
  simp only [Nd.kids, kdN, kd, S_map, S_nil, S_cons, kS_nil, kS_cons, kS_app, List.getD_cons_zero, List.getD_cons_succ, List.map_cons, List.map_nil]
  omega
 | bin t a b ht h h2 =>
  refine Nat.le_trans (wb_app (at_w (Nat.le_refl _)) (wb_cons (sg_w (op_in ht)) (at_w (Nat.le_refl _)))) ?_
  simp only [Nd.kids, kdN, kd, S_map, S_nil, S_cons, kS_nil, kS_cons, kS_app, List.getD_cons_zero, List.getD_cons_succ, List.map_cons, List.map_nil]
  omega
 | read =>
  refine Nat.le_trans (wb_cons (ky_w (by simp [Wrd.ws, Nd.text])) (brk_w [])) ?_
  simp only [Nd.kids, kdN, kd, S_map, S_nil, S_cons, kS_nil, kS_cons, kS_app, List.getD_cons_zero, List.getD_cons_succ, List.map_cons, List.map_nil]
  omega
 | print a h =>
  refine Nat.le_trans (wb_cons (ky_w (by simp [Wrd.ws, Nd.text])) (brk_w ([a].map kdN))) ?_
  simp only [Nd.kids, kdN, kd, S_map, S_nil, S_cons, kS_nil, kS_cons, kS_app, List.getD_cons_zero, List.getD_cons_succ, List.map_cons, List.map_nil]
  omega
 | as_ y a hy h =>
  refine Nat.le_trans (wb_app (wb_cons (sg_w (by simp [Lx.sw, Nd.text])) (Nat.le_refl _)) (wb_cons (sg_w (by simp [Lx.sw, Nd.text])) (wb_cons (ty_w hy) (wb_cons (sg_w (by simp [Lx.sw, Nd.text])) wb_nil)))) ?_
  simp only [Nd.kids, kdN, kd, S_map, S_nil, S_cons, kS_nil, kS_cons, kS_app, List.getD_cons_zero, List.getD_cons_succ, List.map_cons, List.map_nil]
  omega
 | conv t a ht h =>
  refine Nat.le_trans (wb_cons (ky_w (by rcases ht with rfl | rfl | rfl <;> simp [Wrd.ws, Nd.text])) (brk_w ([a].map kdN))) ?_
  simp only [Nd.kids, kdN, kd, S_map, S_nil, S_cons, kS_nil, kS_cons, kS_app, List.getD_cons_zero, List.getD_cons_succ, List.map_cons, List.map_nil]
  omega
theorem toks_w (x : Nd) : Wf x → W (toks x) + 69 ≤ 2100 * x.count := by
 refine Nd.ind (P := fun x => Wf x → W (toks x) + 69 ≤ 2100 * x.count) (fun x ih hw => ?_) x
 have h1 := own_w x hw
 have h2 := kS_le x.kids fun y hy => ih y hy (hw.kid hy)
 rw [Nd.count_eq]
 omega
end Pr
end Go.Proofs.YtfpklgffdniegaaGreatDoor
namespace Go.Proofs.YtfpklgffdniegaaGreatDoor
open Go.ChangeShapes Go.WideShapes Go.ChangeAt Go.RowKit Go.Shelf
attribute [local go_sem] Oper.semAt_some
/-- A tree that was made: v is its kids' slice. -/
structure Mk (w : World) (x : Nd) (v : Value) : Prop where
 ok : x.ok1
 kids : ∃ a c, v = .slice a x.kids.length c ∧ KidsAt w (.slice a x.kids.length c) x.kids
theorem Mk.kept {w w' : World} {x : Nd} {v : Value} (h : Mk w x v) (k : Kept w w') : Mk w' x v := ⟨h.ok, by obtain ⟨a, c, e, h2⟩ := h.kids; exact ⟨a, c, e, KidsD.kept h2 k⟩⟩
/-- Kids that were made at once. -/
def Ks (w : World) (v : Value) (l : List Nd) : Prop := ∃ a c, v = .slice a l.length c ∧ KidsAt w (.slice a l.length c) l
theorem Ks.kept {w w' : World} {l : List Nd} {v : Value} (h : Ks w v l) (k : Kept w w') : Ks w' v l := by obtain ⟨a, c, e, h2⟩ := h; exact ⟨a, c, e, KidsD.kept h2 k⟩
theorem Ks.nil (w : World) : Ks w (.slice none 0 0) [] := ⟨none, 0, rfl, Row.nil⟩
theorem lit_kids {X : World} (ks : List (Nd × Value)) {cs : Array Value} {g n : Nat} (hg : g = X.heap.size) (hn : n = ks.length) (hcs : cs = (ks.flatMap fun p => ndC p.1 p.2).toArray) (hm : ks.length ≤ 100) (h : ∀ q ∈ ks, Mk X q.1 q.2) :
  Ks (X.alloc (.cells cs nT)) (.slice (some ⟨g, 0, none⟩) n n) (ks.map (·.1)) := by
 subst hg hn hcs
 have hl := flat_len (fun p : Nd × Value => ndC p.1 p.2) ndC_len ks
 have hb : Blk (X.alloc (.cells (ks.flatMap fun p => ndC p.1 p.2).toArray nT)) X.heap.size nT (ks.flatMap fun p => ndC p.1 p.2).toArray := Blk.new _ _ _
 refine ⟨_, ks.length, by rw [List.length_map], _, _, rfl, by rw [List.length_map]; exact Nat.le_refl _, by unfold maxLen; omega, fun i y hy => ⟨X.heap.size, 0, rfl, ?_⟩⟩
 rw [List.getElem?_map] at hy
 obtain ⟨q, hq, rfl⟩ := Option.map_eq_some_iff.1 hy
 obtain ⟨hok, a, c, e, hk⟩ := h q (List.mem_of_getElem? hq)
 refine NdD.shut (ad := a) (c := c) (fun j u hu => ?_) hok (KidsD.kept hk ((Kept.refl X).alloc _)) trivial
 rw [← e] at hu
 have hj : j < 6 := by
  rcases Nat.lt_or_ge j 6 with h | h
  ·exact h
  ·rw [List.getElem?_eq_none (by rw [ndC_len]; exact h)] at hu; cases hu
 rw [hb.cell]
 have := (flat_at (fun p : Nd × Value => ndC p.1 p.2) ndC_len ks i j q hq hj).trans hu
 simpa [Nat.add_assoc] using this
end Go.Proofs.YtfpklgffdniegaaGreatDoor
namespace Go.Proofs.YtfpklgffdniegaaGreatDoor
open Go.ChangeShapes Go.WideShapes Go.ChangeAt Go.RowKit Go.Shelf
attribute [local go_sem] Oper.semAt_some
end Go.Proofs.YtfpklgffdniegaaGreatDoor
