/- Texts. -/
import Derived.Test.YtegcgflhgfmkpaaGreatDoorRows
import Derived.WalkKit
import Derived.Recover
import Derived.OrdersIn
import Derived.Orders
import Derived.Test.YtegcgflhgfmkpaaGreatDoorUw1
import Derived.Deep.AppendSrc
import Derived.Deep.AppendLies
import Derived.OwnWalk
import Derived.Deep.Draws
import Derived.Lib.Hide
set_option linter.unusedVariables false
set_option linter.unusedSimpArgs false
set_option maxRecDepth 100000
namespace Go.Proofs.YtegcgflhgfmkpaaGreatDoor
section
variable {P : Program} {ops : Array Oper} {md : Region.Mode}
end
section
variable {P : Program} {ops : Array Oper} {Q : Exit -> Act -> World -> Prop} {md : Region.Mode} {l n : Nat}
theorem oper_wpIn_of_wp {o : Oper} {a : Act} {w : World} {K : Act -> World -> Prop} (hd : ∀ c, o.op ≠ .defer c) (h : o.wp P a w K Q) : o.wpIn (Fence.wide.inRound l) n P a w K Q := by
 refine ⟨fun _ _ => trivial, ?_⟩;rw [Oper.semAt_eq _ _ _ hd];unfold Oper.wp at h;generalize (execOp a.eval o).run P w = r at *
 cases r with
 | ok x w' =>
  cases x <;> simp only [Oper.upon, Oper.uponIn] at h ⊢
  case value => exact h
  case skip => exact h
  case defer => exact h
  case enter =>
   refine ⟨fun e => (by cases e), trivial, fun cs _ => ?_⟩;obtain ⟨e, w'', fr, r, s, x⟩ := h cs;exact ⟨e, w'', fr, (by cases e <;> exact r), comesIn_wide.2 s, x⟩
  case row =>
   refine ⟨fun e => (by cases e), fun c cs _ => ?_⟩;obtain ⟨v, w'', hR, hs⟩ := h c cs;exact ⟨v, w'', hR, stepsIn_wide.2 hs⟩
 | halt x w' => cases x <;> simp only [Oper.upon, Oper.uponIn] at h ⊢ <;> exact h
theorem wpOpIn_of_wpOp {i : Nat} {a : Act} {w : World} {K K' : Act -> World -> Prop} (hd : ∀ (i : Nat) (o : Oper), ops[i]? = some o -> ∀ c, o.op ≠ .defer c) (hq : ¬ LetsOut Q)
  (hk : ∀ a w, K a w -> K' a w) (h : wpOp P ops Q i K a w) : wpOpIn (Fence.wide.inRound l) n P ops Q i K' a w := by
 unfold wpOp wpOpIn at *
 split
 ·simp only [*] at h; exact hk _ _ h
 ·rename_i o ho
  simp only [ho] at h
  split
  ·rename_i hw
   simp only [hw, if_true] at h;rcases h with h | ⟨_, h⟩
   ·exact oper_wpIn_of_wp (hd i o ho) (Oper.wp_mono hk h)
   ·exact absurd h hq
  ·rename_i hw
   simp only [hw] at h;exact ⟨fun _ _ => trivial, hk _ _ h⟩
theorem wpAnyIn_of_wpAny (hd : ∀ (i : Nat) (o : Oper), ops[i]? = some o -> ∀ c, o.op ≠ .defer c) (hq : ¬ LetsOut Q) : ∀ (fuel : Nat) (listed : Array Bool) (a : Act) (w : World),
  wpAny P md ops Q fuel listed a w -> wpAnyIn (Fence.wide.inRound l) n P md ops Q fuel listed a w
 | 0, _, _, _, h => h
 | fuel + 1, listed, a, w, h => ⟨h.1, fun i hi => wpOpIn_of_wpOp hd hq (fun a w => wpAnyIn_of_wpAny hd hq fuel _ a w) (h.2 i hi)⟩
def noDefer (ops : Array Oper) : Bool := ops.all fun o => match o.op with
 | .defer _ => false
 | _ => true
theorem noDefer_spec (h : noDefer ops = true) : ∀ (i : Nat) (o : Oper), ops[i]? = some o -> ∀ c, o.op ≠ .defer c := by
 intro i o ho c hc;have hm := Array.all_eq_true_iff_forall_mem.1 h o (Array.mem_of_getElem? ho);rw [hc] at hm
 cases hm
theorem wpIn_region_of_any {id : Nat} {a : Act} {w : World} (hm : P.follows .mixedOrders = true) (hd : noDefer ops = true) (hq : ¬ LetsOut Q)
  (h : wpAny P .any ops Q ops.size (Array.replicate ops.size false) a w.drew) : (Code.region id ops true).wpIn (Fence.wide.inRound l) n P Q a w :=
 wpIn_region_any hm (wpAnyIn_of_wpAny (noDefer_spec hd) hq _ _ _ _ h)
end
end Go.Proofs.YtegcgflhgfmkpaaGreatDoor
namespace Go.Proofs.YtegcgflhgfmkpaaGreatDoor
open Go.RowKit
section
variable {P : Program} (w : World)
theorem run_apk (base k : Nat) (t tx ty e : TypeId) (i : TypeInfo) (z : Value) (bytes : Nat) (ht : P.underlying t = some (.slice e)) (hi : P.info? e = some i) (hz : i.zero = some z)
  (hsize : i.size = k) (hby : i.bytes = bytes) (hzs : z.cells.size = k)
  (v : Value) (n : Nat) (xs : List Value) (hown : w.ownsRow base e k v n xs)
  (x : Value) (m : Nat) (news : List Value) (hs : Src P k tx x m news w)
  (h63 : n + m <= maxLen) (hbytes : (n + m) * bytes <= 140737488355328) (hbase : base <= w.heap.size) :
  ∃ v' w', (Builtin.append_ #[t, tx] ty #[v, x]).run P w = .ok v' w' /\ w'.ownsRow base e k v' (n + m) (xs ++ news) /\ w.grownBy w' v.ownBlock /\
   (v' = .slice none 0 0 ↔ v = .slice none 0 0 /\ m = 0) /\ (v'.ownBlock = v.ownBlock ∨ v'.ownBlock = some w.heap.size) := by
 subst hby;have hsmall : n + m <= 9223372036854775807 := by simp only [maxLen] at h63; omega
 have hnl : news.length = m * k := hs.newsLen;have hxl : xs.length = n * k := hown.1;have hmul : (n + m) * k = n * k + m * k := Nat.add_mul n m k;have hlen : (xs ++ news).length = (n + m) * k := by rw [List.length_append, hxl, hnl, hmul]
 have hs' : Src P i.size tx x m news w := by rw [hsize]; exact hs
 have grown : ∀ (old : Nat), old < n + m -> ∀ (row : Option Nat),
   (w.drew.alloc (.cells ((xs ++ news).toArray ++ Builtin.zeroCells z.cells (grownCap w (n + m) old e - (n + m))) e)).ownsRow base e k
    (.slice (some ⟨w.heap.size, 0, none⟩) (n + m) (grownCap w (n + m) old e)) (n + m) (xs ++ news) /\
   w.grownBy (w.drew.alloc (.cells ((xs ++ news).toArray ++ Builtin.zeroCells z.cells (grownCap w (n + m) old e - (n + m))) e)) row := by
  intro old ho row;have hge := grownCap_ge w (n + m) old e;have hcm : grownCap w (n + m) old e <= maxLen := grownCap_le_maxLen w (n + m) old e h63;refine ⟨⟨hlen, .inr ⟨w.heap.size, _, _, rfl, hbase, heap_alloc_new w.drew _, hge, hcm, ?_, ?_⟩⟩, ⟨rfl, rfl, rfl, by simp, fun k hk _ => Below.heap_alloc w.drew _ k hk⟩⟩
  ·rw [Array.size_append, List.size_toArray, size_zeroCells, hzs, hlen, <- Nat.add_mul, Nat.add_sub_cancel' hge]
  ·simp only [Array.toList_append];rw [<- hlen];exact List.take_left
 rcases hown.2 with ⟨rfl, rfl⟩ | ⟨g, cap, cur, rfl, hbg, hg, hnc, hcm, hcs, htake⟩
 ·have hx : xs = [] := List.eq_nil_of_length_eq_zero (by rw [hxl, Nat.zero_mul]);subst hx;by_cases hm : m = 0
  ·subst hm;have hn : news = [] := List.eq_nil_of_length_eq_zero (by rw [hnl, Nat.zero_mul]);subst hn;refine ⟨.slice none 0 0, w, ?_, World.ownsRow_nil w base e k, ⟨rfl, rfl, rfl, Nat.le_refl _, fun _ _ _ => rfl⟩, by simp, Or.inl rfl⟩;have hce := hs'.cells;rcases hs.kind with ⟨e', hk⟩ | hk <;> simp [Builtin.append_, run_underlying ht, run_underlying hk, sizeOf, typeInfo, hi, hs.len, hce]
  ·have hgr := grown 0 (by omega) none;simp only [Nat.zero_add, List.nil_append] at hgr hsmall hbytes ⊢;have hr := run_append_grow_src (P := P) w t tx ty e i z ht hi hz none 0 0 [] (by simp [Builtin.firstCells]) x m news hs' (by omega) (by omega)
    (by rw [Nat.zero_add]; exact growslice_fits (by omega) hbytes)
   simp only [Nat.zero_add, List.nil_append] at hr;exact ⟨_, _, hr, hgr.1, hgr.2, by simp [hm], Or.inr rfl⟩
 ·by_cases hroom : n + m <= cap
  ·have hcap : (n + m) * k <= cap * k := Nat.mul_le_mul_right k hroom;have hfit : n * k + news.length <= cur.size := by rw [hnl, hcs]; omega
   have hst := run_storeCells_at P g (n * k) e news 0 cur w hg (by simpa using hfit) hs.one;simp only [Nat.add_zero] at hst;have hce := hs'.cells;have hr : (Builtin.append_ #[t, tx] ty #[.slice (some ⟨g, 0, none⟩) n cap, x]).run P w = .ok (.slice (some ⟨g, 0, none⟩) (n + m) cap) (w.setRow g (cur.toList.take (n * k) ++ news ++ cur.toList.drop (n * k + news.length)).toArray) := by
    subst hsize;rcases hs.kind with ⟨e', hk⟩ | hk <;> simp [Builtin.append_, run_underlying ht, run_underlying hk, sizeOf, typeInfo, hi, hs.len, hroom, hce, Addr.add_lit] at hst ⊢ <;> simp [hst]
   refine ⟨_, _, hr, ⟨hlen, .inr ⟨g, cap, _, rfl, hbg, setRow_heap w g cur _ e _ hg, hroom, hcm, ?_, ?_⟩⟩, ⟨rfl, rfl, rfl, by simp, fun k _ hk => setRow_other w g k _ (fun e => hk (by simp [Value.ownBlock, e]))⟩, by simp, Or.inl rfl⟩
   ·have := hfit;simp only [List.size_toArray, List.length_append, List.length_take, List.length_drop, Array.length_toList];omega
   ·rw [htake, <- hlen];exact List.take_left
  ·have hgr := grown cap (by omega) (Value.ownBlock (.slice (some ⟨g, 0, none⟩) n cap));have hcl : ∀ j u, xs[j]? = some u -> w.drew.cell? ((⟨g, 0, none⟩ : Addr).add j) = some u := fun j u hu => by
    have := hown.cells (g := g) rfl j u hu
    simpa using this
   have hr := run_append_grow_src (P := P) w t tx ty e i z ht hi hz (some ⟨g, 0, none⟩) n cap xs (run_firstCells_some w.drew i.size n ⟨g, 0, none⟩ n cap xs (by rw [hsize]; exact hown.1) hcl) x m news hs' (by omega) (by omega)
    (growslice_fits (by omega) hbytes)
   exact ⟨_, _, hr, hgr.1, hgr.2, by simp, Or.inr rfl⟩
end
theorem step_apk {P : Program} {ops : Array Oper} {o : Oper} {a : Act} {K : Act -> World -> Prop} {Q : Exit -> Act -> World -> Prop} {E : Prop} {w : World} (hgd : o.guard = none) (s x : Operand) (t tx : TypeId)
  (ho : o.op = .call { callee := .builtin .append, args := #[s, x], argTypes := #[t, tx] }) (base k : Nat) (e : TypeId) (i : TypeInfo) (z : Value) (bytes : Nat) (ht : P.underlying t = some (.slice e)) (hi : P.info? e = some i) (hz : i.zero = some z)
  (hsize : i.size = k) (hby : i.bytes = bytes) (hzs : z.cells.size = k)
  {v vx : Value} {n m : Nat} {xs news : List Value} (hs : a.eval s = v) (hown : w.ownsRow base e k v n xs) (hx : a.eval x = vx) (hsrc : Src P k tx vx m news w)
  (h63 : n + m <= maxLen) (hbytes : (n + m) * bytes <= 140737488355328) (hbase : base <= w.heap.size)
  (hK : ∀ v' w', w'.ownsRow base e k v' (n + m) (xs ++ news) -> w.grownBy w' v.ownBlock -> (v' = .slice none 0 0 ↔ v = .slice none 0 0 /\ m = 0) -> (v'.ownBlock = v.ownBlock ∨ v'.ownBlock = some w.heap.size) -> K (a.put o.dst v') w') :
  if Region.wanted o (yielded ops a.tmps) = true then Oper.wp P o a w K Q else E := by
 have hw : Region.wanted o (yielded ops a.tmps) = true := by simp [Region.wanted, hgd]
 rw [if_pos hw];obtain ⟨v', w', hr, h2, h3, h4, h5⟩ := run_apk (P := P) w base k t tx o.type e i z bytes ht hi hz hsize hby hzs v n xs hown vx m news hsrc h63 hbytes hbase;unfold Oper.wp execOp;simp only [ho, resolve, invoke, builtin, Sem.run_bind, Sem.run_pure, Result.andThen_ok, List.map_toArray, List.map_cons, List.map_nil, hs, hx, hr];exact hK v' w' h2 h3 h4 h5
theorem wpList_apk {P : Program} {ops : Array Oper} {rest : List Oper} {o : Oper} {a : Act} {Q : Exit -> Act -> World -> Prop} {w : World} (hgd : o.guard = none) (s x : Operand) (t tx : TypeId)
  (ho : o.op = .call { callee := .builtin .append, args := #[s, x], argTypes := #[t, tx] }) (base k : Nat) (e : TypeId) (i : TypeInfo) (z : Value) (bytes : Nat) (ht : P.underlying t = some (.slice e)) (hi : P.info? e = some i) (hz : i.zero = some z)
  (hsize : i.size = k) (hby : i.bytes = bytes) (hzs : z.cells.size = k)
  {v vx : Value} {n m : Nat} {xs news : List Value} (hs : a.eval s = v) (hown : w.ownsRow base e k v n xs) (hx : a.eval x = vx) (hsrc : Src P k tx vx m news w)
  (h63 : n + m <= maxLen) (hbytes : (n + m) * bytes <= 140737488355328) (hbase : base <= w.heap.size)
  (hK : ∀ v' w', w'.ownsRow base e k v' (n + m) (xs ++ news) -> w.grownBy w' v.ownBlock -> (v'.ownBlock = v.ownBlock ∨ v'.ownBlock = some w.heap.size) -> wpList P ops Q rest (a.put o.dst v') w') : wpList P ops Q (o :: rest) a w :=
 wpList_plain hgd fun K' hk => by
  obtain ⟨v', w', hr, h2, h3, h4, h5⟩ := run_apk (P := P) w base k t tx o.type e i z bytes ht hi hz hsize hby hzs v n xs hown vx m news hsrc h63 hbytes hbase;unfold Oper.wp execOp;simp only [ho, resolve, invoke, builtin, Sem.run_bind, Sem.run_pure, Result.andThen_ok, List.map_toArray, List.map_cons, List.map_nil, hs, hx, hr];exact hk _ _ (hK v' w' h2 h3 h5)
theorem ne_row_blk {w : World} {g : Nat} {t e : TypeId} {cs : Array Value} (h : Blk w g t cs) (ht : t ≠ e) {base k n : Nat} {v : Value} {xs : List Value} (hr : w.ownsRow base e k v n xs) : v.ownBlock ≠ some g := by
 rcases hr.2 with ⟨rfl, _⟩ | ⟨g', cap, cur, rfl, _, hh, _⟩
 ·simp [Value.ownBlock]
 ·intro he;have : g' = g := by simpa [Value.ownBlock] using he
  subst this;unfold Blk at h;rw [hh] at h;injection h with h;injection h with _ h2;exact ht h2.symm
theorem Blk.grownBy {W W' : World} {g : Nat} {t : TypeId} {cs : Array Value} {row : Option Nat} (h : Blk W g t cs) (hg : W.grownBy W' row) (hne : row ≠ some g) : Blk W' g t cs := (hg.block g h.lt hne.symm).trans h
theorem flat_at {α : Type} {k : Nat} (f : α -> List Value) (hf : ∀ x, (f x).length = k) : ∀ (l : List α) (i j : Nat) (x : α), l[i]? = some x -> j < k -> (l.flatMap f)[i * k + j]? = (f x)[j]?
 | [], i, j, x, h, _ => by simp at h
 | y :: r, 0, j, x, h, hj => by
  simp at h;subst h;rw [List.flatMap_cons, List.getElem?_append_left (by rw [hf]; omega)];simp
 | y :: r, i + 1, j, x, h, hj => by
  rw [List.flatMap_cons, List.getElem?_append_right (by rw [hf, Nat.add_mul]; omega), hf];have : (i + 1) * k + j - k = i * k + j := by rw [Nat.add_mul]; omega
  rw [this];exact flat_at f hf r i j x (by simpa using h) hj
theorem flat_len {α : Type} {k : Nat} (f : α -> List Value) (hf : ∀ x, (f x).length = k) : ∀ (l : List α), (l.flatMap f).length = l.length * k
 | [] => by simp
 | y :: r => by rw [List.flatMap_cons, List.length_append, hf, flat_len f hf r, List.length_cons, Nat.add_mul]; omega
end Go.Proofs.YtegcgflhgfmkpaaGreatDoor
namespace Go.Proofs.YtegcgflhgfmkpaaGreatDoor
open Go.ChangeShapes Go.WideShapes Go.ChangeAt Go.RowKit
inductive Nd where
 | mk (kind : Int) (text typ frm : ByteArray) (n : Int) (kids : List Nd)
namespace Nd
def kind : Nd -> Int | mk k _ _ _ _ _ => k
def text : Nd -> ByteArray | mk _ t _ _ _ _ => t
def typ : Nd -> ByteArray | mk _ _ y _ _ _ => y
def frm : Nd -> ByteArray | mk _ _ _ f _ _ => f
def n : Nd -> Int | mk _ _ _ _ n _ => n
def kids : Nd -> List Nd | mk _ _ _ _ _ ks => ks
theorem ind {P : Nd -> Prop} (h : ∀ x : Nd, (∀ y ∈ x.kids, P y) -> P x) (x : Nd) : P x :=
 Nd.rec (motive_1 := P) (motive_2 := fun l => ∀ y ∈ l, P y) (fun k t y f n ks ih => h _ ih) (fun y hy => by cases hy)
  (fun a l h1 h2 y hy => by rcases List.mem_cons.1 hy with rfl | hy; exact h1; exact h2 y hy) x
mutual
 /-- All nodes of a tree, each with how many are above it, in the order of their places. -/
 def all : Nd -> Nat -> List (Nat × Nd)
  | mk k t y f n ks, a => (a, mk k t y f n ks) :: allL ks (a + 1)
 def allL : List Nd -> Nat -> List (Nat × Nd)
  | [], _ => []
  | x :: r, a => all x a ++ allL r a
 end
theorem all_eq (x : Nd) (a : Nat) : x.all a = (a, x) :: allL x.kids (a + 1) := by cases x; rw [all]; rfl
theorem allL_nil (a : Nat) : allL [] a = [] := by rw [allL]
theorem allL_cons (x : Nd) (r : List Nd) (a : Nat) : allL (x :: r) a = x.all a ++ allL r a := by rw [allL]
theorem allL_app (l m : List Nd) (a : Nat) : allL (l ++ m) a = allL l a ++ allL m a := by
 induction l with
 | nil => rw [allL_nil]; rfl
 | cons x r ih => rw [List.cons_append, allL_cons, allL_cons, ih, List.append_assoc]
def count (x : Nd) : Nat := (x.all 0).length
def countL (l : List Nd) : Nat := (allL l 0).length
theorem len_all (x : Nd) : ∀ a b, (x.all a).length = (x.all b).length := by
 refine ind (P := fun x => ∀ a b, (x.all a).length = (x.all b).length) (fun x ih a b => ?_) x;rw [all_eq, all_eq, List.length_cons, List.length_cons]
 congr 1
 have : ∀ (l : List Nd) (a b : Nat), (∀ y ∈ l, ∀ a b, (y.all a).length = (y.all b).length) -> (allL l a).length = (allL l b).length := by
  intro l
  induction l with
  | nil => intros; simp [allL_nil]
  | cons y r ihr =>
   intro a b h;rw [allL_cons, allL_cons, List.length_append, List.length_append, h y (by simp) a b, ihr a b (fun z hz => h z (List.mem_cons_of_mem _ hz))]
 exact this _ _ _ ih
theorem len_allL : ∀ (l : List Nd) (a : Nat), (allL l a).length = countL l
 | [], a => by simp [countL, allL_nil]
 | x :: r, a => by unfold countL; rw [allL_cons, allL_cons, List.length_append, List.length_append, len_all x a 0, len_allL r a, countL]
theorem count_eq (x : Nd) : x.count = 1 + countL x.kids := by unfold count; rw [all_eq, List.length_cons, len_allL]; omega
theorem count_pos (x : Nd) : 0 < x.count := by rw [count_eq]; omega
theorem countL_nil : countL [] = 0 := by simp [countL, allL_nil]
theorem countL_cons (x : Nd) (r : List Nd) : countL (x :: r) = x.count + countL r := by
 unfold countL count; rw [allL_cons, List.length_append]
theorem countL_app (l m : List Nd) : countL (l ++ m) = countL l + countL m := by unfold countL; rw [allL_app, List.length_append]
theorem len_le_countL : ∀ l : List Nd, l.length <= countL l
 | [] => by simp
 | x :: r => by rw [countL_cons, List.length_cons]; have := count_pos x; have := len_le_countL r; omega
theorem count_all (x : Nd) (a : Nat) : (x.all a).length = x.count := len_all x a 0
def ok1 (x : Nd) : Prop := (-9223372036854775808 <= x.kind /\ x.kind <= 9223372036854775807) /\ (-9223372036854775808 <= x.n /\ x.n <= 9223372036854775807) /\ x.text.size <= maxLen /\ x.typ.size <= maxLen /\ x.frm.size <= maxLen
end Nd
abbrev ndV (x : Nd) (s : Value) : Value := .agg #[.int .i64 x.kind, .string x.text, .string x.typ, .string x.frm, .int .i64 x.n, s]
def ndC (x : Nd) (s : Value) : List Value := [.int .i64 x.kind, .string x.text, .string x.typ, .string x.frm, .int .i64 x.n, s]
inductive NdD (D : Nat -> Prop) (w : World) : Nat -> Nat -> Nd -> Prop
 | mk (b o : Nat) (x : Nd) (b' o' c : Nat) (ad : Option Addr) (hD : D b)
  (hc : ∀ j v, (ndC x (.slice ad x.kids.length c))[j]? = some v -> w.cell? ⟨b, o + j, none⟩ = some v)
  (hok : x.ok1) (hl : x.kids.length <= c) (hm : c <= maxLen) (ha : x.kids = [] ∨ ad = some ⟨b', o', none⟩)
  (hs : ∀ i y, x.kids[i]? = some y -> NdD D w b' (o' + i * 6) y) : NdD D w b o x
abbrev NdAt : World -> Nat -> Nat -> Nd -> Prop := NdD (fun _ => True)
abbrev KidsD (D : Nat -> Prop) (w : World) (v : Value) (l : List Nd) : Prop := Row 6 (NdD D) w v l
abbrev KidsAt (w : World) (v : Value) (l : List Nd) : Prop := KidsD (fun _ => True) w v l
section
variable {D : Nat -> Prop} {w w' : World} {b o : Nat} {x : Nd}
theorem NdD.open (h : NdD D w b o x) : ∃ ad c, (∀ j v, (ndC x (.slice ad x.kids.length c))[j]? = some v -> w.cell? ⟨b, o + j, none⟩ = some v) /\ x.ok1 /\ KidsD D w (.slice ad x.kids.length c) x.kids /\ D b := by
 cases h with
 | mk _ _ _ b' o' c ad hD hc hok hl hm ha hs =>
  refine ⟨ad, c, hc, hok, ⟨ad, c, rfl, hl, hm, fun i y hy => ?_⟩, hD⟩;rcases ha with e | e
  ·rw [e] at hy; simp at hy
  ·exact ⟨b', o', e, hs i y hy⟩
theorem NdD.shut {ad : Option Addr} {c : Nat} (hc : ∀ j v, (ndC x (.slice ad x.kids.length c))[j]? = some v -> w.cell? ⟨b, o + j, none⟩ = some v) (hok : x.ok1) (hk : KidsD D w (.slice ad x.kids.length c) x.kids) (hD : D b) : NdD D w b o x := by
 obtain ⟨a', c', e, hl, hm, hs⟩ := hk;injection e with e1 e2 e3;subst e1 e3
 cases hks : x.kids with
 | nil => exact .mk b o x 0 0 c ad hD hc hok hl hm (.inl hks) (fun i y hy => by rw [hks] at hy; simp at hy)
 | cons y r =>
  obtain ⟨b', o', e, _⟩ := hs 0 y (by rw [hks]; rfl);refine .mk b o x b' o' c ad hD hc hok hl hm (.inr e) (fun i y hy => ?_);obtain ⟨b2, o2, e2, h2⟩ := hs i y hy;rw [e] at e2;injection e2 with e2;injection e2 with e3 e4;subst e3 e4;exact h2
theorem NdD.lt (h : NdD D w b o x) : b < w.heap.size := by
 cases h with
 | mk _ _ _ b' o' c ad hD hc hok hl hm ha hs => exact World.block_lt_of_cell? w ⟨b, o + 0, none⟩ (hc 0 _ rfl)
theorem NdD.via (h : NdD D w b o x) (hw : ∀ k, k < w.heap.size -> D k -> w'.heap[k]? = w.heap[k]?) : NdD D w' b o x := by
 induction h with
 | mk b o x b' o' c ad hD hc hok hl hm ha hk ih =>
  have hb : b < w.heap.size := World.block_lt_of_cell? w ⟨b, o + 0, none⟩ (hc 0 _ rfl);refine .mk b o x b' o' c ad hD (fun j v hv => ?_) hok hl hm ha ih;rw [World.cell?_of_block (w := w) (a := ⟨b, o + j, none⟩) (hw b hb hD)];exact hc j v hv
theorem NdD.kept (h : NdD D w b o x) (k : Kept w w') : NdD D w' b o x := h.via fun b hb _ => k.block b hb
theorem NdD.only {S : Nat -> Prop} (h : NdD D w b o x) (k : Only S w w') (hs : ∀ k, D k -> ¬ S k) : NdD D w' b o x := h.via fun b hb hd => k.block b hb (hs b hd)
theorem NdD.mono {E : Nat -> Prop} (h : NdD D w b o x) (hd : ∀ k, k < w.heap.size -> D k -> E k) : NdD E w b o x := by
 induction h with
 | mk b o x b' o' c ad hD hc hok hl hm ha hk ih => exact .mk b o x b' o' c ad (hd b (World.block_lt_of_cell? w ⟨b, o + 0, none⟩ (hc 0 _ rfl)) hD) hc hok hl hm ha ih
theorem NdD.at (h : NdD D w b o x) : NdAt w b o x := h.mono fun _ _ _ => trivial
theorem KidsD.kept {v : Value} {l : List Nd} (h : KidsD D w v l) (k : Kept w w') : KidsD D w' v l := Row.mono h fun _ _ _ h => h.kept k
theorem KidsD.only {S : Nat -> Prop} {v : Value} {l : List Nd} (h : KidsD D w v l) (k : Only S w w') (hs : ∀ k, D k -> ¬ S k) : KidsD D w' v l := Row.mono h fun _ _ _ h => h.only k hs
theorem KidsD.mono {E : Nat -> Prop} {v : Value} {l : List Nd} (h : KidsD D w v l) (hd : ∀ k, k < w.heap.size -> D k -> E k) : KidsD E w v l := by
 obtain ⟨a, c, e, h1, h2, h3⟩ := h;exact ⟨a, c, e, h1, h2, fun i x hx => by obtain ⟨b, o, e, r⟩ := h3 i x hx; exact ⟨b, o, e, r.mono hd⟩⟩
theorem KidsD.at {v : Value} {l : List Nd} (h : KidsD D w v l) : KidsAt w v l := h.mono fun _ _ _ => trivial
theorem KidsD.low {v : Value} {l : List Nd} (h : KidsD D w v l) : KidsD (fun k => k < w.heap.size) w v l := h.mono fun _ h _ => h
theorem KidsD.head {ad : Option Addr} {n c : Nat} {r : List Nd} (h : KidsD D w (.slice ad n c) (x :: r)) : ∃ b o, ad = some ⟨b, o, none⟩ /\ n = r.length + 1 /\ n <= c /\ c <= maxLen /\ NdD D w b o x /\ KidsD D w (.slice (some ⟨b, o + 6, none⟩) r.length (c - 1)) r := by
 obtain ⟨a', c', e, hl, hm, hs⟩ := h;injection e with e1 e2 e3;subst e1 e3;obtain ⟨b, o, rfl, h0⟩ := hs 0 x rfl;rw [List.length_cons] at e2 hl;refine ⟨b, o, rfl, e2, by omega, hm, by simpa using h0, some ⟨b, o + 6, none⟩, c - 1, rfl, by omega, by omega, fun i y hy => ?_⟩;obtain ⟨b2, o2, e2', h2⟩ := hs (i + 1) y (by simpa using hy);injection e2' with e2';injection e2' with e3 e4;subst e3 e4;exact ⟨b, o + 6, rfl, by rw [show o + 6 + i * 6 = o + (i + 1) * 6 by omega]; exact h2⟩
theorem KidsD.one {g c : Nat} (h : NdD D w g 0 x) (hc : 1 <= c) (hm : c <= maxLen) : KidsD D w (.slice (some ⟨g, 0, none⟩) 1 c) [x] := by
 refine ⟨some ⟨g, 0, none⟩, c, rfl, hc, hm, fun i y hy => ?_⟩;have hi : i = 0 := by have := (List.getElem?_eq_some_iff.1 hy).1; simp at this; exact this
 subst hi;simp at hy;subst hy;exact ⟨g, 0, rfl, by simpa using h⟩
theorem NdD.cells (h : NdD D w b o x) : ∃ ad c, (w.cell? ⟨b, o, none⟩ = some (.int .i64 x.kind) /\ w.cell? ⟨b, o + 1, none⟩ = some (.string x.text) /\ w.cell? ⟨b, o + 2, none⟩ = some (.string x.typ) /\
  w.cell? ⟨b, o + 3, none⟩ = some (.string x.frm) /\ w.cell? ⟨b, o + 4, none⟩ = some (.int .i64 x.n) /\ w.cell? ⟨b, o + 5, none⟩ = some (.slice ad x.kids.length c)) /\ x.ok1 /\ KidsD D w (.slice ad x.kids.length c) x.kids /\ D b := by
 obtain ⟨ad, c, hc, hok, hk, hd⟩ := h.open;exact ⟨ad, c, ⟨hc 0 _ rfl, hc 1 _ rfl, hc 2 _ rfl, hc 3 _ rfl, hc 4 _ rfl, hc 5 _ rfl⟩, hok, hk, hd⟩
end
theorem blk_node {D : Nat -> Prop} {w : World} {x : Nd} {ad : Option Addr} {c : Nat} (hok : x.ok1) (hk : KidsD D w (.slice ad x.kids.length c) x.kids) {g : Nat} {t : TypeId} (hb : Blk w g t (ndC x (.slice ad x.kids.length c)).toArray) (hD : D g) : NdD D w g 0 x := by
 refine NdD.shut (fun j v hv => ?_) hok hk hD;rw [Nat.zero_add, hb.cell j]
 simpa using hv
end Go.Proofs.YtegcgflhgfmkpaaGreatDoor
