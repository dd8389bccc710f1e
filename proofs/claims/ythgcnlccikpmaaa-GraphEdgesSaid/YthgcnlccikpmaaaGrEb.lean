/- GraphEdges: what the lent function comes to. -/
import Derived.Test.YthgcnlccikpmaaaGrEa
import Derived.Test.YthgcnlccikpmaaaGrF
import Derived.Test.YthgcnlccikpmaaaGrQ
namespace Go.Proofs.Ythgcnlccikpmaaa
open Go Go.RowKit Go.Proofs.Mm
theorem lent_g {w : World} {f : FnM} {lv : Int} {qp : Option Addr} {np cp : Nat} {qr : Option Addr} {nr cr : Nat} {lo stk : Int} {qc : Option Addr} {nc cc : Nat} {code : Cd}
    (h : FnR1 false (wC w) [.int .u64 lv, .slice qp np cp, .slice qr nr cr, .int .i64 lo, .int .i64 stk, .slice qc nc cc] f) (hf : f.code = code) (hn : code.length = nc) :
    Calls Try.prog 8 #[fnV lv qp np cp qr nr cr lo stk qc nc cc] w fun e w' => ∃ qp' cp' qr' cr' qc' cc' m', e = .returned (fnV lv qp' np cp' qr' nr cr' lo stk qc' nc cc') ∧ Below w.heap.size w w' ∧ Has w' m' ∧ (∀ k o, m' k = some o → w.heap.size ≤ k) ∧ CdR true (mC m') (.slice qc' nc cc') code := by
  have hc := lentFunction_any h (m := fun _ => none) (fun k o e => by cases e)
  refine hc.mono ?_
  rintro e w' ⟨cs', m', rfl, hb, hmo, hH, vp', vr', vc', rfl, hp, hr, hcd⟩
  obtain ⟨vp, vr, vc, e, hp0, hr0, hc0⟩ := h
  injection e with e1 e
  injection e with e2 e
  injection e with e3 e
  injection e with e4 e
  injection e with e5 e
  injection e with e6 e
  subst e2 e3 e6
  injection e1 with _ e1
  injection e4 with _ e4
  injection e5 with _ e5
  obtain ⟨qp', cp', rfl⟩ := slx_shape hp
  obtain ⟨qr', cr', rfl⟩ := slx_shape hr
  obtain ⟨qc', cc', rfl⟩ := slx_shape hcd
  obtain ⟨_, _, ep⟩ := slx_shape hp0
  obtain ⟨_, _, er⟩ := slx_shape hr0
  injection ep with _ ep _
  injection er with _ er _
  subst hf hn ep er e1 e4 e5
  refine ⟨qp', cp', qr', cr', qc', cc', m', rfl, hb, hH, fun k o e => ?_, hcd⟩
  by_cases hk : k < w.heap.size
  · have := hmo.new k rfl hk
    rw [this] at e
    cases e
  · omega
/-- The lent row's block: it may be written, place by place. -/
def LB (g o n : Nat) (W : World) : Prop := ∃ arr T, W.heap[g]? = some (.cells arr T (0, 0)) ∧ o + 2 * n ≤ arr.size
theorem LB.le {g o n : Nat} {A B : World} (h : LB g o n A) (hb : Below A.heap.size A B) : LB g o n B := by
  obtain ⟨arr, T, h1, h2⟩ := h
  exact ⟨arr, T, by rw [hb.block _ (heap_lt h1)]; exact h1, h2⟩
theorem LB.set {g o n : Nat} {A : World} (h : LB g o n A) (j : Nat) (v : Value) : LB g o n (A.setCell ⟨g, j, none⟩ v) := by
  obtain ⟨arr, T, h1, h2⟩ := h
  exact ⟨_, T, heap_set h1 j v, by rw [Array.size_setIfInBounds]; exact h2⟩
theorem LB.free {g o n : Nat} {A : World} (h : LB g o n A) (j : Nat) : A.frozen? ⟨g, j, none⟩ = false := by
  obtain ⟨arr, T, h1, _⟩ := h
  exact free_of h1
theorem LB.cell {g o n : Nat} {A : World} (h : LB g o n A) {j : Nat} (hj : j < 2 * n) : ∃ v, A.cell? ⟨g, o + j, none⟩ = some v := by
  obtain ⟨arr, T, h1, h2⟩ := h
  exact ⟨_, cell_of h1 (Array.getElem?_eq_getElem (by omega))⟩
theorem lent_cells {w : World} {m : Mem} {q : Option Addr} {n c B : Nat} {code : Cd} (h : CdR true (mC m) (.slice q n c) code) (hH : Has w m) (hn : ∀ k o, m k = some o → B ≤ k) : ∃ g o, q = some ⟨g, o, none⟩ ∧ B ≤ g ∧ LB g o n w := by
  obtain ⟨_, _, _, g, o, hq, hm⟩ := slx_mark h (by decide) in_len (by simp [mkI])
  have h0 := hm 0 _ rfl
  refine ⟨g, o, hq, ?_⟩
  unfold mC at h0
  cases hg : m g with
  | none => simp [hg] at h0
  | some ob =>
    refine ⟨hn g ob hg, ?_⟩
    cases ob with
    | cells cur T r =>
      simp only [hg] at h0
      split at h0
      · rename_i hr
        obtain ⟨hlt, _⟩ := Array.getElem?_eq_some_iff.1 h0
        refine ⟨cur, T, ?_, by omega⟩
        rw [hH g _ hg, hr.2]
      · cases h0
    | _ => simp [hg] at h0
theorem inAt_chg {S : Nat → Prop} {A B : World} {q : Option Addr} {l : Cd} (h : InAt (wC A) q l) (hc : Chg S A B) (hq : ∀ g o, q = some ⟨g, o, none⟩ → ¬ S g) : InAt (wC B) q l := by
  intro j hj
  obtain ⟨g, o, e, h1, h2⟩ := h j hj
  exact ⟨g, o, e, hc.cell h1 (hq g o e), hc.cell h2 (hq g o e)⟩
/-- What the law's walk holds from the time when the sequence is made. -/
structure Gm (w : World) (cF cI cE : Array Value) (In E g o nc : Nat) (q : Option Addr) (code : Cd) (s1 : Int) (W : World) : Prop where
  b : Below w.heap.size w W
  f : InB W w.heap.size cF 27
  u : InB W (w.heap.size + 1) #[.int .i64 s1] 3
  i : InB W In cI 27
  e : InB W E cE 27
  c : InAt (wC W) q code
  l : LB g o nc W
  d : w.heap.size + 2 ≤ g ∧ g < In ∧ In < E ∧ ∀ g' o', q = some ⟨g', o', none⟩ → In < g'
section
variable {w : World} {cF cI cE : Array Value} {In E g o nc : Nat} {q : Option Addr} {code : Cd} {s1 : Int} {W W' : World}
theorem Gm.later (h : Gm w cF cI cE In E g o nc q code s1 W) (hb : Below W.heap.size W W') : Gm w cF cI cE In E g o nc q code s1 W' :=
  ⟨h.b.trans (hb.mono h.b.size), h.f.le hb, h.u.le hb, h.i.le hb, h.e.le hb, inAt_le q h.c hb, h.l.le hb, h.d⟩
/-- The lent row is written. -/
theorem Gm.put (h : Gm w cF cI cE In E g o nc q code s1 W) (j : Nat) (v : Value) : Gm w cF cI cE In E g o nc q code s1 (W.setCell ⟨g, j, none⟩ v) := by
  obtain ⟨d1, d2, d3, d4⟩ := h.d
  have hc : Chg (fun k => k = g) W (W.setCell ⟨g, j, none⟩ v) := Chg.setCell (S := fun k => k = g) (p := ⟨g, j, none⟩) (Chg.refl _ W) (.inl rfl) v
  exact ⟨h.b.setCell (by show w.heap.size ≤ g; omega) v, hc.heap h.f (by omega), hc.heap h.u (by omega), hc.heap h.i (by omega), hc.heap h.e (by omega), inAt_chg h.c hc (fun g' o' e e' => by have := d4 g' o' e; omega), h.l.set j v, h.d⟩
/-- The box of upto is written. -/
theorem Gm.upto (h : Gm w cF cI cE In E g o nc q code s1 W) (s2 : Int) : Gm w cF cI cE In E g o nc q code s2 (W.setCell ⟨w.heap.size + 1, 0, none⟩ (.int .i64 s2)) := by
  obtain ⟨d1, d2, d3, d4⟩ := h.d
  have hc : Chg (fun k => k = w.heap.size + 1) W (W.setCell ⟨w.heap.size + 1, 0, none⟩ (.int .i64 s2)) := Chg.setCell (S := fun k => k = w.heap.size + 1) (p := ⟨w.heap.size + 1, 0, none⟩) (Chg.refl _ W) (.inl rfl) (.int .i64 s2)
  obtain ⟨arr, T, l1, l2⟩ := h.l
  exact ⟨h.b.setCell (by show w.heap.size ≤ w.heap.size + 1; omega) _, hc.heap h.f (by omega), heap_set h.u 0 _, hc.heap h.i (by omega), hc.heap h.e (by omega), inAt_chg h.c hc (fun g' o' e e' => by have := d4 g' o' e; omega), ⟨arr, T, hc.heap l1 (by omega), l2⟩, h.d⟩
/-- Another block is written that lies behind all these. -/
theorem Gm.other (h : Gm w cF cI cE In E g o nc q code s1 W) {S : Nat → Prop} (hc : Chg S W W') (hS : ∀ k, S k → In < k ∧ k ≠ E ∧ ∀ g' o', q = some ⟨g', o', none⟩ → k ≠ g') : Gm w cF cI cE In E g o nc q code s1 W' := by
  obtain ⟨d1, d2, d3, d4⟩ := h.d
  have hi := heap_lt h.i
  obtain ⟨arr, T, l1, l2⟩ := h.l
  exact ⟨h.b.trans (hc.below (Nat.le_of_lt (by have := heap_lt h.f; exact this)) (fun k e => by have := hS k e; have := heap_lt h.f; omega)), hc.heap h.f (fun e => by have := hS _ e; omega), hc.heap h.u (fun e => by have := hS _ e; omega), hc.heap h.i (fun e => by have := hS _ e; omega), hc.heap h.e (fun e => (hS _ e).2.1 rfl), inAt_chg h.c hc (fun g' o' e e' => (hS _ e').2.2 g' o' e rfl), ⟨arr, T, hc.heap l1 (fun e => by have := hS _ e; omega), l2⟩, h.d⟩
theorem Gm.grown (h : Gm w cF cI cE In E g o nc q code s1 W) {row : Option Nat} {B : Nat} (hg : W.grownBy W' row) (hr : ∀ r, row = some r → B ≤ r) (hB : In < B ∧ E < B ∧ ∀ g' o', q = some ⟨g', o', none⟩ → g' < B) : Gm w cF cI cE In E g o nc q code s1 W' :=
  h.other (S := fun k => row = some k) (grown_chg hg fun _ e => .inl e) fun k e => ⟨by have := hr k e; omega, by have := hr k e; omega, fun g' o' e' => by have := hr k e; have := hB.2.2 g' o' e'; omega⟩
end
/-- .. with the box of k, and the mark that the range left. -/
structure Rs (w : World) (cF cI cE : Array Value) (In E g o nc : Nat) (q : Option Addr) (code : Cd) (s1 : Int) (K D : Nat) (kk : Int) (W : World) : Prop where
  m : Gm w cF cI cE In E g o nc q code s1 W
  k : Boxed W K 3 (.int .i64 kk)
  d : W.heap[D]? = some (.deferred (some []))
  o : g < K ∧ g < D
section
variable {w : World} {cF cI cE : Array Value} {In E g o nc : Nat} {q : Option Addr} {code : Cd} {s1 : Int} {K D : Nat} {kk : Int} {W W' : World}
theorem Rs.later (h : Rs w cF cI cE In E g o nc q code s1 K D kk W) (hb : Below W.heap.size W W') : Rs w cF cI cE In E g o nc q code s1 K D kk W' :=
  ⟨h.m.later hb, by have := hb.block _ h.k.lt; exact this.trans h.k, by have := hb.block _ (heap_lt h.d); exact this.trans h.d, h.o⟩
theorem Rs.put (h : Rs w cF cI cE In E g o nc q code s1 K D kk W) (j : Nat) (v : Value) : Rs w cF cI cE In E g o nc q code s1 K D kk (W.setCell ⟨g, j, none⟩ v) := by
  have hc : Chg (fun k => k = g) W (W.setCell ⟨g, j, none⟩ v) := Chg.setCell (S := fun k => k = g) (p := ⟨g, j, none⟩) (Chg.refl _ W) (.inl rfl) v
  obtain ⟨o1, o2⟩ := h.o
  exact ⟨h.m.put j v, hc.heap h.k (by omega), hc.heap h.d (by omega), h.o⟩
theorem Rs.grown (h : Rs w cF cI cE In E g o nc q code s1 K D kk W) {row : Option Nat} {B : Nat} (hg : W.grownBy W' row) (hr : ∀ r, row = some r → B ≤ r) (hB : In < B ∧ E < B ∧ (∀ g' o', q = some ⟨g', o', none⟩ → g' < B) ∧ K < B ∧ D < B) : Rs w cF cI cE In E g o nc q code s1 K D kk W' :=
  ⟨h.m.grown hg hr ⟨hB.1, hB.2.1, hB.2.2.1⟩, (hg.block K h.k.lt (fun e => by have := hr K e.symm; omega)).trans h.k, (hg.block D (heap_lt h.d) (fun e => by have := hr D e.symm; omega)).trans h.d, h.o⟩
theorem Rs.under (h : Rs w cF cI cE In E g o nc q code s1 K D kk W) {B : Nat} (hb : Below B W W') (hW : W.heap.size ≤ W'.heap.size) (hB : In < B ∧ E < B ∧ (∀ g' o', q = some ⟨g', o', none⟩ → g' < B) ∧ K < B ∧ D < B) : Rs w cF cI cE In E g o nc q code s1 K D kk W' := by
  have hc : Chg (fun k => B ≤ k) W W' := ⟨hb.os, hb.tape, hb.output, hW, fun k _ hn => hb.block k (by omega)⟩
  exact ⟨h.m.other hc (fun k e => ⟨by have : B ≤ k := e; omega, by have : B ≤ k := e; omega, fun g' o' e' => by have : B ≤ k := e; have := hB.2.2.1 g' o' e'; omega⟩), hc.heap h.k (by omega), hc.heap h.d (by omega), h.o⟩
end
def Sk (K : Nat) (_ : World) (k : Nat) : Prop := k = K
theorem sk_below (K : Nat) : ∀ A B : World, Below A.heap.size A B → (∀ k, Sk K A k → k < A.heap.size) → ∀ k, Sk K B k → Sk K A k := fun _ _ _ _ _ e => e
theorem sk_set {K : Nat} {W : World} (v : Value) (hK : K < W.heap.size) : KpS (Sk K) W (W.setCell ⟨K, 0, none⟩ v) := by
  have hs : (W.setCell ⟨K, 0, none⟩ v).heap.size = W.heap.size := by simp [World.setCell]
  refine ⟨fun a u hc hn => ?_, fun k e => .inl e, fun _ k e => by rw [hs, show k = K from e]; exact hK, Nat.le_of_eq hs.symm⟩
  exact (World.cell?_of_block (Below.heap_setCell W ⟨K, 0, none⟩ _ _ (fun e => hn e))).trans hc
theorem sk_put {K n : Nat} (hK : K < n) (W : World) (l : Nat) (o o' : Obj) (hl : n ≤ l) (h1 : W.heap[l]? = some o) (h2 : o.isCells = false) : KpS (Sk K) W (W.putObj l o') := by
  have hs : (W.putObj l o').heap.size = W.heap.size := by simp [World.putObj]
  have hlt := heap_lt h1
  exact ⟨fun a v hc _ => cell_put hc h1 h2, fun k e => .inl e, fun _ k e => by rw [hs, show k = K from e]; omega, Nat.le_of_eq hs.symm⟩
/-- What the law gathers: both nodes of each edge, one behind the other. -/
def fl2 (l : List (Nat × Nat)) : List Nat := l.flatMap fun x => [x.1, x.2]
theorem fl2_len (l : List (Nat × Nat)) : (fl2 l).length = 2 * l.length := by
  induction l with
  | nil => rfl
  | cons x l ih =>
    unfold fl2 at ih ⊢
    rw [List.flatMap_cons, List.length_append, ih, List.length_cons]
    simp
    omega
theorem fl2_snoc (l : List (Nat × Nat)) (x : Nat × Nat) : fl2 (l ++ [x]) = fl2 l ++ [x.1, x.2] := by simp [fl2]
theorem fl2_app (l r : List (Nat × Nat)) : fl2 (l ++ r) = fl2 l ++ fl2 r := by simp [fl2]
/-- The edges that are gathered when node a's first k are. -/
theorem edgK_part {c : Cd} {i : Nat} {b : Nat} {k : Nat} (hk : (nxt c (i : Int))[k]? = some b) :
    edgK c i ++ ((nxt c (i : Int)).take (k + 1)).map (fun (y : Nat) => (i, y)) = (edgK c i ++ ((nxt c (i : Int)).take k).map fun (y : Nat) => (i, y)) ++ [(i, b)] := by
  obtain ⟨h1, h2⟩ := List.getElem?_eq_some_iff.1 hk
  rw [List.take_add_one, hk]
  simp
theorem edgK_full (c : Cd) (i : Nat) : edgK c i ++ ((nxt c (i : Int)).take (nxt c (i : Int)).length).map (fun (y : Nat) => (i, y)) = edgK c (i + 1) := by
  rw [List.take_length, edgK_succ]
end Go.Proofs.Ythgcnlccikpmaaa
