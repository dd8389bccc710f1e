/- unary of the parser: operations, then what they are of, told backward. -/
import Derived.Test.YtnmcjkabihihiaaDoorEE
import Derived.Maps.OwnIn
namespace Go.Proofs.YtnmcjkabihihiaaDoor
open Go Go.RowKit Go.Proofs.Mm

/-! ## Plain: the operations ahead -/
theorem unOps_spec {T : Nat → Option Syn.K} : ∀ (f i : Nat) (ops : List Nat) (j : Nat), Syn.unOps T f i = .ok (ops, j) → j = i + ops.length ∧ Syn.opOf T Syn.unL j = 0 ∧ ∀ n (h : n < ops.length), Syn.opOf T Syn.unL (i + n) = ops[n] ∧ ops[n] ≠ 0
  | 0, _, _, _, h => by cases h
  | f + 1, i, ops, j, h => by
    rw [Syn.unOps] at h
    split at h
    · rename_i h0
      injection h with h; injection h with h1 h2
      subst h1; subst h2
      exact ⟨rfl, h0, fun n hn => absurd hn (by simp)⟩
    · rename_i h0
      obtain ⟨l1, i1, h1, h2⟩ := Syn.R.on_ok h
      injection h2 with h2; injection h2 with h3 h4
      subst h3; subst h4
      obtain ⟨a, b, c⟩ := unOps_spec f _ _ _ h1
      refine ⟨by rw [List.length_cons]; omega, b, fun n hn => ?_⟩
      cases n with
      | zero => exact ⟨rfl, h0⟩
      | succ n =>
        have := c n (by simpa using hn)
        rw [show i + (n + 1) = i + 1 + n by omega]
        exact this
theorem lt_of_op {ys : List It} {i : Nat} {ms : List (List Nat × Nat)} (h : Syn.opOf (Tk ys) ms i ≠ 0) : i < ys.length := Syn.opOf_lt (tk_nones ys) h

def unT (x : Nat × Nat) : Syn.Tm := ⟨4, x.2, []⟩
def nmCells (l : List Nat) : List Value := l.map fun (k : Nat) => Value.int .i64 (k : Int)
def sLen : Value → Nat | .slice _ n _ => n | _ => 0
theorem infoI : ∃ i, Tryd.prog.info? 3 = some i ∧ i.zero = some (.int .i64 0) ∧ i.size = 1 ∧ i.bytes = 8 := by
  have h : (Tryd.prog.info? 3).map (fun i => (i.zero, i.size, i.bytes)) = some (some (.int .i64 0), 1, 8) := by kernel_rfl
  cases hi : Tryd.prog.info? 3 with
  | none => rw [hi] at h; cases h
  | some i =>
    rw [hi] at h
    simp only [Option.map_some, Option.some.injEq, Prod.mk.injEq] at h
    obtain ⟨e1, e2, e3⟩ := h
    exact ⟨i, rfl, e1, e2, e3⟩
theorem nm_one (k : Nat) : ∀ u ∈ [Value.int .i64 (k : Int)], u.oneCell' = true := by
  intro u h
  obtain rfl : u = Value.int .i64 (k : Int) := by simpa using h
  rfl
theorem nums_of_row {w : World} {B n c : Nat} {q : Option Addr} {ops : List Nat} (h : w.ownsRow B 3 1 (.slice q n c) n (nmCells ops)) : NumsAt w q ops := by
  intro j hj
  have hl := h.1
  rw [nmCells, List.length_map, Nat.mul_one] at hl
  rcases h.2 with ⟨_, h0⟩ | ⟨g, cap, cur, h0, _, hg, _, _, _, ht⟩
  · omega
  · simp only [Value.slice.injEq, true_and] at h0
    obtain ⟨rfl, rfl⟩ := h0
    refine ⟨g, cur, rfl, hg, ?_⟩
    have := congrArg (fun l => l[j]?) ht
    simp only [List.getElem?_take, nmCells, List.getElem?_map, List.getElem?_eq_getElem hj, Option.map_some] at this
    rw [if_pos (by omega)] at this
    simpa using this

/-! ## The rounds -/
theorem cells_grown {X Y : World} {row : Option Nat} (hg : X.grownBy Y row) (hr : ∀ r, row = some r → ∃ o : Obj, X.heap[r]? = some o ∧ o.isCells = false) {k : Nat} {arr : Array Value} {T : TypeId} {fr : Nat × Nat} (h : X.heap[k]? = some (.cells arr T fr)) : Y.heap[k]? = some (.cells arr T fr) := by
  refine (hg.block k (heap_lt h) (fun e => ?_)).trans h
  obtain ⟨o, ho, hc⟩ := hr k e.symm
  rw [h] at ho; cases ho; cases hc
theorem row_grown {X Y : World} {row : Option Nat} (hg : X.grownBy Y row) (hr : ∀ r, row = some r → ∃ o : Obj, X.heap[r]? = some o ∧ o.isCells = false) {B n size : Nat} {E : TypeId} {v : Value} {xs : List Value} (h : X.ownsRow B E size v n xs) : Y.ownsRow B E size v n xs := by
  refine ⟨h.1, ?_⟩
  rcases h.2 with h0 | ⟨g, cap, cur, rfl, hb, hgg, rest⟩
  · exact .inl h0
  · exact .inr ⟨g, cap, cur, rfl, hb, cells_grown hg hr hgg, rest⟩
theorem PS.grown {ys : List It} {len bp bw i : Nat} {vp : Value} {X Y : World} {row : Option Nat} (h : PS ys len bp bw vp X i) (hg : X.grownBy Y row) (hr : ∀ r, row = some r → ∃ o : Obj, X.heap[r]? = some o ∧ o.isCells = false) : PS ys len bp bw vp Y i := by
  obtain ⟨⟨c, a1, a2⟩, ⟨arr, b1, b2⟩, h3, h4⟩ := h
  exact ⟨⟨c, cells_grown hg hr a1, a2⟩, ⟨arr, cells_grown hg hr b1, b2⟩, h3, h4⟩

/-- What holds between two rounds over the operations. -/
structure UI (ys : List It) (len bp bw : Nat) (vp : Value) (l0 : List Syn.Tm) (v : Value) (w w7 : World) (b0 Bx j : Nat) (q : Option Addr) (pre : List (Nat × Nat)) (W : World) : Prop where
  box : ∃ q' c', W.heap[b0]? = some (.cells #[.slice q' (l0.length + pre.length) c'] 22 (0, 0)) ∧ TR W (.slice q' (l0.length + pre.length) c') (l0 ++ pre.map unT) ∧ ∀ k, Value.ownBlock (.slice q' (l0.length + pre.length) c') = some k → v.ownBlock = some k ∨ w.heap.size ≤ k
  ps : PS ys len bp bw vp W j
  chg : Chg (TS bp v) w W
  kp : KpB Bx q w7 W
theorem UI.own {ys : List It} {len bp bw : Nat} {vp : Value} {l0 : List Syn.Tm} {v : Value} {w w7 : World} {b0 Bx j : Nat} {q : Option Addr} {B : Nat} (hB : w.heap.size ≤ B) {f0 : Value} (h7 : w7.heap[Bx]? = some (.cells #[f0] 82 (0, 0))) (hq : ∀ a, q = some a → ∃ cur, w7.heap[a.block]? = some (.cells cur 3 (0, 0))) :
    OwnFrom B (UI ys len bp bw vp l0 v w w7 b0 Bx j q) := by
  intro pre X Y row h hg hr
  have hr2 := fun r e => (hr r e).2
  obtain ⟨q', c', a1, a2, a3⟩ := h.box
  refine ⟨⟨q', c', cells_grown hg hr2 a1, row_grown hg hr2 a2, a3⟩, h.ps.grown hg hr2, h.chg.trans (grown_chg (S := fun k => row = some k) hg (fun k e => .inl e)) (fun k e => .inr (by have := (hr k e).1; omega)), ?_⟩
  refine ⟨?_, fun a ha => ?_⟩
  · rw [h7]; exact cells_grown hg hr2 (h.kp.1.trans h7)
  · obtain ⟨cur, hc⟩ := hq a ha
    rw [hc]; exact cells_grown hg hr2 ((h.kp.2 a ha).trans hc)
theorem kp_b {Bx : Nat} {q : Option Addr} {w : World} (h1 : Bx < w.heap.size) (h2 : ∀ a, q = some a → a.block < w.heap.size) (W : World) (l : Nat) (o o' : Obj) (hl : w.heap.size ≤ l) (_ : W.heap[l]? = some o) (_ : o.isCells = false) (_ : o.isWalk = false) : KpB Bx q W (W.putObj l o') :=
  ⟨World.putObj_heap_other (by omega), fun a ha => World.putObj_heap_other (by have := h2 a ha; omega)⟩
theorem kp_t {Bx : Nat} {q : Option Addr} {A B C : World} (h : KpB Bx q A B) (k : KpB Bx q B C) : KpB Bx q A C := ⟨k.1.trans h.1, fun a ha => (k.2 a ha).trans (h.2 a ha)⟩
theorem kp_back {Bx : Nat} {q : Option Addr} {A B C : World} (h : KpB Bx q A B) (k : KpB Bx q A C) : KpB Bx q B C := ⟨k.1.trans h.1.symm, fun a ha => (k.2 a ha).trans (h.2 a ha).symm⟩
/-- One round: a term more, laid back into the box. -/
theorem UI.round {ys : List It} {len bp bw : Nat} {vp : Value} {l0 : List Syn.Tm} {v : Value} {w w7 : World} {b0 Bx j : Nat} {q : Option Addr} {pre : List (Nat × Nat)} {W : World} (h : UI ys len bp bw vp l0 v w w7 b0 Bx j q pre W) (x : Nat × Nat) (hb0 : w.heap.size ≤ b0)
    {f0 : Value} (h7 : w7.heap[Bx]? = some (.cells #[f0] 82 (0, 0))) (hq : ∀ a, q = some a → ∃ cur, w7.heap[a.block]? = some (.cells cur 3 (0, 0)))
    {q1 : Option Addr} {c1 : Nat} (hv1 : W.heap[b0]? = some (.cells #[.slice q1 (l0.length + pre.length) c1] 22 (0, 0))) (T : TypeId) {v' : Value} {w9 : World}
    (hown : w9.ownsRow 0 46 3 v' (l0.length + pre.length + 1) (tmCells (l0 ++ pre.map unT) ++ tmC (unT x))) (hg : (W.alloc (.cells (tmC (unT x)).toArray T)).grownBy w9 (Value.ownBlock (.slice q1 (l0.length + pre.length) c1))) (hat : v'.ownBlock = Value.ownBlock (.slice q1 (l0.length + pre.length) c1) ∨ v'.ownBlock = some (W.heap.size + 1)) :
    w9.heap[b0]? = some (.cells #[.slice q1 (l0.length + pre.length) c1] 22 (0, 0)) ∧ UI ys len bp bw vp l0 v w w7 b0 Bx j q (pre ++ [x]) (w9.setCell ⟨b0, 0, none⟩ v') ∧ KeepsOthers W (w9.setCell ⟨b0, 0, none⟩ v') ∧ KpB Bx q W (w9.setCell ⟨b0, 0, none⟩ v') := by
  obtain ⟨q', c', a1, a2, a3⟩ := h.box
  have e1 := a1.symm.trans hv1
  simp only [Option.some.injEq, Obj.cells.injEq, Array.mk.injEq, List.cons.injEq, Value.slice.injEq, and_true, true_and] at e1
  obtain ⟨rfl, rfl⟩ := e1
  clear a1
  have hl : (l0 ++ pre.map unT).length = l0.length + pre.length := by rw [List.length_append, List.length_map]
  obtain ⟨t1, t2, t3, t4⟩ := tr_app (t := unT x) h.ps a2 T (by rw [hl]; exact hown) hg hat
  have hnb : ∀ (k : Nat) (arr : Array Value) (E : TypeId), W.heap[k]? = some (.cells arr E (0, 0)) → E ≠ 46 → Value.ownBlock (.slice q' (l0.length + pre.length) c') ≠ some k := by
    intro k arr E hk hE e
    obtain ⟨cur, hc⟩ := own_type a2 e
    rw [hk] at hc
    simp only [Option.some.injEq, Obj.cells.injEq] at hc
    exact hE hc.2.1
  have hC : Chg (fun k => Value.ownBlock (.slice q' (l0.length + pre.length) c') = some k) W w9 := ((Chg.refl _ W).alloc _).then (grown_chg hg (fun k hk => .inl hk))
  have hb9 := hC.heap hv1 (hnb _ _ _ hv1 (by decide))
  have hset := heap_set hb9 0 v'
  have hx := own_chg (w := w9) (w' := w9.setCell ⟨b0, 0, none⟩ v') t1 (S := fun k => k = b0) ((Chg.refl (fun k => k = b0) w9).setCell (p := ⟨b0, 0, none⟩) (.inl rfl) v') (fun k hk e => by
    subst e
    obtain ⟨cur, hc⟩ := own_type t1 hk
    rw [hb9] at hc
    simp at hc)
  obtain ⟨qq, cc, hvv⟩ := own_shape hown
  have hK : ∀ (k : Nat) (arr : Array Value) (E : TypeId), W.heap[k]? = some (.cells arr E (0, 0)) → E ≠ 46 → E ≠ 22 → (w9.setCell ⟨b0, 0, none⟩ v').heap[k]? = W.heap[k]? := by
    intro k arr E hk hE hE2
    have h9 := hC.heap hk (hnb k arr E hk hE)
    rw [heap_other h9 (fun e => by subst e; rw [hb9] at h9; simp only [Option.some.injEq, Obj.cells.injEq] at h9; exact hE2 h9.2.1.symm), hk]
  have hkp : KpB Bx q w7 (w9.setCell ⟨b0, 0, none⟩ v') := by
    refine ⟨?_, fun a ha => ?_⟩
    · rw [hK Bx _ _ (h.kp.1.trans h7) (by decide) (by decide)]; exact h.kp.1
    · obtain ⟨cur, hc⟩ := hq a ha
      rw [hK a.block _ _ ((h.kp.2 a ha).trans hc) (by decide) (by decide)]; exact h.kp.2 a ha
  refine ⟨hb9, ⟨⟨qq, cc, ?_, ?_, ?_⟩, ?_, ?_, hkp⟩, ?_, kp_back h.kp hkp⟩
  · rw [List.length_append, List.length_singleton, ← Nat.add_assoc, ← hvv]; exact hset
  · rw [List.map_append, List.map_singleton, ← List.append_assoc, List.length_append, List.length_singleton, ← Nat.add_assoc, ← hvv]; exact hx
  · rw [List.length_append, List.length_singleton, ← Nat.add_assoc, ← hvv]
    intro k hk
    have hsz := h.chg.size
    rcases t4 k hk with e | e
    · exact a3 k e
    · exact .inr (by omega)
  · exact t2.chg (S := fun k => k = b0) ((Chg.refl (fun k => k = b0) w9).setCell (p := ⟨b0, 0, none⟩) (.inl rfl) v') (fun e => by
      obtain ⟨⟨c, p1, _⟩, _⟩ := t2
      rw [e, hb9] at p1; simp at p1) (fun e => by
      obtain ⟨_, ⟨arr, p1, _⟩, _⟩ := t2
      rw [e, hb9] at p1; simp at p1)
  · refine (h.chg.trans hC (fun k hk => ?_)).setCell (p := ⟨b0, 0, none⟩) (.inr hb0) _
    rcases a3 k hk with e | e
    · exact .inl (.inr e)
    · exact .inr e
  · refine ((KeepsOthers.alloc W _).trans (KeepsOthers.of_grownBy hg fun j o e ho => ?_)).trans (KeepsOthers.setCell _ _ _)
    obtain ⟨cur, hc⟩ := own_type (a2.alloc (.cells (tmC (unT x)).toArray T)) e
    rw [hc] at ho; cases ho; rfl
end Go.Proofs.YtnmcjkabihihiaaDoor
