/- Going over a graph: what lies in memory between two steps. -/
import Derived.Test.YthgcnlccikpmaaaGrD
import Derived.Test.YthgcnlccikpmaaaGrKp
namespace Go.Proofs.Ythgcnlccikpmaaa
open Go Go.RowKit Go.Proofs.Mm
structure VS (m0 : Mem) (fv : Value) (N : Nat) (w0 : World) (m : Mem) (L : List Bool) (td : List (List Nat)) (tv : Value) (vs : List Value) (wr : World) : Prop where
  nb : InB wr w0.heap.size #[fv] 55
  sb : InB wr (w0.heap.size + 1) (cB L).toArray 4
  sx : InB wr (w0.heap.size + 2) #[.slice (some ⟨w0.heap.size + 1, 0, none⟩) N N] 35
  tx : InB wr (w0.heap.size + 3) #[tv] 30
  row : wr.ownsRow w0.heap.size 31 1 tv td.length vs
  each : ∀ k, k < td.length → ∃ v, vs[k]? = some v ∧ ReI (mC m) v (td.getD k [])
  has : Has wr m
  le : m0.le m
  off : ∀ i, i < 4 → m (w0.heap.size + i) = none
  toff : ∀ k, tv.ownBlock = some k → m k = none
  below : Below w0.heap.size w0 wr
theorem own_neT {B b size n : Nat} {E : TypeId} {w : World} {v : Value} {xs : List Value} {cs : Array Value} {T : TypeId} (h : w.ownsRow B E size v n xs) (hi : InB w b cs T) (hT : T ≠ E) : v.ownBlock ≠ some b := fun e => by
  obtain ⟨cur, h2⟩ := own_type h e
  rw [show w.heap[b]? = _ from hi] at h2
  simp only [Option.some.injEq, Obj.cells.injEq] at h2
  exact hT h2.2.1
theorem InB.chg {S : Nat → Prop} {w w' : World} {b : Nat} {cs : Array Value} {T : TypeId} (h : InB w b cs T) (hc : Chg S w w') (hn : ¬ S b) : InB w' b cs T := hc.heap h hn
section
variable {m0 m m' : Mem} {fv tv tv' : Value} {N : Nat} {w0 wr w' : World} {L : List Bool} {td : List (List Nat)} {vs : List Value}
/-- Later, with more that is known. -/
theorem VS.later (h : VS m0 fv N w0 m L td tv vs wr) (hb : Below wr.heap.size wr w') (hH : Has w' m') (hm : m.More wr m') : VS m0 fv N w0 m' L td tv vs w' where
  nb := h.nb.le hb
  sb := h.sb.le hb
  sx := h.sx.le hb
  tx := h.tx.le hb
  row := own_chg h.row (Below.chg hb (Nat.le_refl _) (fun _ => False)) (fun _ _ e => e)
  each := fun k hk => by
    obtain ⟨v, e, hv⟩ := h.each k hk
    exact ⟨v, e, hv.le (mle_cle hm.le)⟩
  has := hH
  le := h.le.trans hm.le
  off := fun i hi => hm.new _ (h.off i hi) (by have := h.tx.lt; omega)
  toff := fun k hk => hm.new k (h.toff k hk) (h.row.lt k hk).2
  below := h.below.trans (hb.mono h.below.size)
theorem VS.drewN (h : VS m0 fv N w0 m L td tv vs wr) (k : Nat) : VS m0 fv N w0 m L td tv vs (wr.drewN k) := ⟨h.nb, h.sb, h.sx, h.tx, h.row, h.each, h.has, h.le, h.off, h.toff, ⟨h.below.os, h.below.tape, h.below.output, h.below.size, h.below.block⟩⟩
theorem VS.drew (h : VS m0 fv N w0 m L td tv vs wr) : VS m0 fv N w0 m L td tv vs wr.drew := h.drewN 1
theorem VS.more (h : VS m0 fv N w0 m L td tv vs wr) (o : Obj) : VS m0 fv N w0 m L td tv vs (wr.alloc o) :=
  h.later ((Below.refl _ _).alloc (Nat.le_refl _) _) (has_grown h.has ((Below.refl _ _).alloc (Nat.le_refl _) _)) (Mem.More.refl _ _)
theorem VS.lenv (h : VS m0 fv N w0 m L td tv vs wr) : vs.length = td.length := by have := h.row.1; omega
theorem cB_set (L : List Bool) (x : Nat) (b : Bool) : cB (L.set x b) = (cB L).set x (.bool b) := by unfold cB; rw [List.map_set]
theorem VS.ne (h : VS m0 fv N w0 m L td tv vs wr) {i : Nat} (hi : i < 4) : tv.ownBlock ≠ some (w0.heap.size + i) := by
  match i, hi with
  | 0, _ => exact own_neT h.row h.nb (by decide)
  | 1, _ => exact own_neT h.row h.sb (by decide)
  | 2, _ => exact own_neT h.row h.sx (by decide)
  | 3, _ => exact own_neT h.row h.tx (by decide)
/-- A node is marked. -/
theorem VS.see (h : VS m0 fv N w0 m L td tv vs wr) (x : Nat) : VS m0 fv N w0 m (L.set x true) td tv vs (wr.setCell ⟨w0.heap.size + 1, x, none⟩ (.bool true)) where
  nb := heap_other h.nb (by omega)
  sb := by
    have := heap_set h.sb x (.bool true)
    rw [cB_set]
    unfold InB
    rw [this]
    simp
  sx := heap_other h.sx (by omega)
  tx := heap_other h.tx (by omega)
  row := own_chg h.row ((Chg.refl (fun k => k = w0.heap.size + 1) wr).setCell (.inl rfl) _) (fun k hk e => h.ne (i := 1) (by omega) (by rw [hk, e]))
  each := h.each
  has := h.has.chg ((Chg.refl (fun k => k = w0.heap.size + 1) wr).setCell (.inl rfl) _) (fun k e => by rw [e]; exact h.off 1 (by omega))
  le := h.le
  off := h.off
  toff := h.toff
  below := h.below.setCell (by simp) _
/-- A row more to do. -/
theorem VS.push {v : Value} {r : List Nat} {W : World} (h : VS m0 fv N w0 m L td tv vs wr) (hr : ReI (mC m) v r) (hO : W.ownsRow w0.heap.size 31 1 tv' (td.length + 1) (vs ++ [v])) (hM : Mst wr W tv tv') :
    VS m0 fv N w0 m L (td ++ [r]) tv' (vs ++ [v]) (W.setCell ⟨w0.heap.size + 3, 0, none⟩ tv') := by
  have hS : Chg (fun k => tv.ownBlock = some k) wr W := by
    rcases hM with ⟨_, g⟩ | ⟨_, g⟩
    · exact grown_chg g (fun k e => .inl e)
    · exact grown_chg g (fun k e => by cases e)
  have htx : InB W (w0.heap.size + 3) #[tv] 30 := h.tx.chg hS (h.ne (by omega))
  have hne : tv'.ownBlock ≠ some (w0.heap.size + 3) := own_neT hO htx (by decide)
  have hC : Chg (fun k => k = w0.heap.size + 3) W (W.setCell ⟨w0.heap.size + 3, 0, none⟩ tv') := (Chg.refl (fun k => k = w0.heap.size + 3) W).setCell (.inl rfl) _
  have hHW : Has W m := h.has.chg hS (fun k e => h.toff k e)
  refine ⟨(h.nb.chg hS (h.ne (i := 0) (by omega))).chg hC (by omega), (h.sb.chg hS (h.ne (i := 1) (by omega))).chg hC (by omega), (h.sx.chg hS (h.ne (i := 2) (by omega))).chg hC (by omega), heap_set htx 0 tv', ?_, fun k hk => ?_, hHW.chg hC (fun k e => by rw [e]; exact h.off 3 (by omega)), h.le, h.off, fun k hk => ?_, ?_⟩
  · rw [List.length_append]
    exact own_chg hO hC (fun k hk e => hne (by rw [hk, e]))
  · rw [List.length_append] at hk
    simp only [List.length_cons, List.length_nil, Nat.zero_add] at hk
    have hl := h.lenv
    by_cases e : k < td.length
    · obtain ⟨u, e1, e2⟩ := h.each k e
      refine ⟨u, by rw [List.getElem?_append_left (by omega)]; exact e1, ?_⟩
      rw [List.getD_eq_getElem?_getD, List.getElem?_append_left e, ← List.getD_eq_getElem?_getD]
      exact e2
    · obtain rfl : k = td.length := by omega
      refine ⟨v, by rw [List.getElem?_append_right (by omega), hl]; simp, ?_⟩
      rw [List.getD_eq_getElem?_getD, List.getElem?_append_right (by omega)]
      simpa using hr
  · rcases hM with ⟨e, _⟩ | ⟨e, g⟩
    · exact h.toff k (by rw [← e]; exact hk)
    · exact h.has.lt (e k hk)
  · exact (h.below.trans (hS.below h.below.size (fun i e => (h.row.lt i e).1))).setCell (by simp) _
/-- The row at k is another one. -/
theorem VS.turn {v : Value} {r : List Nat} {g n c k : Nat} (h : VS m0 fv N w0 m L td (.slice (some ⟨g, 0, none⟩) n c) vs wr) (hk : k < td.length) (hr : ReI (mC m) v r) (_hv : v.oneCell' = true) :
    VS m0 fv N w0 m L (td.set k r) (.slice (some ⟨g, 0, none⟩) n c) (vs.set k v) (wr.setCell ⟨g, k, none⟩ v) := by
  have hC : Chg (fun k => k = g) wr (wr.setCell ⟨g, k, none⟩ v) := (Chg.refl (fun k => k = g) wr).setCell (.inl rfl) _
  have hne : ∀ i, i < 4 → ¬ (w0.heap.size + i) = g := fun i hi e => h.ne hi (by rw [e]; rfl)
  have hnn : n = td.length := by
    rcases h.row.2 with ⟨h2, _⟩ | ⟨g', cap', cur, h2, _⟩
    · cases h2
    · injection h2
  refine ⟨h.nb.chg hC (hne 0 (by omega)), h.sb.chg hC (hne 1 (by omega)), h.sx.chg hC (hne 2 (by omega)), h.tx.chg hC (hne 3 (by omega)), ?_, fun j hj => ?_, h.has.chg hC (fun k e => by rw [e]; exact h.toff g rfl), h.le, h.off, h.toff, ?_⟩
  · rw [List.length_set]
    have hrow := h.row
    rw [← hnn] at hrow ⊢
    exact (World.ownsRow.stored hrow k v).1
  · rw [List.length_set] at hj
    have hl := h.lenv
    by_cases e : j = k
    · subst e
      refine ⟨v, by rw [List.getElem?_set]; simp [hl, hj], ?_⟩
      rw [List.getD_eq_getElem?_getD, List.getElem?_set]
      simpa [hj] using hr
    · obtain ⟨u, e1, e2⟩ := h.each j hj
      refine ⟨u, by rw [List.getElem?_set, if_neg (fun e' => e e'.symm)]; exact e1, ?_⟩
      rw [List.getD_eq_getElem?_getD, List.getElem?_set, if_neg (fun e' => e e'.symm), ← List.getD_eq_getElem?_getD]
      exact e2
  · exact h.below.trans ((hC.below h.below.size (fun i e => by rw [e]; exact (h.row.lt g rfl).1)))
theorem own_cut {B size n c k : Nat} {E : TypeId} {w : World} {q : Option Addr} {xs : List Value} (h : w.ownsRow B E size (.slice q n c) n xs) (hk : k ≤ n) : w.ownsRow B E size (.slice q k c) k (xs.take (k * size)) := by
  have h1 := h.1
  have hle : k * size ≤ n * size := Nat.mul_le_mul_right _ hk
  refine ⟨by rw [List.length_take]; omega, ?_⟩
  rcases h.2 with ⟨h2, h0⟩ | ⟨g, cap, cur, h2, hg, hh, h3, h4, h5, h6⟩
  · injection h2 with e1 e2 e3
    subst e1 h0 e3
    obtain rfl : k = 0 := by omega
    exact .inl ⟨rfl, rfl⟩
  · injection h2 with e1 e2 e3
    subst e1 e3
    refine .inr ⟨g, _, cur, rfl, hg, hh, by omega, h4, h5, ?_⟩
    rw [← h6, List.take_take, Nat.min_eq_left hle]
/-- The last row is done with. -/
theorem VS.pop {q : Option Addr} {n c : Nat} {r : List Nat} (h : VS m0 fv N w0 m L (td ++ [r]) (.slice q n c) vs wr) :
    VS m0 fv N w0 m L td (.slice q td.length c) (vs.take td.length) (wr.setCell ⟨w0.heap.size + 3, 0, none⟩ (.slice q td.length c)) := by
  have hC : Chg (fun k => k = w0.heap.size + 3) wr (wr.setCell ⟨w0.heap.size + 3, 0, none⟩ (.slice q td.length c)) := (Chg.refl (fun k => k = w0.heap.size + 3) wr).setCell (.inl rfl) _
  have hob : (Value.slice q td.length c).ownBlock = (Value.slice q n c).ownBlock := by cases q <;> rfl
  have hrow := h.row
  have hln : n = td.length + 1 := by
    rcases h.row.2 with ⟨h2, h0⟩ | ⟨g', cap', cur, h2, _⟩
    · rw [List.length_append] at h0; simp at h0
    · injection h2 with _ e _; rw [e, List.length_append]; rfl
  rw [List.length_append, List.length_cons, List.length_nil, Nat.zero_add, ← hln] at hrow
  have hcut := own_cut hrow (k := td.length) (by omega)
  rw [Nat.mul_one] at hcut
  refine ⟨h.nb.chg hC (by omega), h.sb.chg hC (by omega), h.sx.chg hC (by omega), heap_set h.tx 0 _, own_chg hcut hC (fun k hk e => h.ne (i := 3) (by omega) (by rw [← hob, hk, e])), fun k hk => ?_, h.has.chg hC (fun k e => by rw [e]; exact h.off 3 (by omega)), h.le, h.off, fun k hk => h.toff k (by rw [← hob]; exact hk), h.below.setCell (by simp) _⟩
  obtain ⟨u, e1, e2⟩ := h.each k (by rw [List.length_append]; omega)
  refine ⟨u, by rw [List.getElem?_take, if_pos hk]; exact e1, ?_⟩
  rw [List.getD_eq_getElem?_getD, List.getElem?_append_left hk, ← List.getD_eq_getElem?_getD] at e2
  exact e2
/-- How much is left. -/
def isF : Value → Bool
  | .bool false => true
  | _ => false
def sLn : Value → Nat
  | .slice _ n _ => n
  | _ => 0
def viMs (b : Nat) (W : World) : Nat := 2 * (match W.heap[b + 1]? with | some (.cells cs _ _) => cs.toList.countP isF | _ => 0) + (match W.cell? ⟨b + 3, 0, none⟩ with | some v => sLn v | none => 0)
theorem count_F : ∀ L : List Bool, (cB L).countP isF = fr L
  | [] => rfl
  | x :: L => by
    have := count_F L
    unfold fr cB at *
    cases x <;> simp [List.countP_cons, isF, this]
theorem VS.ms {q : Option Addr} {n c : Nat} (h : VS m0 fv N w0 m L td (.slice q n c) vs wr) : viMs w0.heap.size wr = 2 * fr L + td.length := by
  have hn : n = td.length := by
    rcases h.row.2 with ⟨h2, h0⟩ | ⟨g', cap', cur, h2, _⟩
    · injection h2 with _ e _; rw [e, h0]
    · injection h2
  unfold viMs
  rw [show wr.heap[w0.heap.size + 1]? = _ from h.sb, h.tx.cell (j := 0) (v := .slice q n c) rfl]
  show 2 * (cB L).countP isF + n = _
  rw [count_F, hn]
end
end Go.Proofs.Ythgcnlccikpmaaa
