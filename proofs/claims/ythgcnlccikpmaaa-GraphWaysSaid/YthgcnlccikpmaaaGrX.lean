/- Exit. -/
import Derived.Test.YthgcnlccikpmaaaGrP
import Derived.Test.YthgcnlccikpmaaaGrKc
import Derived.OrdersIn
namespace Go.Proofs.Ythgcnlccikpmaaa
open Go Go.RowKit Go.Proofs.Mm
attribute [local go_sem] Oper.semAt_some
theorem step_mstIn {F : Fence} {nF : Nat} {o : Oper} {a : Act} {K : Act → World → Prop} {Q : Exit → Act → World → Prop} {w : World} (s x : Operand)
    (ho : o.op = .call { callee := .builtin .append, args := #[s, x], argTypes := #[31, 31] })
    (B : Nat) (v : Value) (l : List Nat) (hs : a.eval s = v) (hown : OwnI B w v l)
    (ad : Addr) (c : Nat) (y : Nat) (hx : a.eval x = .slice (some ad) 1 c) (hnews : ∀ j u, (cI [y])[j]? = some u → w.cell? (ad.add j) = some u)
    (hb : (l.length + 1) * 8 ≤ 140737488355328) (hbase : B ≤ w.heap.size)
    (h : ∀ v' w', OwnI B w' v' (l ++ [y]) → w.grownBy w' v.ownBlock → (v'.ownBlock = v.ownBlock ∨ v'.ownBlock = some w.heap.size) → K (a.put o.dst v') w') : Oper.wpIn F nF Try.prog o a w K Q := by
  obtain ⟨i, h2, h3, h4, h5⟩ := infoN
  obtain ⟨v', w', hr, r1, r2, _, r4⟩ := run_append_own_at (P := Try.prog) w B 31 o.type 3 i (.int .i64 0) 1 8 und_N h2 h3 h4 h5 rfl (by omega) v l.length (cI l) hown ad 1 c (cI [y]) rfl hnews (cI_one _) (by unfold maxLen; omega) (by omega) hbase
  have r1' : OwnI B w' v' (l ++ [y]) := by unfold OwnI; rw [List.length_append, cI_app]; exact r1
  unfold Oper.wpIn
  refine ⟨by simp [Oper.about, ho, resolve, Target.leads, Sem.run_pure], ?_⟩
  rw [Oper.semAt_plain F _ _ (by rw [ho]; intro c hc'; cases hc')]
  simp [execOp, ho, resolve, invoke, builtin, hs, hx, hr, Result.andThen]
  exact h v' w' r1' r2 r4
/-- Those with an edge to a node. -/
def prE (pre : List (Nat × Nat)) (b : Nat) : List Nat := gaN (b : Int) pre
/-- The rows of those ahead, in memory: in the box at B lies the row at r. -/
structure Xr (w : World) (B r N : Nat) (pre : List (Nat × Nat)) (rows : List Value) (W : World) : Prop where
  box : Boxed W B 30 (.slice (some ⟨r, 0, none⟩) N N)
  row : InB W r rows.toArray 31
  len : rows.length = N
  own : ∀ b, b < N → ∃ v, rows[b]? = some v ∧ OwnI w.heap.size W v (prE pre b) ∧ (∃ q c, v = .slice q (prE pre b).length c) ∧ ∀ k, v.ownBlock = some k → r < k
  ne : ∀ (b b' : Nat) (v v' : Value) (k : Nat), rows[b]? = some v → rows[b']? = some v' → v.ownBlock = some k → v'.ownBlock = some k → b = b'
  low : Below w.heap.size w W
/-- The blocks that the loop may write. -/
def Sx (B r : Nat) (W : World) (k : Nat) : Prop := k = B ∨ k = r ∨ ∃ j v, W.cell? ⟨r, j, none⟩ = some v ∧ v.ownBlock = some k
theorem sx_below (B r : Nat) : ∀ A C : World, Below A.heap.size A C → (∀ k, Sx B r A k → k < A.heap.size) → ∀ k, Sx B r C k → Sx B r A k := by
  rintro A C hb hl k (rfl | rfl | ⟨j, v, h1, h2⟩)
  · exact .inl rfl
  · exact .inr (.inl rfl)
  · refine .inr (.inr ⟨j, v, ?_, h2⟩)
    rw [hb.cell (hl r (.inr (.inl rfl)))] at h1
    exact h1
theorem sx_put {B r n : Nat} (hB : B < n) (hr : r < n) (W : World) (l : Nat) (o o' : Obj) (hl : n ≤ l) (h1 : W.heap[l]? = some o) (h2 : o.isCells = false) : KpS (Sx B r) W (W.putObj l o') := by
  have hbk : ∀ k, k < n → (W.putObj l o').heap[k]? = W.heap[k]? := fun k hk => by
    simp only [World.putObj]
    rw [Array.getElem?_setIfInBounds_ne (by omega)]
  have hsz : (W.putObj l o').heap.size = W.heap.size := by simp [World.putObj]
  have hset : ∀ k, Sx B r (W.putObj l o') k → Sx B r W k := by
    rintro k (rfl | rfl | ⟨j, v, e1, e2⟩)
    · exact .inl rfl
    · exact .inr (.inl rfl)
    · exact .inr (.inr ⟨j, v, by rw [← World.cell?_of_block (a := ⟨r, j, none⟩) (hbk r hr)]; exact e1, e2⟩)
  exact ⟨fun a v hc _ => cell_put hc h1 h2, fun k e => .inl (hset k e), fun hlt k e => by rw [hsz]; exact hlt k (hset k e), Nat.le_of_eq hsz.symm⟩
theorem prE_snoc (pre : List (Nat × Nat)) (x : Nat × Nat) (b : Nat) : prE (pre ++ [x]) b = prE pre b ++ if x.2 = b then [x.1] else [] := by
  unfold prE
  rw [gaN_snoc]
  by_cases h : x.2 = b
  · rw [if_pos h, if_pos (by omega)]
  · rw [if_neg h, if_neg (by omega)]
section
variable {w W w9 : World} {B r N : Nat} {pre : List (Nat × Nat)} {rows : List Value}
theorem Xr.at (h : Xr w B r N pre rows W) {b : Nat} (hb : b < N) : ∃ q c, W.cell? ⟨r, b, none⟩ = some (.slice q (prE pre b).length c) ∧ rows[b]? = some (.slice q (prE pre b).length c) ∧ OwnI w.heap.size W (.slice q (prE pre b).length c) (prE pre b) := by
  obtain ⟨v, e1, e2, ⟨q, c, rfl⟩, _⟩ := h.own b hb
  exact ⟨q, c, h.row.cell (by simpa using e1), e1, e2⟩
theorem Xr.cellI (h : Xr w B r N pre rows W) {j : Nat} {v : Value} (hc : W.cell? ⟨r, j, none⟩ = some v) : rows[j]? = some v := by
  rw [cell_of_row W r j rows.toArray 31 (0, 0) h.row] at hc
  simpa using hc
theorem Xr.sx (h : Xr w B r N pre rows W) {k : Nat} (hk : Sx B r W k) : k = B ∨ k = r ∨ ∃ b v, b < N ∧ rows[b]? = some v ∧ v.ownBlock = some k ∧ r < k ∧ k < W.heap.size := by
  rcases hk with e | e | ⟨j, v, e1, e2⟩
  · exact .inl e
  · exact .inr (.inl e)
  · have e3 := h.cellI e1
    have hj : j < N := by rw [← h.len]; exact (List.getElem?_eq_some_iff.1 e3).1
    obtain ⟨v', f1, f2, _, f4⟩ := h.own j hj
    rw [e3] at f1
    injection f1 with f1
    subst f1
    exact .inr (.inr ⟨j, v, hj, e3, e2, f4 k e2, (f2.lt k e2).2⟩)
/-- A node more ahead of another one. -/
theorem Xr.more {tmp : Obj} {v v' : Value} {x : Nat × Nat} (h : Xr w B r N pre rows W) (hBr : B ≠ r) (hx : x.2 < N) (hv : rows[x.2]? = some v) (hO : OwnI w.heap.size w9 v' (prE pre x.2 ++ [x.1])) (hg : (W.alloc tmp).grownBy w9 v.ownBlock) (hat : v'.ownBlock = v.ownBlock ∨ v'.ownBlock = some (W.heap.size + 1)) (hwr : w.heap.size ≤ r) :
    KeepsOthers W (w9.setCell ⟨r, x.2, none⟩ v') ∧ KpS (Sx B r) W (w9.setCell ⟨r, x.2, none⟩ v') ∧ Xr w B r N (pre ++ [x]) (rows.set x.2 v') (w9.setCell ⟨r, x.2, none⟩ v') := by
  have hsz : (w9.setCell ⟨r, x.2, none⟩ v').heap.size = w9.heap.size := by simp [World.setCell]
  have hs2 := hg.size
  rw [World.size_alloc] at hs2
  obtain ⟨vv, e1, e2, ⟨q, c, rfl⟩, e4⟩ := h.own x.2 hx
  rw [hv] at e1
  injection e1 with e1
  subst e1
  have hxr : x.2 < rows.length := by rw [h.len]; exact hx
  have hgl : ∀ k, (Value.slice q (prE pre x.2).length c).ownBlock = some k → k < W.heap.size := fun k e => (e2.lt k e).2
  have keep : ∀ k (o : Obj), W.heap[k]? = some o → (Value.slice q (prE pre x.2).length c).ownBlock ≠ some k → w9.heap[k]? = some o := fun k o hk hn => by
    have hk2 : k < W.heap.size := heap_lt hk
    rw [hg.block k (by simp; omega) (fun e => hn e.symm)]
    exact heap_new _ _ hk
  have hBn : (Value.slice q (prE pre x.2).length c).ownBlock ≠ some B := fun e => by
    obtain ⟨cur, h2⟩ := own_type e2 e
    rw [show W.heap[B]? = _ from h.box] at h2
    simp at h2
  have hrn : (Value.slice q (prE pre x.2).length c).ownBlock ≠ some r := own_neT e2 h.row (by decide)
  have hb9 : Boxed w9 B 30 (.slice (some ⟨r, 0, none⟩) N N) := keep B _ h.box hBn
  have hr9 : InB w9 r rows.toArray 31 := keep r _ h.row hrn
  have hv'r : ∀ k, v'.ownBlock = some k → r < k := fun k e => by
    rcases hat with e3 | e3
    · exact e4 k (by rw [← e3]; exact e)
    · rw [e3] at e; injection e with e; have := h.row.lt; omega
  have hrow' : InB (w9.setCell ⟨r, x.2, none⟩ v') r (rows.set x.2 v').toArray 31 := by
    have := heap_set hr9 x.2 v'
    unfold InB
    rw [this]
    simp
  have hset : ∀ j, (rows.set x.2 v')[j]? = if j = x.2 then some v' else rows[j]? := fun j => by
    rw [List.getElem?_set]
    by_cases e : j = x.2
    · subst e; simp [hxr]
    · rw [if_neg (fun e' => e e'.symm), if_neg e]
  have own9 : ∀ u b, b ≠ x.2 → rows[b]? = some u → OwnI w.heap.size W u (prE pre b) → OwnI w.heap.size (w9.setCell ⟨r, x.2, none⟩ v') u (prE pre b) := fun u b hb hu ho => by
    have hn : ∀ k, u.ownBlock = some k → (Value.slice q (prE pre x.2).length c).ownBlock ≠ some k := fun k e1 e2 => hb (h.ne b x.2 u _ k hu hv e1 e2)
    have h1 : OwnI w.heap.size w9 u (prE pre b) := by
      refine ⟨ho.1, ?_⟩
      rcases ho.2 with h0 | ⟨g, cap, cur, rfl, hb', hg', rest⟩
      · exact .inl h0
      · exact .inr ⟨g, cap, cur, rfl, hb', keep g _ hg' (hn g rfl), rest⟩
    exact own_chg h1 ((Chg.refl (fun k => k = r) w9).setCell (.inl rfl) _) (fun k hk e => own_neT h1 hr9 (by decide) (by rw [hk, e]))
  have hO' : OwnI w.heap.size (w9.setCell ⟨r, x.2, none⟩ v') v' (prE pre x.2 ++ [x.1]) := own_chg hO ((Chg.refl (fun k => k = r) w9).setCell (.inl rfl) _) (fun k hk e => own_neT hO hr9 (by decide) (by rw [hk, e]))
  refine ⟨⟨by omega, fun k o hk ho => ?_⟩, ⟨fun a u hc hn => ?_, fun k e => ?_, fun hlt k e => ?_, by omega⟩, ⟨?_, hrow', by rw [List.length_set, h.len], fun b hb => ?_, fun b b' u u' k h1 h2 h3 h4 => ?_, ?_⟩⟩
  · have hkr : k ≠ r := fun e => by subst e; rw [show W.heap[k]? = _ from h.row] at hk; injection hk with hk; subst hk; cases ho
    exact heap_other (keep k o hk (fun e => by
      obtain ⟨cur, h2⟩ := own_type e2 e
      rw [hk] at h2; injection h2 with h2; subst h2; cases ho)) hkr
  · have h1 : a.block ≠ r := fun e => hn (.inr (.inl e))
    have h2 : (Value.slice q (prE pre x.2).length c).ownBlock ≠ some a.block := fun e => hn (.inr (.inr ⟨x.2, _, h.row.cell (by simpa using hv), e⟩))
    have hlt := World.block_lt_of_cell? _ _ hc
    have hbk : w9.heap[a.block]? = W.heap[a.block]? := by
      rw [hg.block _ (by simp; omega) (fun e => h2 e.symm), Below.heap_alloc _ _ _ hlt]
    exact (World.cell?_of_block (Below.heap_setCell w9 ⟨r, x.2, none⟩ _ _ h1)).trans ((World.cell?_of_block hbk).trans hc)
  · rcases e with rfl | rfl | ⟨j, u, e1', e2'⟩
    · exact .inl (.inl rfl)
    · exact .inl (.inr (.inl rfl))
    · have e3' : (rows.set x.2 v')[j]? = some u := by
        rw [cell_of_row _ r j _ 31 (0, 0) hrow'] at e1'
        simpa using e1'
      rw [hset j] at e3'
      split at e3'
      · injection e3' with e3'
        subst e3'
        rcases hat with e5 | e5
        · exact .inl (.inr (.inr ⟨x.2, _, h.row.cell (by simpa using hv), by rw [← e5]; exact e2'⟩))
        · rw [e5] at e2'; injection e2' with e2'; exact .inr (by omega)
      · exact .inl (.inr (.inr ⟨j, u, h.row.cell (by simpa using e3'), e2'⟩))
  · rcases e with rfl | rfl | ⟨j, u, e1', e2'⟩
    · have := hlt k (.inl rfl); omega
    · have := hlt k (.inr (.inl rfl)); omega
    · have e3' : (rows.set x.2 v')[j]? = some u := by
        rw [cell_of_row _ r j _ 31 (0, 0) hrow'] at e1'
        simpa using e1'
      rw [hset j] at e3'
      split at e3'
      · injection e3' with e3'
        subst e3'
        rw [hsz]
        exact (hO.lt k e2').2
      · have := hlt k (.inr (.inr ⟨j, u, h.row.cell (by simpa using e3'), e2'⟩)); omega
  · exact heap_other hb9 hBr
  · rw [hset b, prE_snoc]
    by_cases e : b = x.2
    · subst e
      obtain ⟨q', c', rfl⟩ := own_shape hO
      rw [if_pos rfl, if_pos rfl]
      exact ⟨_, rfl, hO', ⟨_, _, rfl⟩, hv'r⟩
    · rw [if_neg e, if_neg (fun e' => e e'.symm), List.append_nil]
      obtain ⟨u, f1, f2, f3, f4⟩ := h.own b hb
      exact ⟨u, f1, own9 u b e f1 f2, f3, f4⟩
  · rw [hset b] at h1
    rw [hset b'] at h2
    have old : ∀ j u'' k, j ≠ x.2 → rows[j]? = some u'' → u''.ownBlock = some k → v'.ownBlock = some k → False := fun j u'' k hj f1 f2 f3 => by
      rcases hat with e5 | e5
      · exact hj (h.ne j x.2 u'' _ k f1 hv f2 (by rw [← e5]; exact f3))
      · rw [e5] at f3
        injection f3 with f3
        have hjN : j < N := by rw [← h.len]; exact (List.getElem?_eq_some_iff.1 f1).1
        obtain ⟨u3, g1, g2, _, _⟩ := h.own j hjN
        rw [f1] at g1
        injection g1 with g1
        subst g1
        have := (g2.lt k f2).2
        omega
    split at h1
    · injection h1 with h1
      subst h1
      split at h2
      · omega
      · rename_i hb1 hb2
        exact (old b' u' k hb2 h2 h4 h3).elim
    · split at h2
      · injection h2 with h2
        subst h2
        rename_i hb1 hb2
        exact (old b u k hb1 h1 h3 h4).elim
      · exact h.ne b b' u u' k h1 h2 h3 h4
  · exact (grown_below (h.low.alloc h.low.size tmp) (by simp; have := h.low.size; omega) hg (fun k e => (e2.lt k e).1)).setCell hwr _
/-- It abides what is no cells. -/
theorem xr_own (w : World) (B r N n : Nat) (hn : w.heap.size ≤ n) : OwnFrom n (fun pre W => ∃ rows, Xr w B r N pre rows W) := by
  rintro pre X Y row ⟨rows, h⟩ hg hr
  have hne : ∀ (k : Nat) (cs : Array Value) (T : TypeId), X.heap[k]? = some (Obj.cells cs T (0, 0)) → Y.heap[k]? = some (Obj.cells cs T (0, 0)) := fun k cs T hk => by
    rw [hg.block k (heap_lt hk) (fun e => by
      obtain ⟨_, o, ho, hc⟩ := hr k e.symm
      rw [hk] at ho; cases ho; cases hc)]
    exact hk
  refine ⟨rows, hne _ _ _ h.box, hne _ _ _ h.row, h.len, fun b hb => ?_, h.ne, h.low.grown hg h.low.size (fun k e => Nat.le_trans hn (hr k e).1)⟩
  obtain ⟨v, f1, f2, f3, f4⟩ := h.own b hb
  refine ⟨v, f1, ⟨f2.1, ?_⟩, f3, f4⟩
  rcases f2.2 with h0 | ⟨g, cap, cur, rfl, hb', hg', rest⟩
  · exact .inl h0
  · exact .inr ⟨g, cap, cur, rfl, hb', hne _ _ _ hg', rest⟩
end
end Go.Proofs.Ythgcnlccikpmaaa
