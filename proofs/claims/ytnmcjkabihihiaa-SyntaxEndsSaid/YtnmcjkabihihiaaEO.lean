/- Ends in memory: the rows ends, elses and open. -/
import Derived.Test.YtnmcjkabihihiaaEN
import Derived.Deep.AppendLies
namespace Go.Proofs.Ytnmcjkabihihiaa
open Go Go.RowKit Go.Proofs.Mm Go.Proofs.Syn

def iv (z : Int) : Value := .int .i64 z
def ivs (l : List Int) : List Value := l.map iv
def ops (l : List Nat) : List Value := l.reverse.map fun (t : Nat) => Value.int .i64 (t : Int)
/-- What the kinds of a body are read from. -/
def BodyR (w : World) (q : Option Addr) (zs : List Int) : Prop := ∀ j z, zs[j]? = some z → ∃ g s a1 n1 c1 a2 n2 c2, q = some ⟨g, 0, none⟩ ∧ w.cell? ⟨g, j * 4, none⟩ = some (.int .i64 z) ∧ w.cell? ⟨g, j * 4 + 1, none⟩ = some (.string s) ∧ w.cell? ⟨g, j * 4 + 2, none⟩ = some (.slice a1 n1 c1) ∧ w.cell? ⟨g, j * 4 + 3, none⟩ = some (.slice a2 n2 c2)
theorem BodyR.below {w w' : World} {q : Option Addr} {zs : List Int} (h : BodyR w q zs) (hb : Below w.heap.size w w') : BodyR w' q zs := by
  intro j z hz
  obtain ⟨g, s, a1, n1, c1, a2, n2, c2, h0, h1, h2, h3, h4⟩ := h j z hz
  have hlt : g < w.heap.size := World.block_lt_of_cell? _ _ h1
  exact ⟨g, s, a1, n1, c1, a2, n2, c2, h0, (hb.cell hlt).trans h1, (hb.cell hlt).trans h2, (hb.cell hlt).trans h3, (hb.cell hlt).trans h4⟩
structure EnW (w : World) (H1 H2 H3 n : Nat) (W : World) (E L : List Int) (op : List Nat) (q5 : Option Addr) (c5 : Nat) (q6 : Option Addr) (c6 : Nat) (v7 : Value) : Prop where
  e : W.ownsRow H1 3 1 (.slice q5 n c5) n (ivs E)
  l : W.ownsRow H2 3 1 (.slice q6 n c6) n (ivs L)
  o : W.ownsRow H3 3 1 v7 op.length (ops op)
  b : Below w.heap.size w W
  h0 : w.heap.size ≤ H1
  h1 : H1 ≤ H2
  h2 : H2 ≤ H3
  h3 : H3 ≤ W.heap.size
  be : ∀ k, (Value.slice q5 n c5).ownBlock = some k → k < H2
  bl : ∀ k, (Value.slice q6 n c6).ownBlock = some k → k < H3
section
variable {w : World} {H1 H2 H3 n : Nat} {W : World} {E L : List Int} {op : List Nat} {q5 : Option Addr} {c5 : Nat} {q6 : Option Addr} {c6 : Nat} {v7 : Value}
theorem EnW.lenE (h : EnW w H1 H2 H3 n W E L op q5 c5 q6 c6 v7) : E.length = n := by have := h.e.1; simpa [ivs] using this
theorem EnW.lenL (h : EnW w H1 H2 H3 n W E L op q5 c5 q6 c6 v7) : L.length = n := by have := h.l.1; simpa [ivs] using this
theorem EnW.alloc (h : EnW w H1 H2 H3 n W E L op q5 c5 q6 c6 v7) (o : Obj) : EnW w H1 H2 H3 n (W.alloc o) E L op q5 c5 q6 c6 v7 :=
  ⟨h.e.alloc o, h.l.alloc o, h.o.alloc o, h.b.alloc h.b.size o, h.h0, h.h1, h.h2, by rw [World.size_alloc]; have := h.h3; omega, h.be, h.bl⟩
theorem EnW.drew (h : EnW w H1 H2 H3 n W E L op q5 c5 q6 c6 v7) : EnW w H1 H2 H3 n W.drew E L op q5 c5 q6 c6 v7 :=
  ⟨h.e.drew, h.l.drew, h.o.drew, h.b.drew, h.h0, h.h1, h.h2, h.h3, h.be, h.bl⟩
theorem own_not_zero {V : World} {B e size m : Nat} {q : Option Addr} {c : Nat} {xs : List Value} (h : V.ownsRow B e size (.slice q m c) m xs) (hm : 0 < m) : ∃ g, q = some ⟨g, 0, none⟩ ∧ B ≤ g ∧ g < V.heap.size := by
  obtain ⟨g, cap, hv, hb, hlt⟩ := h.form hm
  injection hv with hv
  exact ⟨g, hv, hb, hlt⟩
theorem ivs_at {l : List Int} {t : Nat} (ht : t < l.length) : (ivs l)[t]? = some (.int .i64 (gI l t)) := by
  unfold ivs
  rw [List.getElem?_map, gI_at ht]; rfl
theorem EnW.eAt (h : EnW w H1 H2 H3 n W E L op q5 c5 q6 c6 v7) (t : Nat) (ht : t < n) : ∃ g, q5 = some ⟨g, 0, none⟩ ∧ H1 ≤ g ∧ W.cell? ⟨g, t, none⟩ = some (.int .i64 (gI E t)) ∧ W.frozen? ⟨g, t, none⟩ = false ∧
    ∀ z : Int, EnW w H1 H2 H3 n (W.setCell ⟨g, t, none⟩ (.int .i64 z)) (E.set t z) L op q5 c5 q6 c6 v7 := by
  have hn : 0 < n := by omega
  have he := h.e
  obtain ⟨g, rfl, hb, hlt⟩ := own_not_zero he hn
  have hg2 : g < H2 := h.be g rfl
  refine ⟨g, rfl, hb, by rw [he.cellAt t (by omega)]; exact ivs_at (by rw [h.lenE]; exact ht), he.frozenAt t, fun z => ?_⟩
  have hs := (he.stored t (.int .i64 z))
  refine ⟨by rw [show ivs (E.set t z) = (ivs E).set t (.int .i64 z) from by unfold ivs; rw [List.map_set]; rfl]; exact hs.1, ?_, ?_, ?_, h.h0, h.h1, h.h2, by simpa using h.h3, h.be, h.bl⟩
  · refine h.l.kept hs.2 (.inr fun e => ?_)
    obtain ⟨a, _⟩ := h.l.lt g e
    omega
  · refine h.o.kept hs.2 (.inr fun e => ?_)
    obtain ⟨a, _⟩ := h.o.lt g e
    have := h.h2
    omega
  · exact h.b.setCell (p := ⟨g, t, none⟩) (by have := h.h0; show w.heap.size ≤ g; omega) _
theorem EnW.lAt (h : EnW w H1 H2 H3 n W E L op q5 c5 q6 c6 v7) (t : Nat) (ht : t < n) : ∃ g, q6 = some ⟨g, 0, none⟩ ∧ W.cell? ⟨g, t, none⟩ = some (.int .i64 (gI L t)) ∧ W.frozen? ⟨g, t, none⟩ = false ∧
    ∀ z : Int, EnW w H1 H2 H3 n (W.setCell ⟨g, t, none⟩ (.int .i64 z)) E (L.set t z) op q5 c5 q6 c6 v7 := by
  have hn : 0 < n := by omega
  have he := h.l
  obtain ⟨g, rfl, hb, hlt⟩ := own_not_zero he hn
  have hg2 : g < H3 := h.bl g rfl
  refine ⟨g, rfl, by rw [he.cellAt t (by omega)]; exact ivs_at (by rw [h.lenL]; exact ht), he.frozenAt t, fun z => ?_⟩
  have hs := (he.stored t (.int .i64 z))
  refine ⟨?_, by rw [show ivs (L.set t z) = (ivs L).set t (.int .i64 z) from by unfold ivs; rw [List.map_set]; rfl]; exact hs.1, ?_, ?_, h.h0, h.h1, h.h2, by simpa using h.h3, h.be, h.bl⟩
  · refine h.e.kept hs.2 (.inr fun e => ?_)
    have := h.be g e
    omega
  · refine h.o.kept hs.2 (.inr fun e => ?_)
    obtain ⟨a, _⟩ := h.o.lt g e
    omega
  · exact h.b.setCell (p := ⟨g, t, none⟩) (by have := h.h0; have := h.h1; show w.heap.size ≤ g; omega) _
theorem EnW.top {t : Nat} (h : EnW w H1 H2 H3 n W E L (t :: op) q5 c5 q6 c6 v7) : ∃ g c, v7 = .slice (some ⟨g, 0, none⟩) (op.length + 1) c ∧ op.length ≤ c ∧ W.cell? ⟨g, op.length, none⟩ = some (.int .i64 (t : Int)) ∧
    EnW w H1 H2 H3 n W E L op q5 c5 q6 c6 (.slice (some ⟨g, 0, none⟩) op.length c) := by
  have ho := h.o
  rcases ho.2 with ⟨_, h0⟩ | ⟨g, cap, cur, hv, hb, hg, h1, h2, h3, h4⟩
  · simp at h0
  · have hops : ops (t :: op) = ops op ++ [.int .i64 (t : Int)] := by simp [ops]
    have hlo : (ops op).length = op.length := by simp [ops]
    subst hv
    simp only [List.length_cons] at ho h1 h4 ⊢
    refine ⟨g, cap, rfl, by omega, ?_, h.e, h.l, ⟨by rw [hlo, Nat.mul_one], .inr ⟨g, cap, cur, rfl, hb, hg, by omega, h2, h3, ?_⟩⟩, h.b, h.h0, h.h1, h.h2, h.h3, h.be, h.bl⟩
    · rw [ho.cellAt op.length (by omega), hops, List.getElem?_append_right (by omega), hlo, Nat.sub_self]; rfl
    · rw [hops] at h4
      have := congrArg (List.take op.length) h4
      rw [List.take_take, Nat.min_eq_left (by omega), List.take_append_of_le_length (by omega), List.take_of_length_le (l := ops op) (by omega)] at this
      rw [Nat.mul_one]
      exact this
theorem EnW.push (h : EnW w H1 H2 H3 n W E L op q5 c5 q6 c6 v7) {i : Nat} {v' : Value} {w' : World} (hw : w'.ownsRow H3 3 1 v' (op.length + 1) (ops op ++ [.int .i64 (i : Int)])) (hg : W.grownBy w' v7.ownBlock) : EnW w H1 H2 H3 n w' E L (i :: op) q5 c5 q6 c6 v' := by
  have hol := h.o.lt
  refine ⟨h.e.kept hg ?_, h.l.kept hg ?_, by simpa [ops] using hw, h.b.grown hg h.b.size (fun k hk => by have := (hol k hk).1; have := h.h0; have := h.h1; have := h.h2; omega), h.h0, h.h1, h.h2, by have := hg.size; have := h.h3; omega, h.be, h.bl⟩
  · cases hq : (Value.slice q5 n c5).ownBlock with
    | none => exact .inl rfl
    | some k =>
      refine .inr fun e => ?_
      have a := h.be k hq
      have b := (hol k e.symm).1
      have := h.h2
      omega
  · cases hq : (Value.slice q6 n c6).ownBlock with
    | none => exact .inl rfl
    | some k =>
      refine .inr fun e => ?_
      have a := h.bl k hq
      have b := (hol k e.symm).1
      omega
end
end Go.Proofs.Ytnmcjkabihihiaa
