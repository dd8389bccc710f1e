/- Memory that has been handed out and is not written again; what a call may have turned. Over any program. -/
import Derived.Below
import Derived.Deep.Draws
import Derived.Laws.AppendOwn
namespace Go.Proofs.Mm
open Go Go.RowKit

/-- Of what was there all is as it was, but for the blocks of S. -/
structure Chg (S : Nat → Prop) (w w' : World) : Prop where
  os : w'.os = w.os
  tape : w'.tape = w.tape
  output : w'.output = w.output
  size : w.heap.size ≤ w'.heap.size
  block : ∀ k, k < w.heap.size → ¬ S k → w'.heap[k]? = w.heap[k]?

theorem Chg.refl (S : Nat → Prop) (w : World) : Chg S w w := ⟨rfl, rfl, rfl, Nat.le_refl _, fun _ _ _ => rfl⟩
theorem Chg.trans {S S' : Nat → Prop} {a b c : World} (h : Chg S a b) (k : Chg S' b c) (hs : ∀ i, S' i → S i ∨ a.heap.size ≤ i) : Chg S a c :=
  ⟨k.os.trans h.os, k.tape.trans h.tape, k.output.trans h.output, Nat.le_trans h.size k.size, fun i hi hn =>
    (k.block i (Nat.lt_of_lt_of_le hi h.size) (fun e => by rcases hs i e with q | q <;> first | exact hn q | exact absurd hi (by omega))).trans (h.block i hi hn)⟩
theorem Chg.then {S : Nat → Prop} {a b c : World} (h : Chg S a b) (k : Chg S b c) : Chg S a c := h.trans k fun _ q => .inl q
theorem Chg.mono {S S' : Nat → Prop} {a b : World} (h : Chg S a b) (hs : ∀ i, S i → S' i ∨ a.heap.size ≤ i) : Chg S' a b :=
  ⟨h.os, h.tape, h.output, h.size, fun i hi hn => h.block i hi (fun e => by rcases hs i e with q | q <;> first | exact hn q | exact absurd hi (by omega))⟩
theorem Chg.drew {S : Nat → Prop} {a w : World} (h : Chg S a w) : Chg S a w.drew := ⟨h.os, h.tape, h.output, h.size, h.block⟩
theorem Chg.drewN {S : Nat → Prop} {a w : World} (h : Chg S a w) (n : Nat) : Chg S a (w.drewN n) := ⟨h.os, h.tape, h.output, h.size, h.block⟩
theorem Chg.alloc {S : Nat → Prop} {a w : World} (h : Chg S a w) (o : Obj) : Chg S a (w.alloc o) :=
  h.then ⟨rfl, rfl, rfl, by simp, fun k hk _ => Below.heap_alloc _ _ _ hk⟩
theorem Chg.setCell {S : Nat → Prop} {a w : World} (h : Chg S a w) {p : Addr} (hp : S p.block ∨ a.heap.size ≤ p.block) (u : Value) : Chg S a (w.setCell p u) :=
  h.trans (S' := fun i => i = p.block) ⟨rfl, rfl, rfl, by simp [World.setCell], fun k _ hk => Below.heap_setCell _ _ _ _ hk⟩ (fun i e => by subst e; exact hp)
theorem Chg.below {S : Nat → Prop} {a w : World} (h : Chg S a w) {B : Nat} (hB : B ≤ a.heap.size) (hS : ∀ i, S i → B ≤ i) : Below B a w :=
  ⟨h.os, h.tape, h.output, h.size, fun k hk => h.block k (by omega) (fun e => by have := hS k e; omega)⟩
theorem Below.chg {B : Nat} {a w : World} (h : Below B a w) (hB : a.heap.size ≤ B) (S : Nat → Prop) : Chg S a w :=
  ⟨h.os, h.tape, h.output, h.size, fun k hk _ => h.block k (by omega)⟩
theorem grown_chg {a w : World} {row : Option Nat} (h : a.grownBy w row) {S : Nat → Prop} (hr : ∀ k, row = some k → S k ∨ a.heap.size ≤ k) : Chg S a w :=
  ⟨h.os, h.tape, h.output, h.size, fun k hk hn => h.block k hk (fun e => by rcases hr k e.symm with q | q <;> first | exact hn q | exact absurd hk (by omega))⟩
theorem Chg.cell {S : Nat → Prop} {a w : World} (h : Chg S a w) {p : Addr} {v : Value} (hc : a.cell? p = some v) (hn : ¬ S p.block) : w.cell? p = some v :=
  (World.cell?_of_block (h.block _ (World.block_lt_of_cell? _ _ hc) hn)).trans hc
theorem heap_lt {w : World} {b : Nat} {o : Obj} (h : w.heap[b]? = some o) : b < w.heap.size := (Array.getElem?_eq_some_iff.1 h).1
theorem Chg.heap {S : Nat → Prop} {a w : World} (h : Chg S a w) {k : Nat} {o : Obj} (hc : a.heap[k]? = some o) (hn : ¬ S k) : w.heap[k]? = some o :=
  (h.block k (heap_lt hc) hn).trans hc

/-- Blocks that are known whole. -/
abbrev Mem := Nat → Option Obj
def Has (w : World) (m : Mem) : Prop := ∀ k o, m k = some o → w.heap[k]? = some o
def Mem.le (m m' : Mem) : Prop := ∀ k o, m k = some o → m' k = some o
/-- m' is m and new blocks of w on. -/
structure Mem.More (w : World) (m m' : Mem) : Prop where
  le : m.le m'
  new : ∀ k, m k = none → k < w.heap.size → m' k = none
theorem Mem.le.refl (m : Mem) : m.le m := fun _ _ h => h
theorem Mem.le.trans {a b c : Mem} (h : a.le b) (k : b.le c) : a.le c := fun i o e => k i o (h i o e)
theorem Mem.More.refl (w : World) (m : Mem) : m.More w m := ⟨Mem.le.refl m, fun _ h _ => h⟩
theorem Mem.More.trans {w w' : World} {a b c : Mem} (h : a.More w b) (k : b.More w' c) (hw : w.heap.size ≤ w'.heap.size) : a.More w c :=
  ⟨h.le.trans k.le, fun i e hi => k.new i (h.new i e hi) (by omega)⟩
theorem Mem.More.from {w w' : World} {a b : Mem} (h : a.More w' b) (hw : w.heap.size ≤ w'.heap.size) : a.More w b := ⟨h.le, fun i e hi => h.new i e (by omega)⟩
theorem Has.chg {S : Nat → Prop} {w w' : World} {m : Mem} (h : Has w m) (hc : Chg S w w') (hs : ∀ k, S k → m k = none) : Has w' m := fun k o e =>
  hc.heap (h k o e) (fun q => by rw [hs k q] at e; cases e)
theorem Has.lt {w : World} {m : Mem} (h : Has w m) {k : Nat} (hk : w.heap.size ≤ k) : m k = none := by
  cases e : m k with
  | none => rfl
  | some o => have := heap_lt (h k o e); omega
/-- One block more. -/
def Mem.put (m : Mem) (g : Nat) (o : Obj) : Mem := fun k => if k = g then some o else m k
theorem Mem.put_le {m : Mem} {g : Nat} {o : Obj} (h : m g = none) : m.le (m.put g o) := fun k o' e => by
  unfold Mem.put
  split
  · rename_i e'; subst e'; rw [h] at e; cases e
  · exact e
theorem Mem.put_same (m : Mem) (g : Nat) (o : Obj) : m.put g o g = some o := by unfold Mem.put; rw [if_pos rfl]
theorem Mem.put_other {m : Mem} {g k : Nat} {o : Obj} (h : k ≠ g) : m.put g o k = m k := by unfold Mem.put; rw [if_neg h]
theorem Has.put {w : World} {m : Mem} {g : Nat} {o : Obj} (h : Has w m) (hg : w.heap[g]? = some o) : Has w (m.put g o) := fun k o' e => by
  unfold Mem.put at e
  split at e
  · rename_i e'; subst e'; injection e with e; subst e; exact hg
  · exact h k o' e
theorem Mem.More.put {w : World} {m : Mem} {g : Nat} {o : Obj} (h : m g = none) (hg : w.heap.size ≤ g) : m.More w (m.put g o) :=
  ⟨Mem.put_le h, fun k e hk => by rw [Mem.put_other (by omega)]; exact e⟩

/-- A slice that reads as a row of cells, in blocks that are known. -/
def RowM (m : Mem) (E : TypeId) (size : Nat) (v : Value) (n : Nat) (xs : List Value) : Prop :=
  xs.length = n * size ∧
  ((v = .slice none 0 0 ∧ n = 0) ∨
   ∃ g cap cur, v = .slice (some ⟨g, 0, none⟩) n cap ∧ m g = some (.cells cur E (0, 0)) ∧ n ≤ cap ∧ cap ≤ maxLen ∧ cur.size = cap * size ∧ cur.toList.take (n * size) = xs)
theorem RowM.le {m m' : Mem} {E : TypeId} {size n : Nat} {v : Value} {xs : List Value} (h : RowM m E size v n xs) (hm : m.le m') : RowM m' E size v n xs := by
  obtain ⟨h1, h2 | ⟨g, cap, cur, h2, h3, h4⟩⟩ := h
  · exact ⟨h1, .inl h2⟩
  · exact ⟨h1, .inr ⟨g, cap, cur, h2, hm _ _ h3, h4⟩⟩
theorem RowM.nil (m : Mem) (E : TypeId) (size : Nat) : RowM m E size (.slice none 0 0) 0 [] := ⟨by simp, .inl ⟨rfl, rfl⟩⟩
/-- A row of the call's own, done with. -/
theorem RowM.done {w : World} {m : Mem} {B : Nat} {E : TypeId} {size n : Nat} {v : Value} {xs : List Value} (h : w.ownsRow B E size v n xs) (hm : Has w m) (hv : ∀ k, v.ownBlock = some k → m k = none) :
    ∃ m', m.le m' ∧ (∀ k, m' k ≠ none → m k ≠ none ∨ v.ownBlock = some k) ∧ Has w m' ∧ RowM m' E size v n xs := by
  obtain ⟨h1, ⟨rfl, rfl⟩ | ⟨g, cap, cur, rfl, hb, hg, h4⟩⟩ := h
  · exact ⟨m, Mem.le.refl m, fun k h => .inl h, hm, h1, .inl ⟨rfl, rfl⟩⟩
  · refine ⟨m.put g _, Mem.put_le (hv g rfl), fun k hk => ?_, hm.put hg, h1, .inr ⟨g, cap, cur, rfl, Mem.put_same _ _ _, h4⟩⟩
    by_cases e : k = g
    · subst e; exact .inr rfl
    · rw [Mem.put_other e] at hk; exact .inl hk
theorem RowM.cells {w : World} {m : Mem} {E : TypeId} {size n : Nat} {v : Value} {xs : List Value} (h : RowM m E size v n xs) (hm : Has w m) :
    ∀ j u, xs[j]? = some u → ∃ g c, v = .slice (some ⟨g, 0, none⟩) n c ∧ w.cell? ⟨g, j, none⟩ = some u ∧ g < w.heap.size := by
  intro j u hu
  obtain ⟨h1, ⟨rfl, rfl⟩ | ⟨g, cap, cur, rfl, hg, h4, h5, h6, h7⟩⟩ := h
  · have : xs = [] := List.eq_nil_of_length_eq_zero (by simpa using h1)
    subst this; simp at hu
  · refine ⟨g, cap, rfl, ?_, heap_lt (hm _ _ hg)⟩
    rw [cell_of_row w g j cur E (0, 0) (hm _ _ hg)]
    rw [← h7, List.getElem?_take] at hu
    split at hu
    · simpa using hu
    · cases hu
end Go.Proofs.Mm
