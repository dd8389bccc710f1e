/- A sequence of words: what it tells, what its rounds keep; package lex's walk. -/
import Derived.Test.YtnmcjkabihihiaaDoorF
import Derived.RangeFuncNested
import Derived.RangeFuncBound
import Derived.RangeFuncCalls
import Derived.RangeFuncLeaves
import Derived.OwnWalkIn
import Derived.TacticsInMore
import Derived.LoopNIn
import Derived.LoopIn
import Derived.ScopeJumps
import Derived.WalkMore
namespace Go.Proofs.YtnmcjkabihihiaaDoor
open Go Go.RowKit

/-- What is told in one round: a token and an error. -/
structure It where
  k : Nat
  t : ByteArray
  v : Nat
  a : Nat
  e : Nat
def It.key (x : It) : Tok × Nat := (⟨x.k, bl x.t, x.v, x.a⟩, x.e)
def It.enc (x : It) : Array Value := #[tokV x.k x.t x.v x.a, .int .i64 (x.e : Int)]

/-- The block to which the slice in a variable's cell leads. -/
def pt (B5 : Nat) (W : World) : Option Nat := match W.cell? ⟨B5, 0, none⟩ with
  | some (.slice (some a) _ _) => some a.block
  | _ => none

/-- What a round that goes on keeps: all below n₀; each block of cells from n₁ on but that to which the variable's slice leads; the slice leads where it led, or to a new block. -/
structure Keep (n₀ n₁ B5 : Nat) (W W' : World) : Prop where
  below : Below n₀ W W'
  kept : ∀ k o, W.heap[k]? = some o → o.isCells = true → n₁ ≤ k → pt B5 W ≠ some k → W'.heap[k]? = some o
  leads : pt B5 W' = pt B5 W ∨ ∃ g, pt B5 W' = some g ∧ W.heap.size ≤ g ∧ g < W'.heap.size

theorem heap_lt {w : World} {b : Nat} {o : Obj} (h : w.heap[b]? = some o) : b < w.heap.size := (Array.getElem?_eq_some_iff.1 h).1

theorem Keep.trans {n₀ n₁ B5 : Nat} {A B C : World} (h : Keep n₀ n₁ B5 A B) (k : Keep n₀ n₁ B5 B C) : Keep n₀ n₁ B5 A C := by
  refine ⟨h.below.trans k.below, fun j o ho hc hj hp => ?_, ?_⟩
  · have h1 := h.kept j o ho hc hj hp
    refine k.kept j o h1 hc hj ?_
    rcases h.leads with e | ⟨g, e, hg, _⟩
    · rw [e]; exact hp
    · rw [e]
      intro e'
      obtain rfl : g = j := by injection e'
      exact absurd (heap_lt ho) (by omega)
  · rcases k.leads with e | ⟨g, e, hg, hl⟩
    · rcases h.leads with e1 | ⟨g, e1, hg, hl⟩
      · exact .inl (e.trans e1)
      · exact .inr ⟨g, e.trans e1, hg, Nat.lt_of_lt_of_le hl k.below.size⟩
    · exact .inr ⟨g, e, Nat.le_trans h.below.size hg, hl⟩
theorem pt_of_cell {B5 : Nat} {W W' : World} (h : W'.cell? ⟨B5, 0, none⟩ = W.cell? ⟨B5, 0, none⟩) : pt B5 W' = pt B5 W := by
  unfold pt; rw [h]
theorem keep_b {n₀ n₁ B5 : Nat} {w : World} (hn : n₀ ≤ w.heap.size) (hB : B5 < w.heap.size) (W : World) (l : Nat) (o o' : Obj) (hl : w.heap.size ≤ l) (h : W.heap[l]? = some o) (hc : o.isCells = false) (hw : o.isWalk = false) : Keep n₀ n₁ B5 W (W.putObj l o') := by
  refine ⟨belowK_b hn W l o o' hl h hc hw, fun k o2 hk hc2 _ _ => ?_, .inl (pt_of_cell ?_)⟩
  · rw [World.putObj_heap_other (by intro e; subst e; rw [h] at hk; cases hk; rw [hc] at hc2; cases hc2)]
    exact hk
  · exact World.cell?_of_block (a := ⟨B5, 0, none⟩) (World.putObj_heap_other (by show B5 ≠ l; omega))

/-- The variable's slice leads to a block that is there. -/
def PtOk (B5 : Nat) (W : World) : Prop := ∀ g, pt B5 W = some g → g < W.heap.size
theorem PtOk.keep {n₀ n₁ B5 : Nat} {W W' : World} (h : PtOk B5 W) (hk : Keep n₀ n₁ B5 W W') : PtOk B5 W' := by
  intro g hg
  rcases hk.leads with e | ⟨g', e, _, hl⟩
  · rw [e] at hg; exact Nat.lt_of_lt_of_le (h g hg) hk.below.size
  · rw [e] at hg; obtain rfl : g' = g := by injection hg
    exact hl
theorem pt_grow {B5 : Nat} {W W' : World} (hB : B5 < W.heap.size) (hb : Below W.heap.size W W') : pt B5 W' = pt B5 W := pt_of_cell (hb.cell (p := ⟨B5, 0, none⟩) hB)
theorem PtOk.grow {B5 : Nat} {W W' : World} (h : PtOk B5 W) (hB : B5 < W.heap.size) (hb : Below W.heap.size W W') : PtOk B5 W' := by
  intro g hg
  rw [pt_grow hB hb] at hg
  exact Nat.lt_of_lt_of_le (h g hg) hb.size
theorem grown_of_below {W W' : World} (hb : Below W.heap.size W W') : W.grownBy W' none := by
  obtain ⟨h1, h2, h3, h4, h5⟩ := hb
  exact ⟨h1, h2, h3, h4, fun k hk _ => h5 k hk⟩

/-- Where the walk stands at a place of the text: what has been told and what is still to be told make all. -/
structure WSt (S0 n₀ n₁ B5 : Nat) (s : ByteArray) (J : List It → World → Prop) (a : Nat) (pre : List It) (W : World) : Prop where
  items : pre.map It.key ++ itemsOf (scanL ((bl s).drop a) a) = itemsOf (scanL (bl s) 0)
  at_ : a ≤ s.size
  inv : J pre W
  env : Env W
  ptok : PtOk B5 W
  b5 : B5 < W.heap.size
  n0 : n₀ ≤ W.heap.size
  n1 : n₁ ≤ W.heap.size
  s0 : S0 ≤ W.heap.size
theorem WSt.grow {S0 n₀ n₁ B5 : Nat} {s : ByteArray} {J : List It → World → Prop} {a : Nat} {pre : List It} {W W' : World} (h : WSt S0 n₀ n₁ B5 s J a pre W) (hJ : AbidesFrom S0 J) (hb : Below W.heap.size W W') : WSt S0 n₀ n₁ B5 s J a pre W' :=
  ⟨h.items, h.at_, hJ pre W W' none h.inv (grown_of_below hb) (fun r e => by cases e), h.env.below hb h.env.lt, h.ptok.grow h.b5 hb, Nat.lt_of_lt_of_le h.b5 hb.size, Nat.le_trans h.n0 hb.size, Nat.le_trans h.n1 hb.size, Nat.le_trans h.s0 hb.size⟩
theorem WSt.keep {S0 n₀ n₁ B5 : Nat} {s : ByteArray} {J : List It → World → Prop} {a a' : Nat} {pre : List It} {x : It} {W W' : World} (h : WSt S0 n₀ n₁ B5 s J a pre W) (hn : 1 < n₀) (hk : Keep n₀ n₁ B5 W W') (hJ : J (pre ++ [x]) W')
    (hi : itemsOf (scanL ((bl s).drop a) a) = x.key :: itemsOf (scanL ((bl s).drop a') a')) (ha : a' ≤ s.size) : WSt S0 n₀ n₁ B5 s J a' (pre ++ [x]) W' :=
  ⟨by rw [← h.items, hi, List.map_append, List.append_assoc]; rfl, ha, hJ, h.env.below hk.below hn, h.ptok.keep hk, Nat.lt_of_lt_of_le h.b5 hk.below.size, Nat.le_trans h.n0 hk.below.size, Nat.le_trans h.n1 hk.below.size, Nat.le_trans h.s0 hk.below.size⟩
/-- A token that the walk has laid lies on through a round. -/
theorem tok_kept {n₀ n₁ B5 : Nat} {W W3 : World} {k : Int} {t : ByteArray} {v a : Int} (hp : PtOk B5 W) (hB : B5 < W.heap.size) (h1 : n₁ ≤ W.heap.size)
    (hk : Keep n₀ n₁ B5 (W.alloc (.cells #[.int .i64 k, .string t, .int .i64 v, .int .i64 a] 54)) W3) : TokAt W3 W.heap.size k t v a := by
  have hb : Below W.heap.size W (W.alloc (.cells #[.int .i64 k, .string t, .int .i64 v, .int .i64 a] 54)) := (Below.refl _ _).alloc (Nat.le_refl _) _
  have h3 := hk.kept W.heap.size _ (World.alloc_heap_new W _) rfl h1 (by
    rw [pt_grow hB hb]
    intro e
    exact absurd (hp _ e) (Nat.lt_irrefl _))
  have hn := TokAt.new W k t v a 54
  have hh := World.alloc_heap_new W (.cells #[.int .i64 k, .string t, .int .i64 v, .int .i64 a] 54)
  have hc : ∀ j, W3.cell? ⟨W.heap.size, j, none⟩ = (W.alloc (.cells #[.int .i64 k, .string t, .int .i64 v, .int .i64 a] 54)).cell? ⟨W.heap.size, j, none⟩ := fun j => World.cell?_of_block (h3.trans hh.symm)
  have hf : ∀ j, W3.frozen? ⟨W.heap.size, j, none⟩ = (W.alloc (.cells #[.int .i64 k, .string t, .int .i64 v, .int .i64 a] 54)).frozen? ⟨W.heap.size, j, none⟩ := fun j => World.frozen?_of_block (h3.trans hh.symm)
  exact ⟨(hc 0).trans hn.c0, (hc 1).trans hn.c1, (hc 2).trans hn.c2, (hc 3).trans hn.c3, (hf 0).trans hn.f0, (hf 1).trans hn.f1, (hf 2).trans hn.f2, (hf 3).trans hn.f3⟩
theorem bl_rest (s : ByteArray) (k : Nat) : bl (s.extract k s.size) = (bl s).drop k := by
  rw [bl_extract, List.take_of_length_le (by rw [bl_length]; exact Nat.le_refl _)]
theorem gap_le (l : List Nat) : gapL l ≤ l.length := by
  unfold gapL
  split
  · exact (List.takeWhile_sublist _).length_le
  · exact (List.takeWhile_sublist _).length_le
theorem WSt.gap {S0 n₀ n₁ B5 : Nat} {s : ByteArray} {J : List It → World → Prop} {k : Nat} {pre : List It} {W : World} (h : WSt S0 n₀ n₁ B5 s J k pre W) : WSt S0 n₀ n₁ B5 s J (k + gapL ((bl s).drop k)) pre W := by
  have hg := gap_le ((bl s).drop k)
  rw [List.length_drop, bl_length] at hg
  refine ⟨?_, by have := h.at_; omega, h.inv, h.env, h.ptok, h.b5, h.n0, h.n1, h.s0⟩
  have := h.items
  rw [items_gap, List.drop_drop] at this
  exact this
/-- The token at a place. -/
def itAt (s : ByteArray) (k : Nat) : It := ⟨(wordL ((bl s).drop k)).2, (s.extract k s.size).extract 0 (wordL ((bl s).drop k)).1, valL ((bl s).drop k), k, 0⟩
theorem at_word {s : ByteArray} {k : Nat} (hk : k < s.size) (hg : gapL ((bl s).drop k) = 0) (he : errL ((bl s).drop k) = 0) :
    itemsOf (scanL ((bl s).drop k) k) = (itAt s k).key :: itemsOf (scanL ((bl s).drop (k + (wordL ((bl s).drop k)).1)) (k + (wordL ((bl s).drop k)).1)) ∧ k + (wordL ((bl s).drop k)).1 ≤ s.size ∧ 0 < (wordL ((bl s).drop k)).1 ∧ (itAt s k).t.size = (wordL ((bl s).drop k)).1 := by
  have hw := errL_word he
  have hle := wordL_le ((bl s).drop k)
  rw [List.length_drop, bl_length] at hle
  have hst : (itAt s k).t.size = (wordL ((bl s).drop k)).1 := size_take _ _ (by simp; omega)
  refine ⟨?_, by omega, by omega, hst⟩
  have hbt : bl (itAt s k).t = ((bl s).drop k).take (wordL ((bl s).drop k)).1 := by
    show bl ((s.extract k s.size).extract 0 _) = _
    rw [bl_take, bl_rest]
  have hkey : (itAt s k).key = (⟨(wordL ((bl s).drop k)).2, ((bl s).drop k).take (wordL ((bl s).drop k)).1, valL ((bl s).drop k), k⟩, 0) := by
    unfold It.key; rw [hbt]; rfl
  rw [hkey, ← List.drop_drop]
  clear hkey hbt hst hle hw
  cases hd : (bl s).drop k with
  | nil =>
    have := congrArg List.length hd
    rw [List.length_drop, bl_length] at this
    simp at this; omega
  | cons c r =>
    rw [hd] at hg he
    obtain ⟨h1, h2⟩ := no_gap hg
    exact items_word k h1 h2 he
theorem at_err {s : ByteArray} {k : Nat} (hk : k < s.size) (hg : gapL ((bl s).drop k) = 0) (he : errL ((bl s).drop k) ≠ 0) :
    itemsOf (scanL ((bl s).drop k) k) = [(⟨0, ⟨#[]⟩, 0, k, errL ((bl s).drop k)⟩ : It).key] := by
  cases hd : (bl s).drop k with
  | nil =>
    have := congrArg List.length hd
    rw [List.length_drop, bl_length] at this
    simp at this; omega
  | cons c r =>
    rw [hd] at hg he
    obtain ⟨h1, h2⟩ := no_gap hg
    exact items_err k h1 h2 he
theorem at_end {s : ByteArray} {k : Nat} (hk : s.size ≤ k) : itemsOf (scanL ((bl s).drop k) k) = [] := by
  rw [List.drop_of_length_le (by rw [bl_length]; exact hk)]
  exact items_nil k
theorem len_lt {pre : List It} {x : It} {l r : List (Tok × Nat)} (h : pre.map It.key ++ l = r) (hl : ∃ q, l = x.key :: q) : pre.length < r.length := by
  obtain ⟨q, rfl⟩ := hl
  have := congrArg List.length h
  rw [List.length_append, List.length_map, List.length_cons] at this
  omega
theorem pre_of {pre : List It} {x : It} {l r : List (Tok × Nat)} (h : pre.map It.key ++ l = r) (hl : ∃ q, l = x.key :: q) : (pre ++ [x]).map It.key <+: r := by
  obtain ⟨q, rfl⟩ := hl
  exact ⟨q, by rw [← h, List.map_append, List.append_assoc]; rfl⟩
theorem yield_any {P : Program} {l : Nat} {args : Array Value} {W : World} {R : Ending → World → Prop} {m : Nat} (m' : Nat) (h : YieldAt Fence.wide m P l args W R) : YieldAt Fence.wide m' P l args W R := by
  obtain ⟨fn, tmps, assign, body, hy, h1, h2⟩ := h
  exact ⟨fn, tmps, assign, body, hy, h1, fun c cs _ => h2 c cs (room_wide _)⟩
end Go.Proofs.YtnmcjkabihihiaaDoor
