/- Plain: what stands behind a token makes no difference to a fault at it, nor to what is read ahead of it. -/
import Derived.Test.YtnmcjkabihihiaaDoorSynS
namespace Go.Proofs.Syn

/-- The place where a reader stands in the end. -/
def fin {α : Type} : R α → Nat
  | .error e => e.2
  | .ok x => x.2
/-- From place i on: it goes on, and what it tells up to place m is told by the other one, too. -/
def L {α : Type} (m i : Nat) (r r' : R α) : Prop := i ≤ fin r ∧ (fin r ≤ m → r' = r)
theorem L.on {α β : Type} {m i : Nat} {r r' : R α} {f f' : α → Nat → R β} (h : L m i r r') (hf : ∀ x j, r = .ok (x, j) → L m j (f x j) (f' x j)) : L m i (r.on f) (r'.on f') := by
  match r, h, hf with
  | .error e, h, _ => exact ⟨h.1, fun hm => by rw [h.2 hm]; rfl⟩
  | .ok (x, j), h, hf =>
    have g := hf x j rfl
    have h1 : i ≤ j := h.1
    have h2 : j ≤ fin (f x j) := g.1
    refine ⟨Nat.le_trans h1 h2, fun hm => ?_⟩
    have hm' : fin (f x j) ≤ m := hm
    rw [h.2 (Nat.le_trans h2 hm')]
    exact g.2 hm'
theorem L.from {α : Type} {m i k : Nat} {r r' : R α} (h : L m k r r') (hik : i ≤ k) : L m i r r' := ⟨Nat.le_trans hik h.1, h.2⟩
theorem L.ok {α : Type} {m i j : Nat} (x : α) (h : i ≤ j) : L m i (.ok (x, j) : R α) (.ok (x, j)) := ⟨h, fun _ => rfl⟩
theorem L.err {α : Type} {m i j : Nat} (e : Nat) (h : i ≤ j) : L m i (.error (e, j) : R α) (.error (e, j)) := ⟨h, fun _ => rfl⟩
theorem L.low {α : Type} {m i : Nat} {r r' : R α} (h1 : i ≤ fin r) (h : i ≤ m → L m i r r') : L m i r r' := ⟨h1, fun hm => (h (Nat.le_trans h1 hm)).2 hm⟩
theorem L.sw {α : Type} {m i : Nat} {c c' : Bool} {a a' b b' : R α} (hc : i ≤ m → c' = c) (ha : L m i a a') (hb : L m i b b') : L m i (if c = true then a else b) (if c' = true then a' else b') := by
  refine L.low ?_ fun h => ?_
  · split
    · exact ha.1
    · exact hb.1
  · rw [hc h]
    split
    · exact ha
    · exact hb
theorem on_fin {α β : Type} {r : R α} {f : α → Nat → R β} (h : ∀ x j, r = .ok (x, j) → j ≤ fin (f x j)) : fin r ≤ fin (r.on f) := by
  match r, h with
  | .error e, _ => exact Nat.le_refl _
  | .ok (x, j), h => exact h x j rfl

section
variable {T T' : Nat → Option K} {F m : Nat} (hT : ∀ i, i ≤ m → T' i = T i)
include hT
theorem is_loc {i : Nat} (s : List Nat) (h : i ≤ m) : is T' i s = is T i s := by unfold is; rw [hT i h]
theorem named_loc {i : Nat} (h : i ≤ m) : named T' i = named T i := by unfold named; rw [hT i h]
theorem opOf_loc {i : Nat} (ms : List (List Nat × Nat)) (h : i ≤ m) : opOf T' ms i = opOf T ms i := by
  unfold opOf
  rw [show (fun m : List Nat × Nat => is T' i m.1) = fun m => is T i m.1 from funext fun x => is_loc hT x.1 h]
theorem want_loc (i : Nat) (s : List Nat) : L m i (want T i s) (want T' i s) := by
  unfold want
  exact L.sw (fun h => is_loc hT s h) (L.ok _ (by omega)) (L.err _ (by omega))
theorem name_loc (i : Nat) : L m i (name T i) (name T' i) := by
  refine L.low ?_ fun h => ?_
  · unfold name; split
    · split <;> simp [fin]
    · simp [fin]
  · unfold name; rw [hT i h]; split
    · split
      · exact L.ok _ (by omega)
      · exact L.err _ (by omega)
    · exact L.err _ (by omega)
theorem number_loc (i : Nat) : L m i (number T i) (number T' i) := by
  refine L.low ?_ fun h => ?_
  · unfold number; split
    · split <;> simp [fin]
    · simp [fin]
  · unfold number; rw [hT i h]; split
    · split
      · exact L.ok _ (by omega)
      · exact L.err _ (by omega)
    · exact L.err _ (by omega)
theorem labelF_loc (ns : List (List Nat)) : ∀ (f l i : Nat), L m i (labelF T ns f l i) (labelF T' ns f l i)
  | 0, _, _ => L.err _ (by omega)
  | f + 1, l, i => by
    refine L.low ?_ fun h => ?_
    · rw [labelF]; split
      · split
        · split
          · exact ((labelF_loc ns f _ (i + 1)).from (by omega)).1
          · simp [fin]
        · simp [fin]
      · simp [fin]
    · rw [labelF, labelF, hT i h]; split
      · split
        · split
          · exact (labelF_loc ns f _ (i + 1)).from (by omega)
          · exact L.err _ (by omega)
        · exact L.ok _ (by omega)
      · exact L.ok _ (by omega)
theorem label_loc (ns : List (List Nat)) (i : Nat) : L m i (label T F ns i) (label T' F ns i) :=
  (want_loc hT i _).on fun _ j _ => (labelF_loc hT ns F 0 j).on fun _ j _ => (want_loc hT j _).on fun _ _ _ => L.ok _ (Nat.le_refl _)
theorem decl_loc (ns : List (List Nat)) (i : Nat) : L m i (decl T F ns i) (decl T' F ns i) :=
  (name_loc hT i).on fun _ j _ => (label_loc hT ns j).on fun _ _ _ => L.ok _ (Nat.le_refl _)

theorem loop_loc {p p' : Nat → R (List Tm)} (hp : ∀ i, L m i (p i) (p' i)) (ms : List (List Nat × Nat)) : ∀ (f : Nat) (l : List Tm) (i : Nat), L m i (loopF T p ms f l i) (loopF T' p' ms f l i)
  | 0, _, _ => L.err _ (by omega)
  | f + 1, l, i => by
    have key : ∀ o, L m i ((p (i + 1)).on fun r j => loopF T p ms f (l ++ r ++ [⟨5, o, []⟩]) j) ((p' (i + 1)).on fun r j => loopF T' p' ms f (l ++ r ++ [⟨5, o, []⟩]) j) := fun o =>
      ((hp (i + 1)).from (by omega)).on fun r j _ => loop_loc hp ms f _ j
    refine L.low ?_ fun h => ?_
    · rw [loopF]; split
      · simp [fin]
      · exact (key _).1
    · rw [loopF, loopF, opOf_loc hT ms h]; split
      · exact L.ok _ (by omega)
      · exact key _
theorem tower_loc {u u' : Nat → R (List Tm)} (hu : ∀ i, L m i (u i) (u' i)) : ∀ k i, L m i (tower T F u k i) (tower T' F u' k i)
  | 0, i => hu i
  | k + 1, i => by
    rw [tower, tower]
    exact (tower_loc hu k i).on fun l j _ => loop_loc hT (tower_loc hu k) _ _ _ _
theorem unOps_loc : ∀ (f i : Nat), L m i (unOps T f i) (unOps T' f i)
  | 0, _ => L.err _ (by omega)
  | f + 1, i => by
    have key : ∀ o, L m i ((unOps T f (i + 1)).on fun l j => (.ok (o :: l, j) : R (List Nat))) ((unOps T' f (i + 1)).on fun l j => (.ok (o :: l, j) : R (List Nat))) := fun o =>
      ((unOps_loc f (i + 1)).from (by omega)).on fun _ _ _ => L.ok _ (Nat.le_refl _)
    refine L.low ?_ fun h => ?_
    · rw [unOps]; split
      · simp [fin]
      · exact (key _).1
    · rw [unOps, unOps, opOf_loc hT _ h]; split
      · exact L.ok _ (by omega)
      · exact key _
/-- What stands within brackets. -/
def brack (T : Nat → Option K) (e : Option (Nat → R (List Tm))) (g : List Tm → List Tm) (s : List Nat) (i : Nat) : R (List Tm) :=
  match e with
  | none => .error (51, i)
  | some p => (p (i + 1)).on fun l i => (want T i s).on fun _ i => .ok (g l, i)
/-- What begins with a name. -/
def atomN (T : Nat → Option K) (e : Option (Nat → R (List Tm))) (i : Nat) : R (List Tm) :=
  (name T i).on fun s i => if is T i [91] then brack T e (fun l => l ++ [⟨3, 0, s⟩]) [93] i else .ok ([⟨2, 0, s⟩], i)
/-- What a unary expression's operand is. -/
def atom (T : Nat → Option K) (e : Option (Nat → R (List Tm))) (i : Nat) : R (List Tm) :=
  match T i with
  | none => .error (50, i)
  | some k =>
    if k.kind = 3 then .ok ([⟨1, k.value, []⟩], i + 1)
    else if is T i [40] then brack T e (fun l => l) [41] i
    else atomN T e i
omit hT in
theorem unary_atom (e : Option (Nat → R (List Tm))) (i : Nat) : unary T F e i = (unOps T F i).on fun ops i => (atom T e i).on fun l i => .ok (l ++ ops.reverse.map fun o => ⟨4, o, []⟩, i) := rfl
/-- Two readers of what stands within brackets. -/
def Both (m : Nat) : Option (Nat → R (List Tm)) → Option (Nat → R (List Tm)) → Prop
  | none, none => True
  | some p, some p' => ∀ i, L m i (p i) (p' i)
  | _, _ => False
theorem brack_loc {e e' : Option (Nat → R (List Tm))} (he : Both m e e') (g : List Tm → List Tm) (s : List Nat) (i : Nat) :
    L m i (brack T e g s i) (brack T' e' g s i) := by
  match e, e', he with
  | none, none, _ => exact L.err _ (Nat.le_refl _)
  | some p, some p', he => exact ((he (i + 1)).from (by omega)).on fun l j _ => (want_loc hT j s).on fun _ _ _ => L.ok _ (Nat.le_refl _)
theorem atomN_loc {e e' : Option (Nat → R (List Tm))} (he : Both m e e') (i : Nat) : L m i (atomN T e i) (atomN T' e' i) :=
  (name_loc hT i).on fun s j _ => L.sw (fun h => is_loc hT _ h) (brack_loc hT he (fun l => l ++ [⟨3, 0, s⟩]) _ j) (L.ok _ (Nat.le_refl _))
theorem atom_loc {e e' : Option (Nat → R (List Tm))} (he : Both m e e') (i : Nat) : L m i (atom T e i) (atom T' e' i) := by
  have key2 := L.sw (fun h => is_loc hT [40] h) (brack_loc hT he (fun l => l) [41] i) (atomN_loc hT he i)
  refine L.low ?_ fun h => ?_
  · unfold atom; split
    · simp [fin]
    · split
      · simp [fin]
      · exact key2.1
  · unfold atom; rw [hT i h]; split
    · exact L.err _ (by omega)
    · split
      · exact L.ok _ (by omega)
      · exact key2
theorem unary_loc {e e' : Option (Nat → R (List Tm))} (he : Both m e e') (i : Nat) : L m i (unary T F e i) (unary T' F e' i) := by
  rw [unary_atom, unary_atom]
  exact (unOps_loc hT F i).on fun ops j _ => (atom_loc hT he j).on fun _ _ _ => L.ok _ (Nat.le_refl _)
theorem expr_loc : ∀ d i, L m i (exprD T F d i) (exprD T' F d i)
  | 0, i => tower_loc hT (unary_loc (e := none) (e' := none) hT trivial) 6 i
  | d + 1, i => tower_loc hT (unary_loc (e := some _) (e' := some _) hT (expr_loc d)) 6 i
end

/-! ## An expression that begins with a name goes on behind it -/
section
variable {T : Nat → Option K} {F : Nat}
theorem same_tok : ∀ i, i ≤ F → T i = T i := fun _ _ => rfl
theorem not_is {i : Nat} (h : named T i = true) (s : List Nat) : is T i s = false := by
  unfold named at h; unfold is
  split
  · rename_i k hk
    rw [hk] at h
    have : k.kind = 1 := by simpa using h
    simp [this]
  · rfl
theorem no_op {i : Nat} (h : named T i = true) (ms : List (List Nat × Nat)) : opOf T ms i = 0 := by
  unfold opOf
  have : ms.find? (fun m => is T i m.1) = none := by
    rw [List.find?_eq_none]
    intro x _
    rw [not_is h]; simp
  rw [this]
theorem name_is {i : Nat} (h : named T i = true) : ∃ k, T i = some k ∧ k.kind = 1 ∧ name T i = .ok (k.text, i + 1) := by
  unfold named at h
  split at h
  · rename_i k hk
    have : k.kind = 1 := by simpa using h
    exact ⟨k, hk, this, by unfold name; rw [hk]; simp [this]⟩
  · cases h
theorem expr_on (hF : F ≠ 0) {i : Nat} (h : named T i = true) : i + 1 ≤ fin (expr T F i) := by
  have ht : ∀ j, j ≤ 0 → T j = T j := fun _ _ => rfl
  have hu : i + 1 ≤ fin (unary T F (some (exprD T F 11)) i) := by
    rw [unary_atom]
    have h1 : unOps T F i = .ok ([], i) := by
      match F, hF with
      | f + 1, _ => rw [unOps, if_pos (no_op h _)]
    rw [h1]
    show i + 1 ≤ fin ((atom T (some (exprD T F 11)) i).on _)
    refine Nat.le_trans ?_ (on_fin fun x j _ => Nat.le_refl _)
    obtain ⟨k, hk, h1, h2⟩ := name_is h
    unfold atom
    rw [hk]
    show i + 1 ≤ fin (if k.kind = 3 then _ else if is T i [40] then _ else atomN T _ i)
    rw [if_neg (by omega), not_is h, if_neg (by simp)]
    unfold atomN
    rw [h2]
    exact (L.sw (m := 0) (fun h => is_loc ht _ h) (brack_loc (T' := T) ht (e := some (exprD T F 11)) (e' := some (exprD T F 11)) (expr_loc ht 11) (fun l => l ++ [⟨3, 0, k.text⟩]) [93] (i + 1)) (L.ok _ (Nat.le_refl _))).1
  have hl := fun i => (unary_loc (T' := T) (F := F) ht (e := some (exprD T F 11)) (e' := some (exprD T F 11)) (expr_loc ht 11) i)
  have : ∀ k, i + 1 ≤ fin (tower T F (unary T F (some (exprD T F 11))) k i) := by
    intro k
    induction k with
    | zero => exact hu
    | succ k ih =>
      rw [tower]
      exact Nat.le_trans ih (on_fin fun x j _ => (loop_loc (T' := T) ht (tower_loc ht hl k) _ _ _ _).1)
  exact this 6
end
end Go.Proofs.Syn
