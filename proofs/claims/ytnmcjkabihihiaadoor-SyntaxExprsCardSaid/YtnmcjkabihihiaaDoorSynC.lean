/- Plain: what is read has no more terms than words; what a word's sign says at a level. -/
import Derived.Test.YtnmcjkabihihiaaDoorSynE
namespace Go.Proofs.Syn

/-- p's terms are no more than the words that it goes on by. -/
def Cnt (p : Nat → R (List Tm)) : Prop := ∀ i l j, p i = .ok (l, j) → l.length + i ≤ j
section
variable {T : Nat → Option K} {F : Nat}
theorem loop_cnt {p : Nat → R (List Tm)} (hp : Cnt p) (ms : List (List Nat × Nat)) : ∀ (f : Nat) (l : List Tm) (i : Nat) (l' : List Tm) (j : Nat), loopF T p ms f l i = .ok (l', j) → l'.length + i ≤ l.length + j
  | 0, _, _, _, _, h => by cases h
  | f + 1, l, i, l', j, h => by
    rw [loopF] at h
    split at h
    · injection h with h; injection h with h1 h2
      subst h1; subst h2; exact Nat.le_refl _
    · obtain ⟨r, i2, h1, h2⟩ := R.on_ok h
      have a := hp _ _ _ h1
      have b := loop_cnt hp ms f _ i2 l' j h2
      simp only [List.length_append, List.length_singleton] at b
      omega
theorem tower_cnt {u : Nat → R (List Tm)} (hu : Cnt u) : ∀ k, Cnt (tower T F u k)
  | 0 => fun i l j h => hu i l j h
  | k + 1 => fun i l j h => by
    rw [tower] at h
    obtain ⟨l1, i1, h1, h2⟩ := R.on_ok h
    have a := tower_cnt hu k _ _ _ h1
    have b := loop_cnt (tower_cnt hu k) _ _ _ _ _ _ h2
    omega
theorem unOps_cnt : ∀ (f i : Nat) (l : List Nat) (j : Nat), unOps T f i = .ok (l, j) → l.length + i = j
  | 0, _, _, _, h => by cases h
  | f + 1, i, l, j, h => by
    rw [unOps] at h
    split at h
    · injection h with h; injection h with h1 h2
      subst h1; subst h2; simp
    · obtain ⟨l1, i1, h1, h2⟩ := R.on_ok h
      injection h2 with h2; injection h2 with h3 h4
      subst h3; subst h4
      have := unOps_cnt f _ _ _ h1
      simp only [List.length_cons]; omega
theorem brack_cnt {e : Option (Nat → R (List Tm))} (he : ∀ p, e = some p → Cnt p) {g : List Tm → List Tm} (hg : ∀ l, (g l).length ≤ l.length + 1) {s : List Nat} {i j : Nat} {l : List Tm} (h : brack T e g s i = .ok (l, j)) : l.length + i ≤ j := by
  unfold brack at h
  split at h
  · cases h
  · obtain ⟨l1, i1, h1, h⟩ := R.on_ok h
    obtain ⟨_, i2, h2, h⟩ := R.on_ok h
    injection h with h; injection h with h3 h4
    subst h3; subst h4
    have a := he _ rfl _ _ _ h1
    have b := (want_ok h2).2
    have := hg l1
    omega
theorem atom_cnt {e : Option (Nat → R (List Tm))} (he : ∀ p, e = some p → Cnt p) : Cnt (atom T e) := by
  intro i l j h
  unfold atom at h
  split at h
  · cases h
  · split at h
    · injection h with h; injection h with h3 h4
      subst h3; subst h4; simp; omega
    · split at h
      · exact brack_cnt he (fun l => Nat.le_succ _) h
      · unfold atomN at h
        obtain ⟨s, i1, h1, h⟩ := R.on_ok h
        have a := (name_ok h1).2.1
        split at h
        · have := brack_cnt he (g := fun l => l ++ [⟨3, 0, s⟩]) (fun l => by simp) h
          omega
        · injection h with h; injection h with h3 h4
          subst h3; subst h4; simp; omega
theorem unary_cnt {e : Option (Nat → R (List Tm))} (he : ∀ p, e = some p → Cnt p) : Cnt (unary T F e) := by
  intro i l j h
  rw [unary_atom] at h
  obtain ⟨ops, i1, h1, h⟩ := R.on_ok h
  obtain ⟨l1, i2, h2, h⟩ := R.on_ok h
  injection h with h; injection h with h3 h4
  subst h3; subst h4
  have a := unOps_cnt _ _ _ _ h1
  have b := atom_cnt he _ _ _ h2
  simp only [List.length_append, List.length_map, List.length_reverse]
  omega
theorem expr_cnt : ∀ d, Cnt (exprD T F d)
  | 0 => tower_cnt (unary_cnt (fun p h => by cases h)) 6
  | d + 1 => tower_cnt (unary_cnt (fun p h => by cases h; exact expr_cnt d)) 6
end

/-- Of a reader that stands within n words. -/
theorem Fit.pos {α : Type} {n : Nat} {r : R α} {x : α} {j : Nat} (h : Fit n r) (e : r = .ok (x, j)) : j ≤ n := by rw [e] at h; exact h
theorem Fit.no99 {α : Type} {n j : Nat} {r : R α} (h : Fit n r) (e : r = .error (99, j)) : False := by
  rw [e] at h
  rcases h.1 with h | h | h | h <;> cases h

/-- The binary operations by their signs, with their levels. -/
def lvlOf (op : Nat) : Nat :=
  if 11 ≤ op ∧ op ≤ 14 then 0 else if op = 7 ∨ op = 8 then 1 else if op = 6 then 2 else if op = 9 ∨ op = 10 then 3 else if op = 1 ∨ op = 2 then 4 else 5
def sgn : Nat → List Nat
  | 1 => [43] | 2 => [45] | 3 => [42] | 4 => [47] | 5 => [37] | 6 => [38] | 7 => [124] | 8 => [94] | 9 => [60, 60] | 10 => [62, 62] | 11 => [61, 61] | 12 => [33, 61] | 13 => [60] | 14 => [60, 61]
  | 15 => [45] | 16 => [33] | 17 => [126] | _ => []
theorem find_congr {α : Type} {p q : α → Bool} : ∀ {l : List α}, (∀ m ∈ l, p m = q m) → l.find? p = l.find? q
  | [], _ => rfl
  | m :: l, h => by
    rw [List.find?_cons, List.find?_cons, h m (List.mem_cons_self ..), find_congr (fun x hx => h x (List.mem_cons_of_mem _ hx))]
/-- Which operation of a list a text is. -/
def opTx (ms : List (List Nat × Nat)) (t : List Nat) : Nat := match ms.find? fun m => t == m.1 with
  | some m => m.2
  | none => 0
theorem opTx_sgn (n : Nat) (h1 : 1 ≤ n) (h2 : n ≤ 14) (l : Nat) (hl : l ≤ 5) : opTx (marks l) (sgn n) = if lvlOf n = l then n else 0 := by
  have : ∀ n : Fin 15, ∀ l : Fin 6, 1 ≤ n.val → opTx (marks l.val) (sgn n.val) = if lvlOf n.val = l.val then n.val else 0 := by decide
  exact this ⟨n, by omega⟩ ⟨l, by omega⟩ h1
theorem opTx_none (ms : List (List Nat × Nat)) (t : List Nat) (h : ∀ m ∈ ms, t ≠ m.1) : opTx ms t = 0 := by
  unfold opTx
  rw [List.find?_eq_none.2 (fun m hm => by simpa using h m hm)]
theorem marks_sgn (l : Nat) : ∀ m ∈ marks l, sgn m.2 = m.1 ∧ 1 ≤ m.2 ∧ m.2 ≤ 14 := by
  have : (marks l).all (fun m => decide (sgn m.2 = m.1 ∧ 1 ≤ m.2 ∧ m.2 ≤ 14)) = true := by
    unfold marks
    split <;> decide
  intro m hm
  simpa using List.all_eq_true.1 this m hm
def unL : List (List Nat × Nat) := [([45], 15), ([33], 16), ([126], 17)]
theorem opTx_un (n : Nat) (h1 : 15 ≤ n) (h2 : n ≤ 17) : opTx unL (sgn n) = n := by
  rcases (show n = 15 ∨ n = 16 ∨ n = 17 by omega) with rfl | rfl | rfl <;> decide
end Go.Proofs.Syn
