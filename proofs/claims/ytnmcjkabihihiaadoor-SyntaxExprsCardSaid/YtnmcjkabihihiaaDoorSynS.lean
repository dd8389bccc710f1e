/- Plain: of a source that is read each statement is as its kind asks, blocks nest, and each body ends with its only return. -/
import Derived.Test.YtnmcjkabihihiaaDoorSynM
namespace Go.Proofs.Syn

/-- What a statement's kind asks of it (of kinds 1 to 8). -/
structure StOk (s : St) : Prop where
  low : 1 ≤ s.kind
  high : s.kind ≤ 8
  one : s.kind = 1 ∨ s.kind = 3 ∨ s.kind = 5 ∨ s.kind = 7 → s.exprs.length = 1
  two : s.kind = 2 → s.exprs.length = 2
  none : s.kind = 6 ∨ s.kind = 8 → s.exprs.length = 0
  target : s.kind = 1 → s.targets.length = 1
  whole : ∀ e ∈ s.exprs, Wh e
/-- Blocks: what lies open, each with whether an else may still come. -/
def nest : List Nat → List Bool → Option (List Bool)
  | [], st => some st
  | k :: l, st =>
    if k = 5 then nest l (true :: st)
    else if k = 7 then nest l (false :: st)
    else if k = 6 then (match st with
      | true :: st => nest l (false :: st)
      | _ => none)
    else if k = 8 then (match st with
      | _ :: st => nest l st
      | [] => none)
    else nest l st
theorem nest_5 (l : List Nat) (st : List Bool) : nest (5 :: l) st = nest l (true :: st) := by simp [nest]
theorem nest_7 (l : List Nat) (st : List Bool) : nest (7 :: l) st = nest l (false :: st) := by simp [nest]
theorem nest_6 (l : List Nat) (st : List Bool) : nest (6 :: l) (true :: st) = nest l (false :: st) := by simp [nest]
theorem nest_8 (l : List Nat) (x : Bool) (st : List Bool) : nest (8 :: l) (x :: st) = nest l st := by simp [nest]
def Bal (l : List Nat) : Prop := ∀ st r, nest (l ++ r) st = nest r st
theorem Bal.nil : Bal [] := fun _ _ => rfl
theorem Bal.one {k : Nat} (h5 : k ≠ 5) (h6 : k ≠ 6) (h7 : k ≠ 7) (h8 : k ≠ 8) : Bal [k] := fun st r => by simp [nest, h5, h6, h7, h8]
theorem Bal.app {l m : List Nat} (h : Bal l) (h' : Bal m) : Bal (l ++ m) := fun st r => by rw [List.append_assoc, h, h']
theorem Bal.ifs {a : List Nat} (h : Bal a) : Bal (5 :: a ++ [8]) := fun st r => by
  rw [List.append_assoc]; show nest (5 :: (a ++ ([8] ++ r))) st = _
  rw [nest_5, h]; exact nest_8 _ _ _
theorem Bal.whiles {a : List Nat} (h : Bal a) : Bal (7 :: a ++ [8]) := fun st r => by
  rw [List.append_assoc]; show nest (7 :: (a ++ ([8] ++ r))) st = _
  rw [nest_7, h]; exact nest_8 _ _ _
theorem Bal.elses {a b : List Nat} (h : Bal a) (h' : Bal b) : Bal (5 :: a ++ 6 :: b ++ [8]) := fun st r => by
  rw [List.append_assoc, List.append_assoc]; show nest (5 :: (a ++ (6 :: (b ++ ([8] ++ r))))) st = _
  rw [nest_5, h, nest_6, h']
  exact nest_8 _ _ _
theorem Bal.closed {l : List Nat} (h : Bal l) : nest l [] = some [] := by
  have := h [] []
  rwa [List.append_nil] at this

section
variable {T : Nat → Option K} {F : Nat}
def GoodS (p : Nat → R (List St)) : Prop := ∀ i l j, p i = .ok (l, j) → (∀ s ∈ l, StOk s) ∧ Bal (l.map St.kind) ∧ i < j
theorem mem_snoc {α : Type} {P : α → Prop} {l : List α} {x : α} (h : ∀ y ∈ l, P y) (hx : P x) : ∀ y ∈ l ++ [x], P y := by
  intro y hy
  rcases List.mem_append.1 hy with hy | hy
  · exact h y hy
  · rw [List.mem_singleton.1 hy]; exact hx
theorem mem_app {α : Type} {P : α → Prop} {l m : List α} (h : ∀ y ∈ l, P y) (h' : ∀ y ∈ m, P y) : ∀ y ∈ l ++ m, P y := by
  intro y hy
  rcases List.mem_append.1 hy with hy | hy
  · exact h y hy
  · exact h' y hy
theorem list_good {e : Nat → R (List Tm)} (he : Good e) (fin : List Nat) : ∀ (f : Nat) (l : List (List Tm)) (i : Nat) (l' : List (List Tm)) (j : Nat), (∀ x ∈ l, Wh x) → listF T e fin f l i = .ok (l', j) → (∀ x ∈ l', Wh x) ∧ i < j
  | 0, _, _, _, _, _, h => by cases h
  | f + 1, l, i, l', j, hl, h => by
    rw [listF] at h
    obtain ⟨x, i1, h1, h⟩ := R.on_ok h
    obtain ⟨hx, hi⟩ := he _ _ _ h1
    split at h
    · injection h with h; injection h with h2 h3
      subst h2; subst h3
      exact ⟨mem_snoc hl hx, by omega⟩
    · split at h
      · obtain ⟨a, b⟩ := list_good he fin f _ _ _ _ (mem_snoc hl hx) h
        exact ⟨a, by omega⟩
      · cases h
theorem listed_good {fin : List Nat} {i j : Nat} {l : List (List Tm)} (h : list T F fin i = .ok (l, j)) : (∀ x ∈ l, Wh x) ∧ i < j := by
  unfold list at h
  split at h
  · injection h with h; injection h with h2 h3
    subst h2; subst h3
    exact ⟨fun _ hx => (by cases hx), by omega⟩
  · exact list_good (expr_good 12) _ _ _ _ _ _ (fun _ hx => (by cases hx)) h
theorem targets_good : ∀ (f : Nat) (l : List (List Nat)) (i : Nat) (l' : List (List Nat)) (j : Nat), targetsF T f l i = .ok (l', j) → i ≤ j
  | 0, _, _, _, _, h => by cases h
  | f + 1, l, i, l', j, h => by
    rw [targetsF] at h
    split at h
    · obtain ⟨s, i1, h1, h⟩ := R.on_ok h
      have := (name_ok h1).2.1
      have := targets_good f _ _ _ _ h
      omega
    · injection h with h; injection h with h2 h3
      omega
theorem call_good {ts : List (List Nat)} {s : List Nat} {i j : Nat} {l : List St} (h : call T F ts s i = .ok (l, j)) : (∀ s ∈ l, StOk s) ∧ Bal (l.map St.kind) ∧ i < j := by
  unfold call at h
  obtain ⟨_, i1, h1, h⟩ := R.on_ok h
  obtain ⟨es, i2, h2, h⟩ := R.on_ok h
  obtain ⟨_, i3, h3, h⟩ := R.on_ok h
  injection h with h; injection h with h4 h5
  subst h4; subst h5
  have a := (want_ok h1).2
  have b := listed_good h2
  have c := (want_ok h3).2
  refine ⟨fun x hx => ?_, Bal.one (by simp) (by simp) (by simp) (by simp), by omega⟩
  rw [List.mem_singleton.1 hx]
  exact ⟨by simp, by simp, by simp, by simp, by simp, by simp, b.1⟩
theorem plain_good : GoodS (plain T F) := by
  intro i l j h
  unfold plain at h
  obtain ⟨s, i1, h1, h⟩ := R.on_ok h
  have n1 := (name_ok h1).2.1
  split at h
  · obtain ⟨a, i2, h2, h⟩ := R.on_ok h
    obtain ⟨_, i3, h3, h⟩ := R.on_ok h
    obtain ⟨_, i4, h4, h⟩ := R.on_ok h
    obtain ⟨b, i5, h5, h⟩ := R.on_ok h
    obtain ⟨_, i6, h6, h⟩ := R.on_ok h
    injection h with h; injection h with h7 h8
    subst h7; subst h8
    have g2 := expr_good 12 _ _ _ h2
    have g3 := (want_ok h3).2
    have g4 := (want_ok h4).2
    have g5 := expr_good 12 _ _ _ h5
    have g6 := (want_ok h6).2
    refine ⟨fun x hx => ?_, Bal.one (by simp) (by simp) (by simp) (by simp), by omega⟩
    rw [List.mem_singleton.1 hx]
    refine ⟨by simp, by simp, by simp, by simp, by simp, by simp, ?_⟩
    intro e he
    rcases (show e = a ∨ e = b by simpa using he) with rfl | rfl
    · exact g2.1
    · exact g5.1
  · split at h
    · have := call_good h
      exact ⟨this.1, this.2.1, by omega⟩
    · obtain ⟨ts, i2, h2, h⟩ := R.on_ok h
      obtain ⟨_, i3, h3, h⟩ := R.on_ok h
      have g2 := targets_good _ _ _ _ _ h2
      have g3 := (want_ok h3).2
      split at h
      · rename_i ht
        obtain ⟨e, i4, h4, h⟩ := R.on_ok h
        obtain ⟨_, i5, h5, h⟩ := R.on_ok h
        injection h with h; injection h with h7 h8
        subst h7; subst h8
        have g4 := expr_good 12 _ _ _ h4
        have g5 := (want_ok h5).2
        refine ⟨fun x hx => ?_, Bal.one (by simp) (by simp) (by simp) (by simp), by omega⟩
        rw [List.mem_singleton.1 hx]
        refine ⟨by simp, by simp, by simp, by simp, by simp, fun _ => ht.1, ?_⟩
        intro y hy
        rw [List.mem_singleton.1 hy]
        exact g4.1
      · obtain ⟨s, i4, h4, h⟩ := R.on_ok h
        have g4 := (name_ok h4).2.1
        have := call_good h
        exact ⟨this.1, this.2.1, by omega⟩
theorem stmts_good {s : Nat → R (List St)} (hs : GoodS s) (fin : List Nat) : ∀ (f : Nat) (l : List St) (i : Nat) (l' : List St) (j : Nat), (∀ x ∈ l, StOk x) → Bal (l.map St.kind) → stmtsF T s fin f l i = .ok (l', j) → (∀ x ∈ l', StOk x) ∧ Bal (l'.map St.kind) ∧ i < j
  | 0, _, _, _, _, _, _, h => by cases h
  | f + 1, l, i, l', j, hl, hb, h => by
    rw [stmtsF] at h
    split at h
    · injection h with h; injection h with h2 h3
      subst h2; subst h3
      exact ⟨hl, hb, by omega⟩
    · obtain ⟨x, i1, h1, h⟩ := R.on_ok h
      obtain ⟨a, b, c⟩ := hs _ _ _ h1
      obtain ⟨d, e, g⟩ := stmts_good hs fin f _ _ _ _ (mem_app hl a) (by rw [List.map_append]; exact hb.app b) h
      exact ⟨d, e, by omega⟩
theorem block_good {s : Option (Nat → R (List St))} (hs : ∀ p, s = some p → GoodS p) : GoodS (block T F s) := by
  intro i l j h
  unfold block at h
  split at h
  · split at h <;> cases h
  · obtain ⟨_, i1, h1, h⟩ := R.on_ok h
    have g := (want_ok h1).2
    obtain ⟨a, b, c⟩ := stmts_good (hs _ rfl) _ _ [] _ _ _ (fun _ hx => (by cases hx)) Bal.nil h
    exact ⟨a, b, by omega⟩
theorem stOk_1 (k : Nat) (hk : k = 5 ∨ k = 7) {e : List Tm} (h : Wh e) : StOk ⟨k, [], [], [e]⟩ := by
  refine ⟨?_, ?_, fun _ => rfl, ?_, ?_, ?_, fun x hx => by rw [List.mem_singleton.1 hx]; exact h⟩
  all_goals (try intro h1); simp only at *; omega
theorem stOk_0 (k : Nat) (hk : k = 6 ∨ k = 8) : StOk ⟨k, [], [], []⟩ := by
  refine ⟨?_, ?_, ?_, ?_, fun _ => rfl, ?_, fun x hx => by cases hx⟩
  all_goals (try intro h1); simp only at *; omega
theorem stmtOf_good {s : Option (Nat → R (List St))} (hs : ∀ p, s = some p → GoodS p) : GoodS (stmtOf T F s) := by
  intro i l j h
  unfold stmtOf at h
  split at h
  · obtain ⟨e, i1, h1, h⟩ := R.on_ok h
    obtain ⟨a, i2, h2, h⟩ := R.on_ok h
    have g1 := expr_good 12 _ _ _ h1
    have g2 := block_good hs _ _ _ h2
    split at h
    · obtain ⟨b, i3, h3, h⟩ := R.on_ok h
      have g3 := block_good hs _ _ _ h3
      injection h with h; injection h with h4 h5
      subst h4; subst h5
      refine ⟨?_, ?_, by omega⟩
      · intro x hx
        simp only [List.cons_append, List.mem_cons, List.mem_append, List.append_assoc, List.not_mem_nil, or_false] at hx
        rcases hx with rfl | hx | rfl | hx | rfl
        · exact stOk_1 5 (.inl rfl) g1.1
        · exact g2.1 x hx
        · exact stOk_0 6 (.inl rfl)
        · exact g3.1 x hx
        · exact stOk_0 8 (.inr rfl)
      · simpa using Bal.elses g2.2.1 g3.2.1
    · injection h with h; injection h with h4 h5
      subst h4; subst h5
      refine ⟨?_, ?_, by omega⟩
      · intro x hx
        simp only [List.cons_append, List.mem_cons, List.mem_append, List.not_mem_nil, or_false] at hx
        rcases hx with rfl | hx | rfl
        · exact stOk_1 5 (.inl rfl) g1.1
        · exact g2.1 x hx
        · exact stOk_0 8 (.inr rfl)
      · simpa using Bal.ifs g2.2.1
  · split at h
    · obtain ⟨e, i1, h1, h⟩ := R.on_ok h
      obtain ⟨a, i2, h2, h⟩ := R.on_ok h
      have g1 := expr_good 12 _ _ _ h1
      have g2 := block_good hs _ _ _ h2
      injection h with h; injection h with h4 h5
      subst h4; subst h5
      refine ⟨?_, ?_, by omega⟩
      · intro x hx
        simp only [List.cons_append, List.mem_cons, List.mem_append, List.not_mem_nil, or_false] at hx
        rcases hx with rfl | hx | rfl
        · exact stOk_1 7 (.inr rfl) g1.1
        · exact g2.1 x hx
        · exact stOk_0 8 (.inr rfl)
      · simpa using Bal.whiles g2.2.1
    · split at h
      · obtain ⟨c, i1, h1, h⟩ := R.on_ok h
        obtain ⟨e, i2, h2, h⟩ := R.on_ok h
        obtain ⟨_, i3, h3, h⟩ := R.on_ok h
        injection h with h; injection h with h4 h5
        subst h4; subst h5
        have g1 := (name_ok h1).2.1
        have g2 := expr_good 12 _ _ _ h2
        have g3 := (want_ok h3).2
        refine ⟨fun x hx => ?_, Bal.one (by simp) (by simp) (by simp) (by simp), by omega⟩
        rw [List.mem_singleton.1 hx]
        refine ⟨by simp, by simp, by simp, by simp, by simp, by simp, ?_⟩
        intro y hy
        rw [List.mem_singleton.1 hy]
        exact g2.1
      · exact plain_good _ _ _ h
theorem stmt_good : ∀ d, GoodS (stmtD T F d)
  | 0 => stmtOf_good (fun p h => by cases h)
  | d + 1 => stmtOf_good (fun p h => by cases h; exact stmt_good d)

/-- A function that is read: its body but for the return, and the return's expressions. -/
def FnOk (g : Fn) : Prop := ∃ (b : List St) (es : List (List Tm)), g.body = b ++ [⟨9, [], [], es⟩] ∧ (∀ s ∈ b, StOk s) ∧ Bal (b.map St.kind) ∧ ∀ e ∈ es, Wh e
theorem func_good {ns : List (List Nat)} {i j : Nat} {g : Fn} (h : func T F ns i = .ok (g, j)) : FnOk g := by
  unfold func at h
  obtain ⟨s, i1, h1, h⟩ := R.on_ok h
  obtain ⟨l, i2, h2, h⟩ := R.on_ok h
  obtain ⟨ps, i3, h3, h⟩ := R.on_ok h
  obtain ⟨rs, i4, h4, h⟩ := R.on_ok h
  obtain ⟨_, i5, h5, h⟩ := R.on_ok h
  obtain ⟨vs, i6, h6, h⟩ := R.on_ok h
  obtain ⟨b, i7, h7, h⟩ := R.on_ok h
  obtain ⟨es, i8, h8, h⟩ := R.on_ok h
  obtain ⟨_, i9, h9, h⟩ := R.on_ok h
  injection h with h; injection h with h10 h11
  subst h10
  have g7 := stmts_good (stmt_good 12) _ _ [] _ _ _ (fun _ hx => (by cases hx)) Bal.nil h7
  exact ⟨b, es, rfl, g7.1, g7.2.1, (listed_good h8).1⟩
theorem decls_good {ns : List (List Nat)} : ∀ (f : Nat) (s : So) (i : Nat) (s' : So) (j : Nat), (∀ g ∈ s.funcs, FnOk g) → declsF T F ns f s i = .ok (s', j) → ∀ g ∈ s'.funcs, FnOk g
  | 0, _, _, _, _, _, h => by cases h
  | f + 1, s, i, s', j, hs, h => by
    rw [declsF] at h
    split at h
    · injection h with h; injection h with h1 h2
      subst h1; exact hs
    · split at h
      · obtain ⟨d, i1, h1, h⟩ := R.on_ok h
        obtain ⟨_, i2, h2, h⟩ := R.on_ok h
        exact decls_good f { s with globals := s.globals ++ [d] } i2 s' j hs h
      · split at h
        · obtain ⟨d, i1, h1, h⟩ := R.on_ok h
          obtain ⟨_, i2, h2, h⟩ := R.on_ok h
          exact decls_good f { s with channels := s.channels ++ [d] } i2 s' j hs h
        · split at h
          · obtain ⟨n, i1, h1, h⟩ := R.on_ok h
            obtain ⟨v, i2, h2, h⟩ := R.on_ok h
            obtain ⟨l, i3, h3, h⟩ := R.on_ok h
            obtain ⟨_, i4, h4, h⟩ := R.on_ok h
            exact decls_good f { s with arrays := s.arrays ++ [⟨n, v, l⟩] } i4 s' j hs h
          · split at h
            · obtain ⟨g, i1, h1, h⟩ := R.on_ok h
              exact decls_good f { s with funcs := s.funcs ++ [g] } i1 s' j (mem_snoc hs (func_good h1)) h
            · cases h
/-- WHATEVER IS READ: each function's body is as it must be. -/
theorem source_good {s : So} {j : Nat} (h : source T F = .ok (s, j)) : ∀ g ∈ s.funcs, FnOk g := by
  unfold source at h
  obtain ⟨ns, i1, h1, h⟩ := R.on_ok h
  exact decls_good _ _ _ _ _ (fun _ hx => (by cases hx)) h
end
end Go.Proofs.Syn
