/- Plain: where blocks end (P5.3), statement by statement; it is told just if they nest. -/
import Derived.Test.YtnmcjkabihihiaaDoorSynF
namespace Go.Proofs.Syn

/-- From statement i on, r being the kinds from there: what lies open (innermost first), the ends and elses so far. -/
def goE (ks : List Nat) : List Nat → Nat → List Nat → List Int → List Int → Option (List Int × List Int)
  | [], _, op, es, ls => if op = [] then some (es, ls) else none
  | k :: r, i, op, es, ls =>
    if k = 5 ∨ k = 7 then goE ks r (i + 1) (i :: op) es ls
    else if k = 6 then
      match op with
      | t :: op => if ks[t]? = some 5 then goE ks r (i + 1) (i :: op) es (ls.set t i) else none
      | [] => none
    else if k = 8 then
      match op with
      | t :: op => goE ks r (i + 1) op (es.set t i) ls
      | [] => none
    else goE ks r (i + 1) op es ls
/-- An if's end, where it has an else: the else's. -/
def viaElse (es ls : List Int) : List Int := (es.zip ls).map fun p => if 0 ≤ p.2 then (es[p.2.toNat]?).getD (-1) else p.1
def endsM (ks : List Nat) : Option (List Int × List Int) :=
  (goE ks ks 0 [] (List.replicate ks.length (-1)) (List.replicate ks.length (-1))).map fun p => (viaElse p.1 p.2, p.2)

theorem goE_nil (ks : List Nat) (i : Nat) (op : List Nat) (es ls : List Int) : goE ks [] i op es ls = if op = [] then some (es, ls) else none := by rw [goE.eq_def]
theorem goE_cons (ks : List Nat) (k : Nat) (r : List Nat) (i : Nat) (op : List Nat) (es ls : List Int) : goE ks (k :: r) i op es ls =
    if k = 5 ∨ k = 7 then goE ks r (i + 1) (i :: op) es ls
    else if k = 6 then
      match op with
      | t :: op => if ks[t]? = some 5 then goE ks r (i + 1) (i :: op) es (ls.set t i) else none
      | [] => none
    else if k = 8 then
      match op with
      | t :: op => goE ks r (i + 1) op (es.set t i) ls
      | [] => none
    else goE ks r (i + 1) op es ls := by rw [goE.eq_def]
theorem goE_nest (ks : List Nat) : ∀ (r : List Nat) (i : Nat) (op : List Nat) (es ls : List Int), ks.drop i = r →
    ((goE ks r i op es ls).isSome = true ↔ nest r (op.map fun t => decide (ks[t]? = some 5)) = some [])
  | [], i, op, es, ls, _ => by
    rw [goE_nil, nest]
    cases op with
    | nil => simp
    | cons t op => simp
  | k :: r, i, op, es, ls, h => by
    have hk : ks[i]? = some k := by
      have := congrArg (fun l => l[0]?) h
      simpa using this
    have hr : ks.drop (i + 1) = r := by
      rw [← List.drop_drop, h]; rfl
    rw [goE_cons]
    by_cases h5 : k = 5
    · subst h5
      rw [if_pos (.inl rfl), goE_nest ks r (i + 1) _ _ _ hr, List.map_cons, nest_5, hk]
      simp
    by_cases h7 : k = 7
    · subst h7
      rw [if_pos (.inr rfl), goE_nest ks r (i + 1) _ _ _ hr, List.map_cons, nest_7, hk]
      simp
    rw [if_neg (by omega)]
    by_cases h6 : k = 6
    · subst h6
      rw [if_pos rfl]
      cases op with
      | nil => simp [nest]
      | cons t op =>
        by_cases ht : ks[t]? = some 5
        · simp only [if_pos ht]
          rw [goE_nest ks r (i + 1) _ _ _ hr, List.map_cons, List.map_cons, hk]
          simp only [ht, decide_true]
          rw [nest_6]
          simp
        · simp only [List.map_cons, ht, decide_false]
          simp [nest]
    rw [if_neg h6]
    by_cases h8 : k = 8
    · subst h8
      rw [if_pos rfl]
      cases op with
      | nil => simp [nest]
      | cons t op =>
        simp only
        rw [goE_nest ks r (i + 1) _ _ _ hr, List.map_cons, nest_8]
    · rw [if_neg h8, goE_nest ks r (i + 1) _ _ _ hr, nest.eq_def (k :: r)]; simp only [if_neg h5, if_neg h7, if_neg h6, if_neg h8]
theorem endsM_nest (ks : List Nat) : (endsM ks).isSome = true ↔ nest ks [] = some [] := by
  unfold endsM
  rw [Option.isSome_map]
  exact goE_nest ks ks 0 [] _ _ rfl
/-- The blocks of a body that is read nest. -/
theorem FnOk.ends {g : Fn} (h : FnOk g) : (endsM (g.body.map St.kind)).isSome = true := by
  obtain ⟨b, es, hb, _, hn, _⟩ := h
  rw [endsM_nest, hb, List.map_append]
  have : nest (b.map St.kind ++ [9]) [] = some [] := by rw [hn]; simp [nest]
  exact this
theorem goE_len (ks : List Nat) : ∀ (r : List Nat) (i : Nat) (op : List Nat) (es ls es' ls' : List Int), goE ks r i op es ls = some (es', ls') → es'.length = es.length ∧ ls'.length = ls.length
  | [], i, op, es, ls, es', ls', h => by
    rw [goE_nil] at h
    split at h
    · injection h with h; injection h with h1 h2
      subst h1; subst h2; exact ⟨rfl, rfl⟩
    · cases h
  | k :: r, i, op, es, ls, es', ls', h => by
    rw [goE_cons] at h
    split at h
    · exact goE_len ks r _ _ _ _ _ _ h
    · split at h
      · split at h
        · split at h
          · have := goE_len ks r _ _ _ _ _ _ h
            rwa [List.length_set] at this
          · cases h
        · cases h
      · split at h
        · split at h
          · have := goE_len ks r _ _ _ _ _ _ h
            rwa [List.length_set] at this
          · cases h
        · exact goE_len ks r _ _ _ _ _ _ h
-- the chapter's examples
example : endsM [5, 6, 8] = some ([2, 2, -1], [1, -1, -1]) := by decide
example : endsM [7] = none := by decide
example : endsM [8] = none := by decide
example : endsM [6, 8] = none := by decide
end Go.Proofs.Syn
