/- Plain: the last of some marks that stands there is the first one, where no two are the same; unary operations one by one. -/
import Derived.Test.YtnmcjkabihihiaaDoorSynF
namespace Go.Proofs.Syn
section
variable {T : Nat → Option K} {F : Nat}
theorem is_one {i : Nat} {s s' : List Nat} (h : is T i s = true) (hn : s ≠ s') : is T i s' = false := by
  unfold is at h ⊢
  split
  · rename_i k hk
    rw [hk] at h
    simp only [Bool.and_eq_true, beq_iff_eq] at h
    rw [h.2]
    simp [hn]
  · rfl
/-- One more mark behind. -/
theorem opOf_snoc {ms : List (List Nat × Nat)} {m : List Nat × Nat} (hd : ∀ x ∈ ms, x.1 ≠ m.1) (i : Nat) : opOf T (ms ++ [m]) i = if is T i m.1 then m.2 else opOf T ms i := by
  unfold opOf
  rw [List.find?_append]
  by_cases h : is T i m.1 = true
  · have hnone : ms.find? (fun m => is T i m.1) = none := by
      rw [List.find?_eq_none]
      intro x hx
      rw [is_one h (fun e => hd x hx e.symm)]
      simp
    rw [hnone, if_pos h]
    simp [h]
  · rw [if_neg h]
    have h' : is T i m.1 = false := by simpa using h
    cases hf : ms.find? (fun m => is T i m.1) with
    | some x => simp
    | none => simp [h']
theorem opOf_nil (i : Nat) : opOf T [] i = 0 := rfl
theorem marks_apart (l : Nat) : ∀ (k : Nat) (h : k < (marks l).length), ∀ x ∈ (marks l).take k, x.1 ≠ ((marks l)[k]).1 := by
  have key : ∀ ms ∈ [marks 0, marks 1, marks 2, marks 3, marks 4, marks 5], (ms.map (·.1)).Nodup := by decide
  have hmem : marks l ∈ [marks 0, marks 1, marks 2, marks 3, marks 4, marks 5] := by
    match l with
    | 0 => simp
    | 1 => simp
    | 2 => simp
    | 3 => simp
    | 4 => simp
    | n + 5 => simp [marks]
  have hnd := key _ hmem
  intro k h x hx e
  obtain ⟨j, hj, rfl⟩ := List.mem_iff_getElem.1 hx
  have hj2 : j < k := by rw [List.length_take] at hj; omega
  rw [List.getElem_take] at e
  have hp := List.pairwise_iff_getElem.1 hnd j k (by simp; omega) (by simpa using h) hj2
  simp only [List.getElem_map] at hp
  exact hp e
/-- The operations that have been read, and what is still to be read of them. -/
def unGo (T : Nat → Option K) (f : Nat) (acc : List Nat) (i : Nat) : R (List Nat) := (unOps T f i).on fun l j => .ok (acc ++ l, j)
theorem unGo_start (f i : Nat) : unGo T f [] i = unOps T f i := by
  unfold unGo
  cases unOps T f i with
  | error e => rfl
  | ok p => rfl
def unMs : List (List Nat × Nat) := [([45], 15), ([33], 16), ([126], 17)]
theorem unGo_next {f i : Nat} {acc : List Nat} (h : opOf T unMs i ≠ 0) : unGo T (f + 1) acc i = unGo T f (acc ++ [opOf T unMs i]) (i + 1) := by
  unfold unGo
  rw [unOps, if_neg (show ¬ opOf T [([45], 15), ([33], 16), ([126], 17)] i = 0 from h)]
  cases unOps T f (i + 1) with
  | error e => rfl
  | ok p => simp [R.on, List.append_assoc, unMs]
theorem unGo_done {f i : Nat} {acc : List Nat} (h : opOf T unMs i = 0) : unGo T (f + 1) acc i = .ok (acc, i) := by
  unfold unGo
  rw [unOps, if_pos (show opOf T [([45], 15), ([33], 16), ([126], 17)] i = 0 from h)]
  simp [R.on]
theorem unOf {i : Nat} : opOf T unMs i = if is T i [126] then 17 else if is T i [33] then 16 else if is T i [45] then 15 else 0 := by
  have h1 := opOf_snoc (T := T) (ms := [([45], 15), ([33], 16)]) (m := ([126], 17)) (by decide) i
  have h2 := opOf_snoc (T := T) (ms := [([45], 15)]) (m := ([33], 16)) (by decide) i
  have h3 := opOf_snoc (T := T) (ms := []) (m := ([45], 15)) (by decide) i
  unfold unMs
  simp only [List.cons_append, List.nil_append] at h1 h2 h3
  rw [h1, h2, h3, opOf_nil]
end
end Go.Proofs.Syn
