/- Going over a graph with a row of those to do: what has been seen at the end is what is reached. (Plain.) -/
import Derived.Test.YthgcnlccikpmaaaGrA
namespace Go.Proofs.Ythgcnlccikpmaaa
/-- Between two steps: seen, and what is left to do. -/
structure Vi (nx : Nat → List Nat) (N s : Nat) (L : List Bool) (td : List (List Nat)) : Prop where
  len : L.length = N
  here : L.getD s false = true
  come : ∀ b, L.getD b false = true → Way nx s b
  next : ∀ a, L.getD a false = true → ∀ b ∈ nx a, L.getD b false = true ∨ ∃ r ∈ td, b ∈ r
  todo : ∀ r ∈ td, ∀ b ∈ r, b < N ∧ ∃ a, L.getD a false = true ∧ b ∈ nx a
def fr (L : List Bool) : Nat := L.count false
theorem getD_set {L : List Bool} {k b : Nat} {v : Bool} (hk : k < L.length) : (L.set k v).getD b false = if b = k then v else L.getD b false := by
  rw [List.getD_eq_getElem?_getD, List.getD_eq_getElem?_getD, List.getElem?_set]
  by_cases h : k = b
  · subst h; simp [hk]
  · rw [if_neg h, if_neg (fun e => h e.symm)]
theorem fr_set {L : List Bool} {k : Nat} (hk : k < L.length) (h : L.getD k false = false) : fr (L.set k true) + 1 = fr L := by
  unfold fr
  rw [List.getD_eq_getElem?_getD, List.getElem?_eq_getElem hk, Option.getD_some] at h
  induction L generalizing k with
  | nil => simp at hk
  | cons x L ih =>
    cases k with
    | zero =>
      simp only [List.getElem_cons_zero] at h
      subst h
      simp [List.set_cons_zero]
    | succ k =>
      simp only [List.getElem_cons_succ] at h
      have := ih (k := k) (by simpa using hk) h
      simp only [List.set_cons_succ, List.count_cons]
      omega
section
variable {nx : Nat → List Nat} {N s : Nat} {L : List Bool} {td : List (List Nat)} {r : List Nat}
theorem Vi.start (hs : s < N) (hn : ∀ b ∈ nx s, b < N) : Vi nx N s ((List.replicate N false).set s true) [nx s] := by
  have hg : ∀ b, ((List.replicate N false).set s true).getD b false = true ↔ b = s := fun b => by
    rw [getD_set (by simpa using hs)]
    by_cases h : b = s
    · simp [h]
    · simp [h, List.getD_eq_getElem?_getD, List.getElem?_replicate]
      split <;> simp
  refine ⟨by simp, (hg s).2 rfl, fun b hb => ?_, fun a ha b hb => ?_, fun r hr b hb => ?_⟩
  · rw [(hg b).1 hb]; exact .here
  · rw [(hg a).1 ha] at hb; exact .inr ⟨_, List.mem_singleton.2 rfl, hb⟩
  · rw [List.mem_singleton.1 hr] at hb; exact ⟨hn b hb, s, (hg s).2 rfl, hb⟩
/-- The last row's first one has been seen: on with the rest of it. -/
theorem Vi.skip {x : Nat} (h : Vi nx N s L (td ++ [x :: r])) (hx : L.getD x false = true) : Vi nx N s L (td ++ [r]) := by
  refine ⟨h.len, h.here, h.come, fun a ha b hb => ?_, fun q hq b hb => ?_⟩
  · rcases h.next a ha b hb with h1 | ⟨q, hq, hbq⟩
    · exact .inl h1
    · rcases List.mem_append.1 hq with hq | hq
      · exact .inr ⟨q, List.mem_append_left _ hq, hbq⟩
      · rw [List.mem_singleton.1 hq] at hbq
        rcases List.mem_cons.1 hbq with rfl | hbq
        · exact .inl hx
        · exact .inr ⟨r, List.mem_append_right _ (List.mem_singleton.2 rfl), hbq⟩
  · rcases List.mem_append.1 hq with hq | hq
    · exact h.todo q (List.mem_append_left _ hq) b hb
    · rw [List.mem_singleton.1 hq] at hb
      exact h.todo (x :: r) (List.mem_append_right _ (List.mem_singleton.2 rfl)) b (List.mem_cons_of_mem _ hb)
/-- It is new. -/
theorem Vi.new {x : Nat} (h : Vi nx N s L (td ++ [x :: r])) (hx : L.getD x false = false) (hn : ∀ b ∈ nx x, b < N) : Vi nx N s (L.set x true) (td ++ [r] ++ [nx x]) := by
  have hxN : x < N := (h.todo (x :: r) (List.mem_append_right _ (List.mem_singleton.2 rfl)) x (List.mem_cons_self ..)).1
  have hg : ∀ b, (L.set x true).getD b false = true ↔ (b = x ∨ L.getD b false = true) := fun b => by
    rw [getD_set (by rw [h.len]; exact hxN)]
    by_cases e : b = x
    · simp [e]
    · simp [e]
  refine ⟨by rw [List.length_set, h.len], (hg s).2 (.inr h.here), fun b hb => ?_, fun a ha b hb => ?_, fun q hq b hb => ?_⟩
  · rcases (hg b).1 hb with rfl | hb
    · obtain ⟨_, a, ha, hab⟩ := h.todo (b :: r) (List.mem_append_right _ (List.mem_singleton.2 rfl)) b (List.mem_cons_self ..)
      exact (h.come a ha).on hab
    · exact h.come b hb
  · rcases (hg a).1 ha with rfl | ha
    · exact .inr ⟨nx a, List.mem_append_right _ (List.mem_singleton.2 rfl), hb⟩
    · rcases h.next a ha b hb with h1 | ⟨q, hq, hbq⟩
      · exact .inl ((hg b).2 (.inr h1))
      · rcases List.mem_append.1 hq with hq | hq
        · exact .inr ⟨q, List.mem_append_left _ (List.mem_append_left _ hq), hbq⟩
        · rw [List.mem_singleton.1 hq] at hbq
          rcases List.mem_cons.1 hbq with rfl | hbq
          · exact .inl ((hg b).2 (.inl rfl))
          · exact .inr ⟨r, List.mem_append_left _ (List.mem_append_right _ (List.mem_singleton.2 rfl)), hbq⟩
  · rcases List.mem_append.1 hq with hq | hq
    · rcases List.mem_append.1 hq with hq | hq
      · obtain ⟨h1, a, ha, hb2⟩ := h.todo q (List.mem_append_left _ hq) b hb
        exact ⟨h1, a, (hg a).2 (.inr ha), hb2⟩
      · rw [List.mem_singleton.1 hq] at hb
        obtain ⟨h1, a, ha, hb2⟩ := h.todo (x :: r) (List.mem_append_right _ (List.mem_singleton.2 rfl)) b (List.mem_cons_of_mem _ hb)
        exact ⟨h1, a, (hg a).2 (.inr ha), hb2⟩
    · rw [List.mem_singleton.1 hq] at hb
      exact ⟨hn b hb, x, (hg x).2 (.inl rfl), hb⟩
theorem Vi.pop (h : Vi nx N s L (td ++ [[]])) : Vi nx N s L td := by
  refine ⟨h.len, h.here, h.come, fun a ha b hb => ?_, fun q hq b hb => h.todo q (List.mem_append_left _ hq) b hb⟩
  rcases h.next a ha b hb with h1 | ⟨q, hq, hbq⟩
  · exact .inl h1
  · rcases List.mem_append.1 hq with hq | hq
    · exact .inr ⟨q, hq, hbq⟩
    · rw [List.mem_singleton.1 hq] at hbq; cases hbq
theorem Vi.done (h : Vi nx N s L []) : L = rch nx N s :=
  rch_of h.len h.here (fun a ha b hb => by
    rcases h.next a ha b hb with h1 | ⟨q, hq, _⟩
    · exact h1
    · cases hq) (fun b _ hb => h.come b hb)
end
end Go.Proofs.Ythgcnlccikpmaaa
