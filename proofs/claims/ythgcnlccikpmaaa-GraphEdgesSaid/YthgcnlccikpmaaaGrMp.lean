/- The document's way of going over a graph. (Plain.) -/
import Derived.Test.YthgcnlccikpmaaaGrKp
namespace Go.Proofs.Ythgcnlccikpmaaa
structure Wi (nx : Nat → List Nat) (N s : Nat) (L : List Bool) (td : List Nat) (k i : Nat) : Prop where
  len : L.length = N
  here : L.getD s false = true
  come : ∀ b, L.getD b false = true → Way nx s b
  mem : ∀ b, L.getD b false = true → b ∈ td
  all : ∀ b ∈ td, b < N ∧ L.getD b false = true
  prev : ∀ j, j < k → ∀ b ∈ nx (td.getD j 0), L.getD b false = true
  cur : ∀ b ∈ (nx (td.getD k 0)).take i, L.getD b false = true
  cnt : fr L + td.length = N
  kle : k ≤ td.length
section
variable {nx : Nat → List Nat} {N s k i : Nat} {L : List Bool} {td : List Nat}
theorem Wi.start (hs : s < N) : Wi nx N s ((List.replicate N false).set s true) [s] 0 0 := by
  have hg : ∀ b, ((List.replicate N false).set s true).getD b false = true ↔ b = s := fun b => by
    rw [getD_set (by simpa using hs)]
    by_cases h : b = s
    · simp [h]
    · simp [h, List.getD_eq_getElem?_getD, List.getElem?_replicate]
      split <;> simp
  refine ⟨by simp, (hg s).2 rfl, fun b hb => ?_, fun b hb => ?_, fun b hb => ?_, fun j hj => absurd hj (by omega), fun b hb => ?_, ?_, by simp⟩
  · rw [(hg b).1 hb]; exact .here
  · rw [(hg b).1 hb]; exact List.mem_singleton.2 rfl
  · rw [List.mem_singleton.1 hb]; exact ⟨hs, (hg s).2 rfl⟩
  · simp at hb
  · have := fr_set (L := List.replicate N false) (k := s) (by simpa using hs) (by simp [List.getD_eq_getElem?_getD, hs])
    have h2 : fr (List.replicate N false) = N := by unfold fr; simp
    rw [h2] at this
    simpa using this
theorem Wi.skip {x : Nat} (h : Wi nx N s L td k i) (hx : (nx (td.getD k 0))[i]? = some x) (hs : L.getD x false = true) : Wi nx N s L td k (i + 1) :=
  ⟨h.len, h.here, h.come, h.mem, h.all, h.prev, fun b hb => by
    have hi := (List.getElem?_eq_some_iff.1 hx).1
    rw [List.take_succ_eq_append_getElem hi, (List.getElem?_eq_some_iff.1 hx).2, List.mem_append] at hb
    rcases hb with hb | hb
    · exact h.cur b hb
    · rw [List.mem_singleton.1 hb]; exact hs, h.cnt, h.kle⟩
theorem Wi.new {x : Nat} (h : Wi nx N s L td k i) (hk : k < td.length) (hx : (nx (td.getD k 0))[i]? = some x) (hs : L.getD x false = false) (hN : x < N) : Wi nx N s (L.set x true) (td ++ [x]) k (i + 1) := by
  have hg : ∀ b, (L.set x true).getD b false = true ↔ (b = x ∨ L.getD b false = true) := fun b => by
    rw [getD_set (by rw [h.len]; exact hN)]
    by_cases e : b = x
    · simp [e]
    · simp [e]
  have ht : ∀ j, j < td.length → (td ++ [x]).getD j 0 = td.getD j 0 := fun j hj => by
    rw [List.getD_eq_getElem?_getD, List.getElem?_append_left hj, ← List.getD_eq_getElem?_getD]
  have hin : x ∈ nx (td.getD k 0) := List.mem_of_getElem? hx
  have hkL : L.getD (td.getD k 0) false = true := (h.all _ (by
    rw [List.getD_eq_getElem?_getD, List.getElem?_eq_getElem hk, Option.getD_some]; exact List.getElem_mem _)).2
  refine ⟨by rw [List.length_set, h.len], (hg s).2 (.inr h.here), fun b hb => ?_, fun b hb => ?_, fun b hb => ?_, fun j hj b hb => ?_, fun b hb => ?_, ?_, by rw [List.length_append]; have := h.kle; omega⟩
  · rcases (hg b).1 hb with rfl | hb
    · exact (h.come _ hkL).on hin
    · exact h.come b hb
  · rcases (hg b).1 hb with rfl | hb
    · exact List.mem_append_right _ (List.mem_singleton.2 rfl)
    · exact List.mem_append_left _ (h.mem b hb)
  · rcases List.mem_append.1 hb with hb | hb
    · exact ⟨(h.all b hb).1, (hg b).2 (.inr (h.all b hb).2)⟩
    · rw [List.mem_singleton.1 hb]; exact ⟨hN, (hg x).2 (.inl rfl)⟩
  · rw [ht j (by omega)] at hb
    exact (hg b).2 (.inr (h.prev j hj b hb))
  · rw [ht k hk] at hb
    have hi := (List.getElem?_eq_some_iff.1 hx).1
    rw [List.take_succ_eq_append_getElem hi, (List.getElem?_eq_some_iff.1 hx).2, List.mem_append] at hb
    rcases hb with hb | hb
    · exact (hg b).2 (.inr (h.cur b hb))
    · exact (hg b).2 (.inl (List.mem_singleton.1 hb))
  · have := fr_set (L := L) (k := x) (by rw [h.len]; exact hN) hs
    have := h.cnt
    rw [List.length_append]
    simp only [List.length_cons, List.length_nil]
    omega
theorem Wi.next (h : Wi nx N s L td k i) (hi : (nx (td.getD k 0)).length ≤ i) (hk : k < td.length) : Wi nx N s L td (k + 1) 0 :=
  ⟨h.len, h.here, h.come, h.mem, h.all, fun j hj b hb => by
    by_cases e : j < k
    · exact h.prev j e b hb
    · obtain rfl : j = k := by omega
      exact h.cur b (by rw [List.take_of_length_le hi]; exact hb), fun b hb => by simp at hb, h.cnt, by omega⟩
theorem Wi.done (h : Wi nx N s L td td.length 0) : L = rch nx N s :=
  rch_of h.len h.here (fun a ha b hb => by
    obtain ⟨j, hj, e⟩ := List.getElem_of_mem (h.mem a ha)
    refine h.prev j hj b ?_
    rw [List.getD_eq_getElem?_getD, List.getElem?_eq_getElem hj, Option.getD_some, e]
    exact hb) (fun b _ hb => h.come b hb)
end
end Go.Proofs.Ythgcnlccikpmaaa
