/- Plain facts: what Get reads: how many bytes belong to a number, what their groups come to in a word of 64 bits. -/
import Derived.Test.YtahnhohccbnhjaaLU
import Derived.Test.YtahnhohccbnhjaaLS
import Derived.Laws.Bits64
import Derived.Laws.Bits64b
import Derived.Laws.BitsAllLaws
namespace Go.Proofs.Ytahnhohccbnhjaa
open Go Go.RowKit

abbrev W64 : Nat := 18446744073709551616

theorem wrap_i64 (n : Int) : IntKind.i64.wrap n = wrap64 n := by
  simp [IntKind.wrap, IntKind.bits, IntKind.signed, wrap64]
  split <;> omega
theorem wrap_congr {x y : Int} (h : x % 18446744073709551616 = y % 18446744073709551616) : wrap64 x = wrap64 y := by
  unfold wrap64; omega
theorem wrap_id {x : Int} (h1 : -9223372036854775808 ≤ x) (h2 : x < 9223372036854775808) : wrap64 x = x := by
  unfold wrap64; omega
theorem wrap_le (x : Int) : -9223372036854775808 ≤ wrap64 x ∧ wrap64 x < 9223372036854775808 := by
  unfold wrap64; omega
theorem wrap_emod (x : Int) : wrap64 x % 18446744073709551616 = x % 18446744073709551616 := by
  unfold wrap64; omega

/-- All are bytes. -/
def bytesL (l : List Nat) : Prop := ∀ x ∈ l, x < 256
theorem bytesL_at {l : List Nat} (h : bytesL l) (i : Nat) : l.getD i 0 < 256 := by
  rw [List.getD_eq_getElem?_getD]
  cases hi : l[i]? with
  | none => simp
  | some x => exact h x (List.mem_of_getElem? hi)
theorem bytesL_of {l : List Nat} (h : ∀ i, i < l.length → l.getD i 0 < 256) : bytesL l := by
  intro x hx
  obtain ⟨i, hi, rfl⟩ := List.getElem_of_mem hx
  have := h i hi
  rwa [List.getD_eq_getElem?_getD, List.getElem?_eq_getElem hi] at this
theorem bytesL_take {l : List Nat} (h : bytesL l) (k : Nat) : bytesL (l.take k) := fun x hx => h x (List.mem_of_mem_take hx)
theorem bytesL_drop {l : List Nat} (h : bytesL l) (k : Nat) : bytesL (l.drop k) := fun x hx => h x (List.mem_of_mem_drop hx)
theorem bytesL_append {l m : List Nat} (h : bytesL l) (h2 : bytesL m) : bytesL (l ++ m) := fun x hx => (List.mem_append.1 hx).elim (h x) (h2 x)

theorem putU_bytes (n : Nat) : bytesL (putU n) := by
  induction n using Nat.strongRecOn with
  | _ n ih =>
    by_cases h : n < 128
    · rw [putU_small h]; intro x hx; simp at hx; omega
    · rw [putU_big h]
      intro x hx
      rcases List.mem_cons.1 hx with rfl | hx
      · omega
      · exact ih (n / 128) (by omega) x hx
theorem putS_bytes (n : Int) : bytesL (putS n) := by
  refine abs_rec (P := fun n => bytesL (putS n)) (fun n ih => ?_) n
  by_cases h : -64 ≤ n ∧ n < 64
  · rw [putS_small h]; intro x hx; simp at hx; omega
  · rw [putS_big h]
    intro x hx
    rcases List.mem_cons.1 hx with rfl | hx
    · omega
    · exact ih (n / 128) (by omega) x hx

/-- How many bytes from the first on have their high bit. -/
def lead : List Nat → Nat
  | [] => 0
  | x :: l => if 128 ≤ x then lead l + 1 else 0

theorem lead_le : ∀ l : List Nat, lead l ≤ l.length
  | [] => Nat.le_refl _
  | x :: l => by
    have := lead_le l
    rw [lead]; split <;> simp <;> omega
theorem lead_ge : ∀ (l : List Nat) (i : Nat), i ≤ l.length → (∀ j, j < i → 128 ≤ l.getD j 0) → i ≤ lead l
  | [], i, h, _ => h
  | x :: l, 0, _, _ => Nat.zero_le _
  | x :: l, i + 1, h, hj => by
    have h0 : 128 ≤ x := hj 0 (by omega)
    have := lead_ge l i (by simpa using h) (fun j hji => by have := hj (j + 1) (by omega); simpa using this)
    rw [lead, if_pos h0]; omega
theorem lead_at : ∀ (l : List Nat) (j : Nat), j < lead l → 128 ≤ l.getD j 0
  | [], j, h => absurd h (by simp [lead])
  | x :: l, j, h => by
    rw [lead] at h
    split at h
    · cases j with
      | zero => simpa using ‹128 ≤ x›
      | succ j => have := lead_at l j (by omega); simpa using this
    · omega
theorem lead_stop : ∀ (l : List Nat), lead l < l.length → l.getD (lead l) 0 < 128
  | [], h => absurd h (by simp [lead])
  | x :: l, h => by
    rw [lead] at h ⊢
    split at h
    · rename_i hx
      rw [if_pos hx]
      have := lead_stop l (by simpa using h)
      simpa using this
    · rename_i hx
      rw [if_neg hx]; simp; omega
theorem lead_eq {l : List Nat} {i : Nat} (h : i < l.length) (hj : ∀ j, j < i → 128 ≤ l.getD j 0) (hi : l.getD i 0 < 128) : lead l = i := by
  have h1 := lead_ge l i (by omega) hj
  rcases Nat.lt_or_ge i (lead l) with h2 | h2
  · have := lead_at l i h2; omega
  · omega

/-- What Get answers: the number, how many bytes, the error. -/
def getU (l : List Nat) : Nat × Nat × Nat :=
  if 10 ≤ lead l then (0, 0, 31) else if lead l = l.length then (0, 0, 30) else
    if putU (valU (l.take (lead l + 1)) % W64) = l.take (lead l + 1) then (valU (l.take (lead l + 1)) % W64, lead l + 1, 0) else (0, 0, 31)
/-- Likewise of signed numbers. -/
def getS (l : List Nat) : Int × Nat × Nat :=
  if 10 ≤ lead l then (0, 0, 31) else if lead l = l.length then (0, 0, 30) else
    if putS (wrap64 (valS (l.take (lead l + 1)))) = l.take (lead l + 1) then (wrap64 (valS (l.take (lead l + 1))), lead l + 1, 0) else (0, 0, 31)

theorem lead_append : ∀ {l : List Nat} (m : List Nat), oneB l → lead (l ++ m) + 1 = l.length
  | [], _, h => h.elim
  | [x], m, h => by
    have hx : x < 128 := h
    rw [List.singleton_append, lead, if_neg (by omega)]; rfl
  | x :: y :: l, m, h => by
    have := lead_append (l := y :: l) m h.2
    rw [List.cons_append, lead, if_pos h.1.1]
    simp only [List.length_cons] at this ⊢
    omega
theorem oneB_of_oneS : ∀ {l : List Nat}, oneS l → oneB l
  | [], h => h.elim
  | [_], h => h
  | _ :: y :: l, h => ⟨h.1, oneB_of_oneS (l := y :: l) h.2⟩

theorem take_put {l m : List Nat} {k : Nat} (h : k = l.length) : (l ++ m).take k = l := by
  subst h; exact List.take_left

/-- What is put is got, whatever stands behind. -/
theorem getU_put (n : Nat) (hn : n < W64) (m : List Nat) : getU (putU n ++ m) = (n, (putU n).length, 0) := by
  have h1 := lead_append m (putU_one n)
  have h10 := putU_ten hn
  have ht := take_put (m := m) h1
  unfold getU
  rw [if_neg (by omega), if_neg (by rw [List.length_append]; omega), ht, valU_putU, Nat.mod_eq_of_lt hn, if_pos rfl, h1]
theorem getS_put (n : Int) (h1 : -9223372036854775808 ≤ n) (h2 : n < 9223372036854775808) (m : List Nat) : getS (putS n ++ m) = (n, (putS n).length, 0) := by
  have h3 := lead_append m (oneB_of_oneS (putS_one n))
  have h10 := putS_ten h1 h2
  have ht := take_put (m := m) h3
  unfold getS
  rw [if_neg (by omega), if_neg (by rw [List.length_append]; omega), ht, valS_putS, wrap_id h1 h2, if_pos rfl, h3]

theorem lead_take {l : List Nat} {i : Nat} (h : i ≤ lead l) : lead (l.take i) = i ∧ (l.take i).length = i := by
  have hl := lead_le l
  have hlen : (l.take i).length = i := by rw [List.length_take]; omega
  refine ⟨Nat.le_antisymm ?_ ?_, hlen⟩
  · have := lead_le (l.take i); omega
  · refine lead_ge _ i (by omega) fun j hj => ?_
    have := lead_at l j (by omega)
    rwa [List.getD_eq_getElem?_getD, List.getElem?_take_of_lt hj, ← List.getD_eq_getElem?_getD]

/-- A form cut anywhere ends within the number. -/
theorem getU_cut {l : List Nat} (h : oneB l) (h10 : l.length ≤ 10) {i : Nat} (hi : i < l.length) : getU (l.take i) = (0, 0, 30) := by
  have h1 := lead_append [] h
  rw [List.append_nil] at h1
  obtain ⟨h2, h3⟩ := lead_take (l := l) (i := i) (by omega)
  unfold getU
  rw [h2, h3, if_neg (by omega), if_pos rfl]
theorem getS_cut {l : List Nat} (h : oneB l) (h10 : l.length ≤ 10) {i : Nat} (hi : i < l.length) : getS (l.take i) = (0, 0, 30) := by
  have h1 := lead_append [] h
  rw [List.append_nil] at h1
  obtain ⟨h2, h3⟩ := lead_take (l := l) (i := i) (by omega)
  unfold getS
  rw [h2, h3, if_neg (by omega), if_pos rfl]

/-- What is got is what would be put. -/
theorem getU_is {l : List Nat} (h : (getU l).2.2 = 0) : putU (getU l).1 = l.take (getU l).2.1 ∧ (getU l).2.1 ≤ l.length ∧ (getU l).1 < W64 := by
  have hl := lead_le l
  unfold getU at h ⊢
  by_cases h1 : 10 ≤ lead l
  · rw [if_pos h1] at h; simp at h
  · rw [if_neg h1] at h ⊢
    by_cases h2 : lead l = l.length
    · rw [if_pos h2] at h; simp at h
    · rw [if_neg h2] at h ⊢
      by_cases h3 : putU (valU (l.take (lead l + 1)) % W64) = l.take (lead l + 1)
      · rw [if_pos h3]
        exact ⟨h3, by simp only; omega, Nat.mod_lt _ (by decide)⟩
      · rw [if_neg h3] at h; simp at h
theorem getS_is {l : List Nat} (h : (getS l).2.2 = 0) : putS (getS l).1 = l.take (getS l).2.1 ∧ (getS l).2.1 ≤ l.length ∧ -9223372036854775808 ≤ (getS l).1 ∧ (getS l).1 < 9223372036854775808 := by
  have hl := lead_le l
  unfold getS at h ⊢
  by_cases h1 : 10 ≤ lead l
  · rw [if_pos h1] at h; simp at h
  · rw [if_neg h1] at h ⊢
    by_cases h2 : lead l = l.length
    · rw [if_pos h2] at h; simp at h
    · rw [if_neg h2] at h ⊢
      by_cases h3 : putS (wrap64 (valS (l.take (lead l + 1)))) = l.take (lead l + 1)
      · rw [if_pos h3]
        exact ⟨h3, by simp only; omega, wrap_le _⟩
      · rw [if_neg h3] at h; simp at h
end Go.Proofs.Ytahnhohccbnhjaa
