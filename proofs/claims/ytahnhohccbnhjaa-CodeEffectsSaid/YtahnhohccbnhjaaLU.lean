/- Plain facts on numbers as bytes: forms of unsigned numbers, fewest groups of seven bits. -/
import Derived.WalkKit
namespace Go.Proofs.Ytahnhohccbnhjaa

/-- The form of an unsigned number. -/
def putU (n : Nat) : List Nat := if n < 128 then [n] else (n % 128 + 128) :: putU (n / 128)
termination_by n
decreasing_by omega

/-- What groups come to. -/
def valU : List Nat → Nat
  | [] => 0
  | x :: l => x % 128 + 128 * valU l

/-- Bytes of one number: all but the last have their high bit. -/
def oneB : List Nat → Prop
  | [] => False
  | [x] => x < 128
  | x :: y :: l => (128 ≤ x ∧ x < 256) ∧ oneB (y :: l)

theorem putU_small {n : Nat} (h : n < 128) : putU n = [n] := by rw [putU, if_pos h]
theorem putU_big {n : Nat} (h : ¬ n < 128) : putU n = (n % 128 + 128) :: putU (n / 128) := by rw [putU, if_neg h]

theorem putU_ne (n : Nat) : putU n ≠ [] := by
  by_cases h : n < 128
  · rw [putU_small h]; simp
  · rw [putU_big h]; simp

theorem oneB_cons {x : Nat} {l : List Nat} (h1 : 128 ≤ x) (h2 : x < 256) (hl : oneB l) : oneB (x :: l) := by
  cases l with
  | nil => exact hl.elim
  | cons y l => exact ⟨⟨h1, h2⟩, hl⟩

theorem putU_one (n : Nat) : oneB (putU n) := by
  induction n using Nat.strongRecOn with
  | _ n ih =>
    by_cases h : n < 128
    · rw [putU_small h]; exact h
    · rw [putU_big h]
      exact oneB_cons (by omega) (by omega) (ih (n / 128) (by omega))

theorem valU_putU (n : Nat) : valU (putU n) = n := by
  induction n using Nat.strongRecOn with
  | _ n ih =>
    by_cases h : n < 128
    · rw [putU_small h]; simp [valU]; omega
    · rw [putU_big h, valU, ih (n / 128) (by omega)]; omega

/-- What is put is got: two numbers never have one form. -/
theorem putU_inj {m n : Nat} (h : putU m = putU n) : m = n := by rw [← valU_putU m, ← valU_putU n, h]

/-- The last byte of the bytes of one number. -/
def lastB : List Nat → Nat
  | [] => 0
  | [x] => x
  | _ :: y :: l => lastB (y :: l)

theorem valU_pos {l : List Nat} (h : oneB l) (hl : lastB l ≠ 0) : 0 < valU l := by
  induction l with
  | nil => exact h.elim
  | cons x l ih =>
    cases l with
    | nil =>
      have hx : x < 128 := h
      have : x ≠ 0 := hl
      simp only [valU]; omega
    | cons y l =>
      have := ih h.2 hl
      rw [valU]; omega

/-- Bytes of one number whose last byte isn't 0 (or that are one byte) are its form. -/
theorem putU_valU {l : List Nat} (h : oneB l) (hl : l.length = 1 ∨ lastB l ≠ 0) : putU (valU l) = l := by
  induction l with
  | nil => exact h.elim
  | cons x l ih =>
    cases l with
    | nil =>
      have hx : x < 128 := h
      rw [show valU [x] = x from by simp only [valU]; omega, putU_small hx]
    | cons y l =>
      have hne : lastB (y :: l) ≠ 0 := by
        rcases hl with hl | hl
        · simp at hl
        · exact hl
      have hp := valU_pos h.2 hne
      have hi := ih h.2 (.inr hne)
      have h1 := h.1
      have hb : ¬ valU (x :: y :: l) < 128 := by rw [valU]; omega
      rw [putU_big hb]
      have e1 : valU (x :: y :: l) % 128 + 128 = x := by rw [valU]; omega
      have e2 : valU (x :: y :: l) / 128 = valU (y :: l) := by rw [valU]; omega
      rw [e1, e2, hi]

theorem lastB_putU {n : Nat} (h : ¬ n < 128) : lastB (putU n) ≠ 0 := by
  induction n using Nat.strongRecOn with
  | _ n ih =>
    rw [putU_big h]
    by_cases h2 : n / 128 < 128
    · rw [putU_small h2]
      show n / 128 ≠ 0
      omega
    · have := ih (n / 128) (by omega) h2
      cases hq : putU (n / 128) with
      | nil => exact absurd hq (putU_ne _)
      | cons y l => rw [hq] at this; exact this

/-- Bytes of one number are a form just if they are one byte or the last isn't 0. -/
theorem form_iff {l : List Nat} (h : oneB l) : (∃ n, putU n = l) ↔ (l.length = 1 ∨ lastB l ≠ 0) := by
  constructor
  · rintro ⟨n, rfl⟩
    by_cases hn : n < 128
    · rw [putU_small hn]; exact .inl rfl
    · exact .inr (lastB_putU hn)
  · intro hl; exact ⟨_, putU_valU h hl⟩

theorem putU_length_le (n : Nat) : ∀ k, 0 < k → n < 128 ^ k → (putU n).length ≤ k := by
  induction n using Nat.strongRecOn with
  | _ n ih =>
    intro k hk h
    by_cases hn : n < 128
    · rw [putU_small hn]; exact hk
    · rw [putU_big hn, List.length_cons]
      obtain ⟨j, rfl⟩ : ∃ j, k = j + 1 := ⟨k - 1, by omega⟩
      have hj : 0 < j := by
        rcases Nat.eq_zero_or_pos j with h0 | h0
        · subst h0; simp at h; omega
        · exact h0
      have := ih (n / 128) (by omega) j hj (by rw [Nat.pow_succ] at h; omega)
      omega
theorem putU_length_gt (n : Nat) : ∀ k, 128 ^ k ≤ n → k < (putU n).length := by
  induction n using Nat.strongRecOn with
  | _ n ih =>
    intro k h
    cases k with
    | zero => exact List.length_pos_iff.2 (putU_ne n)
    | succ k =>
      have hn : ¬ n < 128 := by
        have := Nat.pow_pos (n := k) (show 0 < 128 by omega)
        rw [Nat.pow_succ] at h; omega
      rw [putU_big hn, List.length_cons]
      have := ih (n / 128) (by omega) k (by rw [Nat.pow_succ] at h; omega)
      omega

/-- A number of 64 bits has at most 10 bytes. -/
theorem putU_ten {n : Nat} (h : n < 18446744073709551616) : (putU n).length ≤ 10 := putU_length_le n 10 (by omega) (by omega)

/-- The greater number never has fewer bytes. -/
theorem putU_mono {m n : Nat} (h : m ≤ n) : (putU m).length ≤ (putU n).length := by
  have hl := List.length_pos_iff.2 (putU_ne n)
  refine putU_length_le m _ hl (Nat.lt_of_le_of_lt h ?_)
  rcases Nat.lt_or_ge n (128 ^ (putU n).length) with h2 | h2
  · exact h2
  · have := putU_length_gt n _ h2; omega

/-- The bytes one by one: group i, with the high bit where another one follows. -/
theorem putU_at (n : Nat) : ∀ i, i < (putU n).length → (putU n)[i]? = some (n / 128 ^ i % 128 + if i + 1 < (putU n).length then 128 else 0) := by
  induction n using Nat.strongRecOn with
  | _ n ih =>
    intro i hi
    by_cases hn : n < 128
    · rw [putU_small hn] at hi ⊢
      obtain rfl : i = 0 := by simpa using hi
      simp; omega
    · have hp := List.length_pos_iff.2 (putU_ne (n / 128))
      rw [putU_big hn] at hi ⊢
      cases i with
      | zero =>
        rw [List.length_cons, if_pos (by omega)]
        simp
      | succ i =>
        have h2 := ih (n / 128) (by omega) i (by simpa using hi)
        rw [List.getElem?_cons_succ, h2, List.length_cons, Nat.pow_succ, Nat.mul_comm, ← Nat.div_div_eq_div_mul]
        congr 2
        simp only [Nat.add_lt_add_iff_right]

/-- A number is below the power of its length. -/
theorem putU_lt (n : Nat) : n < 128 ^ (putU n).length := by
  rcases Nat.lt_or_ge n (128 ^ (putU n).length) with h | h
  · exact h
  · have := putU_length_gt n _ h; omega
end Go.Proofs.Ytahnhohccbnhjaa
