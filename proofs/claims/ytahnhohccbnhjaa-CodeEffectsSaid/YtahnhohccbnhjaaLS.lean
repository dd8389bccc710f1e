/- Plain facts on numbers as bytes: forms of signed numbers, fewest groups of seven bits in two's complement. -/
import Derived.WalkKit
namespace Go.Proofs.Ytahnhohccbnhjaa

/-- The form of a signed number. -/
def putS (n : Int) : List Nat := if -64 ≤ n ∧ n < 64 then [(n % 128).toNat] else ((n % 128).toNat + 128) :: putS (n / 128)
termination_by n.natAbs
decreasing_by omega

/-- What groups come to, the last one's high bit saying the sign. -/
def valS : List Nat → Int
  | [] => 0
  | [x] => if x % 128 < 64 then ((x % 128 : Nat) : Int) else ((x % 128 : Nat) : Int) - 128
  | x :: y :: l => ((x % 128 : Nat) : Int) + 128 * valS (y :: l)

def oneS : List Nat → Prop
  | [] => False
  | [x] => x < 128
  | x :: y :: l => (128 ≤ x ∧ x < 256) ∧ oneS (y :: l)

theorem putS_small {n : Int} (h : -64 ≤ n ∧ n < 64) : putS n = [(n % 128).toNat] := by rw [putS, if_pos h]
theorem putS_big {n : Int} (h : ¬ (-64 ≤ n ∧ n < 64)) : putS n = ((n % 128).toNat + 128) :: putS (n / 128) := by rw [putS, if_neg h]

theorem putS_ne (n : Int) : putS n ≠ [] := by
  by_cases h : -64 ≤ n ∧ n < 64
  · rw [putS_small h]; simp
  · rw [putS_big h]; simp

theorem oneS_cons {x : Nat} {l : List Nat} (h1 : 128 ≤ x) (h2 : x < 256) (hl : oneS l) : oneS (x :: l) := by
  cases l with
  | nil => exact hl.elim
  | cons y l => exact ⟨⟨h1, h2⟩, hl⟩

theorem abs_rec {P : Int → Prop} (h : ∀ n, (∀ m, m.natAbs < n.natAbs → P m) → P n) (n : Int) : P n := by
  have : ∀ (k : Nat) (n : Int), n.natAbs < k → P n := by
    intro k
    induction k with
    | zero => intro n hn; omega
    | succ k ih => intro n hn; exact h n (fun m hm => ih m (by omega))
  exact this _ n (Nat.lt_succ_self _)

theorem putS_one (n : Int) : oneS (putS n) := by
  induction n using abs_rec with
  | _ n ih =>
    by_cases h : -64 ≤ n ∧ n < 64
    · rw [putS_small h]
      show (n % 128).toNat < 128
      omega
    · rw [putS_big h]
      exact oneS_cons (by omega) (by omega) (ih (n / 128) (by omega))

theorem valS_cons (x : Nat) {l : List Nat} (h : l ≠ []) : valS (x :: l) = ((x % 128 : Nat) : Int) + 128 * valS l := by
  cases l with
  | nil => exact absurd rfl h
  | cons y l => rfl

theorem valS_putS (n : Int) : valS (putS n) = n := by
  induction n using abs_rec with
  | _ n ih =>
    by_cases h : -64 ≤ n ∧ n < 64
    · rw [putS_small h]
      simp only [valS]
      split <;> omega
    · rw [putS_big h, valS_cons _ (putS_ne _), ih (n / 128) (by omega)]
      omega

theorem putS_inj {m n : Int} (h : putS m = putS n) : m = n := by rw [← valS_putS m, ← valS_putS n, h]

/-- No group at the end that only repeats the sign. -/
def minS : List Nat → Prop
  | [] => True
  | [_] => True
  | [x, y] => ¬ (y = 0 ∧ x % 128 < 64) ∧ ¬ (y = 127 ∧ 64 ≤ x % 128)
  | _ :: y :: z :: l => minS (y :: z :: l)

theorem minS_tail {x y z : Nat} {l : List Nat} (h : minS (x :: y :: z :: l)) : minS (y :: z :: l) := h

theorem valS_far {l : List Nat} (h : oneS l) (h2 : 2 ≤ l.length) (hm : minS l) : ¬ (-64 ≤ valS l ∧ valS l < 64) := by
  induction l with
  | nil => simp at h2
  | cons x l ih =>
    cases l with
    | nil => simp at h2
    | cons y l =>
      cases l with
      | nil =>
        have hy : y < 128 := h.2
        have h1 := h.1
        obtain ⟨m1, m2⟩ := hm
        simp only [valS]
        split <;> omega
      | cons z l =>
        have := ih h.2 (by simp) (minS_tail hm)
        have h1 := h.1
        rw [valS]
        omega

/-- Bytes of one number with no group too many are its form. -/
theorem putS_valS {l : List Nat} (h : oneS l) (hm : minS l) : putS (valS l) = l := by
  induction l with
  | nil => exact h.elim
  | cons x l ih =>
    cases l with
    | nil =>
      have hx : x < 128 := h
      have hr : -64 ≤ valS [x] ∧ valS [x] < 64 := by simp only [valS]; split <;> omega
      rw [putS_small hr]
      have : (valS [x] % 128).toNat = x := by simp only [valS]; split <;> omega
      rw [this]
    | cons y l =>
      have hf := valS_far h (by simp) hm
      have hm2 : minS (y :: l) := by
        cases l with
        | nil => trivial
        | cons z l => exact minS_tail hm
      have hi := ih h.2 hm2
      have h1 := h.1
      rw [putS_big hf]
      have e1 : (valS (x :: y :: l) % 128).toNat + 128 = x := by rw [valS]; omega
      have e2 : valS (x :: y :: l) / 128 = valS (y :: l) := by rw [valS]; omega
      rw [e1, e2, hi]

theorem minS_putS (n : Int) : minS (putS n) := by
  induction n using abs_rec with
  | _ n ih =>
    by_cases h : -64 ≤ n ∧ n < 64
    · rw [putS_small h]; trivial
    · have hi := ih (n / 128) (by omega)
      rw [putS_big h]
      by_cases h2 : -64 ≤ n / 128 ∧ n / 128 < 64
      · rw [putS_small h2]
        constructor
        · omega
        · omega
      · rw [putS_big h2] at hi ⊢
        cases hq : putS (n / 128 / 128) with
        | nil => exact absurd hq (putS_ne _)
        | cons z l => rw [hq] at hi; exact hi

theorem formS_iff {l : List Nat} (h : oneS l) : (∃ n, putS n = l) ↔ minS l :=
  ⟨fun ⟨n, hn⟩ => hn ▸ minS_putS n, fun hm => ⟨_, putS_valS h hm⟩⟩

theorem putS_length_le (n : Int) : ∀ k : Nat, -(64 * 128 ^ k : Int) ≤ n → n < 64 * 128 ^ k → (putS n).length ≤ k + 1 := by
  induction n using abs_rec with
  | _ n ih =>
    intro k h1 h2
    by_cases h : -64 ≤ n ∧ n < 64
    · rw [putS_small h]; simp
    · rw [putS_big h, List.length_cons]
      cases k with
      | zero => simp at h1 h2; omega
      | succ k =>
        rw [Int.pow_succ] at h1 h2
        have := ih (n / 128) (by omega) k (by omega) (by omega)
        omega
theorem putS_length_gt (n : Int) : ∀ k : Nat, (n < -(64 * 128 ^ k : Int) ∨ 64 * 128 ^ k ≤ n) → k + 1 < (putS n).length := by
  induction n using abs_rec with
  | _ n ih =>
    intro k h
    have hp : (1 : Int) ≤ 128 ^ k := Int.pow_pos (by decide)
    have hn : ¬ (-64 ≤ n ∧ n < 64) := by omega
    rw [putS_big hn, List.length_cons]
    cases k with
    | zero =>
      have := List.length_pos_iff.2 (putS_ne (n / 128))
      omega
    | succ k =>
      rw [Int.pow_succ] at h
      have := ih (n / 128) (by omega) k (by omega)
      omega

theorem putS_ten {n : Int} (h1 : -9223372036854775808 ≤ n) (h2 : n < 9223372036854775808) : (putS n).length ≤ 10 := putS_length_le n 9 (by omega) (by omega)

/-- The bytes one by one. -/
theorem putS_at (n : Int) : ∀ i, i < (putS n).length → (putS n)[i]? = some ((n / 128 ^ i % 128).toNat + if i + 1 < (putS n).length then 128 else 0) := by
  induction n using abs_rec with
  | _ n ih =>
    intro i hi
    by_cases hn : -64 ≤ n ∧ n < 64
    · rw [putS_small hn] at hi ⊢
      obtain rfl : i = 0 := by simpa using hi
      simp
    · have hp := List.length_pos_iff.2 (putS_ne (n / 128))
      rw [putS_big hn] at hi ⊢
      cases i with
      | zero =>
        rw [List.length_cons, if_pos (by omega)]
        simp
      | succ i =>
        have h2 := ih (n / 128) (by omega) i (by simpa using hi)
        rw [List.getElem?_cons_succ, h2, List.length_cons, Int.pow_succ, Int.mul_comm, ← Int.ediv_ediv_of_nonneg (by decide)]
        congr 2
        simp only [Nat.add_lt_add_iff_right]
end Go.Proofs.Ytahnhohccbnhjaa
