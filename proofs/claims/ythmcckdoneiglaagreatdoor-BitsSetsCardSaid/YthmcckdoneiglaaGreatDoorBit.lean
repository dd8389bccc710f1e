/- Plain facts on the places of the set bits of a number of 64 bits. -/
import Derived.Test.YthmcckdoneiglaaGreatDoorNum
namespace Go.Proofs.YthmcckdoneiglaaGreatDoor
open Go

/-! ### the set bits, rising -/
def bitsFrom (i n x : Nat) : List Nat := (List.range' i n).filter x.testBit
def bitsOf (x : Nat) : List Nat := bitsFrom 0 64 x

theorem bitsFrom_cons (x y p : Nat) (hp : x.testBit p = true) (hlow : ∀ j, j < p → x.testBit j = false) (hy : ∀ j, y.testBit j = (x.testBit j && decide (j ≠ p))) :
    ∀ n i, i ≤ p → p < i + n → bitsFrom i n x = p :: bitsFrom i n y
  | 0, i, h1, h2 => by omega
  | n + 1, i, h1, h2 => by
    unfold bitsFrom
    rw [List.range'_succ, List.filter_cons, List.filter_cons]
    by_cases e : i = p
    · subst e
      rw [if_pos hp, hy i]
      simp only [ne_eq, not_true_eq_false, decide_false, Bool.and_false, Bool.false_eq_true, if_false]
      congr 1
      apply List.filter_congr
      intro j hj
      have hij : i < j := by
        have := List.mem_range'_1.1 hj
        omega
      rw [hy j]
      simp; intro _; omega
    · have hi : x.testBit i = false := hlow i (by omega)
      rw [hi, hy i, hi]
      simp only [Bool.false_eq_true, if_false, Bool.false_and]
      exact bitsFrom_cons x y p hp hlow hy n (i + 1) (by omega) (by omega)

theorem bitsOf_zero : bitsOf 0 = [] := by
  unfold bitsOf bitsFrom
  simp

theorem low_cleared (k m : Nat) : (2 ^ k * (2 * m + 1)) &&& (2 ^ k * (2 * m + 1) - 1) = 2 ^ k * (2 * m) := by
  have hpos : 0 < 2 ^ k := Nat.two_pow_pos k
  have e : 2 ^ k * (2 * m + 1) - 1 = 2 ^ k * (2 * m) + (2 ^ k - 1) := by
    rw [Nat.mul_add, Nat.mul_one]; omega
  rw [e]
  apply Nat.eq_of_testBit_eq
  intro i
  rw [Nat.testBit_and, Nat.testBit_two_pow_mul, Nat.testBit_two_pow_mul_add _ (by omega), Nat.testBit_two_pow_mul]
  by_cases h : i < k
  · simp [h, show ¬ k ≤ i from by omega]
  · have h' : k ≤ i := by omega
    simp only [h, h', decide_true, Bool.true_and, if_false]
    obtain ⟨j, rfl⟩ := Nat.exists_eq_add_of_le h'
    rw [Nat.add_sub_cancel_left]
    cases j with
    | zero => simp [Nat.testBit_zero]
    | succ j =>
      rw [Nat.testBit_succ, Nat.testBit_succ]
      have e1 : (2 * m + 1) / 2 = m := by omega
      have e2 : 2 * m / 2 = m := by omega
      rw [e1, e2, Bool.and_self]

/-- A number that is not 0: its lowest set bit is handed out first; the common bits with its predecessor are the others. -/
theorem bitsOf_step (x : Nat) (h0 : x ≠ 0) (hx : x < 18446744073709551616) : bitsOf x = Lib.ctz 64 x :: bitsOf (x &&& (x - 1)) ∧ Lib.ctz 64 x < 64 ∧ x &&& (x - 1) < x := by
  obtain ⟨m, hm, hk⟩ := Lib.ctzFrom_spec 64 x (by omega) hx
  have ek : Lib.ctz 64 x = Lib.ctzFrom 64 x := by unfold Lib.ctz; rw [if_neg h0]
  rw [ek]
  generalize Lib.ctzFrom 64 x = k at hm hk
  have hpos : 0 < 2 ^ k := Nat.two_pow_pos k
  have hc := low_cleared k m
  rw [← hm] at hc
  have htx : ∀ j, x.testBit j = (decide (k ≤ j) && (2 * m + 1).testBit (j - k)) := fun j => by rw [hm, Nat.testBit_two_pow_mul]
  have hp : x.testBit k = true := by rw [htx]; simp [Nat.testBit_zero]
  have hlow : ∀ j, j < k → x.testBit j = false := fun j hj => by rw [htx]; simp [show ¬ k ≤ j from by omega]
  have hy : ∀ j, (x &&& (x - 1)).testBit j = (x.testBit j && decide (j ≠ k)) := fun j => by
    rw [hc, htx, Nat.testBit_two_pow_mul]
    by_cases h : k ≤ j
    · obtain ⟨d, rfl⟩ := Nat.exists_eq_add_of_le h
      rw [Nat.add_sub_cancel_left]
      cases d with
      | zero => simp [Nat.testBit_zero]
      | succ d =>
        rw [Nat.testBit_succ, Nat.testBit_succ]
        have e1 : (2 * m + 1) / 2 = m := by omega
        have e2 : 2 * m / 2 = m := by omega
        rw [e1, e2]; simp
    · simp [h]
  refine ⟨bitsFrom_cons x _ k hp hlow hy 64 0 (Nat.zero_le _) (by omega), hk, ?_⟩
  rw [hc, hm, Nat.mul_add]
  omega

/-- As many as there are set bits. -/
theorem bitsFrom_length : ∀ n i x, (bitsFrom i n x).length = popN n (x / 2 ^ i)
  | 0, i, x => by simp [bitsFrom, popN]
  | n + 1, i, x => by
    have ih := bitsFrom_length n (i + 1) x
    unfold bitsFrom at ih ⊢
    rw [List.range'_succ, List.filter_cons]
    have e : x / 2 ^ (i + 1) = x / 2 ^ i / 2 := by rw [Nat.pow_succ, Nat.div_div_eq_div_mul]
    have ht : x.testBit i = decide (x / 2 ^ i % 2 = 1) := Nat.testBit_eq_decide_div_mod_eq
    rw [e] at ih
    simp only [popN]
    rw [← ih, ht]
    rcases Nat.mod_two_eq_zero_or_one (x / 2 ^ i) with h | h <;> simp [h]
    omega

theorem bitsOf_length (x : Nat) : (bitsOf x).length = popN 64 x := by
  have := bitsFrom_length 64 0 x
  simpa [bitsOf] using this

theorem bitsOf_lt (x : Nat) : ∀ k ∈ bitsOf x, k < 64 := by
  intro k hk
  unfold bitsOf bitsFrom at hk
  have := List.mem_range'_1.1 (List.mem_filter.1 hk).1
  omega

theorem mem_bitsOf (x k : Nat) : k ∈ bitsOf x ↔ k < 64 ∧ x.testBit k = true := by
  unfold bitsOf bitsFrom
  rw [List.mem_filter, List.mem_range'_1]
  constructor
  · rintro ⟨h1, h2⟩; exact ⟨by omega, h2⟩
  · rintro ⟨h1, h2⟩; exact ⟨by omega, h2⟩
end Go.Proofs.YthmcckdoneiglaaGreatDoor
