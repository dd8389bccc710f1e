/- Plain facts on words of 64 bits: sums and products bit by bit, quotients by long division, and what they are of signed numbers. -/
import Derived.WalkKit
import Derived.Laws.Bits64
import Derived.Laws.Bits64b
import Derived.Laws.BitsAllLaws
namespace Go.Proofs.Ytiddlnmpiaelmaa
open Go Go.RowKit

theorem wrap_i64 (n : Int) : IntKind.i64.wrap n = wrap64 n := by
  simp [IntKind.wrap, IntKind.bits, IntKind.signed, wrap64]
  split <;> omega

theorem wrap_congr {x y : Int} (h : x % 18446744073709551616 = y % 18446744073709551616) : wrap64 x = wrap64 y := by
  unfold wrap64; omega

theorem wrap_emod (x : Int) : wrap64 x % 18446744073709551616 = x % 18446744073709551616 := by
  unfold wrap64; omega

theorem wrap_mod (x : Int) : wrap64 (x % 18446744073709551616) = wrap64 x := wrap_congr (by omega)

theorem wrap_id {x : Int} (h1 : -9223372036854775808 ≤ x) (h2 : x < 9223372036854775808) : wrap64 x = x := by
  unfold wrap64; omega

theorem wrap_le (x : Int) : -9223372036854775808 ≤ wrap64 x ∧ wrap64 x < 9223372036854775808 := by
  unfold wrap64; omega

/-- A whole number as a word. -/
def U (a : Int) : Nat := (a % 18446744073709551616).toNat
theorem U_lt (a : Int) : U a < 18446744073709551616 := by unfold U; omega
theorem U_cast (a : Int) : (U a : Int) = a % 18446744073709551616 := by unfold U; omega
theorem wrap_U (a : Int) : wrap64 (U a : Int) = wrap64 a := by rw [U_cast, wrap_mod]

theorem mod_succ (a i : Nat) : a % 2 ^ (i + 1) = a % 2 ^ i + 2 ^ i * (a / 2 ^ i % 2) := by rw [Nat.pow_succ, Nat.mod_mul]

/-- A step of the sum. -/
theorem add_step {a b s c i : Nat} (hs : s < 2 ^ i) (h : s + 2 ^ i * c = a % 2 ^ i + b % 2 ^ i) {x : Nat} (hx : x = a / 2 ^ i % 2 + b / 2 ^ i % 2 + c) :
    s ||| x % 2 * 2 ^ i = s + x % 2 * 2 ^ i ∧ s + x % 2 * 2 ^ i < 2 ^ (i + 1) ∧ (s + x % 2 * 2 ^ i) + 2 ^ (i + 1) * (x / 2) = a % 2 ^ (i + 1) + b % 2 ^ (i + 1) := by
  refine ⟨?_, ?_, ?_⟩
  · rw [Nat.or_comm, nat_join i _ _ (Nat.mul_mod_left ..) hs, Nat.add_comm]
  · rw [Nat.pow_succ]
    rcases Nat.mod_two_eq_zero_or_one x with e | e <;> rw [e] <;> omega
  · rw [mod_succ a, mod_succ b, Nat.pow_succ]
    have e : x % 2 * 2 ^ i + 2 ^ i * 2 * (x / 2) = 2 ^ i * x := by
      have := Nat.mod_add_div x 2
      calc x % 2 * 2 ^ i + 2 ^ i * 2 * (x / 2) = 2 ^ i * (x % 2 + 2 * (x / 2)) := by rw [Nat.mul_add, Nat.mul_comm (x % 2), Nat.mul_assoc]
        _ = 2 ^ i * x := by rw [this]
    have e2 : 2 ^ i * x = 2 ^ i * (a / 2 ^ i % 2) + 2 ^ i * (b / 2 ^ i % 2) + 2 ^ i * c := by rw [hx, Nat.mul_add, Nat.mul_add]
    omega

theorem add_end {a b s c : Nat} (ha : a < 18446744073709551616) (hb : b < 18446744073709551616) (hs : s < 2 ^ 64) (h : s + 2 ^ 64 * c = a % 2 ^ 64 + b % 2 ^ 64) : s = (a + b) % 18446744073709551616 := by
  omega

/-- A step of the product. -/
theorem mul_step (a b i : Nat) : (a * (b % 2 ^ (i + 1))) % 18446744073709551616 = (a * (b % 2 ^ i) % 18446744073709551616 + (a * 2 ^ i % 18446744073709551616) * (b / 2 ^ i % 2)) % 18446744073709551616 := by
  rw [mod_succ, Nat.mul_add, Nat.add_mod]
  conv => rhs; rw [Nat.add_mod]
  congr 1
  rw [Nat.mod_mod, ← Nat.mul_assoc, Nat.mod_mul_mod]

theorem div_of {n b k m : Nat} (hb : 0 < b) (hm : m < b) (h : n = b * k + m) : n / b = k ∧ n % b = m := by
  subst h
  exact ⟨by rw [Nat.mul_add_div hb, Nat.div_eq_of_lt hm, Nat.add_zero], by rw [Nat.mul_add_mod, Nat.mod_eq_of_lt hm]⟩

/-- A step of the long division. -/
theorem div_step {a b q r i : Nat} (hb : 0 < b) (hq : q = a / 2 ^ (i + 1) / b * 2 ^ (i + 1)) (hr : r = a / 2 ^ (i + 1) % b) :
    (¬ b ≤ 2 * r + a / 2 ^ i % 2 → q = a / 2 ^ i / b * 2 ^ i ∧ 2 * r + a / 2 ^ i % 2 = a / 2 ^ i % b) ∧
    (b ≤ 2 * r + a / 2 ^ i % 2 → q + 2 ^ i = a / 2 ^ i / b * 2 ^ i ∧ 2 * r + a / 2 ^ i % 2 - b = a / 2 ^ i % b ∧ 2 * r + a / 2 ^ i % 2 - b < b) := by
  have h1 : a / 2 ^ (i + 1) = a / 2 ^ i / 2 := by rw [Nat.pow_succ, Nat.div_div_eq_div_mul]
  rw [h1] at hq hr
  generalize a / 2 ^ i = n at hq hr ⊢
  have hrb : r < b := by rw [hr]; exact Nat.mod_lt _ hb
  have hd := Nat.div_add_mod (n / 2) b
  rw [← hr] at hd
  have hn : n = b * (2 * (n / 2 / b)) + (2 * r + n % 2) := by
    have := Nat.div_add_mod n 2
    have e : b * (2 * (n / 2 / b)) = 2 * (b * (n / 2 / b)) := by rw [Nat.mul_left_comm]
    omega
  constructor
  · intro h
    obtain ⟨h2, h3⟩ := div_of hb (by omega) hn
    refine ⟨?_, h3.symm⟩
    rw [h2, hq, Nat.pow_succ, Nat.mul_comm 2 (n / 2 / b), Nat.mul_assoc, Nat.mul_comm 2]
  · intro h
    obtain ⟨m, hm⟩ : ∃ m, 2 * r + n % 2 = b + m := ⟨2 * r + n % 2 - b, by omega⟩
    have hmb : m < b := by omega
    have hn2 : n = b * (2 * (n / 2 / b) + 1) + m := by rw [Nat.mul_add, Nat.mul_one]; omega
    obtain ⟨h2, h3⟩ := div_of hb hmb hn2
    refine ⟨?_, by omega, by omega⟩
    rw [h2, hq, Nat.pow_succ, Nat.add_mul, Nat.one_mul, Nat.mul_comm 2 (n / 2 / b), Nat.mul_assoc, Nat.mul_comm 2]
end Go.Proofs.Ytiddlnmpiaelmaa
