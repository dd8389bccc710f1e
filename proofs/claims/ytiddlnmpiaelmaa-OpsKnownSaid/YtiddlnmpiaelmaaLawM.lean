/- Plain facts: how the operations hang together. -/
import Derived.Test.YtiddlnmpiaelmaaSgn
namespace Go.Proofs.Ytiddlnmpiaelmaa
open Go Go.RowKit

theorem emod_hom_add (x y : Int) : (wrap64 x + y) % 18446744073709551616 = (x + y) % 18446744073709551616 := by
  have := wrap_emod x
  omega

theorem law_div (a b : Int) (a1 : -9223372036854775808 ≤ a) (a2 : a < 9223372036854775808) (hb : ¬ b = 0) : binV 1 (binV 3 (binV 4 a b) b) (binV 5 a b) = a := by
  rw [binV_1, binV_3, binV_4, binV_5, if_neg hb, if_neg hb]
  have h : wrap64 (wrap64 (a.tdiv b) * b) = wrap64 (a.tdiv b * b) := by
    apply wrap_congr
    rw [Int.mul_emod, wrap_emod, ← Int.mul_emod]
  rw [h]
  have h2 : wrap64 (wrap64 (a.tdiv b * b) + a.tmod b) = wrap64 (a.tdiv b * b + a.tmod b) := wrap_congr (emod_hom_add _ _)
  rw [h2]
  have h3 := Int.mul_tdiv_add_tmod a b
  rw [Int.mul_comm] at h3
  rw [h3, wrap_id a1 a2]

theorem law_sub (a b : Int) : binV 1 a (unV 15 b) = binV 2 a b := by
  rw [binV_1, binV_2, unV_15]
  apply wrap_congr
  have := wrap_emod (0 - b)
  omega

theorem law_inv (a : Int) (a1 : -9223372036854775808 ≤ a) (a2 : a < 9223372036854775808) : binV 2 (unV 15 a) 1 = unV 17 a := by
  rw [binV_2, unV_15, unV_17]
  unfold wrap64
  omega

theorem U_small (n : Nat) (h : n < 64) : U (n : Int) % 64 = n := by unfold U; omega

theorem law_shl (a b : Int) : binV 3 a (binV 9 1 ((U b % 64 : Nat) : Int)) = binV 9 a b := by
  rw [binV_3, binV_9, binV_9, U_small _ (Nat.mod_lt _ (by omega)), Int.one_mul]
  apply wrap_congr
  rw [Int.mul_emod, wrap_emod, ← Int.mul_emod]

theorem or_lt {a b : Nat} (ha : a < 18446744073709551616) (hb : b < 18446744073709551616) : a ||| b < 18446744073709551616 := Nat.or_lt_two_pow (n := 64) ha hb
theorem and_lt {a : Nat} (b : Nat) (ha : a < 18446744073709551616) : a &&& b < 18446744073709551616 := Nat.lt_of_le_of_lt Nat.and_le_left ha

theorem U_neg_one (x : Nat) (h : x < 18446744073709551616) : U (-wrap64 (x : Int) - 1) = 18446744073709551615 - x := by
  unfold U wrap64; omega

theorem testBit_high {a i : Nat} (ha : a < 18446744073709551616) (hi : ¬ i < 64) : a.testBit i = false :=
  Nat.testBit_lt_two_pow (Nat.lt_of_lt_of_le ha (show 2 ^ 64 ≤ 2 ^ i from Nat.pow_le_pow_right (by omega) (by omega)))

theorem testBit_max (i : Nat) (hi : i < 64) : (18446744073709551615 : Nat).testBit i = true := by
  have h := Nat.testBit_two_pow_sub_one 64 i
  rw [show (2 ^ 64 - 1 : Nat) = 18446744073709551615 from rfl] at h
  rw [h]; simpa using hi

theorem law_xor (a b : Int) : binV 6 (binV 7 a b) (unV 17 (binV 6 a b)) = binV 8 a b := by
  rw [binV_6, binV_7, binV_8, binV_6, unV_17]
  have ho := or_lt (U_lt a) (U_lt b)
  have hn := and_lt (U b) (U_lt a)
  rw [U_wrap, U_id _ ho, U_neg_one _ hn, ← xor_max _ hn]
  congr 2
  apply Nat.eq_of_testBit_eq
  intro i
  rw [Nat.testBit_and, Nat.testBit_or, Nat.testBit_xor, Nat.testBit_and, Nat.testBit_xor]
  by_cases hi : i < 64
  · rw [testBit_max i hi]
    cases (U a).testBit i <;> cases (U b).testBit i <;> rfl
  · rw [testBit_high (U_lt a) hi, testBit_high (U_lt b) hi]; rfl

theorem and_add_or : ∀ (n a b : Nat), a < 2 ^ n → b < 2 ^ n → (a &&& b) + (a ||| b) = a + b := by
  intro n
  induction n with
  | zero => intro a b ha hb; have : a = 0 := by omega
            have : b = 0 := by omega
            subst_vars; rfl
  | succ n ih =>
    intro a b ha hb
    rw [Nat.pow_succ] at ha hb
    have h := ih (a / 2) (b / 2) (by omega) (by omega)
    have e1 : (a &&& b) / 2 = a / 2 &&& b / 2 := by
      have := Nat.and_div_two_pow (a := a) (b := b) (n := 1); simpa using this
    have e2 : (a ||| b) / 2 = a / 2 ||| b / 2 := by
      have := Nat.or_div_two_pow (a := a) (b := b) (n := 1); simpa using this
    have m1 : (a &&& b) % 2 = (a % 2) * (b % 2) := by
      have := Nat.and_mod_two_pow (a := a) (b := b) (n := 1)
      rw [show (2 ^ 1 : Nat) = 2 from rfl] at this
      rw [this]
      rcases Nat.mod_two_eq_zero_or_one a with ea | ea <;> rcases Nat.mod_two_eq_zero_or_one b with eb | eb <;> rw [ea, eb] <;> rfl
    have m2 : (a ||| b) % 2 = (a % 2) + (b % 2) - (a % 2) * (b % 2) := by
      have := Nat.or_mod_two_pow (a := a) (b := b) (n := 1)
      rw [show (2 ^ 1 : Nat) = 2 from rfl] at this
      rw [this]
      rcases Nat.mod_two_eq_zero_or_one a with ea | ea <;> rcases Nat.mod_two_eq_zero_or_one b with eb | eb <;> rw [ea, eb] <;> rfl
    have hm : (a % 2) * (b % 2) ≤ a % 2 + b % 2 := by
      rcases Nat.mod_two_eq_zero_or_one a with ea | ea <;> rcases Nat.mod_two_eq_zero_or_one b with eb | eb <;> rw [ea, eb] <;> omega
    generalize (a % 2) * (b % 2) = p at m1 m2 hm
    omega

theorem sum_mod (p q x y A B : Int) (h1 : p % 18446744073709551616 = x % 18446744073709551616) (h2 : q % 18446744073709551616 = y % 18446744073709551616) (h : x + y = A + B) : (p + q) % 18446744073709551616 = (A + B) % 18446744073709551616 := by
  rw [← h, Int.add_emod, h1, h2, ← Int.add_emod]

theorem law_sum (a b : Int) : binV 1 (binV 6 a b) (binV 7 a b) = binV 1 a b := by
  rw [binV_1, binV_1, binV_6, binV_7]
  have h := and_add_or 64 (U a) (U b) (U_lt a) (U_lt b)
  have h1 := wrap_emod ((U a &&& U b : Nat) : Int)
  have h2 := wrap_emod ((U a ||| U b : Nat) : Int)
  have h3 := sum_mod _ _ _ _ ((U a : Nat) : Int) ((U b : Nat) : Int) h1 h2 (by rw [← Int.natCast_add, h, Int.natCast_add])
  refine (wrap_congr h3).trans (wrap_congr ?_)
  rw [U_cast, U_cast, ← Int.add_emod]

theorem law_shr (a b : Int) : binV 10 (binV 9 (binV 10 a b) b) b = binV 10 a b := by
  rw [binV_10, binV_9, binV_10]
  obtain ⟨n, hn⟩ : ∃ n, U b % 64 = n := ⟨_, rfl⟩
  have hn64 : n < 64 := by omega
  rw [hn]
  congr 2
  obtain ⟨x, hx⟩ : ∃ x, U a / 2 ^ n = x := ⟨_, rfl⟩
  rw [hx, U_wrap]
  have hle : x * 2 ^ n ≤ U a := by rw [← hx]; exact Nat.div_mul_le_self _ _
  have ha := U_lt a
  have hp := Nat.two_pow_pos n
  by_cases hz : n = 0
  · subst hz
    simp only [Nat.pow_zero, Nat.div_one, Nat.mul_one] at *
    show U (wrap64 (x : Int) * 1) = x
    rw [Int.mul_one, U_wrap, U_id x (by omega)]
  · have hx2 : x < 9223372036854775808 := by
      have h2 : 2 ≤ 2 ^ n := by
        obtain ⟨m, rfl⟩ : ∃ m, n = m + 1 := ⟨n - 1, by omega⟩
        rw [Nat.pow_succ]; have := Nat.two_pow_pos m; omega
      have : x * 2 ≤ x * 2 ^ n := Nat.mul_le_mul_left x h2
      omega
    rw [wrap_id (x := (x : Int)) (by omega) (by omega)]
    have e : ((x : Int) * 2 ^ n) = ((x * 2 ^ n : Nat) : Int) := by push_cast; rfl
    rw [e, U_id _ (by omega), Nat.mul_div_cancel _ hp]

theorem mask_i64 (b : Int) : bits .and .i64 b 63 = ((U b % 64 : Nat) : Int) := by
  rw [and_i64, show U 63 = 63 from rfl, nat_mask6, wrap_id (by omega) (by omega)]


theorem int_le {a : Int} (h : (Lit.int .i64 a).wf = true) : -9223372036854775808 ≤ a ∧ a < 9223372036854775808 := by
  simp only [Lit.wf, Bool.and_eq_true, decide_eq_true_eq] at h
  have h1 : IntKind.i64.min = -9223372036854775808 := rfl
  have h2 : IntKind.i64.max = 9223372036854775807 := rfl
  omega
end Go.Proofs.Ytiddlnmpiaelmaa
