/- The document's Binary and Unary: put together. -/
import Derived.Test.YtiddlnmpiaelmaaDoc
namespace Go.Proofs.Ytiddlnmpiaelmaa
open Go Go.RowKit

theorem and_word (a b : Int) : bits .and .u64 (IntKind.u64.wrap a) (IntKind.u64.wrap b) = ((U a &&& U b : Nat) : Int) := by
  rw [to_u64, to_u64, u64_and_nat _ _ (U_lt a) (U_lt b)]
theorem or_word (a b : Int) : bits .or .u64 (IntKind.u64.wrap a) (IntKind.u64.wrap b) = ((U a ||| U b : Nat) : Int) := by
  rw [to_u64, to_u64, u64_or_nat _ _ (U_lt a) (U_lt b)]
theorem xor_word (a b : Int) : bits .xor .u64 (IntKind.u64.wrap a) (IntKind.u64.wrap b) = ((U a ^^^ U b : Nat) : Int) := by
  rw [to_u64, to_u64, u64_xor_nat _ _ (U_lt a) (U_lt b)]

/-- **Binary of the document's answer.** -/
theorem binary_ref (op a b : Int) (a1 : -9223372036854775808 ≤ a) (a2 : a < 9223372036854775808) (b1 : -9223372036854775808 ≤ b) (b2 : b < 9223372036854775808) (w : World) :
    Calls Try.prog 9 #[.int .i64 op, .int .i64 a, .int .i64 b] w fun e w' => e = .returned (.tuple #[.int .i64 (binV op a b), .bool (binO op)]) ∧ w = w' := by
  rcases op_cases op with rfl | rfl | rfl | rfl | rfl | rfl | rfl | rfl | rfl | rfl | rfl | rfl | rfl | rfl | hop
  · rw [binV_1, binO_1]; exact ref_1 a b a1 a2 b1 b2 w
  · rw [binV_2, binO_2]; exact ref_2 a b a1 a2 b1 b2 w
  · rw [binV_3, binO_3]; exact ref_3 a b a1 a2 b1 b2 w
  · rw [binV_4, binO_4]; exact ref_4 a b a1 a2 b1 b2 w
  · rw [binV_5, binO_5]; exact ref_5 a b a1 a2 b1 b2 w
  · rw [binV_6, binO_6, ← and_word]; exact ref_6 a b a1 a2 b1 b2 w
  · rw [binV_7, binO_7, ← or_word]; exact ref_7 a b a1 a2 b1 b2 w
  · rw [binV_8, binO_8, ← xor_word]; exact ref_8 a b a1 a2 b1 b2 w
  · rw [binV_9, binO_9, ← shl_wordI, ← to_u64]; exact ref_9 a b a1 a2 b1 b2 w
  · rw [binV_10, binO_10]
    have h := ref_10 a b a1 a2 b1 b2 w
    rw [to_u64, show ((U a : Int) / 2 ^ (U b % 64)) = ((U a / 2 ^ (U b % 64) : Nat) : Int) from by push_cast; rfl] at h
    exact h
  · rw [binV_11, binO_11]
    by_cases hb : a = b
    · rw [if_pos hb]; exact ref_11_1 a b a1 a2 b1 b2 hb w
    · rw [if_neg hb]; exact ref_11_0 a b a1 a2 b1 b2 hb w
  · rw [binV_12, binO_12]
    by_cases hb : a = b
    · rw [if_pos hb]; exact ref_12_1 a b a1 a2 b1 b2 hb w
    · rw [if_neg hb]; exact ref_12_0 a b a1 a2 b1 b2 hb w
  · rw [binV_13, binO_13]
    by_cases hb : a < b
    · rw [if_pos hb]; exact ref_13_1 a b a1 a2 b1 b2 hb w
    · rw [if_neg hb]; exact ref_13_0 a b a1 a2 b1 b2 hb w
  · rw [binV_14, binO_14]
    by_cases hb : a ≤ b
    · rw [if_pos hb]; exact ref_14_1 a b a1 a2 b1 b2 hb w
    · rw [if_neg hb]; exact ref_14_0 a b a1 a2 b1 b2 hb w
  · rw [binV_none hop, binO_none hop]; exact ref_none op a b a1 a2 b1 b2 hop w

set_option maxRecDepth 100000 in
theorem refun_15 (a : Int) (w : World) : Calls Try.prog 11 #[.int .i64 15, .int .i64 a] w fun e w' => e = .returned (.tuple #[.int .i64 (wrap64 (-a)), .bool true]) ∧ w = w' := by
  have hn := neg_any (U a) (U_lt a) w
  rw [← neg_word a]
  rw [← to_u64] at hn
  generalize negN (U a) = N at hn ⊢
  go_enter Try.func11, Try.ntmps11
  go_wp2_with (go_at_call 29; refine hn.mono ?_; rintro e w' ⟨rfl, rfl⟩)
  go_ret2
  exact ⟨rfl, rfl⟩
set_option maxRecDepth 100000 in
theorem refun_16_1 (a : Int) (ha : a = 0) (w : World) : Calls Try.prog 11 #[.int .i64 16, .int .i64 a] w fun e w' => e = .returned (.tuple #[.int .i64 1, .bool true]) ∧ w = w' := by
  subst ha
  go_enter Try.func11, Try.ntmps11
  go_wp2_with (go_at_call 31; refine (truthr_any _ _).mono ?_; rintro e w' ⟨rfl, rfl⟩)
  go_ret2
  exact ⟨rfl, rfl⟩
set_option maxRecDepth 100000 in
theorem refun_16_0 (a : Int) (ha : ¬ a = 0) (w : World) : Calls Try.prog 11 #[.int .i64 16, .int .i64 a] w fun e w' => e = .returned (.tuple #[.int .i64 0, .bool true]) ∧ w = w' := by
  have h1 : (a == 0) = false := by simp [ha]
  go_enter Try.func11, Try.ntmps11
  go_wp2_with (go_at_call 31; refine (truthr_any _ _).mono ?_; rintro e w' ⟨rfl, rfl⟩)
  go_ret2
  exact ⟨rfl, rfl⟩
set_option maxRecDepth 100000 in
theorem refun_17 (a : Int) (w : World) : Calls Try.prog 11 #[.int .i64 17, .int .i64 a] w fun e w' => e = .returned (.tuple #[.int .i64 (wrap64 (bits .xor .u64 (IntKind.u64.wrap a) 18446744073709551615)), .bool true]) ∧ w = w' := by
  go_enter Try.func11, Try.ntmps11
  go_wp2
  go_ret2
  exact ⟨rfl, rfl⟩
set_option maxRecDepth 100000 in
theorem refun_none (op a : Int) (hop : op < 15 ∨ 17 < op) (w : World) : Calls Try.prog 11 #[.int .i64 op, .int .i64 a] w fun e w' => e = .returned (.tuple #[.int .i64 0, .bool false]) ∧ w = w' := by
  have c15 : (op == 15) = false := by simp; omega
  have c16 : (op == 16) = false := by simp; omega
  have c17 : (op == 17) = false := by simp; omega
  go_enter Try.func11, Try.ntmps11
  go_wp2
  go_ret2
  exact ⟨rfl, rfl⟩

/-- **Unary of the document's answer.** -/
theorem unary_ref (op a : Int) (h1 : -9223372036854775808 ≤ a) (h2 : a < 9223372036854775808) (w : World) :
    Calls Try.prog 11 #[.int .i64 op, .int .i64 a] w fun e w' => e = .returned (.tuple #[.int .i64 (unV op a), .bool (unO op)]) ∧ w = w' := by
  rcases un_cases op with rfl | rfl | rfl | hop
  · rw [unV_15, unO_15, Int.zero_sub]; exact refun_15 a w
  · rw [unV_16, unO_16]
    by_cases ha : a = 0
    · rw [if_pos ha]; exact refun_16_1 a ha w
    · rw [if_neg ha]; exact refun_16_0 a ha w
  · rw [unV_17, unO_17, ← not_word h1 h2]
    have h := refun_17 a w
    rw [to_u64, show bits .xor .u64 (U a : Int) 18446744073709551615 = ((U a ^^^ 18446744073709551615 : Nat) : Int) from bits_xor_u64_nat (U a) 18446744073709551615 (U_lt a) (by omega)] at h
    exact h
  · rw [unV_none hop, unO_none hop]; exact refun_none op a hop w
end Go.Proofs.Ytiddlnmpiaelmaa
