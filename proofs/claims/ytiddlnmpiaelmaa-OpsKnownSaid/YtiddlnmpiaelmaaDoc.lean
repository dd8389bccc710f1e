/- Binary and Unary of the document's answer come to the same as those of package ops, in every memory. -/
import Derived.Test.YtiddlnmpiaelmaaOps
namespace Go.Proofs.Ytiddlnmpiaelmaa
open Go Go.RowKit

theorem mul_word (a b : Int) : wrap64 ((U a * U b % 18446744073709551616 : Nat) : Int) = wrap64 (a * b) := by
  apply wrap_congr
  rw [Int.natCast_emod, Int.natCast_mul, U_cast, U_cast]
  show ((a % 18446744073709551616) * (b % 18446744073709551616) % 18446744073709551616) % 18446744073709551616 = _
  rw [Int.emod_emod, ← Int.mul_emod]
theorem add_word (a b : Int) : wrap64 (((U a + U b) % 18446744073709551616 : Nat) : Int) = wrap64 (a + b) := by
  apply wrap_congr
  have h1 := U_cast a
  have h2 := U_cast b
  omega
theorem sub_word (a b : Int) : wrap64 (((U a + negN (U b)) % 18446744073709551616 : Nat) : Int) = wrap64 (a - b) := by
  apply wrap_congr
  have h1 := U_cast a
  have h2 := U_cast b
  have h3 := U_lt b
  unfold negN
  omega
theorem neg_word (a : Int) : wrap64 (negN (U a) : Int) = wrap64 (-a) := by
  apply wrap_congr
  have h1 := U_cast a
  have h3 := U_lt a
  unfold negN
  omega
theorem shl_wordI (a : Int) (n : Nat) : wrap64 (IntKind.u64.wrap ((U a : Int) * 2 ^ n)) = wrap64 (a * 2 ^ n) := by
  apply wrap_congr
  rw [IntKind.wrap_u64, U_cast, Int.emod_emod, Int.mul_emod, Int.emod_emod, ← Int.mul_emod]
theorem not_word {a : Int} (h1 : -9223372036854775808 ≤ a) (h2 : a < 9223372036854775808) : wrap64 ((U a ^^^ 18446744073709551615 : Nat) : Int) = -a - 1 := by
  rw [xor_max _ (U_lt a)]
  have := U_cast a
  have h3 := U_lt a
  unfold wrap64
  omega

set_option maxRecDepth 100000 in
set_option maxHeartbeats 1000000 in
theorem ref_1 (a b : Int) (a1 : -9223372036854775808 ≤ a) (a2 : a < 9223372036854775808) (b1 : -9223372036854775808 ≤ b) (b2 : b < 9223372036854775808) (w : World) :
    Calls Try.prog 9 #[.int .i64 1, .int .i64 a, .int .i64 b] w fun e w' => e = .returned (.tuple #[.int .i64 (wrap64 (a + b)), .bool true]) ∧ w = w' := by
  have hdv := divide_any a b a1 a2 b1 b2 w
  generalize dq a b = Q at hdv
  generalize dr a b = R at hdv
  clear a1 a2 b1 b2
  have h := add_any (U a) (U b) (U_lt a) (U_lt b) w
  have e := Lib.hid (add_word a b)
  rw [← e.out, ]
  rw [← to_u64, ← to_u64] at h
  generalize (U a + U b) % 18446744073709551616 = S at h ⊢
  go_enter Try.func9, Try.ntmps9
  go_wp2_with (first | (go_at_call 27; refine hdv.mono ?_; rintro e w' ⟨rfl, rfl⟩) | (go_at_call 28; refine h.mono ?_; rintro e w' ⟨rfl, rfl⟩))
  go_ret2
  exact ⟨rfl, rfl⟩

set_option maxRecDepth 100000 in
set_option maxHeartbeats 1000000 in
theorem ref_2 (a b : Int) (a1 : -9223372036854775808 ≤ a) (a2 : a < 9223372036854775808) (b1 : -9223372036854775808 ≤ b) (b2 : b < 9223372036854775808) (w : World) :
    Calls Try.prog 9 #[.int .i64 2, .int .i64 a, .int .i64 b] w fun e w' => e = .returned (.tuple #[.int .i64 (wrap64 (a - b)), .bool true]) ∧ w = w' := by
  have hdv := divide_any a b a1 a2 b1 b2 w
  generalize dq a b = Q at hdv
  generalize dr a b = R at hdv
  clear a1 a2 b1 b2
  have hn := neg_any (U b) (U_lt b) w
  have h := add_any (U a) (negN (U b)) (U_lt a) (negN_lt _) w
  rw [← sub_word a b]
  rw [← to_u64] at hn h
  generalize negN (U b) = N at hn h ⊢
  generalize (U a + N) % 18446744073709551616 = S at h ⊢
  go_enter Try.func9, Try.ntmps9
  go_wp2_with (first | (go_at_call 27; refine hdv.mono ?_; rintro e w' ⟨rfl, rfl⟩) | (go_at_call 28; refine h.mono ?_; rintro e w' ⟨rfl, rfl⟩) | (go_at_call 29; refine hn.mono ?_; rintro e w' ⟨rfl, rfl⟩))
  go_ret2
  exact ⟨rfl, rfl⟩

set_option maxRecDepth 100000 in
set_option maxHeartbeats 1000000 in
theorem ref_3 (a b : Int) (a1 : -9223372036854775808 ≤ a) (a2 : a < 9223372036854775808) (b1 : -9223372036854775808 ≤ b) (b2 : b < 9223372036854775808) (w : World) :
    Calls Try.prog 9 #[.int .i64 3, .int .i64 a, .int .i64 b] w fun e w' => e = .returned (.tuple #[.int .i64 (wrap64 (a * b)), .bool true]) ∧ w = w' := by
  have hdv := divide_any a b a1 a2 b1 b2 w
  generalize dq a b = Q at hdv
  generalize dr a b = R at hdv
  clear a1 a2 b1 b2
  have h := mul_any (U a) (U b) (U_lt b) w
  rw [← mul_word a b]
  rw [← to_u64, ← to_u64] at h
  generalize U a * U b % 18446744073709551616 = S at h ⊢
  go_enter Try.func9, Try.ntmps9
  go_wp2_with (first | (go_at_call 27; refine hdv.mono ?_; rintro e w' ⟨rfl, rfl⟩) | (go_at_call 30; refine h.mono ?_; rintro e w' ⟨rfl, rfl⟩))
  go_ret2
  exact ⟨rfl, rfl⟩

set_option maxRecDepth 100000 in
set_option maxHeartbeats 1000000 in
theorem ref_4 (a b : Int) (a1 : -9223372036854775808 ≤ a) (a2 : a < 9223372036854775808) (b1 : -9223372036854775808 ≤ b) (b2 : b < 9223372036854775808) (w : World) :
    Calls Try.prog 9 #[.int .i64 4, .int .i64 a, .int .i64 b] w fun e w' => e = .returned (.tuple #[.int .i64 (dq a b), .bool true]) ∧ w = w' := by
  have hdv := divide_any a b a1 a2 b1 b2 w
  generalize dq a b = Q at hdv ⊢
  generalize dr a b = R at hdv
  clear a1 a2 b1 b2
  go_enter Try.func9, Try.ntmps9
  go_wp2_with (first | (go_at_call 27; refine hdv.mono ?_; rintro e w' ⟨rfl, rfl⟩))
  go_ret2
  exact ⟨rfl, rfl⟩

set_option maxRecDepth 100000 in
set_option maxHeartbeats 1000000 in
theorem ref_5 (a b : Int) (a1 : -9223372036854775808 ≤ a) (a2 : a < 9223372036854775808) (b1 : -9223372036854775808 ≤ b) (b2 : b < 9223372036854775808) (w : World) :
    Calls Try.prog 9 #[.int .i64 5, .int .i64 a, .int .i64 b] w fun e w' => e = .returned (.tuple #[.int .i64 (dr a b), .bool true]) ∧ w = w' := by
  have hdv := divide_any a b a1 a2 b1 b2 w
  generalize dq a b = Q at hdv
  generalize dr a b = R at hdv ⊢
  clear a1 a2 b1 b2
  go_enter Try.func9, Try.ntmps9
  go_wp2_with (first | (go_at_call 27; refine hdv.mono ?_; rintro e w' ⟨rfl, rfl⟩))
  go_ret2
  exact ⟨rfl, rfl⟩

set_option maxRecDepth 100000 in
set_option maxHeartbeats 1000000 in
theorem ref_6 (a b : Int) (a1 : -9223372036854775808 ≤ a) (a2 : a < 9223372036854775808) (b1 : -9223372036854775808 ≤ b) (b2 : b < 9223372036854775808) (w : World) :
    Calls Try.prog 9 #[.int .i64 6, .int .i64 a, .int .i64 b] w fun e w' => e = .returned (.tuple #[.int .i64 (wrap64 (bits .and .u64 (IntKind.u64.wrap a) (IntKind.u64.wrap b))), .bool true]) ∧ w = w' := by
  have hdv := divide_any a b a1 a2 b1 b2 w
  generalize dq a b = Q at hdv
  generalize dr a b = R at hdv
  clear a1 a2 b1 b2
  go_enter Try.func9, Try.ntmps9
  go_wp2_with (first | (go_at_call 27; refine hdv.mono ?_; rintro e w' ⟨rfl, rfl⟩))
  go_ret2
  exact ⟨rfl, rfl⟩

set_option maxRecDepth 100000 in
set_option maxHeartbeats 1000000 in
theorem ref_7 (a b : Int) (a1 : -9223372036854775808 ≤ a) (a2 : a < 9223372036854775808) (b1 : -9223372036854775808 ≤ b) (b2 : b < 9223372036854775808) (w : World) :
    Calls Try.prog 9 #[.int .i64 7, .int .i64 a, .int .i64 b] w fun e w' => e = .returned (.tuple #[.int .i64 (wrap64 (bits .or .u64 (IntKind.u64.wrap a) (IntKind.u64.wrap b))), .bool true]) ∧ w = w' := by
  have hdv := divide_any a b a1 a2 b1 b2 w
  generalize dq a b = Q at hdv
  generalize dr a b = R at hdv
  clear a1 a2 b1 b2
  go_enter Try.func9, Try.ntmps9
  go_wp2_with (first | (go_at_call 27; refine hdv.mono ?_; rintro e w' ⟨rfl, rfl⟩))
  go_ret2
  exact ⟨rfl, rfl⟩

set_option maxRecDepth 100000 in
set_option maxHeartbeats 1000000 in
theorem ref_8 (a b : Int) (a1 : -9223372036854775808 ≤ a) (a2 : a < 9223372036854775808) (b1 : -9223372036854775808 ≤ b) (b2 : b < 9223372036854775808) (w : World) :
    Calls Try.prog 9 #[.int .i64 8, .int .i64 a, .int .i64 b] w fun e w' => e = .returned (.tuple #[.int .i64 (wrap64 (bits .xor .u64 (IntKind.u64.wrap a) (IntKind.u64.wrap b))), .bool true]) ∧ w = w' := by
  have hdv := divide_any a b a1 a2 b1 b2 w
  generalize dq a b = Q at hdv
  generalize dr a b = R at hdv
  clear a1 a2 b1 b2
  go_enter Try.func9, Try.ntmps9
  go_wp2_with (first | (go_at_call 27; refine hdv.mono ?_; rintro e w' ⟨rfl, rfl⟩))
  go_ret2
  exact ⟨rfl, rfl⟩

set_option maxRecDepth 100000 in
set_option maxHeartbeats 1000000 in
theorem ref_9 (a b : Int) (a1 : -9223372036854775808 ≤ a) (a2 : a < 9223372036854775808) (b1 : -9223372036854775808 ≤ b) (b2 : b < 9223372036854775808) (w : World) :
    Calls Try.prog 9 #[.int .i64 9, .int .i64 a, .int .i64 b] w fun e w' => e = .returned (.tuple #[.int .i64 (wrap64 (IntKind.u64.wrap (IntKind.u64.wrap a * 2 ^ (U b % 64)))), .bool true]) ∧ w = w' := by
  have hdv := divide_any a b a1 a2 b1 b2 w
  generalize dq a b = Q at hdv
  generalize dr a b = R at hdv
  clear a1 a2 b1 b2
  have hm : (IntKind.u64.wrap b).tmod 64 = ((U b % 64 : Nat) : Int) := by rw [to_u64]; rfl
  obtain ⟨n, hn⟩ : ∃ n, U b % 64 = n := ⟨_, rfl⟩
  have hn64 : n < 64 := by omega
  rw [hn] at hm ⊢
  clear hn
  go_enter Try.func9, Try.ntmps9
  go_wp2_with (first | (go_at_call 27; refine hdv.mono ?_; rintro e w' ⟨rfl, rfl⟩))
  go_ret2
  exact ⟨rfl, rfl⟩

set_option maxRecDepth 100000 in
set_option maxHeartbeats 1000000 in
theorem ref_10 (a b : Int) (a1 : -9223372036854775808 ≤ a) (a2 : a < 9223372036854775808) (b1 : -9223372036854775808 ≤ b) (b2 : b < 9223372036854775808) (w : World) :
    Calls Try.prog 9 #[.int .i64 10, .int .i64 a, .int .i64 b] w fun e w' => e = .returned (.tuple #[.int .i64 (wrap64 (IntKind.u64.wrap a / 2 ^ (U b % 64))), .bool true]) ∧ w = w' := by
  have hdv := divide_any a b a1 a2 b1 b2 w
  generalize dq a b = Q at hdv
  generalize dr a b = R at hdv
  clear a1 a2 b1 b2
  have hm : (IntKind.u64.wrap b).tmod 64 = ((U b % 64 : Nat) : Int) := by rw [to_u64]; rfl
  obtain ⟨n, hn⟩ : ∃ n, U b % 64 = n := ⟨_, rfl⟩
  have hn64 : n < 64 := by omega
  rw [hn] at hm ⊢
  clear hn
  go_enter Try.func9, Try.ntmps9
  go_wp2_with (first | (go_at_call 27; refine hdv.mono ?_; rintro e w' ⟨rfl, rfl⟩))
  go_ret2
  exact ⟨rfl, rfl⟩

set_option maxRecDepth 100000 in
set_option maxHeartbeats 1000000 in
theorem ref_11_1 (a b : Int) (a1 : -9223372036854775808 ≤ a) (a2 : a < 9223372036854775808) (b1 : -9223372036854775808 ≤ b) (b2 : b < 9223372036854775808) (hb : a = b) (w : World) :
    Calls Try.prog 9 #[.int .i64 11, .int .i64 a, .int .i64 b] w fun e w' => e = .returned (.tuple #[.int .i64 (1), .bool true]) ∧ w = w' := by
  have hdv := divide_any a b a1 a2 b1 b2 w
  generalize dq a b = Q at hdv
  generalize dr a b = R at hdv
  clear a1 a2 b1 b2
  subst hb
  go_enter Try.func9, Try.ntmps9
  go_wp2_with (first | (go_at_call 27; refine hdv.mono ?_; rintro e w' ⟨rfl, rfl⟩) | (go_at_call 31; refine (truthr_any _ _).mono ?_; rintro e w' ⟨rfl, rfl⟩))
  go_ret2
  exact ⟨rfl, rfl⟩

set_option maxRecDepth 100000 in
set_option maxHeartbeats 1000000 in
theorem ref_11_0 (a b : Int) (a1 : -9223372036854775808 ≤ a) (a2 : a < 9223372036854775808) (b1 : -9223372036854775808 ≤ b) (b2 : b < 9223372036854775808) (hb : ¬ a = b) (w : World) :
    Calls Try.prog 9 #[.int .i64 11, .int .i64 a, .int .i64 b] w fun e w' => e = .returned (.tuple #[.int .i64 (0), .bool true]) ∧ w = w' := by
  have hdv := divide_any a b a1 a2 b1 b2 w
  generalize dq a b = Q at hdv
  generalize dr a b = R at hdv
  clear a1 a2 b1 b2
  have h1 : (a == b) = false := by simp [hb]
  go_enter Try.func9, Try.ntmps9
  go_wp2_with (first | (go_at_call 27; refine hdv.mono ?_; rintro e w' ⟨rfl, rfl⟩) | (go_at_call 31; refine (truthr_any _ _).mono ?_; rintro e w' ⟨rfl, rfl⟩))
  go_ret2
  exact ⟨rfl, rfl⟩

set_option maxRecDepth 100000 in
set_option maxHeartbeats 1000000 in
theorem ref_12_1 (a b : Int) (a1 : -9223372036854775808 ≤ a) (a2 : a < 9223372036854775808) (b1 : -9223372036854775808 ≤ b) (b2 : b < 9223372036854775808) (hb : a = b) (w : World) :
    Calls Try.prog 9 #[.int .i64 12, .int .i64 a, .int .i64 b] w fun e w' => e = .returned (.tuple #[.int .i64 (0), .bool true]) ∧ w = w' := by
  have hdv := divide_any a b a1 a2 b1 b2 w
  generalize dq a b = Q at hdv
  generalize dr a b = R at hdv
  clear a1 a2 b1 b2
  subst hb
  go_enter Try.func9, Try.ntmps9
  go_wp2_with (first | (go_at_call 27; refine hdv.mono ?_; rintro e w' ⟨rfl, rfl⟩) | (go_at_call 31; refine (truthr_any _ _).mono ?_; rintro e w' ⟨rfl, rfl⟩))
  go_ret2
  exact ⟨rfl, rfl⟩

set_option maxRecDepth 100000 in
set_option maxHeartbeats 1000000 in
theorem ref_12_0 (a b : Int) (a1 : -9223372036854775808 ≤ a) (a2 : a < 9223372036854775808) (b1 : -9223372036854775808 ≤ b) (b2 : b < 9223372036854775808) (hb : ¬ a = b) (w : World) :
    Calls Try.prog 9 #[.int .i64 12, .int .i64 a, .int .i64 b] w fun e w' => e = .returned (.tuple #[.int .i64 (1), .bool true]) ∧ w = w' := by
  have hdv := divide_any a b a1 a2 b1 b2 w
  generalize dq a b = Q at hdv
  generalize dr a b = R at hdv
  clear a1 a2 b1 b2
  have h1 : (a == b) = false := by simp [hb]
  have h2 : (a != b) = true := by simp [hb]
  go_enter Try.func9, Try.ntmps9
  go_wp2_with (first | (go_at_call 27; refine hdv.mono ?_; rintro e w' ⟨rfl, rfl⟩) | (go_at_call 31; refine (truthr_any _ _).mono ?_; rintro e w' ⟨rfl, rfl⟩))
  go_ret2
  exact ⟨rfl, rfl⟩

set_option maxRecDepth 100000 in
set_option maxHeartbeats 1000000 in
theorem ref_13_1 (a b : Int) (a1 : -9223372036854775808 ≤ a) (a2 : a < 9223372036854775808) (b1 : -9223372036854775808 ≤ b) (b2 : b < 9223372036854775808) (hb : a < b) (w : World) :
    Calls Try.prog 9 #[.int .i64 13, .int .i64 a, .int .i64 b] w fun e w' => e = .returned (.tuple #[.int .i64 (1), .bool true]) ∧ w = w' := by
  have hdv := divide_any a b a1 a2 b1 b2 w
  generalize dq a b = Q at hdv
  generalize dr a b = R at hdv
  clear a1 a2 b1 b2
  have h1 : decide (a < b) = true := by simp [hb]
  go_enter Try.func9, Try.ntmps9
  go_wp2_with (first | (go_at_call 27; refine hdv.mono ?_; rintro e w' ⟨rfl, rfl⟩) | (go_at_call 31; refine (truthr_any _ _).mono ?_; rintro e w' ⟨rfl, rfl⟩))
  go_ret2
  exact ⟨rfl, rfl⟩

set_option maxRecDepth 100000 in
set_option maxHeartbeats 1000000 in
theorem ref_13_0 (a b : Int) (a1 : -9223372036854775808 ≤ a) (a2 : a < 9223372036854775808) (b1 : -9223372036854775808 ≤ b) (b2 : b < 9223372036854775808) (hb : ¬ a < b) (w : World) :
    Calls Try.prog 9 #[.int .i64 13, .int .i64 a, .int .i64 b] w fun e w' => e = .returned (.tuple #[.int .i64 (0), .bool true]) ∧ w = w' := by
  have hdv := divide_any a b a1 a2 b1 b2 w
  generalize dq a b = Q at hdv
  generalize dr a b = R at hdv
  clear a1 a2 b1 b2
  have h1 : decide (a < b) = false := by simp; omega
  go_enter Try.func9, Try.ntmps9
  go_wp2_with (first | (go_at_call 27; refine hdv.mono ?_; rintro e w' ⟨rfl, rfl⟩) | (go_at_call 31; refine (truthr_any _ _).mono ?_; rintro e w' ⟨rfl, rfl⟩))
  go_ret2
  exact ⟨rfl, rfl⟩

set_option maxRecDepth 100000 in
set_option maxHeartbeats 1000000 in
theorem ref_14_1 (a b : Int) (a1 : -9223372036854775808 ≤ a) (a2 : a < 9223372036854775808) (b1 : -9223372036854775808 ≤ b) (b2 : b < 9223372036854775808) (hb : a ≤ b) (w : World) :
    Calls Try.prog 9 #[.int .i64 14, .int .i64 a, .int .i64 b] w fun e w' => e = .returned (.tuple #[.int .i64 (1), .bool true]) ∧ w = w' := by
  have hdv := divide_any a b a1 a2 b1 b2 w
  generalize dq a b = Q at hdv
  generalize dr a b = R at hdv
  clear a1 a2 b1 b2
  have h1 : decide (a ≤ b) = true := by simp [hb]
  go_enter Try.func9, Try.ntmps9
  go_wp2_with (first | (go_at_call 27; refine hdv.mono ?_; rintro e w' ⟨rfl, rfl⟩) | (go_at_call 31; refine (truthr_any _ _).mono ?_; rintro e w' ⟨rfl, rfl⟩))
  go_ret2
  exact ⟨rfl, rfl⟩

set_option maxRecDepth 100000 in
set_option maxHeartbeats 1000000 in
theorem ref_14_0 (a b : Int) (a1 : -9223372036854775808 ≤ a) (a2 : a < 9223372036854775808) (b1 : -9223372036854775808 ≤ b) (b2 : b < 9223372036854775808) (hb : ¬ a ≤ b) (w : World) :
    Calls Try.prog 9 #[.int .i64 14, .int .i64 a, .int .i64 b] w fun e w' => e = .returned (.tuple #[.int .i64 (0), .bool true]) ∧ w = w' := by
  have hdv := divide_any a b a1 a2 b1 b2 w
  generalize dq a b = Q at hdv
  generalize dr a b = R at hdv
  clear a1 a2 b1 b2
  have h1 : decide (a ≤ b) = false := by simp; omega
  go_enter Try.func9, Try.ntmps9
  go_wp2_with (first | (go_at_call 27; refine hdv.mono ?_; rintro e w' ⟨rfl, rfl⟩) | (go_at_call 31; refine (truthr_any _ _).mono ?_; rintro e w' ⟨rfl, rfl⟩))
  go_ret2
  exact ⟨rfl, rfl⟩

set_option maxRecDepth 100000 in
set_option maxHeartbeats 1000000 in
theorem ref_none (op a b : Int) (a1 : -9223372036854775808 ≤ a) (a2 : a < 9223372036854775808) (b1 : -9223372036854775808 ≤ b) (b2 : b < 9223372036854775808) (hop : op < 1 ∨ 14 < op) (w : World) :
    Calls Try.prog 9 #[.int .i64 op, .int .i64 a, .int .i64 b] w fun e w' => e = .returned (.tuple #[.int .i64 0, .bool false]) ∧ w = w' := by
  have hdv := divide_any a b a1 a2 b1 b2 w
  generalize dq a b = Q at hdv
  generalize dr a b = R at hdv
  clear a1 a2 b1 b2
  have c1 : (op == 1) = false := by simp; omega
  have c2 : (op == 2) = false := by simp; omega
  have c3 : (op == 3) = false := by simp; omega
  have c4 : (op == 4) = false := by simp; omega
  have c5 : (op == 5) = false := by simp; omega
  have c6 : (op == 6) = false := by simp; omega
  have c7 : (op == 7) = false := by simp; omega
  have c8 : (op == 8) = false := by simp; omega
  have c9 : (op == 9) = false := by simp; omega
  have c10 : (op == 10) = false := by simp; omega
  have c11 : (op == 11) = false := by simp; omega
  have c12 : (op == 12) = false := by simp; omega
  have c13 : (op == 13) = false := by simp; omega
  have c14 : (op == 14) = false := by simp; omega
  go_enter Try.func9, Try.ntmps9
  go_wp2_with (go_at_call 27; refine hdv.mono ?_; rintro e w' ⟨rfl, rfl⟩)
  go_ret2
  exact ⟨rfl, rfl⟩
end Go.Proofs.Ytiddlnmpiaelmaa
