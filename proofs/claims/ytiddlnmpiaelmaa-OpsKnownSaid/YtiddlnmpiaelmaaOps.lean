/- Binary and Unary of package ops and of the document's answer come to the same, in every memory. -/
import Derived.Test.YtiddlnmpiaelmaaBin
import Derived.Deep.DeepCutAuto
namespace Go.Proofs.Ytiddlnmpiaelmaa
open Go Go.RowKit

/-- A way out of several blocks. -/
theorem exit_then {K : Act → World → Prop} {Q : Exit → Act → World → Prop} {n : Nat} {a : Act} {w : World} (h : Q (.exit n) a w) : Exit.then K Q (.exit n) a w := h
theorem exit_ne {Q : Exit → Act → World → Prop} {m n : Nat} {a : Act} {w : World} (hn : ¬ n = m) (h : Q (.exit n) a w) : Exit.inBlock m Q (.exit n) a w := by
  show (if n = m then Q .normal a w else Q (.exit n) a w)
  rw [if_neg hn]; exact h
theorem exit_eq {Q : Exit → Act → World → Prop} {n : Nat} {a : Act} {w : World} (h : Q .normal a w) : Exit.inBlock n Q (.exit n) a w := by
  show (if n = n then Q .normal a w else Q (.exit n) a w)
  rw [if_pos rfl]; exact h

set_option maxRecDepth 100000 in
theorem truth_any (b : Bool) (w : World) : Calls Try.prog 26 #[.bool b] w fun e w' => e = .returned (.int .i64 (if b then 1 else 0)) ∧ w = w' := by
  cases b
  all_goals
    go_enter Try.func26, Try.ntmps26
    go_wp2
    go_ret
    exact ⟨rfl, rfl⟩

set_option maxRecDepth 100000 in
theorem truthr_any (b : Bool) (w : World) : Calls Try.prog 31 #[.bool b] w fun e w' => e = .returned (.int .i64 (if b then 1 else 0)) ∧ w = w' := by
  cases b
  all_goals
    go_enter Try.func31, Try.ntmps31
    go_wp2
    go_ret
    exact ⟨rfl, rfl⟩

set_option maxRecDepth 100000 in
theorem places_any (b : Int) (w : World) : Calls Try.prog 25 #[.int .i64 b] w fun e w' => e = .returned (.int .u64 ((U b % 64 : Nat) : Int)) ∧ w = w' := by
  have h := mask_places b
  rw [← to_u64] at h
  have H := Lib.hid h
  clear h
  rw [← H.out]
  go_enter Try.func25, Try.ntmps25
  go_wp2
  go_ret
  exact ⟨rfl, rfl⟩

theorem beq_dec (a b : Int) : (a == b) = decide (a = b) := by rw [Bool.eq_iff_iff, beq_iff_eq, decide_eq_true_eq]

set_option maxRecDepth 100000 in
theorem bin_1 (a b : Int) (w : World) :
    Calls Try.prog 8 #[.int .i64 1, .int .i64 a, .int .i64 b] w fun e w' => e = .returned (.tuple #[.int .i64 (wrap64 (a + b)), .bool true]) ∧ w = w' := by
  go_enter Try.func8, Try.ntmps8
  go_upto_region 2 with (fail)
  iterate 10 go_step
  refine wp_cond_split rfl (fun h => ?_) (fun h => absurd h (by decide))
  apply wp_exit
  repeat (first | refine exit_then ?_ | refine exit_ne (by decide) ?_)
  refine exit_eq ?_
  go_wp2
  go_ret2
  exact ⟨rfl, rfl⟩

set_option maxRecDepth 100000 in
theorem bin_2 (a b : Int) (w : World) :
    Calls Try.prog 8 #[.int .i64 2, .int .i64 a, .int .i64 b] w fun e w' => e = .returned (.tuple #[.int .i64 (wrap64 (a - b)), .bool true]) ∧ w = w' := by
  go_enter Try.func8, Try.ntmps8
  go_upto_region 3 with (fail)
  iterate 10 go_step
  refine wp_cond_split rfl (fun h => ?_) (fun h => absurd h (by decide))
  apply wp_exit
  repeat (first | refine exit_then ?_ | refine exit_ne (by decide) ?_)
  refine exit_eq ?_
  go_wp2
  go_ret2
  exact ⟨rfl, rfl⟩

set_option maxRecDepth 100000 in
theorem bin_3 (a b : Int) (w : World) :
    Calls Try.prog 8 #[.int .i64 3, .int .i64 a, .int .i64 b] w fun e w' => e = .returned (.tuple #[.int .i64 (wrap64 (a * b)), .bool true]) ∧ w = w' := by
  go_enter Try.func8, Try.ntmps8
  go_upto_region 4 with (fail)
  iterate 10 go_step
  refine wp_cond_split rfl (fun h => ?_) (fun h => absurd h (by decide))
  apply wp_exit
  repeat (first | refine exit_then ?_ | refine exit_ne (by decide) ?_)
  refine exit_eq ?_
  go_wp2
  go_ret2
  exact ⟨rfl, rfl⟩

set_option maxRecDepth 100000 in
theorem bin_4_0 (a b : Int) (hb : b = 0) (w : World) :
    Calls Try.prog 8 #[.int .i64 4, .int .i64 a, .int .i64 b] w fun e w' => e = .returned (.tuple #[.int .i64 (0), .bool true]) ∧ w = w' := by
  subst hb
  go_enter Try.func8, Try.ntmps8
  go_upto_region 5 with (fail)
  iterate 10 go_step
  refine wp_cond_split rfl (fun h => ?_) (fun h => absurd h (by decide))
  apply wp_exit
  repeat (first | refine exit_then ?_ | refine exit_ne (by decide) ?_)
  refine exit_eq ?_
  go_wp2
  go_ret2
  exact ⟨rfl, rfl⟩

set_option maxRecDepth 100000 in
theorem bin_4_1 (a b : Int) (hb : ¬ b = 0) (w : World) :
    Calls Try.prog 8 #[.int .i64 4, .int .i64 a, .int .i64 b] w fun e w' => e = .returned (.tuple #[.int .i64 (wrap64 (a.tdiv b)), .bool true]) ∧ w = w' := by
  go_enter Try.func8, Try.ntmps8
  go_upto_region 5 with (fail)
  iterate 10 go_step
  refine wp_cond_split rfl (fun h => ?_) (fun h => absurd h (by decide))
  apply wp_exit
  repeat (first | refine exit_then ?_ | refine exit_ne (by decide) ?_)
  refine exit_eq ?_
  go_wp2
  go_ret2
  exact ⟨rfl, rfl⟩

set_option maxRecDepth 100000 in
theorem bin_5_0 (a b : Int) (hb : b = 0) (w : World) :
    Calls Try.prog 8 #[.int .i64 5, .int .i64 a, .int .i64 b] w fun e w' => e = .returned (.tuple #[.int .i64 (0), .bool true]) ∧ w = w' := by
  subst hb
  go_enter Try.func8, Try.ntmps8
  go_upto_region 6 with (fail)
  iterate 10 go_step
  refine wp_cond_split rfl (fun h => ?_) (fun h => absurd h (by decide))
  apply wp_exit
  repeat (first | refine exit_then ?_ | refine exit_ne (by decide) ?_)
  refine exit_eq ?_
  go_wp2
  go_ret2
  exact ⟨rfl, rfl⟩

set_option maxRecDepth 100000 in
theorem bin_5_1 (a b : Int) (hb : ¬ b = 0) (w : World) :
    Calls Try.prog 8 #[.int .i64 5, .int .i64 a, .int .i64 b] w fun e w' => e = .returned (.tuple #[.int .i64 (a.tmod b), .bool true]) ∧ w = w' := by
  go_enter Try.func8, Try.ntmps8
  go_upto_region 6 with (fail)
  iterate 10 go_step
  refine wp_cond_split rfl (fun h => ?_) (fun h => absurd h (by decide))
  apply wp_exit
  repeat (first | refine exit_then ?_ | refine exit_ne (by decide) ?_)
  refine exit_eq ?_
  go_wp2
  go_ret2
  exact ⟨rfl, rfl⟩

set_option maxRecDepth 100000 in
theorem bin_6 (a b : Int) (w : World) :
    Calls Try.prog 8 #[.int .i64 6, .int .i64 a, .int .i64 b] w fun e w' => e = .returned (.tuple #[.int .i64 (bits .and .i64 a b), .bool true]) ∧ w = w' := by
  go_enter Try.func8, Try.ntmps8
  go_upto_region 7 with (fail)
  iterate 10 go_step
  refine wp_cond_split rfl (fun h => ?_) (fun h => absurd h (by decide))
  apply wp_exit
  repeat (first | refine exit_then ?_ | refine exit_ne (by decide) ?_)
  refine exit_eq ?_
  go_wp2
  go_ret2
  exact ⟨rfl, rfl⟩

set_option maxRecDepth 100000 in
theorem bin_7 (a b : Int) (w : World) :
    Calls Try.prog 8 #[.int .i64 7, .int .i64 a, .int .i64 b] w fun e w' => e = .returned (.tuple #[.int .i64 (bits .or .i64 a b), .bool true]) ∧ w = w' := by
  go_enter Try.func8, Try.ntmps8
  go_upto_region 8 with (fail)
  iterate 10 go_step
  refine wp_cond_split rfl (fun h => ?_) (fun h => absurd h (by decide))
  apply wp_exit
  repeat (first | refine exit_then ?_ | refine exit_ne (by decide) ?_)
  refine exit_eq ?_
  go_wp2
  go_ret2
  exact ⟨rfl, rfl⟩

set_option maxRecDepth 100000 in
theorem bin_8 (a b : Int) (w : World) :
    Calls Try.prog 8 #[.int .i64 8, .int .i64 a, .int .i64 b] w fun e w' => e = .returned (.tuple #[.int .i64 (bits .xor .i64 a b), .bool true]) ∧ w = w' := by
  go_enter Try.func8, Try.ntmps8
  go_upto_region 9 with (fail)
  iterate 10 go_step
  refine wp_cond_split rfl (fun h => ?_) (fun h => absurd h (by decide))
  apply wp_exit
  repeat (first | refine exit_then ?_ | refine exit_ne (by decide) ?_)
  refine exit_eq ?_
  go_wp2
  go_ret2
  exact ⟨rfl, rfl⟩

set_option maxRecDepth 100000 in
theorem bin_9 (a b : Int) (w : World) :
    Calls Try.prog 8 #[.int .i64 9, .int .i64 a, .int .i64 b] w fun e w' => e = .returned (.tuple #[.int .i64 (wrap64 (a * 2 ^ (U b % 64))), .bool true]) ∧ w = w' := by
  have hp := places_any b w
  obtain ⟨n, hn⟩ : ∃ n, U b % 64 = n := ⟨_, rfl⟩
  have hn64 : n < 64 := by omega
  rw [hn] at hp ⊢
  clear hn
  go_enter Try.func8, Try.ntmps8
  go_upto_region 10 with (fail)
  iterate 10 go_step
  refine wp_cond_split rfl (fun h => ?_) (fun h => absurd h (by decide))
  apply wp_exit
  repeat (first | refine exit_then ?_ | refine exit_ne (by decide) ?_)
  refine exit_eq ?_
  go_wp2_with (go_at_call 25; refine hp.mono ?_; rintro e w' ⟨rfl, rfl⟩)
  go_ret2
  exact ⟨rfl, rfl⟩

set_option maxRecDepth 100000 in
theorem bin_10 (a b : Int) (w : World) :
    Calls Try.prog 8 #[.int .i64 10, .int .i64 a, .int .i64 b] w fun e w' => e = .returned (.tuple #[.int .i64 (wrap64 (IntKind.u64.wrap a / 2 ^ (U b % 64))), .bool true]) ∧ w = w' := by
  have hp := places_any b w
  obtain ⟨n, hn⟩ : ∃ n, U b % 64 = n := ⟨_, rfl⟩
  have hn64 : n < 64 := by omega
  rw [hn] at hp ⊢
  clear hn
  go_enter Try.func8, Try.ntmps8
  go_upto_region 11 with (fail)
  iterate 10 go_step
  refine wp_cond_split rfl (fun h => ?_) (fun h => absurd h (by decide))
  apply wp_exit
  repeat (first | refine exit_then ?_ | refine exit_ne (by decide) ?_)
  refine exit_eq ?_
  go_wp2_with (go_at_call 25; refine hp.mono ?_; rintro e w' ⟨rfl, rfl⟩)
  go_ret2
  exact ⟨rfl, rfl⟩

set_option maxRecDepth 100000 in
theorem bin_11_1 (a b : Int) (hb : a = b) (w : World) :
    Calls Try.prog 8 #[.int .i64 11, .int .i64 a, .int .i64 b] w fun e w' => e = .returned (.tuple #[.int .i64 (1), .bool true]) ∧ w = w' := by
  subst hb
  go_enter Try.func8, Try.ntmps8
  go_upto_region 12 with (fail)
  iterate 10 go_step
  refine wp_cond_split rfl (fun h => ?_) (fun h => absurd h (by decide))
  apply wp_exit
  repeat (first | refine exit_then ?_ | refine exit_ne (by decide) ?_)
  refine exit_eq ?_
  go_wp2_with (go_at_call 26; refine (truth_any _ _).mono ?_; rintro e w' ⟨rfl, rfl⟩)
  go_ret2
  exact ⟨rfl, rfl⟩

set_option maxRecDepth 100000 in
theorem bin_11_0 (a b : Int) (hb : ¬ a = b) (w : World) :
    Calls Try.prog 8 #[.int .i64 11, .int .i64 a, .int .i64 b] w fun e w' => e = .returned (.tuple #[.int .i64 (0), .bool true]) ∧ w = w' := by
  have h1 : (a == b) = false := by simp [hb]
  go_enter Try.func8, Try.ntmps8
  go_upto_region 12 with (fail)
  iterate 10 go_step
  refine wp_cond_split rfl (fun h => ?_) (fun h => absurd h (by decide))
  apply wp_exit
  repeat (first | refine exit_then ?_ | refine exit_ne (by decide) ?_)
  refine exit_eq ?_
  go_wp2_with (go_at_call 26; refine (truth_any _ _).mono ?_; rintro e w' ⟨rfl, rfl⟩)
  go_ret2
  exact ⟨rfl, rfl⟩

set_option maxRecDepth 100000 in
theorem bin_12_1 (a b : Int) (hb : a = b) (w : World) :
    Calls Try.prog 8 #[.int .i64 12, .int .i64 a, .int .i64 b] w fun e w' => e = .returned (.tuple #[.int .i64 (0), .bool true]) ∧ w = w' := by
  subst hb
  go_enter Try.func8, Try.ntmps8
  go_upto_region 13 with (fail)
  iterate 10 go_step
  refine wp_cond_split rfl (fun h => ?_) (fun h => absurd h (by decide))
  apply wp_exit
  repeat (first | refine exit_then ?_ | refine exit_ne (by decide) ?_)
  refine exit_eq ?_
  go_wp2_with (go_at_call 26; refine (truth_any _ _).mono ?_; rintro e w' ⟨rfl, rfl⟩)
  go_ret2
  exact ⟨rfl, rfl⟩

set_option maxRecDepth 100000 in
theorem bin_12_0 (a b : Int) (hb : ¬ a = b) (w : World) :
    Calls Try.prog 8 #[.int .i64 12, .int .i64 a, .int .i64 b] w fun e w' => e = .returned (.tuple #[.int .i64 (1), .bool true]) ∧ w = w' := by
  have h1 : (a == b) = false := by simp [hb]
  have h2 : (a != b) = true := by simp [hb]
  go_enter Try.func8, Try.ntmps8
  go_upto_region 13 with (fail)
  iterate 10 go_step
  refine wp_cond_split rfl (fun h => ?_) (fun h => absurd h (by decide))
  apply wp_exit
  repeat (first | refine exit_then ?_ | refine exit_ne (by decide) ?_)
  refine exit_eq ?_
  go_wp2_with (go_at_call 26; refine (truth_any _ _).mono ?_; rintro e w' ⟨rfl, rfl⟩)
  go_ret2
  exact ⟨rfl, rfl⟩

set_option maxRecDepth 100000 in
theorem bin_13_1 (a b : Int) (hb : a < b) (w : World) :
    Calls Try.prog 8 #[.int .i64 13, .int .i64 a, .int .i64 b] w fun e w' => e = .returned (.tuple #[.int .i64 (1), .bool true]) ∧ w = w' := by
  have h1 : decide (a < b) = true := by simp [hb]
  go_enter Try.func8, Try.ntmps8
  go_upto_region 15 with (fail)
  iterate 10 go_step
  refine wp_cond_split rfl (fun h => ?_) (fun h => absurd h (by decide))
  apply wp_exit
  repeat (first | refine exit_then ?_ | refine exit_ne (by decide) ?_)
  refine exit_eq ?_
  go_wp2_with (go_at_call 26; refine (truth_any _ _).mono ?_; rintro e w' ⟨rfl, rfl⟩)
  go_ret2
  exact ⟨rfl, rfl⟩

set_option maxRecDepth 100000 in
theorem bin_13_0 (a b : Int) (hb : ¬ a < b) (w : World) :
    Calls Try.prog 8 #[.int .i64 13, .int .i64 a, .int .i64 b] w fun e w' => e = .returned (.tuple #[.int .i64 (0), .bool true]) ∧ w = w' := by
  have h1 : decide (a < b) = false := by simp; omega
  go_enter Try.func8, Try.ntmps8
  go_upto_region 15 with (fail)
  iterate 10 go_step
  refine wp_cond_split rfl (fun h => ?_) (fun h => absurd h (by decide))
  apply wp_exit
  repeat (first | refine exit_then ?_ | refine exit_ne (by decide) ?_)
  refine exit_eq ?_
  go_wp2_with (go_at_call 26; refine (truth_any _ _).mono ?_; rintro e w' ⟨rfl, rfl⟩)
  go_ret2
  exact ⟨rfl, rfl⟩

set_option maxRecDepth 100000 in
theorem bin_14_2 (a b : Int) (hb : a = b) (w : World) :
    Calls Try.prog 8 #[.int .i64 14, .int .i64 a, .int .i64 b] w fun e w' => e = .returned (.tuple #[.int .i64 (1), .bool true]) ∧ w = w' := by
  subst hb
  go_enter Try.func8, Try.ntmps8
  go_upto_region 14 with (fail)
  iterate 10 go_step
  refine wp_cond_split rfl (fun h => ?_) (fun h => absurd h (by decide))
  apply wp_exit
  repeat (first | refine exit_then ?_ | refine exit_ne (by decide) ?_)
  refine exit_eq ?_
  go_wp2_with (go_at_call 26; refine (truth_any _ _).mono ?_; rintro e w' ⟨rfl, rfl⟩)
  go_ret2
  exact ⟨rfl, rfl⟩

set_option maxRecDepth 100000 in
theorem bin_14_1 (a b : Int) (hb : a < b) (w : World) :
    Calls Try.prog 8 #[.int .i64 14, .int .i64 a, .int .i64 b] w fun e w' => e = .returned (.tuple #[.int .i64 (1), .bool true]) ∧ w = w' := by
  have h0 : (a == b) = false := by simp; omega
  have h1 : decide (a < b) = true := by simp [hb]
  go_enter Try.func8, Try.ntmps8
  go_upto_region 14 with (fail)
  iterate 10 go_step
  refine wp_cond_split rfl (fun h => ?_) (fun h => absurd h (by decide))
  apply wp_exit
  repeat (first | refine exit_then ?_ | refine exit_ne (by decide) ?_)
  refine exit_eq ?_
  go_wp2_with (go_at_call 26; refine (truth_any _ _).mono ?_; rintro e w' ⟨rfl, rfl⟩)
  go_ret2
  exact ⟨rfl, rfl⟩

set_option maxRecDepth 100000 in
theorem bin_14_0 (a b : Int) (hb : b < a) (w : World) :
    Calls Try.prog 8 #[.int .i64 14, .int .i64 a, .int .i64 b] w fun e w' => e = .returned (.tuple #[.int .i64 (0), .bool true]) ∧ w = w' := by
  have h0 : (a == b) = false := by simp; omega
  have h1 : decide (a < b) = false := by simp; omega
  go_enter Try.func8, Try.ntmps8
  go_upto_region 14 with (fail)
  iterate 10 go_step
  refine wp_cond_split rfl (fun h => ?_) (fun h => absurd h (by decide))
  apply wp_exit
  repeat (first | refine exit_then ?_ | refine exit_ne (by decide) ?_)
  refine exit_eq ?_
  go_wp2_with (go_at_call 26; refine (truth_any _ _).mono ?_; rintro e w' ⟨rfl, rfl⟩)
  go_ret2
  exact ⟨rfl, rfl⟩

set_option maxRecDepth 100000 in
theorem bin_none (op a b : Int) (hop : op < 1 ∨ 14 < op) (w : World) :
    Calls Try.prog 8 #[.int .i64 op, .int .i64 a, .int .i64 b] w fun e w' => e = .returned (.tuple #[.int .i64 0, .bool false]) ∧ w = w' := by
  have c1 : (op == 1) = false := by simp; omega
  have c2 : (op == 2) = false := by simp; omega
  have c3 : (op == 3) = false := by simp; omega
  have c4 : (op == 4) = false := by simp; omega
  have c5 : (op == 5) = false := by simp; omega
  have c6 : (op == 6) = false := by simp; omega
  have c7 : (op == 7) = false := by simp; omega
  have c8 : (op == 8) = false := by simp; omega
  have c9 : (op == 9) = false := by simp; omega
  have c10 : (op == 10) = false := by simp; omega
  have c11 : (op == 11) = false := by simp; omega
  have c12 : (op == 12) = false := by simp; omega
  have c13 : (op == 13) = false := by simp; omega
  have c14 : (op == 14) = false := by simp; omega
  go_enter Try.func8, Try.ntmps8
  go_upto_region 15 with (fail)
  iterate 10 go_step
  refine wp_cond_split rfl (fun h => absurd h (by decide)) (fun h => ?_)
  go_step
  go_step
  go_step
  apply wp_exit
  repeat (first | refine exit_then ?_ | refine exit_ne (by decide) ?_)
  refine exit_eq ?_
  go_wp2
  go_ret2
  exact ⟨rfl, rfl⟩

/-- **Binary of package ops.** -/
theorem binary_ops (op a b : Int) (w : World) :
    Calls Try.prog 8 #[.int .i64 op, .int .i64 a, .int .i64 b] w fun e w' => e = .returned (.tuple #[.int .i64 (binV op a b), .bool (binO op)]) ∧ w = w' := by
  rcases op_cases op with rfl | rfl | rfl | rfl | rfl | rfl | rfl | rfl | rfl | rfl | rfl | rfl | rfl | rfl | hop
  · rw [binV_1, binO_1]
    exact bin_1 a b w
  · rw [binV_2, binO_2]
    exact bin_2 a b w
  · rw [binV_3, binO_3]
    exact bin_3 a b w
  · rw [binV_4, binO_4]
    by_cases hb : b = 0
    · rw [if_pos hb]; exact bin_4_0 a b hb w
    · rw [if_neg hb]; exact bin_4_1 a b hb w
  · rw [binV_5, binO_5]
    by_cases hb : b = 0
    · rw [if_pos hb]; exact bin_5_0 a b hb w
    · rw [if_neg hb]; exact bin_5_1 a b hb w
  · rw [binV_6, binO_6]
    rw [← and_i64 a b]
    exact bin_6 a b w
  · rw [binV_7, binO_7]
    rw [← or_i64 a b]
    exact bin_7 a b w
  · rw [binV_8, binO_8]
    rw [← xor_i64 a b]
    exact bin_8 a b w
  · rw [binV_9, binO_9]
    exact bin_9 a b w
  · rw [binV_10, binO_10]
    have h := bin_10 a b w
    rw [to_u64, show ((U a : Int) / 2 ^ (U b % 64)) = ((U a / 2 ^ (U b % 64) : Nat) : Int) from by push_cast; rfl] at h
    exact h
  · rw [binV_11, binO_11]
    by_cases hb : a = b
    · rw [if_pos hb]; exact bin_11_1 a b hb w
    · rw [if_neg hb]; exact bin_11_0 a b hb w
  · rw [binV_12, binO_12]
    by_cases hb : a = b
    · rw [if_pos hb]; exact bin_12_1 a b hb w
    · rw [if_neg hb]; exact bin_12_0 a b hb w
  · rw [binV_13, binO_13]
    by_cases hb : a < b
    · rw [if_pos hb]; exact bin_13_1 a b hb w
    · rw [if_neg hb]; exact bin_13_0 a b hb w
  · rw [binV_14, binO_14]
    by_cases hb : a = b
    · rw [if_pos (by omega)]; exact bin_14_2 a b hb w
    · by_cases hl : a < b
      · rw [if_pos (by omega)]; exact bin_14_1 a b hl w
      · rw [if_neg (by omega)]; exact bin_14_0 a b (by omega) w
  · rw [binV_none hop, binO_none hop]; exact bin_none op a b hop w

set_option maxRecDepth 100000 in
theorem un_15 (a : Int) (w : World) :
    Calls Try.prog 10 #[.int .i64 15, .int .i64 a] w fun e w' => e = .returned (.tuple #[.int .i64 (wrap64 (-a)), .bool true]) ∧ w = w' := by
  go_enter Try.func10, Try.ntmps10
  go_wp2_with (go_at_call 26; refine (truth_any _ _).mono ?_; rintro e w' ⟨rfl, rfl⟩)
  go_ret2
  exact ⟨rfl, rfl⟩

set_option maxRecDepth 100000 in
theorem un_16_1 (a : Int) (ha : a = 0) (w : World) :
    Calls Try.prog 10 #[.int .i64 16, .int .i64 a] w fun e w' => e = .returned (.tuple #[.int .i64 (1), .bool true]) ∧ w = w' := by
  subst ha
  go_enter Try.func10, Try.ntmps10
  go_wp2_with (go_at_call 26; refine (truth_any _ _).mono ?_; rintro e w' ⟨rfl, rfl⟩)
  go_ret2
  exact ⟨rfl, rfl⟩

set_option maxRecDepth 100000 in
theorem un_16_0 (a : Int) (ha : ¬ a = 0) (w : World) :
    Calls Try.prog 10 #[.int .i64 16, .int .i64 a] w fun e w' => e = .returned (.tuple #[.int .i64 (0), .bool true]) ∧ w = w' := by
  have h1 : (a == 0) = false := by simp [ha]
  go_enter Try.func10, Try.ntmps10
  go_wp2_with (go_at_call 26; refine (truth_any _ _).mono ?_; rintro e w' ⟨rfl, rfl⟩)
  go_ret2
  exact ⟨rfl, rfl⟩

set_option maxRecDepth 100000 in
theorem un_17 (a : Int) (w : World) :
    Calls Try.prog 10 #[.int .i64 17, .int .i64 a] w fun e w' => e = .returned (.tuple #[.int .i64 (bits .xor .i64 (-1) a), .bool true]) ∧ w = w' := by
  go_enter Try.func10, Try.ntmps10
  go_wp2_with (go_at_call 26; refine (truth_any _ _).mono ?_; rintro e w' ⟨rfl, rfl⟩)
  go_ret2
  exact ⟨rfl, rfl⟩

set_option maxRecDepth 100000 in
theorem un_none (op a : Int) (hop : op < 15 ∨ 17 < op) (w : World) :
    Calls Try.prog 10 #[.int .i64 op, .int .i64 a] w fun e w' => e = .returned (.tuple #[.int .i64 0, .bool false]) ∧ w = w' := by
  have c15 : (op == 15) = false := by simp; omega
  have c16 : (op == 16) = false := by simp; omega
  have c17 : (op == 17) = false := by simp; omega
  go_enter Try.func10, Try.ntmps10
  go_wp2
  go_ret2
  exact ⟨rfl, rfl⟩

/-- **Unary of package ops.** -/
theorem unary_ops (op a : Int) (h1 : -9223372036854775808 ≤ a) (h2 : a < 9223372036854775808) (w : World) :
    Calls Try.prog 10 #[.int .i64 op, .int .i64 a] w fun e w' => e = .returned (.tuple #[.int .i64 (unV op a), .bool (unO op)]) ∧ w = w' := by
  rcases un_cases op with rfl | rfl | rfl | hop
  · rw [unV_15, unO_15, Int.zero_sub]; exact un_15 a w
  · rw [unV_16, unO_16]
    by_cases ha : a = 0
    · rw [if_pos ha]; exact un_16_1 a ha w
    · rw [if_neg ha]; exact un_16_0 a ha w
  · rw [unV_17, unO_17, ← not_i64 h1 h2]; exact un_17 a w
  · rw [unV_none hop, unO_none hop]; exact un_none op a hop w

end Go.Proofs.Ytiddlnmpiaelmaa
