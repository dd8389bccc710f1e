/- Sign and Arity of package ops and of the document's answer, in every memory. -/
import Derived.Test.YtiddlnmpiaelmaaOps
namespace Go.Proofs.Ytiddlnmpiaelmaa
open Go Go.RowKit

/-- An operation's sign. -/
def signL : Nat → List UInt8
  | 1 => [43]
  | 2 => [45]
  | 3 => [42]
  | 4 => [47]
  | 5 => [37]
  | 6 => [38]
  | 7 => [124]
  | 8 => [94]
  | 9 => [60, 60]
  | 10 => [62, 62]
  | 11 => [61, 61]
  | 12 => [33, 61]
  | 13 => [60]
  | 14 => [60, 61]
  | 15 => [45]
  | 16 => [33]
  | 17 => [126]
  | _ => []
def signV (op : Int) : ByteArray := ⟨(if 1 ≤ op ∧ op ≤ 17 then signL op.toNat else []).toArray⟩
def arV (op : Int) : Int := if 1 ≤ op ∧ op ≤ 14 then 2 else if 15 ≤ op ∧ op ≤ 17 then 1 else 0

set_option maxRecDepth 100000 in
theorem sign_1 (w : World) : Calls Try.prog 17 #[.int .i64 1] w fun e w' => e = .returned (.string (⟨#[43]⟩ : ByteArray)) ∧ w = w' := by
  go_enter Try.func17, Try.ntmps17
  go_upto_region 2 with (fail)
  iterate 10 go_step
  refine wp_cond_split rfl (fun h => ?_) (fun h => absurd h (by decide))
  apply wp_exit
  repeat (first | refine exit_then ?_ | refine exit_ne (by decide) ?_)
  refine exit_eq ?_
  go_wp2
  go_ret
  exact ⟨rfl, rfl⟩

set_option maxRecDepth 100000 in
theorem sign_2 (w : World) : Calls Try.prog 17 #[.int .i64 2] w fun e w' => e = .returned (.string (⟨#[45]⟩ : ByteArray)) ∧ w = w' := by
  go_enter Try.func17, Try.ntmps17
  go_upto_region 3 with (fail)
  iterate 10 go_step
  refine wp_cond_split rfl (fun h => ?_) (fun h => absurd h (by decide))
  apply wp_exit
  repeat (first | refine exit_then ?_ | refine exit_ne (by decide) ?_)
  refine exit_eq ?_
  go_wp2
  go_ret
  exact ⟨rfl, rfl⟩

set_option maxRecDepth 100000 in
theorem sign_3 (w : World) : Calls Try.prog 17 #[.int .i64 3] w fun e w' => e = .returned (.string (⟨#[42]⟩ : ByteArray)) ∧ w = w' := by
  go_enter Try.func17, Try.ntmps17
  go_upto_region 5 with (fail)
  iterate 10 go_step
  refine wp_cond_split rfl (fun h => ?_) (fun h => absurd h (by decide))
  apply wp_exit
  repeat (first | refine exit_then ?_ | refine exit_ne (by decide) ?_)
  refine exit_eq ?_
  go_wp2
  go_ret
  exact ⟨rfl, rfl⟩

set_option maxRecDepth 100000 in
theorem sign_4 (w : World) : Calls Try.prog 17 #[.int .i64 4] w fun e w' => e = .returned (.string (⟨#[47]⟩ : ByteArray)) ∧ w = w' := by
  go_enter Try.func17, Try.ntmps17
  go_upto_region 6 with (fail)
  iterate 10 go_step
  refine wp_cond_split rfl (fun h => ?_) (fun h => absurd h (by decide))
  apply wp_exit
  repeat (first | refine exit_then ?_ | refine exit_ne (by decide) ?_)
  refine exit_eq ?_
  go_wp2
  go_ret
  exact ⟨rfl, rfl⟩

set_option maxRecDepth 100000 in
theorem sign_5 (w : World) : Calls Try.prog 17 #[.int .i64 5] w fun e w' => e = .returned (.string (⟨#[37]⟩ : ByteArray)) ∧ w = w' := by
  go_enter Try.func17, Try.ntmps17
  go_upto_region 7 with (fail)
  iterate 10 go_step
  refine wp_cond_split rfl (fun h => ?_) (fun h => absurd h (by decide))
  apply wp_exit
  repeat (first | refine exit_then ?_ | refine exit_ne (by decide) ?_)
  refine exit_eq ?_
  go_wp2
  go_ret
  exact ⟨rfl, rfl⟩

set_option maxRecDepth 100000 in
theorem sign_6 (w : World) : Calls Try.prog 17 #[.int .i64 6] w fun e w' => e = .returned (.string (⟨#[38]⟩ : ByteArray)) ∧ w = w' := by
  go_enter Try.func17, Try.ntmps17
  go_upto_region 8 with (fail)
  iterate 10 go_step
  refine wp_cond_split rfl (fun h => ?_) (fun h => absurd h (by decide))
  apply wp_exit
  repeat (first | refine exit_then ?_ | refine exit_ne (by decide) ?_)
  refine exit_eq ?_
  go_wp2
  go_ret
  exact ⟨rfl, rfl⟩

set_option maxRecDepth 100000 in
theorem sign_7 (w : World) : Calls Try.prog 17 #[.int .i64 7] w fun e w' => e = .returned (.string (⟨#[124]⟩ : ByteArray)) ∧ w = w' := by
  go_enter Try.func17, Try.ntmps17
  go_upto_region 9 with (fail)
  iterate 10 go_step
  refine wp_cond_split rfl (fun h => ?_) (fun h => absurd h (by decide))
  apply wp_exit
  repeat (first | refine exit_then ?_ | refine exit_ne (by decide) ?_)
  refine exit_eq ?_
  go_wp2
  go_ret
  exact ⟨rfl, rfl⟩

set_option maxRecDepth 100000 in
theorem sign_8 (w : World) : Calls Try.prog 17 #[.int .i64 8] w fun e w' => e = .returned (.string (⟨#[94]⟩ : ByteArray)) ∧ w = w' := by
  go_enter Try.func17, Try.ntmps17
  go_upto_region 10 with (fail)
  iterate 10 go_step
  refine wp_cond_split rfl (fun h => ?_) (fun h => absurd h (by decide))
  apply wp_exit
  repeat (first | refine exit_then ?_ | refine exit_ne (by decide) ?_)
  refine exit_eq ?_
  go_wp2
  go_ret
  exact ⟨rfl, rfl⟩

set_option maxRecDepth 100000 in
theorem sign_9 (w : World) : Calls Try.prog 17 #[.int .i64 9] w fun e w' => e = .returned (.string (⟨#[60, 60]⟩ : ByteArray)) ∧ w = w' := by
  go_enter Try.func17, Try.ntmps17
  go_upto_region 11 with (fail)
  iterate 10 go_step
  refine wp_cond_split rfl (fun h => ?_) (fun h => absurd h (by decide))
  apply wp_exit
  repeat (first | refine exit_then ?_ | refine exit_ne (by decide) ?_)
  refine exit_eq ?_
  go_wp2
  go_ret
  exact ⟨rfl, rfl⟩

set_option maxRecDepth 100000 in
theorem sign_10 (w : World) : Calls Try.prog 17 #[.int .i64 10] w fun e w' => e = .returned (.string (⟨#[62, 62]⟩ : ByteArray)) ∧ w = w' := by
  go_enter Try.func17, Try.ntmps17
  go_upto_region 12 with (fail)
  iterate 10 go_step
  refine wp_cond_split rfl (fun h => ?_) (fun h => absurd h (by decide))
  apply wp_exit
  repeat (first | refine exit_then ?_ | refine exit_ne (by decide) ?_)
  refine exit_eq ?_
  go_wp2
  go_ret
  exact ⟨rfl, rfl⟩

set_option maxRecDepth 100000 in
theorem sign_11 (w : World) : Calls Try.prog 17 #[.int .i64 11] w fun e w' => e = .returned (.string (⟨#[61, 61]⟩ : ByteArray)) ∧ w = w' := by
  go_enter Try.func17, Try.ntmps17
  go_upto_region 13 with (fail)
  iterate 10 go_step
  refine wp_cond_split rfl (fun h => ?_) (fun h => absurd h (by decide))
  apply wp_exit
  repeat (first | refine exit_then ?_ | refine exit_ne (by decide) ?_)
  refine exit_eq ?_
  go_wp2
  go_ret
  exact ⟨rfl, rfl⟩

set_option maxRecDepth 100000 in
theorem sign_12 (w : World) : Calls Try.prog 17 #[.int .i64 12] w fun e w' => e = .returned (.string (⟨#[33, 61]⟩ : ByteArray)) ∧ w = w' := by
  go_enter Try.func17, Try.ntmps17
  go_upto_region 14 with (fail)
  iterate 10 go_step
  refine wp_cond_split rfl (fun h => ?_) (fun h => absurd h (by decide))
  apply wp_exit
  repeat (first | refine exit_then ?_ | refine exit_ne (by decide) ?_)
  refine exit_eq ?_
  go_wp2
  go_ret
  exact ⟨rfl, rfl⟩

set_option maxRecDepth 100000 in
theorem sign_13 (w : World) : Calls Try.prog 17 #[.int .i64 13] w fun e w' => e = .returned (.string (⟨#[60]⟩ : ByteArray)) ∧ w = w' := by
  go_enter Try.func17, Try.ntmps17
  go_upto_region 15 with (fail)
  iterate 10 go_step
  refine wp_cond_split rfl (fun h => ?_) (fun h => absurd h (by decide))
  apply wp_exit
  repeat (first | refine exit_then ?_ | refine exit_ne (by decide) ?_)
  refine exit_eq ?_
  go_wp2
  go_ret
  exact ⟨rfl, rfl⟩

set_option maxRecDepth 100000 in
theorem sign_14 (w : World) : Calls Try.prog 17 #[.int .i64 14] w fun e w' => e = .returned (.string (⟨#[60, 61]⟩ : ByteArray)) ∧ w = w' := by
  go_enter Try.func17, Try.ntmps17
  go_upto_region 16 with (fail)
  iterate 10 go_step
  refine wp_cond_split rfl (fun h => ?_) (fun h => absurd h (by decide))
  apply wp_exit
  repeat (first | refine exit_then ?_ | refine exit_ne (by decide) ?_)
  refine exit_eq ?_
  go_wp2
  go_ret
  exact ⟨rfl, rfl⟩

set_option maxRecDepth 100000 in
theorem sign_15 (w : World) : Calls Try.prog 17 #[.int .i64 15] w fun e w' => e = .returned (.string (⟨#[45]⟩ : ByteArray)) ∧ w = w' := by
  go_enter Try.func17, Try.ntmps17
  go_upto_region 4 with (fail)
  iterate 10 go_step
  refine wp_cond_split rfl (fun h => ?_) (fun h => absurd h (by decide))
  apply wp_exit
  repeat (first | refine exit_then ?_ | refine exit_ne (by decide) ?_)
  refine exit_eq ?_
  go_wp2
  go_ret
  exact ⟨rfl, rfl⟩

set_option maxRecDepth 100000 in
theorem sign_16 (w : World) : Calls Try.prog 17 #[.int .i64 16] w fun e w' => e = .returned (.string (⟨#[33]⟩ : ByteArray)) ∧ w = w' := by
  go_enter Try.func17, Try.ntmps17
  go_upto_region 17 with (fail)
  iterate 10 go_step
  refine wp_cond_split rfl (fun h => ?_) (fun h => absurd h (by decide))
  apply wp_exit
  repeat (first | refine exit_then ?_ | refine exit_ne (by decide) ?_)
  refine exit_eq ?_
  go_wp2
  go_ret
  exact ⟨rfl, rfl⟩

set_option maxRecDepth 100000 in
theorem sign_17 (w : World) : Calls Try.prog 17 #[.int .i64 17] w fun e w' => e = .returned (.string (⟨#[126]⟩ : ByteArray)) ∧ w = w' := by
  go_enter Try.func17, Try.ntmps17
  go_upto_region 18 with (fail)
  iterate 10 go_step
  refine wp_cond_split rfl (fun h => ?_) (fun h => absurd h (by decide))
  apply wp_exit
  repeat (first | refine exit_then ?_ | refine exit_ne (by decide) ?_)
  refine exit_eq ?_
  go_wp2
  go_ret
  exact ⟨rfl, rfl⟩

set_option maxRecDepth 100000 in
theorem sign_none (op : Int) (hop : op < 1 ∨ 17 < op) (w : World) : Calls Try.prog 17 #[.int .i64 op] w fun e w' => e = .returned (.string (⟨#[]⟩ : ByteArray)) ∧ w = w' := by
  have c1 : (op == 1) = false := by simp; omega
  have c2 : (op == 2) = false := by simp; omega
  have c3 : (op == 3) = false := by simp; omega
  have c4 : (op == 4) = false := by simp; omega
  have c5 : (op == 5) = false := by simp; omega
  have c6 : (op == 6) = false := by simp; omega
  have c7 : (op == 7) = false := by simp; omega
  have c8 : (op == 8) = false := by simp; omega
  have c9 : (op == 9) = false := by simp; omega
  have c10 : (op == 10) = false := by simp; omega
  have c11 : (op == 11) = false := by simp; omega
  have c12 : (op == 12) = false := by simp; omega
  have c13 : (op == 13) = false := by simp; omega
  have c14 : (op == 14) = false := by simp; omega
  have c15 : (op == 15) = false := by simp; omega
  have c16 : (op == 16) = false := by simp; omega
  have c17 : (op == 17) = false := by simp; omega
  clear hop
  go_enter Try.func17, Try.ntmps17
  go_upto_region 18 with (fail)
  iterate 10 go_step
  refine wp_cond_split rfl (fun h => absurd h (by decide)) (fun h => ?_)
  go_step
  go_step
  go_step
  apply wp_exit
  repeat (first | refine exit_then ?_ | refine exit_ne (by decide) ?_)
  refine exit_eq ?_
  go_wp2
  go_ret
  exact ⟨rfl, rfl⟩

theorem sign_cases (op : Int) : op = 1 ∨ op = 2 ∨ op = 3 ∨ op = 4 ∨ op = 5 ∨ op = 6 ∨ op = 7 ∨ op = 8 ∨ op = 9 ∨ op = 10 ∨ op = 11 ∨ op = 12 ∨ op = 13 ∨ op = 14 ∨ op = 15 ∨ op = 16 ∨ op = 17 ∨ (op < 1 ∨ 17 < op) := by omega

/-- **Sign.** -/
theorem sign_any (op : Int) (w : World) : Calls Try.prog 17 #[.int .i64 op] w fun e w' => e = .returned (.string (signV op)) ∧ w = w' := by
  rcases sign_cases op with rfl | rfl | rfl | rfl | rfl | rfl | rfl | rfl | rfl | rfl | rfl | rfl | rfl | rfl | rfl | rfl | rfl | hop
  · exact sign_1 w
  · exact sign_2 w
  · exact sign_3 w
  · exact sign_4 w
  · exact sign_5 w
  · exact sign_6 w
  · exact sign_7 w
  · exact sign_8 w
  · exact sign_9 w
  · exact sign_10 w
  · exact sign_11 w
  · exact sign_12 w
  · exact sign_13 w
  · exact sign_14 w
  · exact sign_15 w
  · exact sign_16 w
  · exact sign_17 w
  · rw [show signV op = (⟨#[]⟩ : ByteArray) from by unfold signV; rw [if_neg (by omega)]]; exact sign_none op hop w

set_option maxRecDepth 100000 in
theorem arity_ops (op : Int) (w : World) : Calls Try.prog 15 #[.int .i64 op] w fun e w' => e = .returned (.int .i64 (arV op)) ∧ w = w' := by
  unfold arV
  by_cases h1 : 1 ≤ op ∧ op ≤ 14
  · rw [if_pos h1]
    obtain ⟨h1, h2⟩ := h1
    go_enter Try.func15, Try.ntmps15
    go_wp2
    go_ret
    exact ⟨rfl, rfl⟩
  · rw [if_neg h1]
    by_cases h2 : 15 ≤ op ∧ op ≤ 17
    · rw [if_pos h2]
      obtain ⟨h2, h3⟩ := h2
      have h4 : ¬ op ≤ 14 := by omega
      clear h1
      go_enter Try.func15, Try.ntmps15
      go_wp2
      go_ret
      exact ⟨rfl, rfl⟩
    · rw [if_neg h2]
      rcases (show op < 1 ∨ 17 < op by omega) with h | h
      all_goals
        clear h1 h2
        go_enter Try.func15, Try.ntmps15
        go_wp2
        go_ret
        exact ⟨rfl, rfl⟩

set_option maxRecDepth 100000 in
theorem arity_ref (op : Int) (w : World) : Calls Try.prog 16 #[.int .i64 op] w fun e w' => e = .returned (.int .i64 (arV op)) ∧ w = w' := by
  unfold arV
  by_cases h1 : 1 ≤ op ∧ op ≤ 14
  · rw [if_pos h1]
    obtain ⟨h1, h2⟩ := h1
    go_enter Try.func16, Try.ntmps16
    go_wp2
    go_ret
    exact ⟨rfl, rfl⟩
  · rw [if_neg h1]
    by_cases h2 : 15 ≤ op ∧ op ≤ 17
    · rw [if_pos h2]
      obtain ⟨h2, h3⟩ := h2
      have h4 : ¬ op ≤ 14 := by omega
      clear h1
      go_enter Try.func16, Try.ntmps16
      go_wp2
      go_ret
      exact ⟨rfl, rfl⟩
    · rw [if_neg h2]
      rcases (show op < 1 ∨ 17 < op by omega) with h | h
      all_goals
        clear h1 h2
        go_enter Try.func16, Try.ntmps16
        go_wp2
        go_ret
        exact ⟨rfl, rfl⟩


end Go.Proofs.Ytiddlnmpiaelmaa
