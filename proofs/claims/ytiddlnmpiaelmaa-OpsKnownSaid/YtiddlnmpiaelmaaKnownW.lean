/- OpsKnown: the law's walk, in every memory. -/
import Derived.Test.YtiddlnmpiaelmaaFold
import Derived.Test.YtiddlnmpiaelmaaSgnW
namespace Go.Proofs.Ytiddlnmpiaelmaa
open Go Go.RowKit

theorem first_at (s : ByteArray) (ar : Int) (n : Nat) (h1 : 1 ≤ n) (h2 : n ≤ 18) (h : ∀ j : Fin 18, 1 ≤ j.val → j.val < n → hitS s ar j.val = false) (hy : n = 18 ∨ hitS s ar n = true) : First s ar n :=
  ⟨h1, h2, fun j a b => h ⟨j, by omega⟩ a b, hy⟩

theorem k_fold (w : World) : Calls Try.prog 20 #[.int .i64 2, .slice (some ⟨w.heap.size, 0, none⟩) 3 3] (w.alloc (.cells #[.int .i64 9, .int .i64 2, .int .i64 3] 2)) fun e w' => e = .returned (.tuple #[.int .i64 4, .bool true]) ∧ Grown w w' := by
  have h := fold_some 2 (by decide) 9 [2, 3] w.heap.size 0 3 (by decide) (by decide) (w.alloc (.cells #[.int .i64 9, .int .i64 2, .int .i64 3] 2)) (fun i hi => by
    have h3 : i < 3 := hi
    rw [Nat.zero_add, World.cell?_alloc_new]
    rcases (show i = 0 ∨ i = 1 ∨ i = 2 by omega) with rfl | rfl | rfl <;> rfl)
  rw [show List.foldl (binV 2) 9 [2, 3] = 4 from by decide +kernel] at h
  exact h.mono fun e w' ⟨he, hw⟩ => ⟨he, hw ▸ (Grown.refl w).alloc _ _⟩
theorem k_one (w : World) : Calls Try.prog 20 #[.int .i64 15, .slice (some ⟨w.heap.size, 0, none⟩) 1 1] (w.alloc (.cells #[.int .i64 1] 2)) fun e w' => e = .returned (.tuple #[.int .i64 0, .bool false]) ∧ Grown w w' :=
  (fold_none 15 (by decide) _ 1 1 _).mono fun e w' ⟨he, hw⟩ => ⟨he, hw ▸ (Grown.refl w).alloc _ _⟩
theorem k_nil (w : World) : Calls Try.prog 20 #[.int .i64 2, .slice none 0 0] w fun e w' => e = .returned (.tuple #[.int .i64 0, .bool false]) ∧ w = w' := fold_nil 2 none 0 w
theorem k_by1 (w : World) : Calls Try.prog 13 #[.string (⟨#[45]⟩ : ByteArray), .int .i64 1] w fun e w' => e = .returned (.tuple #[.int .i64 15, .bool true]) ∧ w = w' :=
  bysign_ops ⟨#[45]⟩ 1 15 (first_at _ _ _ (by decide) (by decide) (by decide +kernel) (.inr (by decide +kernel))) w
theorem k_by2 (w : World) : Calls Try.prog 13 #[.string (⟨#[45]⟩ : ByteArray), .int .i64 2] w fun e w' => e = .returned (.tuple #[.int .i64 2, .bool true]) ∧ w = w' :=
  bysign_ops ⟨#[45]⟩ 2 2 (first_at _ _ _ (by decide) (by decide) (by decide +kernel) (.inr (by decide +kernel))) w
theorem k_by0 (w : World) : Calls Try.prog 13 #[.string (⟨#[45]⟩ : ByteArray), .int .i64 0] w fun e w' => e = .returned (.tuple #[.int .i64 0, .bool false]) ∧ w = w' :=
  bysign_ops ⟨#[45]⟩ 0 18 (first_at _ _ _ (by decide) (by decide) (by decide +kernel) (.inl rfl)) w
theorem k_s9 (w : World) : Calls Try.prog 17 #[.int .i64 9] w fun e w' => e = .returned (.string (⟨#[60, 60]⟩ : ByteArray)) ∧ w = w' := sign_9 w
theorem k_s0 (w : World) : Calls Try.prog 17 #[.int .i64 0] w fun e w' => e = .returned (.string (⟨#[]⟩ : ByteArray)) ∧ w = w' := sign_none 0 (by decide) w
theorem k_a14 (w : World) : Calls Try.prog 15 #[.int .i64 14] w fun e w' => e = .returned (.int .i64 2) ∧ w = w' := arity_ops 14 w
theorem k_a18 (w : World) : Calls Try.prog 15 #[.int .i64 18] w fun e w' => e = .returned (.int .i64 0) ∧ w = w' := arity_ops 18 w

set_option maxRecDepth 100000 in
set_option maxHeartbeats 4000000 in
theorem known_any (w : World) : Calls Try.prog 6 #[] w fun e w' => e = .returned (.bool true) ∧ Grown w w' := by
  go_enter Try.func6, Try.ntmps6
  go_wp2_with fail
  refine (awake_any w).mono ?_
  rintro e w' ⟨rfl, rfl⟩
  go_wp2_with fail
  refine (bin_any 4 7 0 0 (by decide) (by decide +kernel) w).mono ?_
  rintro e w' ⟨rfl, rfl⟩
  go_wp2_with fail
  refine (bin_any 5 7 0 0 (by decide) (by decide +kernel) w).mono ?_
  rintro e w' ⟨rfl, rfl⟩
  go_wp2_with fail
  refine (bin_any 4 (-9223372036854775808) (-1) (-9223372036854775808) (by decide) (by decide +kernel) w).mono ?_
  rintro e w' ⟨rfl, rfl⟩
  go_wp2_with fail
  refine (bin_any 5 (-9223372036854775808) (-1) 0 (by decide) (by decide +kernel) w).mono ?_
  rintro e w' ⟨rfl, rfl⟩
  go_wp2_with fail
  refine (bin_any 1 9223372036854775807 1 (-9223372036854775808) (by decide) (by decide +kernel) w).mono ?_
  rintro e w' ⟨rfl, rfl⟩
  go_wp2_with fail
  refine (bin_any 9 1 64 1 (by decide) (by decide +kernel) w).mono ?_
  rintro e w' ⟨rfl, rfl⟩
  go_wp2_with fail
  refine (bin_any 9 1 (-1) (-9223372036854775808) (by decide) (by decide +kernel) w).mono ?_
  rintro e w' ⟨rfl, rfl⟩
  go_wp2_with fail
  refine (bin_any 14 3 3 1 (by decide) (by decide +kernel) w).mono ?_
  rintro e w' ⟨rfl, rfl⟩
  go_wp2_with fail
  refine (bin_any 13 3 3 0 (by decide) (by decide +kernel) w).mono ?_
  rintro e w' ⟨rfl, rfl⟩
  go_wp2_with fail
  refine (un_any 16 5 0 (by decide) (by decide) (by decide) (by decide +kernel) w).mono ?_
  rintro e w' ⟨rfl, rfl⟩
  go_wp2_with fail
  refine (un_any 15 (-9223372036854775808) (-9223372036854775808) (by decide) (by decide) (by decide) (by decide +kernel) w).mono ?_
  rintro e w' ⟨rfl, rfl⟩
  go_wp2_with fail
  refine (k_fold w).mono ?_
  rintro e w1 ⟨rfl, g1⟩
  go_wp2_with fail
  refine (k_nil w1).mono ?_
  rintro e w' ⟨rfl, rfl⟩
  go_wp2_with fail
  refine (k_one w1).mono ?_
  rintro e w2 ⟨rfl, g2⟩
  go_wp2_with fail
  refine (k_by1 w2).mono ?_
  rintro e w' ⟨rfl, rfl⟩
  go_wp2_with fail
  refine (k_by2 w2).mono ?_
  rintro e w' ⟨rfl, rfl⟩
  go_wp2_with fail
  refine (k_by0 w2).mono ?_
  rintro e w' ⟨rfl, rfl⟩
  go_wp2_with fail
  refine (un_not 1 1 (by decide) (by decide) (by decide) w2).mono ?_
  rintro e w' ⟨rfl, rfl⟩
  go_wp2_with fail
  refine (bin_not 15 1 2 (by decide) w2).mono ?_
  rintro e w' ⟨rfl, rfl⟩
  go_wp2_with fail
  refine (bin_not 18 1 2 (by decide) w2).mono ?_
  rintro e w' ⟨rfl, rfl⟩
  go_wp2_with fail
  refine (k_s9 w2).mono ?_
  rintro e w' ⟨rfl, rfl⟩
  go_wp2_with fail
  refine (k_s0 w2).mono ?_
  rintro e w' ⟨rfl, rfl⟩
  go_wp2_with fail
  refine (k_a14 w2).mono ?_
  rintro e w' ⟨rfl, rfl⟩
  go_wp2_with fail
  refine (k_a18 w2).mono ?_
  rintro e w' ⟨rfl, rfl⟩
  go_wp2_with fail
  go_ret
  exact ⟨rfl, grown_trans g1 g2⟩
end Go.Proofs.Ytiddlnmpiaelmaa
