/- slices.Sort and slices.Compact of at most two numbers. -/
import Derived.Test.YthgcnlccikpmaaaGrA
namespace Go.Proofs.Ythgcnlccikpmaaa
open Go Go.RowKit Go.Proofs.Mm
set_option maxRecDepth 100000 in
theorem nan_any (x : Int) (w : World) : Calls Try.prog 62 #[iV x] w fun e w' => e = .returned (.bool false) ∧ w' = w := by
  have h : (x != x) = false := by simp
  unfold iV
  go_enter Try.func62, Try.ntmps62
  go_wp2
  go_ret
  exact ⟨rfl, rfl⟩
set_option maxRecDepth 100000 in
theorem less_any (x y : Int) (w : World) : Calls Try.prog 52 #[iV x, iV y] w fun e w' => e = .returned (.bool (decide (x < y))) ∧ w' = w := by
  have h1 := Lib.hid (fun W => nan_any x W)
  have h2 := Lib.hid (fun W => nan_any y W)
  unfold iV
  go_enter Try.func52, Try.ntmps52
  go_wp2_with (first | (go_at_call 62; refine (h1.out _).mono ?_; rintro e w' ⟨rfl, rfl⟩) | (go_at_call 62; refine (h2.out _).mono ?_; rintro e w' ⟨rfl, rfl⟩))
  go_ret
  exact ⟨rfl, rfl⟩
set_option maxRecDepth 100000 in
theorem bitlen_any (n : Nat) (hn : n ≤ 2) (w : World) : Calls Try.prog 45 #[.int .u64 n] w fun e w' => (∃ k : Int, e = .returned (.int .i64 k)) ∧ ∃ k, w' = w.drewN k := by
  have h64 := Lib.hid (show ∀ W, Calls Try.prog 56 #[.int .u64 n] W (fun e w' => (∃ k : Int, e = .returned (.int .i64 k)) ∧ ∃ k, w' = W.drewN k) from fun W => by
    match n, hn with
    | 0, _ =>
      go_enter Try.func56, Try.ntmps56
      go_wp2
      go_ret
      exact ⟨⟨_, rfl⟩, 0, rfl⟩
    | 1, _ =>
      go_enter Try.func56, Try.ntmps56
      go_wp2
      go_ret
      exact ⟨⟨_, rfl⟩, 0, rfl⟩
    | 2, _ =>
      go_enter Try.func56, Try.ntmps56
      go_wp2
      go_ret
      exact ⟨⟨_, rfl⟩, 0, rfl⟩)
  clear hn
  go_enter Try.func45, Try.ntmps45
  go_wp2_with (go_at_call 56; refine (h64.out _).mono ?_; rintro e w' ⟨⟨k, rfl⟩, j, rfl⟩)
  go_ret
  exact ⟨⟨_, rfl⟩, j, rfl⟩
end Go.Proofs.Ythgcnlccikpmaaa
