/- OpsAll: the law's walk, in every memory. -/
import Derived.Test.YtiddlnmpiaelmaaDocB
import Derived.Test.YtiddlnmpiaelmaaLawW
namespace Go.Proofs.Ytiddlnmpiaelmaa
open Go Go.RowKit

set_option maxRecDepth 100000 in
set_option maxHeartbeats 1000000 in
theorem all_any (op a b : Int) (a1 : -9223372036854775808 ≤ a) (a2 : a < 9223372036854775808) (b1 : -9223372036854775808 ≤ b) (b2 : b < 9223372036854775808) (w : World) :
    Calls Try.prog 3 #[.int .i64 a, .int .i64 b, .int .i64 op] w fun e w' => e = .returned (.bool true) ∧ w = w' := by
  have h1 := fun k => binary_ops k a b w
  have h2 := fun k => binary_ref k a b a1 a2 b1 b2 w
  have h3 := fun k => unary_ops k a a1 a2 w
  have h4 := fun k => unary_ref k a a1 a2 w
  have h5 := unary_ops op b b1 b2 w
  have h6 := unary_ref op b b1 b2 w
  have h7 := awake_any w
  clear a1 a2 b1 b2
  go_enter Try.func3, Try.ntmps3
  go_wp2
  go_loop [7] (fun x => ∃ k : Nat, k ≤ 19 ∧ x = .int .i64 k) (fun x => 19 - (intOf x).toNat)
  case atStart => exact ⟨0, by omega, rfl⟩
  case round =>
    obtain ⟨k, hk, rfl⟩ := hrel
    by_cases hlt : k < 19
    · have g1 := h1 k
      have g2 := h2 k
      have g3 := h3 k
      have g4 := h4 k
      generalize binV (k : Int) a b = V at g1 g2
      generalize binO (k : Int) = O at g1 g2
      generalize unV (k : Int) a = V2 at g3 g4
      generalize unO (k : Int) = O2 at g3 g4
      clear h1 h2 h3 h4 h5 h6 h7
      have hk18 : (k : Int) ≤ 18 := by omega
      go_wp2_with fail
      refine g1.mono ?_
      rintro e w' ⟨rfl, rfl⟩
      go_wp2_with fail
      refine g2.mono ?_
      rintro e w' ⟨rfl, rfl⟩
      go_wp2_with fail
      refine g3.mono ?_
      rintro e w' ⟨rfl, rfl⟩
      go_wp2_with fail
      refine g4.mono ?_
      rintro e w' ⟨rfl, rfl⟩
      go_wp2_with fail
      exact ⟨⟨k + 1, by omega, by go_num⟩, by simp [intOf]; omega⟩
    · obtain rfl : k = 19 := by omega
      have g1 := h1 op
      have g2 := h2 op
      generalize binV op a b = V at g1 g2
      generalize binO op = O at g1 g2
      generalize unV op b = V2 at h5 h6
      generalize unO op = O2 at h5 h6
      clear h1 h2 h3 h4
      go_wp2_with fail
      refine g1.mono ?_
      rintro e w' ⟨rfl, rfl⟩
      go_wp2_with fail
      refine g2.mono ?_
      rintro e w' ⟨rfl, rfl⟩
      go_wp2_with fail
      refine h5.mono ?_
      rintro e w' ⟨rfl, rfl⟩
      go_wp2_with fail
      refine h6.mono ?_
      rintro e w' ⟨rfl, rfl⟩
      go_wp2_with fail
      refine h7.mono ?_
      rintro e w' ⟨rfl, rfl⟩
      go_wp2_with fail
      go_ret
      exact ⟨rfl, rfl⟩
end Go.Proofs.Ytiddlnmpiaelmaa
