/- Sign of the document's answer, in every memory. -/
import Derived.Test.YtiddlnmpiaelmaaSig
namespace Go.Proofs.Ytiddlnmpiaelmaa
open Go Go.RowKit

set_option maxRecDepth 100000 in
theorem refsign_1 (w : World) : Calls Try.prog 18 #[.int .i64 1] w fun e w' => e = .returned (.string (⟨#[43]⟩ : ByteArray)) ∧ Grown w w' := by
  go_enter Try.func18, Try.ntmps18
  go_wp2
  go_ret
  exact ⟨rfl, (Grown.refl _).alloc _ _⟩

set_option maxRecDepth 100000 in
theorem refsign_2 (w : World) : Calls Try.prog 18 #[.int .i64 2] w fun e w' => e = .returned (.string (⟨#[45]⟩ : ByteArray)) ∧ Grown w w' := by
  go_enter Try.func18, Try.ntmps18
  go_wp2
  go_ret
  exact ⟨rfl, (Grown.refl _).alloc _ _⟩

set_option maxRecDepth 100000 in
theorem refsign_3 (w : World) : Calls Try.prog 18 #[.int .i64 3] w fun e w' => e = .returned (.string (⟨#[42]⟩ : ByteArray)) ∧ Grown w w' := by
  go_enter Try.func18, Try.ntmps18
  go_wp2
  go_ret
  exact ⟨rfl, (Grown.refl _).alloc _ _⟩

set_option maxRecDepth 100000 in
theorem refsign_4 (w : World) : Calls Try.prog 18 #[.int .i64 4] w fun e w' => e = .returned (.string (⟨#[47]⟩ : ByteArray)) ∧ Grown w w' := by
  go_enter Try.func18, Try.ntmps18
  go_wp2
  go_ret
  exact ⟨rfl, (Grown.refl _).alloc _ _⟩

set_option maxRecDepth 100000 in
theorem refsign_5 (w : World) : Calls Try.prog 18 #[.int .i64 5] w fun e w' => e = .returned (.string (⟨#[37]⟩ : ByteArray)) ∧ Grown w w' := by
  go_enter Try.func18, Try.ntmps18
  go_wp2
  go_ret
  exact ⟨rfl, (Grown.refl _).alloc _ _⟩

set_option maxRecDepth 100000 in
theorem refsign_6 (w : World) : Calls Try.prog 18 #[.int .i64 6] w fun e w' => e = .returned (.string (⟨#[38]⟩ : ByteArray)) ∧ Grown w w' := by
  go_enter Try.func18, Try.ntmps18
  go_wp2
  go_ret
  exact ⟨rfl, (Grown.refl _).alloc _ _⟩

set_option maxRecDepth 100000 in
theorem refsign_7 (w : World) : Calls Try.prog 18 #[.int .i64 7] w fun e w' => e = .returned (.string (⟨#[124]⟩ : ByteArray)) ∧ Grown w w' := by
  go_enter Try.func18, Try.ntmps18
  go_wp2
  go_ret
  exact ⟨rfl, (Grown.refl _).alloc _ _⟩

set_option maxRecDepth 100000 in
theorem refsign_8 (w : World) : Calls Try.prog 18 #[.int .i64 8] w fun e w' => e = .returned (.string (⟨#[94]⟩ : ByteArray)) ∧ Grown w w' := by
  go_enter Try.func18, Try.ntmps18
  go_wp2
  go_ret
  exact ⟨rfl, (Grown.refl _).alloc _ _⟩

set_option maxRecDepth 100000 in
theorem refsign_9 (w : World) : Calls Try.prog 18 #[.int .i64 9] w fun e w' => e = .returned (.string (⟨#[60, 60]⟩ : ByteArray)) ∧ Grown w w' := by
  go_enter Try.func18, Try.ntmps18
  go_wp2
  go_ret
  exact ⟨rfl, (Grown.refl _).alloc _ _⟩

set_option maxRecDepth 100000 in
theorem refsign_10 (w : World) : Calls Try.prog 18 #[.int .i64 10] w fun e w' => e = .returned (.string (⟨#[62, 62]⟩ : ByteArray)) ∧ Grown w w' := by
  go_enter Try.func18, Try.ntmps18
  go_wp2
  go_ret
  exact ⟨rfl, (Grown.refl _).alloc _ _⟩

set_option maxRecDepth 100000 in
theorem refsign_11 (w : World) : Calls Try.prog 18 #[.int .i64 11] w fun e w' => e = .returned (.string (⟨#[61, 61]⟩ : ByteArray)) ∧ Grown w w' := by
  go_enter Try.func18, Try.ntmps18
  go_wp2
  go_ret
  exact ⟨rfl, (Grown.refl _).alloc _ _⟩

set_option maxRecDepth 100000 in
theorem refsign_12 (w : World) : Calls Try.prog 18 #[.int .i64 12] w fun e w' => e = .returned (.string (⟨#[33, 61]⟩ : ByteArray)) ∧ Grown w w' := by
  go_enter Try.func18, Try.ntmps18
  go_wp2
  go_ret
  exact ⟨rfl, (Grown.refl _).alloc _ _⟩

set_option maxRecDepth 100000 in
theorem refsign_13 (w : World) : Calls Try.prog 18 #[.int .i64 13] w fun e w' => e = .returned (.string (⟨#[60]⟩ : ByteArray)) ∧ Grown w w' := by
  go_enter Try.func18, Try.ntmps18
  go_wp2
  go_ret
  exact ⟨rfl, (Grown.refl _).alloc _ _⟩

set_option maxRecDepth 100000 in
theorem refsign_14 (w : World) : Calls Try.prog 18 #[.int .i64 14] w fun e w' => e = .returned (.string (⟨#[60, 61]⟩ : ByteArray)) ∧ Grown w w' := by
  go_enter Try.func18, Try.ntmps18
  go_wp2
  go_ret
  exact ⟨rfl, (Grown.refl _).alloc _ _⟩

set_option maxRecDepth 100000 in
theorem refsign_15 (w : World) : Calls Try.prog 18 #[.int .i64 15] w fun e w' => e = .returned (.string (⟨#[45]⟩ : ByteArray)) ∧ Grown w w' := by
  go_enter Try.func18, Try.ntmps18
  go_wp2
  go_ret
  exact ⟨rfl, (Grown.refl _).alloc _ _⟩

set_option maxRecDepth 100000 in
theorem refsign_16 (w : World) : Calls Try.prog 18 #[.int .i64 16] w fun e w' => e = .returned (.string (⟨#[33]⟩ : ByteArray)) ∧ Grown w w' := by
  go_enter Try.func18, Try.ntmps18
  go_wp2
  go_ret
  exact ⟨rfl, (Grown.refl _).alloc _ _⟩

set_option maxRecDepth 100000 in
theorem refsign_17 (w : World) : Calls Try.prog 18 #[.int .i64 17] w fun e w' => e = .returned (.string (⟨#[126]⟩ : ByteArray)) ∧ Grown w w' := by
  go_enter Try.func18, Try.ntmps18
  go_wp2
  go_ret
  exact ⟨rfl, (Grown.refl _).alloc _ _⟩

set_option maxRecDepth 100000 in
theorem refsign_none (op : Int) (hop : op < 1 ∨ 17 < op) (w : World) : Calls Try.prog 18 #[.int .i64 op] w fun e w' => e = .returned (.string (⟨#[]⟩ : ByteArray)) ∧ Grown w w' := by
  rcases hop with h | h
  all_goals
    go_enter Try.func18, Try.ntmps18
    go_wp2
    go_ret
    exact ⟨rfl, (Grown.refl _).alloc _ _⟩

/-- **Sign of the document's answer.** -/
theorem refsign_any (op : Int) (w : World) : Calls Try.prog 18 #[.int .i64 op] w fun e w' => e = .returned (.string (signV op)) ∧ Grown w w' := by
  rcases sign_cases op with rfl | rfl | rfl | rfl | rfl | rfl | rfl | rfl | rfl | rfl | rfl | rfl | rfl | rfl | rfl | rfl | rfl | hop
  · exact refsign_1 w
  · exact refsign_2 w
  · exact refsign_3 w
  · exact refsign_4 w
  · exact refsign_5 w
  · exact refsign_6 w
  · exact refsign_7 w
  · exact refsign_8 w
  · exact refsign_9 w
  · exact refsign_10 w
  · exact refsign_11 w
  · exact refsign_12 w
  · exact refsign_13 w
  · exact refsign_14 w
  · exact refsign_15 w
  · exact refsign_16 w
  · exact refsign_17 w
  · rw [show signV op = (⟨#[]⟩ : ByteArray) from by unfold signV; rw [if_neg (by omega)]]; exact refsign_none op hop w
end Go.Proofs.Ytiddlnmpiaelmaa
