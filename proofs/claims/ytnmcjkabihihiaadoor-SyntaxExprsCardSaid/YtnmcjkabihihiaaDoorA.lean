/- Contracts of the byte tests of package lex and of the document's answer: for every byte and every memory. -/
import Derived.Test.YtnmcjkabihihiaaDoorProg
import Derived.Test.YtnmcjkabihihiaaDoorS
import Derived.WalkKit
import Derived.Outline
import Derived.Lib.Hide
namespace Go.Proofs.YtnmcjkabihihiaaDoor
open Go Go.RowKit

theorem ret_bool {a b : Bool} (h : a = b) : Ending.returned (.bool a) = .returned (.bool b) := by rw [h]
theorem ret_int {k : IntKind} {a b : Int} (h : a = b) : Ending.returned (.int k a) = .returned (.int k b) := by rw [h]
theorem ret_str {a b : ByteArray} (h : a = b) : Ending.returned (.string a) = .returned (.string b) := by rw [h]

theorem letterB_iff (c : Nat) : letterB c = true ↔ (97 ≤ c ∧ c ≤ 122) ∨ c = 95 := by simp [letterB]
theorem digitB_iff (c : Nat) : digitB c = true ↔ 48 ≤ c ∧ c ≤ 57 := by simp [digitB]
theorem blankB_iff (c : Nat) : blankB c = true ↔ c = 9 ∨ c = 10 ∨ c = 13 ∨ c = 32 := by simp [blankB, or_assoc]

theorem isLetter_any (c : Nat) (w : World) : Calls Tryd.prog 60 #[.int .u8 (c : Int)] w fun e w' => e = .returned (.bool (letterB c)) ∧ w = w' := by
  have hc : (97 ≤ c ∧ c ≤ 122) ∨ c < 97 ∨ 122 < c := by omega
  rcases hc with ⟨h1, h2⟩ | h1 | h1
  all_goals
    go_enter Tryd.func60, Tryd.ntmps60
    go_wp2
    all_goals
      go_ret
      exact ⟨ret_bool (by rw [Bool.eq_iff_iff, letterB_iff]; simp; omega), rfl⟩

theorem letter_any (c : Nat) (w : World) : Calls Tryd.prog 53 #[.int .u8 (c : Int)] w fun e w' => e = .returned (.bool (letterB c)) ∧ w = w' := by
  have hc : (97 ≤ c ∧ c ≤ 122) ∨ c < 97 ∨ 122 < c := by omega
  rcases hc with ⟨h1, h2⟩ | h1 | h1
  all_goals
    go_enter Tryd.func53, Tryd.ntmps53
    go_wp2
    all_goals
      go_ret
      exact ⟨ret_bool (by rw [Bool.eq_iff_iff, letterB_iff]; simp; omega), rfl⟩

theorem isDigit_any (c : Nat) (w : World) : Calls Tryd.prog 63 #[.int .u8 (c : Int)] w fun e w' => e = .returned (.bool (digitB c)) ∧ w = w' := by
  have hc : (48 ≤ c ∧ c ≤ 57) ∨ c < 48 ∨ 57 < c := by omega
  rcases hc with ⟨h1, h2⟩ | h1 | h1
  all_goals
    go_enter Tryd.func63, Tryd.ntmps63
    go_wp2
    all_goals
      go_ret
      exact ⟨ret_bool (by rw [Bool.eq_iff_iff, digitB_iff]; simp; omega), rfl⟩

theorem digit_any (c : Nat) (w : World) : Calls Tryd.prog 54 #[.int .u8 (c : Int)] w fun e w' => e = .returned (.bool (digitB c)) ∧ w = w' := by
  have hc : (48 ≤ c ∧ c ≤ 57) ∨ c < 48 ∨ 57 < c := by omega
  rcases hc with ⟨h1, h2⟩ | h1 | h1
  all_goals
    go_enter Tryd.func54, Tryd.ntmps54
    go_wp2
    all_goals
      go_ret
      exact ⟨ret_bool (by rw [Bool.eq_iff_iff, digitB_iff]; simp; omega), rfl⟩

theorem isBlank_any (c : Nat) (w : World) : Calls Tryd.prog 59 #[.int .u8 (c : Int)] w fun e w' => e = .returned (.bool (blankB c)) ∧ w = w' := by
  go_enter Tryd.func59, Tryd.ntmps59
  go_wp2
  all_goals
    go_ret
    exact ⟨ret_bool (by rw [Bool.eq_iff_iff, blankB_iff]; simp; omega), rfl⟩

theorem blank_any (c : Nat) (w : World) : Calls Tryd.prog 40 #[.int .u8 (c : Int)] w fun e w' => e = .returned (.bool (blankB c)) ∧ w = w' := by
  go_enter Tryd.func40, Tryd.ntmps40
  go_wp2
  all_goals
    go_ret
    exact ⟨ret_bool (by rw [Bool.eq_iff_iff, blankB_iff]; simp; omega), rfl⟩

theorem isInLine_any (c : Nat) (w : World) : Calls Tryd.prog 58 #[.int .u8 (c : Int)] w fun e w' => e = .returned (.bool (inC c)) ∧ w = w' := by
  go_enter Tryd.func58, Tryd.ntmps58
  go_wp2
  go_ret
  exact ⟨ret_bool (by rw [Bool.eq_iff_iff]; simp [inC]; omega), rfl⟩

theorem isOfName_any (c : Nat) (w : World) : Calls Tryd.prog 62 #[.int .u8 (c : Int)] w fun e w' => e = .returned (.bool (nameB c)) ∧ w = w' := by
  cases h : letterB c
  · have h1 := h ▸ isLetter_any c w
    go_enter Tryd.func62, Tryd.ntmps62
    go_wp2_with (first | (go_at_call 60; refine h1.mono ?_; rintro e w' ⟨rfl, rfl⟩) | (go_at_call 63; refine (isDigit_any c _).mono ?_; rintro e w' ⟨rfl, rfl⟩))
    go_ret
    exact ⟨ret_bool (by simp [nameB, h]), rfl⟩
  · have h1 := h ▸ isLetter_any c w
    go_enter Tryd.func62, Tryd.ntmps62
    go_wp2_with (first | (go_at_call 60; refine h1.mono ?_; rintro e w' ⟨rfl, rfl⟩) | (go_at_call 63; refine (isDigit_any c _).mono ?_; rintro e w' ⟨rfl, rfl⟩))
    go_ret
    exact ⟨ret_bool (by simp [nameB, h]), rfl⟩
end Go.Proofs.YtnmcjkabihihiaaDoor
