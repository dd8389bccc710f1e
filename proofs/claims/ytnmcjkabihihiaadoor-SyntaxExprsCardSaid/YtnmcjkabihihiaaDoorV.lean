/- Plain facts on digits: what they come to, digit by digit, and when it is too great. (No seat's own names: to be renamed to the seat that needs it.) -/
import Derived.Test.YtnmcjkabihihiaaDoorS
namespace Go.Proofs.YtnmcjkabihihiaaDoor

theorem valD_snoc (l : List Nat) (d : Nat) : valD (l ++ [d]) = 10 * valD l + (d - 48) := by simp [valD, List.foldl_append]
theorem valD_take (l : List Nat) (i : Nat) (h : i < l.length) : valD (l.take (i + 1)) = 10 * valD (l.take i) + (l.getD i 0 - 48) := by
  rw [List.take_succ_eq_append_getElem h, valD_snoc, List.getD_eq_getElem?_getD, List.getElem?_eq_getElem h]; rfl
theorem foldl_ge : ∀ (l : List Nat) (n : Nat), n ≤ l.foldl (fun n d => 10 * n + (d - 48)) n
  | [], n => Nat.le_refl _
  | d :: l, n => by
    have := foldl_ge l (10 * n + (d - 48))
    rw [List.foldl_cons]; omega
theorem valD_mono (l m : List Nat) : valD l ≤ valD (l ++ m) := by
  unfold valD
  rw [List.foldl_append]
  exact foldl_ge m _
theorem valD_take_le (l : List Nat) (i : Nat) : valD (l.take i) ≤ valD l := by
  have := valD_mono (l.take i) (l.drop i)
  rwa [List.take_append_drop] at this
/-- The document's test, digit by digit. -/
theorem too_great (n d : Nat) (hd : d ≤ 9) : (most - d) / 10 < n ↔ most < 10 * n + d := by
  simp only [most]; omega
theorem valD_zeros (l : List Nat) : valD (48 :: l) = valD l := by simp [valD]
theorem digit_range {c : Nat} (h : digitB c = true) : 48 ≤ c ∧ c ≤ 57 := by
  unfold digitB at h
  simpa using h
/-- A text of no word at all. -/
theorem scanL_nil (a : Nat) : scanL [] a = ([], a, 0) := by rw [scanL]
/-- The words' places rise. -/
theorem joinL_length : ∀ l : List (List Nat), l ≠ [] → (joinL l).length + 1 = (l.map List.length).sum + l.length
  | [], h => absurd rfl h
  | [t], _ => by simp [joinL]
  | t :: u :: l, _ => by
    have := joinL_length (u :: l) (by simp)
    rw [joinL, List.length_append, List.length_cons, List.map_cons, List.sum_cons, List.length_cons]
    omega
end Go.Proofs.YtnmcjkabihihiaaDoor
