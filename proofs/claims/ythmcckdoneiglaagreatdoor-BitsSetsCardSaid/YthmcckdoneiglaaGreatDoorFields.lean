/- Plain facts: the pieces of a text between blanks (tabs and spaces), and what decoding a rune at its head passes over. -/
import Derived.Lib.Strings
import Derived.Lib.DecodeN
import Derived.Shelf.Unicode.DecodeSlow
namespace Go.Proofs.YthmcckdoneiglaaGreatDoor
open Go

def blankB (c : UInt8) : Bool := decide (c.toNat = 9) || decide (c.toNat = 32)

/-- The pieces, 'cur' being the one that has begun. -/
def flds : Option (List UInt8) → List UInt8 → List (List UInt8)
  | none, [] => []
  | some c, [] => [c]
  | none, b :: l => if blankB b then flds none l else flds (some [b]) l
  | some c, b :: l => if blankB b then c :: flds none l else flds (some (c ++ [b])) l
def fieldsB (l : List UInt8) : List (List UInt8) := flds none l

theorem flds_blank_none {b : UInt8} {l : List UInt8} (h : blankB b = true) : flds none (b :: l) = flds none l := by simp [flds, h]
theorem flds_blank_some {c : List UInt8} {b : UInt8} {l : List UInt8} (h : blankB b = true) : flds (some c) (b :: l) = c :: flds none l := by simp [flds, h]
theorem flds_run_some : ∀ (a c l : List UInt8), (∀ b ∈ a, blankB b = false) → flds (some c) (a ++ l) = flds (some (c ++ a)) l
  | [], c, l, _ => by simp
  | b :: a, c, l, h => by
    have hb := h b (by simp)
    simp only [List.cons_append, flds, hb]
    rw [if_neg (by simp), flds_run_some a (c ++ [b]) l (fun x hx => h x (by simp [hx]))]
    simp
theorem flds_run_none (a l : List UInt8) (h0 : a ≠ []) (h : ∀ b ∈ a, blankB b = false) : flds none (a ++ l) = flds (some a) l := by
  cases a with
  | nil => exact absurd rfl h0
  | cons b a =>
    have hb := h b (by simp)
    simp only [List.cons_append, flds, hb]
    rw [if_neg (by simp), flds_run_some a [b] l (fun x hx => h x (by simp [hx]))]
    simp

/-- What decoding passes over behind a first byte beyond ASCII: within the text, and beyond ASCII each. -/
theorem decode_span (s : ByteArray) (h : 0 < s.size) (ha : 128 ≤ (s.get! 0).toNat) (j : Nat) (hj : j < (Utf8.decode s 0).2) : j < s.size ∧ 128 ≤ (s.get! j).toNat := by
  have c : ∀ k, (decide (0 + k < s.size) && (s.get! (0 + k)).toNat / 64 == 2) = true → k < s.size ∧ 128 ≤ (s.get! k).toNat := by
    intro k hk
    simp only [Nat.zero_add, Bool.and_eq_true, decide_eq_true_eq, beq_iff_eq] at hk
    exact ⟨hk.1, by omega⟩
  have z : ∀ i, i < 1 → i < s.size ∧ 128 ≤ (s.get! i).toNat := by
    intro i hi
    obtain rfl : i = 0 := by omega
    exact ⟨h, ha⟩
  unfold Utf8.decode at hj
  rw [if_neg (by simp only [Nat.zero_add]; omega)] at hj
  split at hj
  · rename_i h1
    simp only [Bool.and_eq_true] at h1
    have k1 := c 1 (by simpa using h1.2)
    dsimp only at hj
    split at hj
    · simp only at hj
      rcases (show j = 0 ∨ j = 1 by omega) with rfl | rfl
      · exact z 0 (by omega)
      · exact k1
    · exact z j hj
  · split at hj
    · rename_i h1
      simp only [Bool.and_eq_true] at h1
      have k1 := c 1 (by simpa using h1.1.2)
      have k2 := c 2 (by simpa using h1.2)
      dsimp only at hj
      split at hj
      · simp only at hj
        rcases (show j = 0 ∨ j = 1 ∨ j = 2 by omega) with rfl | rfl | rfl
        · exact z 0 (by omega)
        · exact k1
        · exact k2
      · exact z j hj
    · split at hj
      · rename_i h1
        simp only [Bool.and_eq_true] at h1
        have k1 := c 1 (by simpa using h1.1.1.2)
        have k2 := c 2 (by simpa using h1.1.2)
        have k3 := c 3 (by simpa using h1.2)
        dsimp only at hj
        split at hj
        · simp only at hj
          rcases (show j = 0 ∨ j = 1 ∨ j = 2 ∨ j = 3 by omega) with rfl | rfl | rfl | rfl
          · exact z 0 (by omega)
          · exact k1
          · exact k2
          · exact k3
        · exact z j hj
      · exact z j hj
end Go.Proofs.YthmcckdoneiglaaGreatDoor
