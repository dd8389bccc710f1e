/- Plain facts on words of 64 bits and signed numbers: what the operations come to. -/
import Derived.Test.YtiddlnmpiaelmaaNum
namespace Go.Proofs.Ytiddlnmpiaelmaa
open Go Go.RowKit

def negN (x : Nat) : Nat := (18446744073709551616 - x) % 18446744073709551616
theorem negN_lt (x : Nat) : negN x < 18446744073709551616 := Nat.mod_lt _ (by omega)

theorem xor_max (x : Nat) (hx : x < 18446744073709551616) : x ^^^ 18446744073709551615 = 18446744073709551615 - x := by
  have h := BitVec.toNat_not (x := BitVec.ofNat 64 x)
  rw [← BitVec.xor_allOnes, BitVec.toNat_xor, BitVec.toNat_allOnes, BitVec.toNat_ofNat, Nat.mod_eq_of_lt hx] at h
  exact h

theorem max_xor (x : Nat) (hx : x < 18446744073709551616) : 18446744073709551615 ^^^ x = 18446744073709551615 - x := by rw [Nat.xor_comm]; exact xor_max x hx

/-- A number without its sign. -/
theorem abs_pos {a : Int} (h0 : ¬ a < 0) (h : a < 9223372036854775808) : U a = a.natAbs := by unfold U; omega
theorem abs_neg {a : Int} (h0 : a < 0) (h : -9223372036854775808 ≤ a) : negN (U a) = a.natAbs := by unfold U negN; omega

theorem tdiv_cases (a b : Int) : a.tdiv b = (if (a < 0) = (b < 0) then ((a.natAbs / b.natAbs : Nat) : Int) else -((a.natAbs / b.natAbs : Nat) : Int)) := by
  rcases Int.natAbs_eq a with ha | ha <;> rcases Int.natAbs_eq b with hb | hb
  · have h1 : ¬ a < 0 := by omega
    have h2 : ¬ b < 0 := by omega
    rw [if_pos (by simp [h1, h2])]
    conv => lhs; rw [ha, hb]
    rfl
  · by_cases hz : b.natAbs = 0
    · have : b = 0 := by omega
      subst this
      simp
    · have h1 : ¬ a < 0 := by omega
      have h2 : b < 0 := by omega
      rw [if_neg (by simp [h1, h2])]
      conv => lhs; rw [ha, hb]
      rw [Int.tdiv_neg]
      rfl
  · by_cases hz : a.natAbs = 0
    · have : a = 0 := by omega
      subst this
      simp
    · have h1 : a < 0 := by omega
      have h2 : ¬ b < 0 := by omega
      rw [if_neg (by simp [h1, h2])]
      conv => lhs; rw [ha, hb]
      rw [Int.neg_tdiv]
      rfl
  · by_cases hz : a.natAbs = 0
    · have : a = 0 := by omega
      subst this
      simp
    by_cases hz : b.natAbs = 0
    · have : b = 0 := by omega
      subst this
      simp
    have h1 : a < 0 := by omega
    have h2 : b < 0 := by omega
    rw [if_pos (by simp [h1, h2])]
    conv => lhs; rw [ha, hb]
    rw [Int.neg_tdiv, Int.tdiv_neg, Int.neg_neg]
    rfl

theorem tmod_cases (a b : Int) : a.tmod b = (if a < 0 then -((a.natAbs % b.natAbs : Nat) : Int) else ((a.natAbs % b.natAbs : Nat) : Int)) := by
  have hn := Int.natAbs_tmod a b
  have hs : a.tmod b = 0 ∨ (0 ≤ a ↔ 0 ≤ a.tmod b) := by
    by_cases h : 0 ≤ a
    · exact .inr ⟨fun _ => Int.tmod_nonneg b h, fun _ => h⟩
    · by_cases hz : a.tmod b = 0
      · exact .inl hz
      · refine .inr ⟨fun h' => absurd h' h, fun h' => ?_⟩
        have := Int.tmod_nonneg b (a := -a) (by omega)
        rw [Int.neg_tmod] at this
        omega
  split <;> omega

theorem ofInt_U (a : Int) : (BitVec.ofInt 64 a).toNat = U a := by
  rw [BitVec.toNat_ofInt]; rfl

theorem and_i64 (a b : Int) : bits .and .i64 a b = wrap64 ((U a &&& U b : Nat) : Int) := by
  show IntKind.i64.wrap ((BitVec.ofInt 64 a &&& BitVec.ofInt 64 b).toNat : Int) = _
  rw [wrap_i64]
  rw [BitVec.toNat_and, ofInt_U, ofInt_U]
theorem or_i64 (a b : Int) : bits .or .i64 a b = wrap64 ((U a ||| U b : Nat) : Int) := by
  show IntKind.i64.wrap ((BitVec.ofInt 64 a ||| BitVec.ofInt 64 b).toNat : Int) = _
  rw [wrap_i64]
  rw [BitVec.toNat_or, ofInt_U, ofInt_U]
theorem xor_i64 (a b : Int) : bits .xor .i64 a b = wrap64 ((U a ^^^ U b : Nat) : Int) := by
  show IntKind.i64.wrap ((BitVec.ofInt 64 a ^^^ BitVec.ofInt 64 b).toNat : Int) = _
  rw [wrap_i64]
  rw [BitVec.toNat_xor, ofInt_U, ofInt_U]

theorem U_id (x : Nat) (h : x < 18446744073709551616) : U (x : Int) = x := by unfold U; omega
theorem U_wrap (a : Int) : U (wrap64 a) = U a := by unfold U; rw [wrap_emod]

theorem not_i64 {a : Int} (h1 : -9223372036854775808 ≤ a) (h2 : a < 9223372036854775808) : bits .xor .i64 (-1) a = -a - 1 := by
  rw [xor_i64, show U (-1) = 18446744073709551615 from by decide, max_xor _ (U_lt a)]
  have := U_lt a
  have h := U_cast a
  unfold wrap64
  omega

theorem mask_places (b : Int) : bits .and .u64 ((U b : Nat) : Int) 63 = ((U b % 64 : Nat) : Int) := by
  have h := u64_and_nat (U b) 63 (U_lt b) (by omega)
  rw [show ((63 : Nat) : Int) = 63 from rfl] at h
  rw [h, nat_mask6]

/-- What an operation of two numbers answers. -/
def binV (op a b : Int) : Int :=
  if op = 1 then wrap64 (a + b) else if op = 2 then wrap64 (a - b) else if op = 3 then wrap64 (a * b)
  else if op = 4 then (if b = 0 then 0 else wrap64 (a.tdiv b)) else if op = 5 then (if b = 0 then 0 else a.tmod b)
  else if op = 6 then wrap64 ((U a &&& U b : Nat) : Int) else if op = 7 then wrap64 ((U a ||| U b : Nat) : Int) else if op = 8 then wrap64 ((U a ^^^ U b : Nat) : Int)
  else if op = 9 then wrap64 (a * 2 ^ (U b % 64)) else if op = 10 then wrap64 ((U a / 2 ^ (U b % 64) : Nat) : Int)
  else if op = 11 then (if a = b then 1 else 0) else if op = 12 then (if a = b then 0 else 1) else if op = 13 then (if a < b then 1 else 0) else if op = 14 then (if a ≤ b then 1 else 0)
  else 0
def binO (op : Int) : Bool := decide (1 ≤ op) && decide (op ≤ 14)

/-- What an operation of one number answers. -/
def unV (op a : Int) : Int :=
  if op = 15 then wrap64 (0 - a) else if op = 16 then (if a = 0 then 1 else 0) else if op = 17 then -a - 1 else 0
def unO (op : Int) : Bool := decide (15 ≤ op) && decide (op ≤ 17)

theorem op_cases (op : Int) : op = 1 ∨ op = 2 ∨ op = 3 ∨ op = 4 ∨ op = 5 ∨ op = 6 ∨ op = 7 ∨ op = 8 ∨ op = 9 ∨ op = 10 ∨ op = 11 ∨ op = 12 ∨ op = 13 ∨ op = 14 ∨ (op < 1 ∨ 14 < op) := by omega
theorem un_cases (op : Int) : op = 15 ∨ op = 16 ∨ op = 17 ∨ (op < 15 ∨ 17 < op) := by omega
theorem binV_none {op : Int} (h : op < 1 ∨ 14 < op) (a b : Int) : binV op a b = 0 := by
  unfold binV
  repeat rw [if_neg (by omega)]
theorem binO_none {op : Int} (h : op < 1 ∨ 14 < op) : binO op = false := by
  unfold binO
  rcases h with h | h
  · rw [decide_eq_false (by omega)]; rfl
  · rw [decide_eq_false (p := op ≤ 14) (by omega), Bool.and_false]
theorem unV_none {op : Int} (h : op < 15 ∨ 17 < op) (a : Int) : unV op a = 0 := by
  unfold unV
  repeat rw [if_neg (by omega)]
theorem unO_none {op : Int} (h : op < 15 ∨ 17 < op) : unO op = false := by
  unfold unO
  rcases h with h | h
  · rw [decide_eq_false (by omega)]; rfl
  · rw [decide_eq_false (p := op ≤ 17) (by omega), Bool.and_false]

theorem binV_1 (a b : Int) : binV 1 a b = (wrap64 (a + b)) := by
  unfold binV
  rw [if_pos rfl]
theorem binV_2 (a b : Int) : binV 2 a b = (wrap64 (a - b)) := by
  unfold binV
  rw [if_neg (by decide)]
  rw [if_pos rfl]
theorem binV_3 (a b : Int) : binV 3 a b = (wrap64 (a * b)) := by
  unfold binV
  rw [if_neg (by decide)]
  rw [if_neg (by decide)]
  rw [if_pos rfl]
theorem binV_4 (a b : Int) : binV 4 a b = (if b = 0 then 0 else wrap64 (a.tdiv b)) := by
  unfold binV
  rw [if_neg (by decide)]
  rw [if_neg (by decide)]
  rw [if_neg (by decide)]
  rw [if_pos rfl]
theorem binV_5 (a b : Int) : binV 5 a b = (if b = 0 then 0 else a.tmod b) := by
  unfold binV
  rw [if_neg (by decide)]
  rw [if_neg (by decide)]
  rw [if_neg (by decide)]
  rw [if_neg (by decide)]
  rw [if_pos rfl]
theorem binV_6 (a b : Int) : binV 6 a b = (wrap64 ((U a &&& U b : Nat) : Int)) := by
  unfold binV
  rw [if_neg (by decide)]
  rw [if_neg (by decide)]
  rw [if_neg (by decide)]
  rw [if_neg (by decide)]
  rw [if_neg (by decide)]
  rw [if_pos rfl]
theorem binV_7 (a b : Int) : binV 7 a b = (wrap64 ((U a ||| U b : Nat) : Int)) := by
  unfold binV
  rw [if_neg (by decide)]
  rw [if_neg (by decide)]
  rw [if_neg (by decide)]
  rw [if_neg (by decide)]
  rw [if_neg (by decide)]
  rw [if_neg (by decide)]
  rw [if_pos rfl]
theorem binV_8 (a b : Int) : binV 8 a b = (wrap64 ((U a ^^^ U b : Nat) : Int)) := by
  unfold binV
  rw [if_neg (by decide)]
  rw [if_neg (by decide)]
  rw [if_neg (by decide)]
  rw [if_neg (by decide)]
  rw [if_neg (by decide)]
  rw [if_neg (by decide)]
  rw [if_neg (by decide)]
  rw [if_pos rfl]
theorem binV_9 (a b : Int) : binV 9 a b = (wrap64 (a * 2 ^ (U b % 64))) := by
  unfold binV
  rw [if_neg (by decide)]
  rw [if_neg (by decide)]
  rw [if_neg (by decide)]
  rw [if_neg (by decide)]
  rw [if_neg (by decide)]
  rw [if_neg (by decide)]
  rw [if_neg (by decide)]
  rw [if_neg (by decide)]
  rw [if_pos rfl]
theorem binV_10 (a b : Int) : binV 10 a b = (wrap64 ((U a / 2 ^ (U b % 64) : Nat) : Int)) := by
  unfold binV
  rw [if_neg (by decide)]
  rw [if_neg (by decide)]
  rw [if_neg (by decide)]
  rw [if_neg (by decide)]
  rw [if_neg (by decide)]
  rw [if_neg (by decide)]
  rw [if_neg (by decide)]
  rw [if_neg (by decide)]
  rw [if_neg (by decide)]
  rw [if_pos rfl]
theorem binV_11 (a b : Int) : binV 11 a b = (if a = b then 1 else 0) := by
  unfold binV
  rw [if_neg (by decide)]
  rw [if_neg (by decide)]
  rw [if_neg (by decide)]
  rw [if_neg (by decide)]
  rw [if_neg (by decide)]
  rw [if_neg (by decide)]
  rw [if_neg (by decide)]
  rw [if_neg (by decide)]
  rw [if_neg (by decide)]
  rw [if_neg (by decide)]
  rw [if_pos rfl]
theorem binV_12 (a b : Int) : binV 12 a b = (if a = b then 0 else 1) := by
  unfold binV
  rw [if_neg (by decide)]
  rw [if_neg (by decide)]
  rw [if_neg (by decide)]
  rw [if_neg (by decide)]
  rw [if_neg (by decide)]
  rw [if_neg (by decide)]
  rw [if_neg (by decide)]
  rw [if_neg (by decide)]
  rw [if_neg (by decide)]
  rw [if_neg (by decide)]
  rw [if_neg (by decide)]
  rw [if_pos rfl]
theorem binV_13 (a b : Int) : binV 13 a b = (if a < b then 1 else 0) := by
  unfold binV
  rw [if_neg (by decide)]
  rw [if_neg (by decide)]
  rw [if_neg (by decide)]
  rw [if_neg (by decide)]
  rw [if_neg (by decide)]
  rw [if_neg (by decide)]
  rw [if_neg (by decide)]
  rw [if_neg (by decide)]
  rw [if_neg (by decide)]
  rw [if_neg (by decide)]
  rw [if_neg (by decide)]
  rw [if_neg (by decide)]
  rw [if_pos rfl]
theorem binV_14 (a b : Int) : binV 14 a b = (if a ≤ b then 1 else 0) := by
  unfold binV
  rw [if_neg (by decide)]
  rw [if_neg (by decide)]
  rw [if_neg (by decide)]
  rw [if_neg (by decide)]
  rw [if_neg (by decide)]
  rw [if_neg (by decide)]
  rw [if_neg (by decide)]
  rw [if_neg (by decide)]
  rw [if_neg (by decide)]
  rw [if_neg (by decide)]
  rw [if_neg (by decide)]
  rw [if_neg (by decide)]
  rw [if_neg (by decide)]
  rw [if_pos rfl]
theorem binO_1 : binO 1 = true := by decide
theorem binO_2 : binO 2 = true := by decide
theorem binO_3 : binO 3 = true := by decide
theorem binO_4 : binO 4 = true := by decide
theorem binO_5 : binO 5 = true := by decide
theorem binO_6 : binO 6 = true := by decide
theorem binO_7 : binO 7 = true := by decide
theorem binO_8 : binO 8 = true := by decide
theorem binO_9 : binO 9 = true := by decide
theorem binO_10 : binO 10 = true := by decide
theorem binO_11 : binO 11 = true := by decide
theorem binO_12 : binO 12 = true := by decide
theorem binO_13 : binO 13 = true := by decide
theorem binO_14 : binO 14 = true := by decide
theorem unV_15 (a : Int) : unV 15 a = wrap64 (0 - a) := by unfold unV; rw [if_pos rfl]
theorem unV_16 (a : Int) : unV 16 a = (if a = 0 then 1 else 0) := by unfold unV; rw [if_neg (by decide), if_pos rfl]
theorem unV_17 (a : Int) : unV 17 a = -a - 1 := by unfold unV; rw [if_neg (by decide), if_neg (by decide), if_pos rfl]
theorem unO_15 : unO 15 = true := by decide
theorem unO_16 : unO 16 = true := by decide
theorem unO_17 : unO 17 = true := by decide
end Go.Proofs.Ytiddlnmpiaelmaa
