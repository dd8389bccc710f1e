/- Plain facts: what strconv.ParseInt's plain account says of a text of digits. -/
import Derived.Lib.ParseIntBCases
import Derived.Test.YtnmcjkabihihiaaDoorV
namespace Go.Proofs.YtnmcjkabihihiaaDoor
open Go

theorem foldl_bl (l : List UInt8) (acc : Nat) : (l.map UInt8.toNat).foldl (fun n d => 10 * n + (d - 48)) acc = l.foldl (fun n c => 10 * n + (c.toNat - 48)) acc := by
  rw [List.foldl_map]
theorem foldl_ge8 (l : List UInt8) (n : Nat) : n ≤ l.foldl (fun n c => 10 * n + (c.toNat - 48)) n := by
  rw [← foldl_bl]; exact foldl_ge _ _

theorem parseM_digits : ∀ (l : List UInt8) (acc : Nat), (∀ c ∈ l, 48 ≤ c.toNat ∧ c.toNat ≤ 57) → acc ≤ 18446744073709551615 →
    Lib.parseUintM 18446744073709551615 acc l = if l.foldl (fun n c => 10 * n + (c.toNat - 48)) acc ≤ 18446744073709551615 then .ok (l.foldl (fun n c => 10 * n + (c.toNat - 48)) acc) else .range
  | [], acc, _, h => by rw [Lib.parseUintM, List.foldl_nil, if_pos h]
  | c :: r, acc, hd, h => by
    have hc := hd c (List.mem_cons_self ..)
    have hg := foldl_ge8 r (10 * acc + (c.toNat - 48))
    rw [Lib.parseUintM, if_pos hc, List.foldl_cons]
    by_cases h1 : 1844674407370955162 ≤ acc
    · rw [if_pos h1, if_neg (by omega)]
    · rw [if_neg h1]
      by_cases h2 : 18446744073709551615 < acc * 10 + (c.toNat - 48)
      · rw [if_pos h2, if_neg (by omega)]
      · rw [if_neg h2, Nat.mul_comm acc 10, parseM_digits r _ (fun x hx => hd x (List.mem_cons_of_mem _ hx)) (by omega)]

theorem parse_digits (l : List UInt8) (h0 : l ≠ []) (hd : ∀ x ∈ l.map UInt8.toNat, digitB x = true) :
    Lib.parseIntB 64 l = if valD (l.map UInt8.toNat) ≤ most then .ok (valD (l.map UInt8.toNat) : Nat) else .range := by
  have hd' : ∀ c ∈ l, 48 ≤ c.toNat ∧ c.toNat ≤ 57 := fun c hc => digit_range (hd _ (List.mem_map_of_mem hc))
  have hm := parseM_digits l 0 hd' (by omega)
  rw [← foldl_bl] at hm
  change _ = if valD (l.map UInt8.toNat) ≤ _ then Lib.NumEnd.ok (valD (l.map UInt8.toNat)) else _ at hm
  cases l with
  | nil => exact absurd rfl h0
  | cons c r =>
    have hc := hd' c (List.mem_cons_self ..)
    rw [Lib.parseIntB]
    simp only [show ¬ c.toNat = 43 by omega, show ¬ c.toNat = 45 by omega, or_false, if_false, not_false_eq_true, true_and, false_and]
    rw [Lib.parseUintB, if_neg (by simp), show (2 ^ 64 - 1 : Nat) = 18446744073709551615 by decide, hm]
    generalize valD ((c :: r).map UInt8.toNat) = V
    by_cases h1 : V ≤ 18446744073709551615
    · rw [if_pos h1]
      by_cases h2 : V ≤ most
      · simp only [if_pos h2, show ¬ 2 ^ (64 - 1) ≤ V by simp only [most] at h2; omega, if_false]
      · simp only [if_neg h2, show 2 ^ (64 - 1) ≤ V by simp only [most] at h2; omega, if_true]
    · rw [if_neg h1, if_neg (by simp only [most]; omega)]
end Go.Proofs.YtnmcjkabihihiaaDoor
