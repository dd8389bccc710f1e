/- Sum, negative, product and quotient of two words in the document's answer, in every memory. -/
import Derived.Test.YtiddlnmpiaelmaaProg
import Derived.Test.YtiddlnmpiaelmaaSgn
import Derived.WalkKit
import Derived.Outline
import Derived.Lib.Hide
namespace Go.Proofs.Ytiddlnmpiaelmaa
open Go Go.RowKit

theorem cast_wrap (x : Nat) (h : x < 18446744073709551616) : IntKind.u64.wrap (x : Int) = (x : Int) := by
  rw [IntKind.wrap_u64]; omega

theorem bit_at (x i : Nat) (hx : x < 18446744073709551616) : bits .and .u64 ((x : Int) / 2 ^ i) 1 = ((x / 2 ^ i % 2 : Nat) : Int) := by
  have e : ((x : Int) / 2 ^ i) = ((x / 2 ^ i : Nat) : Int) := by push_cast; rfl
  have h := u64_and_nat (x / 2 ^ i) 1 (Nat.lt_of_le_of_lt (Nat.div_le_self ..) hx) (by omega)
  rw [e, show bits .and .u64 ((x / 2 ^ i : Nat) : Int) 1 = ((x / 2 ^ i &&& 1 : Nat) : Int) from h, nat_mask1]

theorem low_bit (x : Nat) (hx : x < 18446744073709551616) : bits .and .u64 (x : Int) 1 = ((x % 2 : Nat) : Int) := by
  have h := u64_and_nat x 1 hx (by omega)
  rw [show bits .and .u64 (x : Int) 1 = ((x &&& 1 : Nat) : Int) from h, nat_mask1]

theorem pow_lt64 (n : Nat) (h : n < 64) : 2 ^ n < 18446744073709551616 := Nat.pow_lt_pow_right (a := 2) (m := n) (n := 64) (by omega) (by omega)
theorem pow_le64 (n : Nat) (h : n ≤ 64) : 2 ^ n ≤ 18446744073709551616 := Nat.pow_le_pow_right (show 2 > 0 by omega) h

theorem bit_up (b k : Nat) (hb : b < 2) (hk : k < 64) : IntKind.u64.wrap ((b : Int) * 2 ^ k) = ((b * 2 ^ k : Nat) : Int) := by
  have h := pow_lt64 k hk
  have e : ((b : Int) * 2 ^ k) = ((b * 2 ^ k : Nat) : Int) := by push_cast; rfl
  rw [e]
  refine cast_wrap _ ?_
  rcases (show b = 0 ∨ b = 1 by omega) with rfl | rfl <;> omega

set_option maxRecDepth 100000 in
set_option maxHeartbeats 1000000 in
theorem add_any (a b : Nat) (ha : a < 18446744073709551616) (hb : b < 18446744073709551616) (w : World) :
    Calls Try.prog 28 #[.int .u64 (a : Int), .int .u64 (b : Int)] w fun e w' => e = .returned (.int .u64 (((a + b) % 18446744073709551616 : Nat) : Int)) ∧ w = w' := by
  obtain ⟨R, hR⟩ : ∃ R, R = (a + b) % 18446744073709551616 := ⟨_, rfl⟩
  rw [← hR]
  have HR := Lib.hid hR
  clear hR
  go_enter Try.func28, Try.ntmps28
  go_wp2
  go_loop [5, 6, 7] (fun s c i => ∃ (k x y : Nat), k ≤ 64 ∧ i = .int .i64 k ∧ s = .int .u64 x ∧ c = .int .u64 y ∧ y ≤ 1 ∧ Hid (x < 2 ^ k ∧ x + 2 ^ k * y = a % 2 ^ k + b % 2 ^ k)) (fun _ _ i => 64 - (intOf i).toNat)
  case atStart => exact ⟨0, 0, 0, by omega, rfl, rfl, rfl, by omega, Lib.hid ⟨by omega, by omega⟩⟩
  case round =>
    obtain ⟨k, x, y, hk, rfl, rfl, rfl, hy, H⟩ := hrel
    by_cases hlt : k < 64
    · go_wp2
      obtain ⟨h1, h2⟩ := H.out
      obtain ⟨z, hz⟩ : ∃ z, z = a / 2 ^ k % 2 + b / 2 ^ k % 2 + y := ⟨_, rfl⟩
      have hz3 : z ≤ 3 := by omega
      obtain ⟨s1, s2, s3⟩ := add_step h1 h2 hz
      have e1 : IntKind.u64.wrap (IntKind.u64.wrap (bits BinOp.and IntKind.u64 ((a : Int) / 2 ^ k) 1 + bits BinOp.and IntKind.u64 ((b : Int) / 2 ^ k) 1) + (y : Int)) = (z : Int) := by
        rw [bit_at a k ha, bit_at b k hb, ← Int.natCast_add, cast_wrap _ (by omega), ← Int.natCast_add, cast_wrap _ (by omega), hz]
      rw [e1, low_bit z (by omega), bit_up _ k (by omega) hlt]
      have hx : x < 18446744073709551616 := Nat.lt_of_lt_of_le h1 (pow_le64 k hk)
      have hy2 : z % 2 * 2 ^ k < 18446744073709551616 := Nat.lt_of_lt_of_le (Nat.lt_of_le_of_lt (Nat.le_add_left _ _) s2) (pow_le64 (k + 1) (by omega))
      rw [bits_or_u64_nat _ _ hx hy2, s1]
      refine ⟨⟨k + 1, _, z / 2, by omega, by go_num, rfl, by go_num, by omega, Lib.hid ⟨s2, s3⟩⟩, by simp [intOf]; omega⟩
    · obtain rfl : k = 64 := by omega
      obtain ⟨h1, h2⟩ := H.out
      have he := Lib.hid ((add_end ha hb h1 h2).trans HR.out.symm)
      clear h1 h2
      go_wp2
      go_ret
      exact ⟨by rw [he.out]; rfl, rfl⟩

set_option maxRecDepth 100000 in
theorem neg_any (a : Nat) (ha : a < 18446744073709551616) (w : World) :
    Calls Try.prog 29 #[.int .u64 (a : Int)] w fun e w' => e = .returned (.int .u64 (negN a : Int)) ∧ w = w' := by
  have e := bits_xor_u64_nat 18446744073709551615 a (by omega) ha
  rw [max_xor a ha] at e
  have h := add_any (18446744073709551615 - a) 1 (by omega) (by omega) w
  rw [show (18446744073709551615 - a + 1) % 18446744073709551616 = negN a from by unfold negN; congr 1; omega, ← e] at h
  go_enter Try.func29, Try.ntmps29
  go_wp2_with (go_at_call 28; refine h.mono ?_; rintro e w' ⟨rfl, rfl⟩)
  go_ret
  exact ⟨rfl, rfl⟩

theorem shl_word (a k : Nat) : IntKind.u64.wrap ((a : Int) * 2 ^ k) = ((a * 2 ^ k % 18446744073709551616 : Nat) : Int) := by
  have e : ((a : Int) * 2 ^ k) = ((a * 2 ^ k : Nat) : Int) := by push_cast; rfl
  rw [e, IntKind.wrap_u64]; omega

set_option maxRecDepth 100000 in
set_option maxHeartbeats 1000000 in
theorem mul_any (a b : Nat) (hb : b < 18446744073709551616) (w : World) :
    Calls Try.prog 30 #[.int .u64 (a : Int), .int .u64 (b : Int)] w fun e w' => e = .returned (.int .u64 ((a * b % 18446744073709551616 : Nat) : Int)) ∧ w = w' := by
  go_enter Try.func30, Try.ntmps30
  go_wp2
  go_loop [5, 6] (fun s i => ∃ (k : Nat), k ≤ 64 ∧ i = .int .i64 k ∧ s = .int .u64 ((a * (b % 2 ^ k) % 18446744073709551616 : Nat) : Int)) (fun _ i => 64 - (intOf i).toNat)
  case atStart => exact ⟨0, by omega, rfl, by simp [Nat.mod_one]⟩
  case round =>
    obtain ⟨k, hk, rfl, rfl⟩ := hrel
    by_cases hlt : k < 64
    · have hs := Lib.hid (mul_step a b k)
      rcases Nat.mod_two_eq_zero_or_one (b / 2 ^ k) with hb0 | hb1
      · have ht : (bits BinOp.and IntKind.u64 ((b : Int) / 2 ^ k) 1 == 1) = false := by rw [bit_at b k hb, hb0]; rfl
        have HB := Lib.hid hb0
        clear hb0
        go_wp2
        refine ⟨⟨k + 1, by omega, by go_num, ?_⟩, by simp [intOf]; omega⟩
        have := hs.out
        simp only [HB.out, Nat.mul_zero, Nat.add_zero, Nat.mod_mod] at this
        rw [this]
      · have ht : (bits BinOp.and IntKind.u64 ((b : Int) / 2 ^ k) 1 == 1) = true := by rw [bit_at b k hb, hb1]; rfl
        have HB := Lib.hid hb1
        clear hb1
        have hc := add_any (a * (b % 2 ^ k) % 18446744073709551616) (a * 2 ^ k % 18446744073709551616) (Nat.mod_lt _ (by omega)) (Nat.mod_lt _ (by omega)) w
        have he := hs.out
        rw [HB.out, Nat.mul_one] at he
        rw [← he, ← shl_word] at hc
        clear he
        go_wp2_with (go_at_call 28; refine hc.mono ?_; rintro e w' ⟨rfl, rfl⟩)
        exact ⟨⟨k + 1, by omega, by go_num, rfl⟩, by simp [intOf]; omega⟩
    · obtain rfl : k = 64 := by omega
      have e : b % 2 ^ 64 = b := Nat.mod_eq_of_lt hb
      rw [e]
      clear e
      go_wp2
      go_ret
      exact ⟨rfl, rfl⟩
end Go.Proofs.Ytiddlnmpiaelmaa
