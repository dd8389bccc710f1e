/- Quotient and remainder of two words in the document's answer, and of two signed numbers, in every memory. -/
import Derived.Test.YtiddlnmpiaelmaaRef
namespace Go.Proofs.Ytiddlnmpiaelmaa
open Go Go.RowKit

theorem shl_or_bit (r c : Nat) (hc : c < 2) : bits .or .u64 (IntKind.u64.wrap ((r : Int) * 2)) (c : Int) = (((2 * r + c) % 18446744073709551616 : Nat) : Int) := by
  have e : IntKind.u64.wrap ((r : Int) * 2) = ((r * 2 % 18446744073709551616 : Nat) : Int) := by rw [IntKind.wrap_u64]; omega
  rw [e, bits_or_u64_nat _ _ (Nat.mod_lt _ (by omega)) (by omega), nat_join 1 _ _ (by omega) (by omega)]
  congr 1
  omega

theorem top_bit (r : Nat) (hr : r < 18446744073709551616) : ((r : Int) / 9223372036854775808 == 1) = decide (9223372036854775808 ≤ r) := by
  rw [Bool.eq_iff_iff, beq_iff_eq, decide_eq_true_eq]; omega

theorem or_pow (q m i : Nat) (h : q = m * 2 ^ (i + 1)) : q ||| 2 ^ i = q + 2 ^ i :=
  nat_join (i + 1) q _ (by rw [h]; exact Nat.mul_mod_left ..) (by rw [Nat.pow_succ]; have := Nat.two_pow_pos i; omega)

theorem pow_wrap (n : Nat) (h : n < 64) : IntKind.u64.wrap ((2 : Int) ^ n) = ((2 ^ n : Nat) : Int) := by
  have : ((2 : Int) ^ n) = ((2 ^ n : Nat) : Int) := by push_cast; rfl
  rw [this]
  exact cast_wrap _ (pow_lt64 n h)

theorem or_top {x i m a b : Nat} (hi : i < 64) (ha : a < 18446744073709551616) (h1 : x = m * 2 ^ (i + 1)) (h2 : x + 2 ^ i = a / 2 ^ i / b * 2 ^ i) :
    bits .or .u64 (x : Int) (IntKind.u64.wrap (2 ^ i)) = ((x + 2 ^ i : Nat) : Int) := by
  have h3 : a / 2 ^ i / b * 2 ^ i ≤ a := Nat.le_trans (Nat.mul_le_mul_right _ (Nat.div_le_self _ _)) (Nat.div_mul_le_self _ _)
  have h4 : x < 18446744073709551616 := Nat.lt_of_le_of_lt (Nat.le_trans (Nat.le_add_right x (2 ^ i)) (h2 ▸ h3)) ha
  rw [pow_wrap i hi, bits_or_u64_nat _ _ h4 (pow_lt64 i hi), or_pow x m i h1]

set_option maxRecDepth 100000 in
set_option maxHeartbeats 2000000 in
theorem div_any (a b : Nat) (ha : a < 18446744073709551616) (hb0 : 0 < b) (hb : b < 18446744073709551616) (w : World) :
    Calls Try.prog 33 #[.int .u64 (a : Int), .int .u64 (b : Int)] w fun e w' => e = .returned (.tuple #[.int .u64 ((a / b : Nat) : Int), .int .u64 ((a % b : Nat) : Int)]) ∧ w = w' := by
  obtain ⟨Q, hQ⟩ : ∃ Q, Q = a / b := ⟨_, rfl⟩
  obtain ⟨R, hR⟩ : ∃ R, R = a % b := ⟨_, rfl⟩
  rw [← hQ, ← hR]
  have HQ := Lib.hid hQ
  have HR := Lib.hid hR
  clear hQ hR
  go_enter Try.func33, Try.ntmps33
  go_wp2
  go_loop [6, 7, 8] (fun q r i => ∃ (k x y : Nat), k ≤ 64 ∧ i = .int .i64 ((k : Int) - 1) ∧ q = .int .u64 x ∧ r = .int .u64 y ∧ y < b ∧ Hid (x = a / 2 ^ k / b * 2 ^ k ∧ y = a / 2 ^ k % b)) (fun _ _ i => ((intOf i) + 1).toNat)
  case atStart => exact ⟨64, 0, 0, by omega, rfl, rfl, rfl, hb0, Lib.hid ⟨by rw [Nat.div_eq_of_lt ha]; simp, by rw [Nat.div_eq_of_lt ha]; simp⟩⟩
  case round =>
    obtain ⟨k, x, y, hk, rfl, rfl, rfl, hy, H⟩ := hrel
    by_cases hlt : k = 0
    · subst hlt
      have e1 : x = Q := by have := H.out.1; simp at this; rw [this, HQ.out]
      have e2 : y = R := by have := H.out.2; simp at this; rw [this, HR.out]
      subst e1 e2
      clear H HQ HR
      go_wp2
      go_ret2
      exact ⟨rfl, rfl⟩
    · obtain ⟨i, rfl⟩ : ∃ i, k = i + 1 := ⟨k - 1, by omega⟩
      have hi : i < 64 := by omega
      have ei : (((i + 1 : Nat) : Int) - 1) = (i : Int) := by omega
      have e2i : ((i : Int) - 1) = (i : Int) - 1 := rfl
      rw [ei]
      obtain ⟨s1, s2⟩ := div_step hb0 H.out.1 H.out.2
      have hy64 : y < 18446744073709551616 := by omega
      have hbit := bit_at a i ha
      obtain ⟨c, hc⟩ : ∃ c, a / 2 ^ i % 2 = c := ⟨_, rfl⟩
      have hc2 : c < 2 := by omega
      rw [hc] at hbit s1 s2
      have hsh := shl_or_bit y c hc2
      rw [← hbit] at hsh
      have htop := top_bit y hy64
      have e63 : IntKind.u64.wrap ((y : Int) * 2) = (y : Int) * 2 ∨ 9223372036854775808 ≤ y := by
        rw [IntKind.wrap_u64]; omega
      by_cases hle : b ≤ 2 * y + c
      · obtain ⟨q1, q2, q3⟩ := s2 hle
        have H1 := Lib.hid q1
        have H2 := Lib.hid q2
        have H3 := Lib.hid q3
        have HX := Lib.hid H.out.1
        by_cases ho : 9223372036854775808 ≤ y
        · have t1 : ((y : Int) / 9223372036854775808 == 1) = true := by rw [htop]; simp; omega
          have em : (2 * y + c) % 18446744073709551616 = 2 * y + c - 18446744073709551616 := by omega
          rw [em] at hsh
          have HS := Lib.hid hsh
          clear htop hsh hbit hc q1 q2 q3 s1 s2 em H e63
          go_wp2
          rw [HS.out, or_top hi ha HX.out H1.out]
          have hx3 := H3.out
          refine ⟨⟨i, _, 2 * y + c - b, by omega, by go_num, rfl, ?_, hx3, Lib.hid ⟨H1.out, H2.out⟩⟩, by simp [intOf]⟩
          congr 1
          rw [IntKind.wrap_u64]; omega
        · have t1 : ((y : Int) / 9223372036854775808 == 1) = false := by rw [htop]; simp; omega
          have em : (2 * y + c) % 18446744073709551616 = 2 * y + c := Nat.mod_eq_of_lt (by omega)
          rw [em, e63.resolve_right ho] at hsh
          have t2 : (b : Int) ≤ bits .or .u64 ((y : Int) * 2) (bits .and .u64 ((a : Int) / 2 ^ i) 1) := by rw [hsh]; omega
          have HS := Lib.hid hsh
          clear htop hsh hbit hc q1 q2 q3 s1 s2 em H e63
          go_wp2
          rw [HS.out, or_top hi ha HX.out H1.out]
          have hx3 := H3.out
          refine ⟨⟨i, _, 2 * y + c - b, by omega, by go_num, rfl, ?_, hx3, Lib.hid ⟨H1.out, H2.out⟩⟩, by simp [intOf]⟩
          congr 1
          try rw [IntKind.wrap_u64]
          omega
      · obtain ⟨q1, q2⟩ := s1 hle
        have t1 : ((y : Int) / 9223372036854775808 == 1) = false := by rw [htop]; simp; omega
        have em : (2 * y + c) % 18446744073709551616 = 2 * y + c := Nat.mod_eq_of_lt (by omega)
        rw [em, e63.resolve_right (by omega)] at hsh
        have t2 : bits .or .u64 ((y : Int) * 2) (bits .and .u64 ((a : Int) / 2 ^ i) 1) < (b : Int) := by rw [hsh]; omega
        have HS := Lib.hid hsh
        clear htop hsh hbit hc
        have H1 := Lib.hid q1
        have H2 := Lib.hid q2
        clear q1 q2 s1 s2 em H e63
        go_wp2
        refine ⟨⟨i, x, _, by omega, by go_num, rfl, by rw [HS.out], by omega, Lib.hid ⟨H1.out, H2.out⟩⟩, by simp [intOf]⟩
end Go.Proofs.Ytiddlnmpiaelmaa
