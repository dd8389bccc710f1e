/- Join, Of, Meet, Minus and Within of the document's answer, in every memory. -/
import Derived.Test.YthmcckdoneiglaaGreatDoorRefN
namespace Go.Proofs.YthmcckdoneiglaaGreatDoor
open Go Go.RowKit

theorem mod_bit (x k : Nat) : x % 2 ^ (k + 1) = x % 2 ^ k ||| (if x.testBit k then 2 ^ k else 0) := by
  apply Nat.eq_of_testBit_eq
  intro i
  rw [Nat.testBit_or, Nat.testBit_mod_two_pow, Nat.testBit_mod_two_pow]
  by_cases hi : i = k
  · subst hi
    cases h : x.testBit i with
    | true => simp
    | false => simp
  · have : (if x.testBit k then 2 ^ k else 0 : Nat).testBit i = false := by
      split
      · rw [Nat.testBit_two_pow]; simp; omega
      · simp
    rw [this, Bool.or_false]
    congr 1
    rw [decide_eq_decide]; omega

theorem mod_lt64 (x k : Nat) (hk : k ≤ 64) : x % 2 ^ k < 18446744073709551616 :=
  Nat.lt_of_lt_of_le (Nat.mod_lt _ (Nat.two_pow_pos k)) (show 2 ^ k ≤ 2 ^ 64 from Nat.pow_le_pow_right (by omega) hk)
theorem mod_all {x : Nat} (hx : x < 18446744073709551616) : x % 2 ^ 64 = x := Nat.mod_eq_of_lt hx

theorem testBit_minus (a b i : Nat) (hi : i < 64) : (minusN a b).testBit i = (a.testBit i && !b.testBit i) := by
  unfold minusN
  rw [Nat.testBit_and, Nat.testBit_xor]
  have : (18446744073709551615 : Nat).testBit i = true := by
    have h := Nat.testBit_two_pow_sub_one 64 i
    rw [show (2 ^ 64 - 1 : Nat) = 18446744073709551615 from rfl] at h
    rw [h]; simpa using hi
  rw [this]
  simp

theorem minus_lt' {a b : Nat} (ha : a < 18446744073709551616) : minusN a b < 18446744073709551616 := by
  have := @Nat.and_le_left a (b ^^^ 18446744073709551615)
  unfold minusN; omega

set_option maxRecDepth 100000 in
set_option maxHeartbeats 1000000 in
theorem refmeet_any (a b : Nat) (ha : a < 18446744073709551616) (hb : b < 18446744073709551616) (w : World) :
    Calls Tryz.prog 15 #[.int .u64 (a : Int), .int .u64 (b : Int)] w fun e w' => e = .returned (.int .u64 ((a &&& b : Nat) : Int)) ∧ w = w' := by
  obtain ⟨N, hN⟩ : ∃ N, a &&& b = N := ⟨_, rfl⟩
  have hNl : N < 18446744073709551616 := by rw [← hN]; exact Nat.lt_of_le_of_lt Nat.and_le_left ha
  have hbit : ∀ k, k < 64 → N.testBit k = (a.testBit k && b.testBit k) := fun k hk => by rw [← hN]; exact Nat.testBit_and ..
  rw [hN]
  clear hN
  have HB := Lib.hid hbit
  clear hbit
  go_enter Tryz.func15, Tryz.ntmps15
  go_wp2
  go_loop [5, 6] (fun c i => ∃ k M : Nat, k ≤ 64 ∧ i = .int .i64 k ∧ c = .int .u64 (M : Int) ∧ M < 18446744073709551616 ∧ Hid (M = N % 2 ^ k)) (fun _ i => 64 - (intOf i).toNat)
  case atStart => exact ⟨0, 0, by omega, rfl, rfl, by omega, Lib.hid (by simp [Nat.mod_one])⟩
  case round =>
    obtain ⟨k, M, hk, rfl, rfl, hM, HMM⟩ := hrel
    by_cases hlt : k < 64
    · have h1 := has_any a k ha hlt w
      have h2 := has_any b k hb hlt w
      have hn := HB.out k hlt
      have hm := mod_bit N k
      have hor := Lib.hid (bits_or_u64_nat _ _ hM (pow_lt64 k hlt))
      have hpw := Lib.hid (pow_wrap k hlt)
      have hki : (k : Int) < 64 := by omega
      cases h3 : a.testBit k with
      | false =>
        rw [h3] at h1 hn
        rw [Bool.false_and] at hn
        rw [show N.testBit k = false from hn] at hm
        have HM := Lib.hid hm
        clear hm hn h3
        go_wp2_with fail
        refine h1.mono ?_
        rintro e w' ⟨rfl, rfl⟩
        go_wp2_with fail
        exact ⟨⟨k + 1, M, by omega, by go_num, rfl, hM, Lib.hid (by rw [HMM.out, HM.out]; simp)⟩, by simp [intOf]; omega⟩
      | true =>
        cases h4 : b.testBit k with
        | false =>
          rw [h3] at h1 hn
          rw [h4] at h2 hn
          rw [show N.testBit k = false from hn] at hm
          have HM := Lib.hid hm
          clear hm hn h3
          go_wp2_with fail
          refine h1.mono ?_
          rintro e w' ⟨rfl, rfl⟩
          go_wp2_with fail
          refine h2.mono ?_
          rintro e w' ⟨rfl, rfl⟩
          go_wp2_with fail
          exact ⟨⟨k + 1, M, by omega, by go_num, rfl, hM, Lib.hid (by rw [HMM.out, HM.out]; simp)⟩, by simp [intOf]; omega⟩
        | true =>
          rw [h3] at h1 hn
          rw [h4] at h2 hn
          rw [show N.testBit k = true from hn] at hm
          have HM := Lib.hid hm
          clear hm hn h3
          go_wp2_with fail
          refine h1.mono ?_
          rintro e w' ⟨rfl, rfl⟩
          go_wp2_with fail
          refine h2.mono ?_
          rintro e w' ⟨rfl, rfl⟩
          go_wp2_with fail
          rw [hpw.out, hor.out]
          exact ⟨⟨k + 1, M ||| 2 ^ k, by omega, by go_num, rfl, or_lt hM (pow_lt64 k hlt), Lib.hid (by rw [HMM.out, HM.out]; simp)⟩, by simp [intOf]; omega⟩
    · obtain rfl : k = 64 := by omega
      obtain rfl : M = N := by rw [HMM.out, mod_all hNl]
      go_wp2
      go_ret
      exact ⟨rfl, rfl⟩

set_option maxRecDepth 100000 in
set_option maxHeartbeats 1000000 in
theorem refminus_any (a b : Nat) (ha : a < 18446744073709551616) (hb : b < 18446744073709551616) (w : World) :
    Calls Tryz.prog 17 #[.int .u64 (a : Int), .int .u64 (b : Int)] w fun e w' => e = .returned (.int .u64 ((minusN a b : Nat) : Int)) ∧ w = w' := by
  obtain ⟨N, hN⟩ : ∃ N, minusN a b = N := ⟨_, rfl⟩
  have hNl : N < 18446744073709551616 := by rw [← hN]; exact (minus_lt' ha)
  have hbit : ∀ k, k < 64 → N.testBit k = (a.testBit k && !b.testBit k) := fun k hk => by rw [← hN]; exact testBit_minus a b k hk
  rw [hN]
  clear hN
  have HB := Lib.hid hbit
  clear hbit
  go_enter Tryz.func17, Tryz.ntmps17
  go_wp2
  go_loop [5, 6] (fun c i => ∃ k M : Nat, k ≤ 64 ∧ i = .int .i64 k ∧ c = .int .u64 (M : Int) ∧ M < 18446744073709551616 ∧ Hid (M = N % 2 ^ k)) (fun _ i => 64 - (intOf i).toNat)
  case atStart => exact ⟨0, 0, by omega, rfl, rfl, by omega, Lib.hid (by simp [Nat.mod_one])⟩
  case round =>
    obtain ⟨k, M, hk, rfl, rfl, hM, HMM⟩ := hrel
    by_cases hlt : k < 64
    · have h1 := has_any a k ha hlt w
      have h2 := has_any b k hb hlt w
      have hn := HB.out k hlt
      have hm := mod_bit N k
      have hor := Lib.hid (bits_or_u64_nat _ _ hM (pow_lt64 k hlt))
      have hpw := Lib.hid (pow_wrap k hlt)
      have hki : (k : Int) < 64 := by omega
      cases h3 : a.testBit k with
      | false =>
        rw [h3] at h1 hn
        rw [Bool.false_and] at hn
        rw [show N.testBit k = false from hn] at hm
        have HM := Lib.hid hm
        clear hm hn h3
        go_wp2_with fail
        refine h1.mono ?_
        rintro e w' ⟨rfl, rfl⟩
        go_wp2_with fail
        exact ⟨⟨k + 1, M, by omega, by go_num, rfl, hM, Lib.hid (by rw [HMM.out, HM.out]; simp)⟩, by simp [intOf]; omega⟩
      | true =>
        cases h4 : b.testBit k with
        | false =>
          rw [h3] at h1 hn
          rw [h4] at h2 hn
          rw [show N.testBit k = true from hn] at hm
          have HM := Lib.hid hm
          clear hm hn h3
          go_wp2_with fail
          refine h1.mono ?_
          rintro e w' ⟨rfl, rfl⟩
          go_wp2_with fail
          refine h2.mono ?_
          rintro e w' ⟨rfl, rfl⟩
          go_wp2_with fail
          rw [hpw.out, hor.out]
          exact ⟨⟨k + 1, M ||| 2 ^ k, by omega, by go_num, rfl, or_lt hM (pow_lt64 k hlt), Lib.hid (by rw [HMM.out, HM.out]; simp)⟩, by simp [intOf]; omega⟩
        | true =>
          rw [h3] at h1 hn
          rw [h4] at h2 hn
          rw [show N.testBit k = false from hn] at hm
          have HM := Lib.hid hm
          clear hm hn h3
          go_wp2_with fail
          refine h1.mono ?_
          rintro e w' ⟨rfl, rfl⟩
          go_wp2_with fail
          refine h2.mono ?_
          rintro e w' ⟨rfl, rfl⟩
          go_wp2_with fail
          exact ⟨⟨k + 1, M, by omega, by go_num, rfl, hM, Lib.hid (by rw [HMM.out, HM.out]; simp)⟩, by simp [intOf]; omega⟩
    · obtain rfl : k = 64 := by omega
      obtain rfl : M = N := by rw [HMM.out, mod_all hNl]
      go_wp2
      go_ret
      exact ⟨rfl, rfl⟩

set_option maxRecDepth 100000 in
set_option maxHeartbeats 1000000 in
theorem refwithin_any (a b : Nat) (ha : a < 18446744073709551616) (hb : b < 18446744073709551616) (w : World) :
    Calls Tryz.prog 19 #[.int .u64 (a : Int), .int .u64 (b : Int)] w fun e w' => e = .returned (.bool (minusN a b == 0)) ∧ w = w' := by
  obtain ⟨R, hR⟩ : ∃ R, (minusN a b == 0) = R := ⟨_, rfl⟩
  have hyes : (∀ k, k < 64 → (a.testBit k && !b.testBit k) = false) → R = true := fun h => by
    rw [← hR, beq_iff_eq]
    apply Nat.eq_of_testBit_eq
    intro i
    rw [Nat.zero_testBit]
    by_cases hi : i < 64
    · rw [testBit_minus a b i hi]; exact h i hi
    · exact Nat.testBit_lt_two_pow (Nat.lt_of_lt_of_le (minus_lt' ha) (show 2 ^ 64 ≤ 2 ^ i from Nat.pow_le_pow_right (by omega) (by omega)))
  have hno : ∀ k, k < 64 → (a.testBit k && !b.testBit k) = true → R = false := fun k hk h => by
    rw [← hR, beq_eq_false_iff_ne]
    intro e
    have := testBit_minus a b k hk
    rw [e, Nat.zero_testBit, h] at this
    cases this
  rw [hR]
  clear hR
  have HY := Lib.hid hyes
  have HN := Lib.hid hno
  clear hyes hno
  go_enter Tryz.func19, Tryz.ntmps19
  go_wp2
  go_loop [5] (fun i => ∃ k : Nat, k ≤ 64 ∧ i = .int .i64 k ∧ Hid (∀ j, j < k → (a.testBit j && !b.testBit j) = false)) (fun i => 64 - (intOf i).toNat)
  case atStart => exact ⟨0, by omega, rfl, Lib.hid (fun j hj => absurd hj (Nat.not_lt_zero _))⟩
  case round =>
    obtain ⟨k, hk, rfl, HK⟩ := hrel
    by_cases hlt : k < 64
    · have h1 := has_any a k ha hlt w
      have h2 := has_any b k hb hlt w
      have hki : (k : Int) < 64 := by omega
      have hnext : (a.testBit k && !b.testBit k) = false → Hid (∀ j, j < k + 1 → (a.testBit j && !b.testBit j) = false) := fun h => Lib.hid (fun j hj => if e : j = k then by rw [e]; exact h else HK.out j (by omega))
      have hbad := HN.out k hlt
      cases h3 : a.testBit k with
      | false =>
        rw [h3] at h1 hnext
        have HX := hnext rfl
        clear hnext hbad h2 h3
        go_wp2_with fail
        refine h1.mono ?_
        rintro e w' ⟨rfl, rfl⟩
        go_wp2_with fail
        exact ⟨⟨k + 1, by omega, by go_num, HX⟩, by simp [intOf]; omega⟩
      | true =>
        cases h4 : b.testBit k with
        | true =>
          rw [h3] at h1 hnext
          rw [h4] at h2 hnext
          have HX := hnext rfl
          clear hnext hbad h3 h4
          go_wp2_with fail
          refine h1.mono ?_
          rintro e w' ⟨rfl, rfl⟩
          go_wp2_with fail
          refine h2.mono ?_
          rintro e w' ⟨rfl, rfl⟩
          go_wp2_with fail
          exact ⟨⟨k + 1, by omega, by go_num, HX⟩, by simp [intOf]; omega⟩
        | false =>
          rw [h3] at h1 hbad
          rw [h4] at h2 hbad
          have HX := Lib.hid (hbad rfl)
          clear hnext hbad h3 h4
          go_wp2_with fail
          refine h1.mono ?_
          rintro e w' ⟨rfl, rfl⟩
          go_wp2_with fail
          refine h2.mono ?_
          rintro e w' ⟨rfl, rfl⟩
          go_wp2_with fail
          go_ret
          exact ⟨by rw [HX.out]; rfl, rfl⟩
    · obtain rfl : k = 64 := by omega
      have HX := Lib.hid (HY.out HK.out)
      go_wp2
      go_ret
      exact ⟨by rw [HX.out]; rfl, rfl⟩
end Go.Proofs.YthmcckdoneiglaaGreatDoor
