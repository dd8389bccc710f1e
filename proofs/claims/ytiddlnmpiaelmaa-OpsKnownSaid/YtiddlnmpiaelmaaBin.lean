/- The operations of the document's answer and of package ops come to the same, in every memory. -/
import Derived.Test.YtiddlnmpiaelmaaDiv
namespace Go.Proofs.Ytiddlnmpiaelmaa
open Go Go.RowKit

theorem to_u64 (a : Int) : IntKind.u64.wrap a = (U a : Int) := by rw [IntKind.wrap_u64, U_cast]

set_option maxRecDepth 100000 in
theorem size_any (a : Int) (h1 : -9223372036854775808 ≤ a) (h2 : a < 9223372036854775808) (w : World) :
    Calls Try.prog 34 #[.int .i64 a] w fun e w' => e = .returned (.int .u64 (a.natAbs : Int)) ∧ w = w' := by
  by_cases h : a < 0
  · have hn := neg_any (U a) (U_lt a) w
    rw [abs_neg h h1, ← to_u64] at hn
    go_enter Try.func34, Try.ntmps34
    go_wp2_with (go_at_call 29; refine hn.mono ?_; rintro e w' ⟨rfl, rfl⟩)
    go_ret
    exact ⟨rfl, rfl⟩
  · have e : (a.natAbs : Int) = a := by omega
    rw [e]
    have h0 : 0 ≤ a := by omega
    clear e
    go_enter Try.func34, Try.ntmps34
    go_wp2
    go_ret
    exact ⟨rfl, rfl⟩

theorem natAbs_lt {a : Int} (h1 : -9223372036854775808 ≤ a) (h2 : a < 9223372036854775808) : a.natAbs < 18446744073709551616 := by omega

/-- The quotient and what is left, as the document's answer makes them. -/
def dq (a b : Int) : Int := if b = 0 then 0 else wrap64 (a.tdiv b)
def dr (a b : Int) : Int := if b = 0 then 0 else a.tmod b

theorem wrap_neg (x : Nat) (h : x < 18446744073709551616) : wrap64 (negN x : Int) = wrap64 (-(x : Int)) := by
  apply wrap_congr
  unfold negN
  omega

set_option maxRecDepth 100000 in
set_option maxHeartbeats 2000000 in
theorem divide_any (a b : Int) (a1 : -9223372036854775808 ≤ a) (a2 : a < 9223372036854775808) (b1 : -9223372036854775808 ≤ b) (b2 : b < 9223372036854775808) (w : World) :
    Calls Try.prog 27 #[.int .i64 a, .int .i64 b] w fun e w' => e = .returned (.tuple #[.int .i64 (dq a b), .int .i64 (dr a b)]) ∧ w = w' := by
  by_cases hb : b = 0
  · subst hb
    go_enter Try.func27, Try.ntmps27
    go_wp2
    go_ret2
    exact ⟨rfl, rfl⟩
  · have hs1 := size_any a a1 a2 w
    have hs2 := size_any b b1 b2 w
    have hd := div_any a.natAbs b.natAbs (natAbs_lt a1 a2) (by omega) (natAbs_lt b1 b2) w
    have hq : dq a b = wrap64 (a.tdiv b) := if_neg hb
    have hr : dr a b = a.tmod b := if_neg hb
    rw [hq, hr]
    clear hq hr
    rw [tdiv_cases, tmod_cases]
    obtain ⟨q, hq⟩ : ∃ q, a.natAbs / b.natAbs = q := ⟨_, rfl⟩
    obtain ⟨r, hr⟩ : ∃ r, a.natAbs % b.natAbs = r := ⟨_, rfl⟩
    have q1 : q ≤ 9223372036854775808 := by rw [← hq]; exact Nat.le_trans (Nat.div_le_self _ _) (by omega)
    have r1 : r < 9223372036854775808 := by rw [← hr]; have := Nat.mod_lt a.natAbs (show b.natAbs > 0 by omega); omega
    rw [hq, hr] at hd
    rw [hq, hr]
    clear hq hr
    have nq := neg_any q (by omega) w
    have nr := neg_any r (by omega) w
    have wq := wrap_neg q (by omega)
    have wr := wrap_neg r (by omega)
    rw [wrap_id (x := -(r : Int)) (by omega) (by omega)] at wr
    have wr2 := wrap_id (x := (r : Int)) (by omega) (by omega)
    have HQ := Lib.hid wq
    have HR := Lib.hid wr
    have HR2 := Lib.hid wr2
    clear wq wr wr2
    by_cases ha0 : a < 0 <;> by_cases hb0 : b < 0
    · have hc : ((a < 0) = (b < 0)) := by simp [ha0, hb0]
      rw [if_pos hc, if_pos ha0]
      clear hc
      have da : decide (a < 0) = true := decide_eq_true ha0
      have db : decide (b < 0) = true := decide_eq_true hb0
      go_enter Try.func27, Try.ntmps27
      go_wp2_with fail
      refine hs1.mono ?_
      rintro e w' ⟨rfl, rfl⟩
      go_wp2_with fail
      refine hs2.mono ?_
      rintro e w' ⟨rfl, rfl⟩
      go_wp2_with fail
      refine hd.mono ?_
      rintro e w' ⟨rfl, rfl⟩
      go_wp2_with fail
      refine nr.mono ?_
      rintro e w' ⟨rfl, rfl⟩
      go_wp2_with fail
      go_ret2
      exact ⟨by rw [HR.out]; rfl, rfl⟩
    · have hc : ¬((a < 0) = (b < 0)) := by simp [ha0, hb0]
      rw [if_neg hc, if_pos ha0]
      clear hc
      have hb1 : 0 ≤ b := by omega
      have da : decide (a < 0) = true := decide_eq_true ha0
      have db : decide (b < 0) = false := decide_eq_false hb0
      go_enter Try.func27, Try.ntmps27
      go_wp2_with fail
      refine hs1.mono ?_
      rintro e w' ⟨rfl, rfl⟩
      go_wp2_with fail
      refine hs2.mono ?_
      rintro e w' ⟨rfl, rfl⟩
      go_wp2_with fail
      refine hd.mono ?_
      rintro e w' ⟨rfl, rfl⟩
      go_wp2_with fail
      refine nq.mono ?_
      rintro e w' ⟨rfl, rfl⟩
      go_wp2_with fail
      refine nr.mono ?_
      rintro e w' ⟨rfl, rfl⟩
      go_wp2_with fail
      go_ret2
      exact ⟨by rw [HR.out, HQ.out]; rfl, rfl⟩
    · have hc : ¬((a < 0) = (b < 0)) := by simp [ha0, hb0]
      rw [if_neg hc, if_neg ha0]
      clear hc
      have ha1 : 0 ≤ a := by omega
      have da : decide (a < 0) = false := decide_eq_false ha0
      have db : decide (b < 0) = true := decide_eq_true hb0
      go_enter Try.func27, Try.ntmps27
      go_wp2_with fail
      refine hs1.mono ?_
      rintro e w' ⟨rfl, rfl⟩
      go_wp2_with fail
      refine hs2.mono ?_
      rintro e w' ⟨rfl, rfl⟩
      go_wp2_with fail
      refine hd.mono ?_
      rintro e w' ⟨rfl, rfl⟩
      go_wp2_with fail
      refine nq.mono ?_
      rintro e w' ⟨rfl, rfl⟩
      go_wp2_with fail
      go_ret2
      exact ⟨by (try rw [HQ.out]); (try rw [HR2.out]); rfl, rfl⟩
    · have hc : ((a < 0) = (b < 0)) := by simp [ha0, hb0]
      rw [if_pos hc, if_neg ha0]
      clear hc
      have ha1 : 0 ≤ a := by omega
      have hb1 : 0 ≤ b := by omega
      have da : decide (a < 0) = false := decide_eq_false ha0
      have db : decide (b < 0) = false := decide_eq_false hb0
      go_enter Try.func27, Try.ntmps27
      go_wp2_with fail
      refine hs1.mono ?_
      rintro e w' ⟨rfl, rfl⟩
      go_wp2_with fail
      refine hs2.mono ?_
      rintro e w' ⟨rfl, rfl⟩
      go_wp2_with fail
      refine hd.mono ?_
      rintro e w' ⟨rfl, rfl⟩
      go_wp2_with fail
      go_ret2
      exact ⟨by (try rw [HR2.out]); rfl, rfl⟩
end Go.Proofs.Ytiddlnmpiaelmaa
