/- OpsLaws: the law's walk, in every memory. -/
import Derived.Test.YtiddlnmpiaelmaaOps
import Derived.Test.YtiddlnmpiaelmaaLawM
namespace Go.Proofs.Ytiddlnmpiaelmaa
open Go Go.RowKit

set_option maxRecDepth 100000 in
theorem bin_any (op a b V : Int) (hO : binO op = true) (hV : binV op a b = V) (w : World) :
    Calls Try.prog 23 #[.int .i64 op, .int .i64 a, .int .i64 b] w fun e w' => e = .returned (.int .i64 V) ∧ w = w' := by
  have h := binary_ops op a b w
  rw [hO, hV] at h
  clear hO hV
  go_enter Try.func23, Try.ntmps23
  go_wp2_with (go_at_call 8; refine h.mono ?_; rintro e w' ⟨rfl, rfl⟩)
  go_ret
  exact ⟨rfl, rfl⟩

set_option maxRecDepth 100000 in
theorem bin_not (op a b : Int) (hO : op < 1 ∨ 14 < op) (w : World) :
    Calls Try.prog 23 #[.int .i64 op, .int .i64 a, .int .i64 b] w fun e w' => e = .returned (.int .i64 77) ∧ w = w' := by
  have h := binary_ops op a b w
  rw [binO_none hO, binV_none hO] at h
  clear hO
  go_enter Try.func23, Try.ntmps23
  go_wp2_with (go_at_call 8; refine h.mono ?_; rintro e w' ⟨rfl, rfl⟩)
  go_ret
  exact ⟨rfl, rfl⟩

set_option maxRecDepth 100000 in
theorem un_any (op a V : Int) (a1 : -9223372036854775808 ≤ a) (a2 : a < 9223372036854775808) (hO : unO op = true) (hV : unV op a = V) (w : World) :
    Calls Try.prog 24 #[.int .i64 op, .int .i64 a] w fun e w' => e = .returned (.int .i64 V) ∧ w = w' := by
  have h := unary_ops op a a1 a2 w
  rw [hO, hV] at h
  clear hO hV a1 a2
  go_enter Try.func24, Try.ntmps24
  go_wp2_with (go_at_call 10; refine h.mono ?_; rintro e w' ⟨rfl, rfl⟩)
  go_ret
  exact ⟨rfl, rfl⟩

set_option maxRecDepth 100000 in
theorem un_not (op a : Int) (a1 : -9223372036854775808 ≤ a) (a2 : a < 9223372036854775808) (hO : op < 15 ∨ 17 < op) (w : World) :
    Calls Try.prog 24 #[.int .i64 op, .int .i64 a] w fun e w' => e = .returned (.int .i64 77) ∧ w = w' := by
  have h := unary_ops op a a1 a2 w
  rw [unO_none hO, unV_none hO] at h
  clear hO a1 a2
  go_enter Try.func24, Try.ntmps24
  go_wp2_with (go_at_call 10; refine h.mono ?_; rintro e w' ⟨rfl, rfl⟩)
  go_ret
  exact ⟨rfl, rfl⟩

set_option maxRecDepth 100000 in
theorem awake_any (w : World) : Calls Try.prog 12 #[] w fun e w' => e = .returned (.bool true) ∧ w = w' := by
  go_enter Try.func12, Try.ntmps12
  go_wp2_with fail
  refine (bin_any 4 7 (-2) (-3) (by decide) (by decide +kernel) w).mono ?_
  rintro e w' ⟨rfl, rfl⟩
  go_wp2_with fail
  refine (bin_any 5 7 (-2) 1 (by decide) (by decide +kernel) w).mono ?_
  rintro e w' ⟨rfl, rfl⟩
  go_wp2_with fail
  refine (bin_any 10 (-1) 60 15 (by decide) (by decide +kernel) w).mono ?_
  rintro e w' ⟨rfl, rfl⟩
  go_wp2_with fail
  refine (un_any 17 0 (-1) (by decide) (by decide) (by decide) (by decide +kernel) w).mono ?_
  rintro e w' ⟨rfl, rfl⟩
  go_wp2_with fail
  refine (un_any 16 0 1 (by decide) (by decide) (by decide) (by decide +kernel) w).mono ?_
  rintro e w' ⟨rfl, rfl⟩
  go_wp2_with fail
  go_ret
  exact ⟨rfl, rfl⟩

set_option maxRecDepth 100000 in
set_option maxHeartbeats 4000000 in
theorem laws_core (a b V4 V3 V5 lt eq ne le ge s2 n15b n15a n17 v9 p9 v8 v7 v6 n6 s1 v10 w9 : Int) (k : Nat) (a1 : -9223372036854775808 ≤ a) (a2 : a < 9223372036854775808) (b1 : -9223372036854775808 ≤ b) (b2 : b < 9223372036854775808) (a6 : -9223372036854775808 ≤ v6) (b6 : v6 < 9223372036854775808)
    (hb : ¬ b = 0 → binV 4 a b = V4 ∧ binV 3 V4 b = V3 ∧ binV 5 a b = V5 ∧ binV 1 V3 V5 = a)
    (hlt : binV 13 a b = lt) (heq : binV 11 a b = eq) (h2 : binV 2 a b = s2) (h15b : unV 15 b = n15b) (h1b : binV 1 a n15b = s2) (h17 : unV 17 a = n17) (h15a : unV 15 a = n15a) (h21 : binV 2 n15a 1 = n17)
    (hge : binV 14 b a = ge) (hne : binV 12 a b = ne) (hle : binV 14 a b = le)
    (hk : bits .and .i64 b 63 = (k : Int)) (h9 : binV 9 a b = v9) (h9k : binV 9 1 (k : Int) = p9) (h3k : binV 3 a p9 = v9) (h8 : binV 8 a b = v8) (h7 : binV 7 a b = v7) (h6 : binV 6 a b = v6) (h176 : unV 17 v6 = n6) (h6n : binV 6 v7 n6 = v8)
    (h1 : binV 1 a b = s1) (h167 : binV 1 v6 v7 = s1) (h10 : binV 10 a b = v10) (h9v : binV 9 v10 b = w9) (h10v : binV 10 w9 b = v10)
    (hcase : (lt = 0 ∧ eq = 0 ∧ ge = 1 ∧ ne = 1 ∧ le = 0) ∨ (lt = 0 ∧ eq = 1 ∧ ge = 1 ∧ ne = 0 ∧ le = 1) ∨ (lt = 1 ∧ eq = 0 ∧ ge = 0 ∧ ne = 1 ∧ le = 1)) (w : World) :
    Calls Try.prog 7 #[.int .i64 a, .int .i64 b] w fun e w' => e = .returned (.bool true) ∧ w = w' := by
  have C13 := bin_any 13 a b lt (by decide) hlt w
  have C11 := bin_any 11 a b eq (by decide) heq w
  have C2 := bin_any 2 a b s2 (by decide) h2 w
  have C15b := un_any 15 b n15b b1 b2 (by decide) h15b w
  have C1b := bin_any 1 a n15b s2 (by decide) h1b w
  have C17 := un_any 17 a n17 a1 a2 (by decide) h17 w
  have C15a := un_any 15 a n15a a1 a2 (by decide) h15a w
  have C21 := bin_any 2 n15a 1 n17 (by decide) h21 w
  have Cge := bin_any 14 b a ge (by decide) hge w
  have Cne := bin_any 12 a b ne (by decide) hne w
  have Cle := bin_any 14 a b le (by decide) hle w
  have C9 := bin_any 9 a b v9 (by decide) h9 w
  have C9k := bin_any 9 1 k p9 (by decide) h9k w
  have C3k := bin_any 3 a p9 v9 (by decide) h3k w
  have C8 := bin_any 8 a b v8 (by decide) h8 w
  have C7 := bin_any 7 a b v7 (by decide) h7 w
  have C6 := bin_any 6 a b v6 (by decide) h6 w
  have C176 := un_any 17 v6 n6 a6 b6 (by decide) h176 w
  have C6n := bin_any 6 v7 n6 v8 (by decide) h6n w
  have C1 := bin_any 1 a b s1 (by decide) h1 w
  have C167 := bin_any 1 v6 v7 s1 (by decide) h167 w
  have C10 := bin_any 10 a b v10 (by decide) h10 w
  have C9v := bin_any 9 v10 b w9 (by decide) h9v w
  have C10v := bin_any 10 w9 b v10 (by decide) h10v w
  have CA := awake_any w
  clear hlt heq h2 h15b h1b h17 h15a h21 hge hne hle h9 h9k h3k h8 h7 h6 h176 h6n h1 h167 h10 h9v h10v a1 a2 b1 b2 a6 b6
  by_cases hb0 : b = 0
  · clear hb
    have hbn : (b != 0) = false := by simp [hb0]
    clear hb0
    rcases hcase with ⟨rfl, rfl, rfl, rfl, rfl⟩ | ⟨rfl, rfl, rfl, rfl, rfl⟩ | ⟨rfl, rfl, rfl, rfl, rfl⟩
    all_goals as_aux_lemma =>
      go_enter Try.func7, Try.ntmps7
      go_wp2_with fail
      refine (C13).mono ?_
      rintro e w' ⟨rfl, rfl⟩
      go_wp2_with fail
      refine (C11).mono ?_
      rintro e w' ⟨rfl, rfl⟩
      go_wp2_with fail
      refine (C2).mono ?_
      rintro e w' ⟨rfl, rfl⟩
      go_wp2_with fail
      refine (C15b).mono ?_
      rintro e w' ⟨rfl, rfl⟩
      go_wp2_with fail
      refine (C1b).mono ?_
      rintro e w' ⟨rfl, rfl⟩
      go_wp2_with fail
      refine (C17).mono ?_
      rintro e w' ⟨rfl, rfl⟩
      go_wp2_with fail
      refine (C15a).mono ?_
      rintro e w' ⟨rfl, rfl⟩
      go_wp2_with fail
      refine (C21).mono ?_
      rintro e w' ⟨rfl, rfl⟩
      go_wp2_with fail
      refine (Cge).mono ?_
      rintro e w' ⟨rfl, rfl⟩
      go_wp2_with fail
      refine (Cne).mono ?_
      rintro e w' ⟨rfl, rfl⟩
      go_wp2_with fail
      refine (Cle).mono ?_
      rintro e w' ⟨rfl, rfl⟩
      go_wp2_with fail
      refine (C9).mono ?_
      rintro e w' ⟨rfl, rfl⟩
      go_wp2_with fail
      refine (C9k).mono ?_
      rintro e w' ⟨rfl, rfl⟩
      go_wp2_with fail
      refine (C3k).mono ?_
      rintro e w' ⟨rfl, rfl⟩
      go_wp2_with fail
      refine (C8).mono ?_
      rintro e w' ⟨rfl, rfl⟩
      go_wp2_with fail
      refine (C7).mono ?_
      rintro e w' ⟨rfl, rfl⟩
      go_wp2_with fail
      refine (C6).mono ?_
      rintro e w' ⟨rfl, rfl⟩
      go_wp2_with fail
      refine (C176).mono ?_
      rintro e w' ⟨rfl, rfl⟩
      go_wp2_with fail
      refine (C6n).mono ?_
      rintro e w' ⟨rfl, rfl⟩
      go_wp2_with fail
      refine (C6).mono ?_
      rintro e w' ⟨rfl, rfl⟩
      go_wp2_with fail
      refine (C7).mono ?_
      rintro e w' ⟨rfl, rfl⟩
      go_wp2_with fail
      refine (C167).mono ?_
      rintro e w' ⟨rfl, rfl⟩
      go_wp2_with fail
      refine (C1).mono ?_
      rintro e w' ⟨rfl, rfl⟩
      go_wp2_with fail
      refine (C10).mono ?_
      rintro e w' ⟨rfl, rfl⟩
      go_wp2_with fail
      refine (C9v).mono ?_
      rintro e w' ⟨rfl, rfl⟩
      go_wp2_with fail
      refine (C10v).mono ?_
      rintro e w' ⟨rfl, rfl⟩
      go_wp2_with fail
      refine (C10).mono ?_
      rintro e w' ⟨rfl, rfl⟩
      go_wp2_with fail
      refine (CA).mono ?_
      rintro e w' ⟨rfl, rfl⟩
      go_wp2_with fail
      go_ret
      exact ⟨rfl, rfl⟩
  · obtain ⟨e4, e3, e5, e1⟩ := hb hb0
    have D4 := bin_any 4 a b V4 (by decide) e4 w
    have D3 := bin_any 3 V4 b V3 (by decide) e3 w
    have D5 := bin_any 5 a b V5 (by decide) e5 w
    have D1 := bin_any 1 V3 V5 a (by decide) e1 w
    have hbn : (b != 0) = true := by simp [hb0]
    clear hb hb0 e4 e3 e5 e1
    rcases hcase with ⟨rfl, rfl, rfl, rfl, rfl⟩ | ⟨rfl, rfl, rfl, rfl, rfl⟩ | ⟨rfl, rfl, rfl, rfl, rfl⟩
    all_goals as_aux_lemma =>
      go_enter Try.func7, Try.ntmps7
      go_wp2_with fail
      refine (D4).mono ?_
      rintro e w' ⟨rfl, rfl⟩
      go_wp2_with fail
      refine (D3).mono ?_
      rintro e w' ⟨rfl, rfl⟩
      go_wp2_with fail
      refine (D5).mono ?_
      rintro e w' ⟨rfl, rfl⟩
      go_wp2_with fail
      refine (D1).mono ?_
      rintro e w' ⟨rfl, rfl⟩
      go_wp2_with fail
      refine (C13).mono ?_
      rintro e w' ⟨rfl, rfl⟩
      go_wp2_with fail
      refine (C11).mono ?_
      rintro e w' ⟨rfl, rfl⟩
      go_wp2_with fail
      refine (C2).mono ?_
      rintro e w' ⟨rfl, rfl⟩
      go_wp2_with fail
      refine (C15b).mono ?_
      rintro e w' ⟨rfl, rfl⟩
      go_wp2_with fail
      refine (C1b).mono ?_
      rintro e w' ⟨rfl, rfl⟩
      go_wp2_with fail
      refine (C17).mono ?_
      rintro e w' ⟨rfl, rfl⟩
      go_wp2_with fail
      refine (C15a).mono ?_
      rintro e w' ⟨rfl, rfl⟩
      go_wp2_with fail
      refine (C21).mono ?_
      rintro e w' ⟨rfl, rfl⟩
      go_wp2_with fail
      refine (Cge).mono ?_
      rintro e w' ⟨rfl, rfl⟩
      go_wp2_with fail
      refine (Cne).mono ?_
      rintro e w' ⟨rfl, rfl⟩
      go_wp2_with fail
      refine (Cle).mono ?_
      rintro e w' ⟨rfl, rfl⟩
      go_wp2_with fail
      refine (C9).mono ?_
      rintro e w' ⟨rfl, rfl⟩
      go_wp2_with fail
      refine (C9k).mono ?_
      rintro e w' ⟨rfl, rfl⟩
      go_wp2_with fail
      refine (C3k).mono ?_
      rintro e w' ⟨rfl, rfl⟩
      go_wp2_with fail
      refine (C8).mono ?_
      rintro e w' ⟨rfl, rfl⟩
      go_wp2_with fail
      refine (C7).mono ?_
      rintro e w' ⟨rfl, rfl⟩
      go_wp2_with fail
      refine (C6).mono ?_
      rintro e w' ⟨rfl, rfl⟩
      go_wp2_with fail
      refine (C176).mono ?_
      rintro e w' ⟨rfl, rfl⟩
      go_wp2_with fail
      refine (C6n).mono ?_
      rintro e w' ⟨rfl, rfl⟩
      go_wp2_with fail
      refine (C6).mono ?_
      rintro e w' ⟨rfl, rfl⟩
      go_wp2_with fail
      refine (C7).mono ?_
      rintro e w' ⟨rfl, rfl⟩
      go_wp2_with fail
      refine (C167).mono ?_
      rintro e w' ⟨rfl, rfl⟩
      go_wp2_with fail
      refine (C1).mono ?_
      rintro e w' ⟨rfl, rfl⟩
      go_wp2_with fail
      refine (C10).mono ?_
      rintro e w' ⟨rfl, rfl⟩
      go_wp2_with fail
      refine (C9v).mono ?_
      rintro e w' ⟨rfl, rfl⟩
      go_wp2_with fail
      refine (C10v).mono ?_
      rintro e w' ⟨rfl, rfl⟩
      go_wp2_with fail
      refine (C10).mono ?_
      rintro e w' ⟨rfl, rfl⟩
      go_wp2_with fail
      refine (CA).mono ?_
      rintro e w' ⟨rfl, rfl⟩
      go_wp2_with fail
      go_ret
      exact ⟨rfl, rfl⟩

theorem laws_any (a b : Int) (a1 : -9223372036854775808 ≤ a) (a2 : a < 9223372036854775808) (b1 : -9223372036854775808 ≤ b) (b2 : b < 9223372036854775808) (w : World) :
    Calls Try.prog 7 #[.int .i64 a, .int .i64 b] w fun e w' => e = .returned (.bool true) ∧ w = w' := by
  refine laws_core a b _ _ _ _ _ _ _ _ _ _ _ _ _ _ _ _ _ _ _ _ _ (U b % 64) a1 a2 b1 b2 ?_ ?_ (fun hb => ⟨rfl, rfl, rfl, law_div a b a1 a2 hb⟩) rfl rfl rfl rfl (law_sub a b) rfl rfl (law_inv a a1 a2) rfl rfl rfl (mask_i64 b) rfl rfl (law_shl a b) rfl rfl rfl rfl (law_xor a b) rfl (law_sum a b) rfl rfl (law_shr a b) ?_ w
  · rw [binV_6]; exact (wrap_le _).1
  · rw [binV_6]; exact (wrap_le _).2
  · rw [binV_13, binV_11, binV_14, binV_12, binV_14]
    rcases Int.lt_trichotomy a b with h | h | h
    · rw [if_pos h, if_neg (by omega), if_neg (by omega), if_neg (by omega), if_pos (by omega)]; exact .inr (.inr ⟨rfl, rfl, rfl, rfl, rfl⟩)
    · rw [if_neg (by omega), if_pos h, if_pos (by omega), if_pos h, if_pos (by omega)]; exact .inr (.inl ⟨rfl, rfl, rfl, rfl, rfl⟩)
    · rw [if_neg (by omega), if_neg (by omega), if_pos (by omega), if_neg (by omega), if_neg (by omega)]; exact .inl ⟨rfl, rfl, rfl, rfl, rfl⟩
end Go.Proofs.Ytiddlnmpiaelmaa
