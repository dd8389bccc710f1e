/- Sign, Arity and BySign of package ops, in every memory. -/
import Derived.Test.YtnmcjkabihihiaaDoorProg
import Derived.WalkKit
import Derived.Deep.DeepCutAuto
import Derived.Deep.CutBlock
import Derived.LoopTactic
import Derived.Lib.Strings
import Derived.Lib.Hide
namespace Go.Proofs.YtnmcjkabihihiaaDoor
open Go Go.RowKit

/-- A way out of several blocks. -/
theorem exit_then {K : Act → World → Prop} {Q : Exit → Act → World → Prop} {n : Nat} {a : Act} {w : World} (h : Q (.exit n) a w) : Exit.then K Q (.exit n) a w := h
theorem exit_ne {Q : Exit → Act → World → Prop} {m n : Nat} {a : Act} {w : World} (hn : ¬ n = m) (h : Q (.exit n) a w) : Exit.inBlock m Q (.exit n) a w := by
  show (if n = m then Q .normal a w else Q (.exit n) a w)
  rw [if_neg hn]; exact h
theorem exit_eq {Q : Exit → Act → World → Prop} {n : Nat} {a : Act} {w : World} (h : Q .normal a w) : Exit.inBlock n Q (.exit n) a w := by
  show (if n = n then Q .normal a w else Q (.exit n) a w)
  rw [if_pos rfl]; exact h
/-- An operation's sign. -/
def signL : Nat → List UInt8
  | 1 => [43]
  | 2 => [45]
  | 3 => [42]
  | 4 => [47]
  | 5 => [37]
  | 6 => [38]
  | 7 => [124]
  | 8 => [94]
  | 9 => [60, 60]
  | 10 => [62, 62]
  | 11 => [61, 61]
  | 12 => [33, 61]
  | 13 => [60]
  | 14 => [60, 61]
  | 15 => [45]
  | 16 => [33]
  | 17 => [126]
  | _ => []
def signV (op : Int) : ByteArray := ⟨(if 1 ≤ op ∧ op ≤ 17 then signL op.toNat else []).toArray⟩
def arV (op : Int) : Int := if 1 ≤ op ∧ op ≤ 14 then 2 else if 15 ≤ op ∧ op ≤ 17 then 1 else 0

set_option maxRecDepth 100000 in
theorem sign_1 (w : World) : Calls Tryd.prog 46 #[.int .i64 1] w fun e w' => e = .returned (.string (⟨#[43]⟩ : ByteArray)) ∧ w = w' := by
  go_enter Tryd.func46, Tryd.ntmps46
  go_upto_region 2 with (fail)
  iterate 10 go_step
  refine wp_cond_split rfl (fun h => ?_) (fun h => absurd h (by decide))
  apply wp_exit
  repeat (first | refine exit_then ?_ | refine exit_ne (by decide) ?_)
  refine exit_eq ?_
  go_wp2
  go_ret
  exact ⟨rfl, rfl⟩

set_option maxRecDepth 100000 in
theorem sign_2 (w : World) : Calls Tryd.prog 46 #[.int .i64 2] w fun e w' => e = .returned (.string (⟨#[45]⟩ : ByteArray)) ∧ w = w' := by
  go_enter Tryd.func46, Tryd.ntmps46
  go_upto_region 3 with (fail)
  iterate 10 go_step
  refine wp_cond_split rfl (fun h => ?_) (fun h => absurd h (by decide))
  apply wp_exit
  repeat (first | refine exit_then ?_ | refine exit_ne (by decide) ?_)
  refine exit_eq ?_
  go_wp2
  go_ret
  exact ⟨rfl, rfl⟩

set_option maxRecDepth 100000 in
theorem sign_3 (w : World) : Calls Tryd.prog 46 #[.int .i64 3] w fun e w' => e = .returned (.string (⟨#[42]⟩ : ByteArray)) ∧ w = w' := by
  go_enter Tryd.func46, Tryd.ntmps46
  go_upto_region 5 with (fail)
  iterate 10 go_step
  refine wp_cond_split rfl (fun h => ?_) (fun h => absurd h (by decide))
  apply wp_exit
  repeat (first | refine exit_then ?_ | refine exit_ne (by decide) ?_)
  refine exit_eq ?_
  go_wp2
  go_ret
  exact ⟨rfl, rfl⟩

set_option maxRecDepth 100000 in
theorem sign_4 (w : World) : Calls Tryd.prog 46 #[.int .i64 4] w fun e w' => e = .returned (.string (⟨#[47]⟩ : ByteArray)) ∧ w = w' := by
  go_enter Tryd.func46, Tryd.ntmps46
  go_upto_region 6 with (fail)
  iterate 10 go_step
  refine wp_cond_split rfl (fun h => ?_) (fun h => absurd h (by decide))
  apply wp_exit
  repeat (first | refine exit_then ?_ | refine exit_ne (by decide) ?_)
  refine exit_eq ?_
  go_wp2
  go_ret
  exact ⟨rfl, rfl⟩

set_option maxRecDepth 100000 in
theorem sign_5 (w : World) : Calls Tryd.prog 46 #[.int .i64 5] w fun e w' => e = .returned (.string (⟨#[37]⟩ : ByteArray)) ∧ w = w' := by
  go_enter Tryd.func46, Tryd.ntmps46
  go_upto_region 7 with (fail)
  iterate 10 go_step
  refine wp_cond_split rfl (fun h => ?_) (fun h => absurd h (by decide))
  apply wp_exit
  repeat (first | refine exit_then ?_ | refine exit_ne (by decide) ?_)
  refine exit_eq ?_
  go_wp2
  go_ret
  exact ⟨rfl, rfl⟩

set_option maxRecDepth 100000 in
theorem sign_6 (w : World) : Calls Tryd.prog 46 #[.int .i64 6] w fun e w' => e = .returned (.string (⟨#[38]⟩ : ByteArray)) ∧ w = w' := by
  go_enter Tryd.func46, Tryd.ntmps46
  go_upto_region 8 with (fail)
  iterate 10 go_step
  refine wp_cond_split rfl (fun h => ?_) (fun h => absurd h (by decide))
  apply wp_exit
  repeat (first | refine exit_then ?_ | refine exit_ne (by decide) ?_)
  refine exit_eq ?_
  go_wp2
  go_ret
  exact ⟨rfl, rfl⟩

set_option maxRecDepth 100000 in
theorem sign_7 (w : World) : Calls Tryd.prog 46 #[.int .i64 7] w fun e w' => e = .returned (.string (⟨#[124]⟩ : ByteArray)) ∧ w = w' := by
  go_enter Tryd.func46, Tryd.ntmps46
  go_upto_region 9 with (fail)
  iterate 10 go_step
  refine wp_cond_split rfl (fun h => ?_) (fun h => absurd h (by decide))
  apply wp_exit
  repeat (first | refine exit_then ?_ | refine exit_ne (by decide) ?_)
  refine exit_eq ?_
  go_wp2
  go_ret
  exact ⟨rfl, rfl⟩

set_option maxRecDepth 100000 in
theorem sign_8 (w : World) : Calls Tryd.prog 46 #[.int .i64 8] w fun e w' => e = .returned (.string (⟨#[94]⟩ : ByteArray)) ∧ w = w' := by
  go_enter Tryd.func46, Tryd.ntmps46
  go_upto_region 10 with (fail)
  iterate 10 go_step
  refine wp_cond_split rfl (fun h => ?_) (fun h => absurd h (by decide))
  apply wp_exit
  repeat (first | refine exit_then ?_ | refine exit_ne (by decide) ?_)
  refine exit_eq ?_
  go_wp2
  go_ret
  exact ⟨rfl, rfl⟩

set_option maxRecDepth 100000 in
theorem sign_9 (w : World) : Calls Tryd.prog 46 #[.int .i64 9] w fun e w' => e = .returned (.string (⟨#[60, 60]⟩ : ByteArray)) ∧ w = w' := by
  go_enter Tryd.func46, Tryd.ntmps46
  go_upto_region 11 with (fail)
  iterate 10 go_step
  refine wp_cond_split rfl (fun h => ?_) (fun h => absurd h (by decide))
  apply wp_exit
  repeat (first | refine exit_then ?_ | refine exit_ne (by decide) ?_)
  refine exit_eq ?_
  go_wp2
  go_ret
  exact ⟨rfl, rfl⟩

set_option maxRecDepth 100000 in
theorem sign_10 (w : World) : Calls Tryd.prog 46 #[.int .i64 10] w fun e w' => e = .returned (.string (⟨#[62, 62]⟩ : ByteArray)) ∧ w = w' := by
  go_enter Tryd.func46, Tryd.ntmps46
  go_upto_region 12 with (fail)
  iterate 10 go_step
  refine wp_cond_split rfl (fun h => ?_) (fun h => absurd h (by decide))
  apply wp_exit
  repeat (first | refine exit_then ?_ | refine exit_ne (by decide) ?_)
  refine exit_eq ?_
  go_wp2
  go_ret
  exact ⟨rfl, rfl⟩

set_option maxRecDepth 100000 in
theorem sign_11 (w : World) : Calls Tryd.prog 46 #[.int .i64 11] w fun e w' => e = .returned (.string (⟨#[61, 61]⟩ : ByteArray)) ∧ w = w' := by
  go_enter Tryd.func46, Tryd.ntmps46
  go_upto_region 13 with (fail)
  iterate 10 go_step
  refine wp_cond_split rfl (fun h => ?_) (fun h => absurd h (by decide))
  apply wp_exit
  repeat (first | refine exit_then ?_ | refine exit_ne (by decide) ?_)
  refine exit_eq ?_
  go_wp2
  go_ret
  exact ⟨rfl, rfl⟩

set_option maxRecDepth 100000 in
theorem sign_12 (w : World) : Calls Tryd.prog 46 #[.int .i64 12] w fun e w' => e = .returned (.string (⟨#[33, 61]⟩ : ByteArray)) ∧ w = w' := by
  go_enter Tryd.func46, Tryd.ntmps46
  go_upto_region 14 with (fail)
  iterate 10 go_step
  refine wp_cond_split rfl (fun h => ?_) (fun h => absurd h (by decide))
  apply wp_exit
  repeat (first | refine exit_then ?_ | refine exit_ne (by decide) ?_)
  refine exit_eq ?_
  go_wp2
  go_ret
  exact ⟨rfl, rfl⟩

set_option maxRecDepth 100000 in
theorem sign_13 (w : World) : Calls Tryd.prog 46 #[.int .i64 13] w fun e w' => e = .returned (.string (⟨#[60]⟩ : ByteArray)) ∧ w = w' := by
  go_enter Tryd.func46, Tryd.ntmps46
  go_upto_region 15 with (fail)
  iterate 10 go_step
  refine wp_cond_split rfl (fun h => ?_) (fun h => absurd h (by decide))
  apply wp_exit
  repeat (first | refine exit_then ?_ | refine exit_ne (by decide) ?_)
  refine exit_eq ?_
  go_wp2
  go_ret
  exact ⟨rfl, rfl⟩

set_option maxRecDepth 100000 in
theorem sign_14 (w : World) : Calls Tryd.prog 46 #[.int .i64 14] w fun e w' => e = .returned (.string (⟨#[60, 61]⟩ : ByteArray)) ∧ w = w' := by
  go_enter Tryd.func46, Tryd.ntmps46
  go_upto_region 16 with (fail)
  iterate 10 go_step
  refine wp_cond_split rfl (fun h => ?_) (fun h => absurd h (by decide))
  apply wp_exit
  repeat (first | refine exit_then ?_ | refine exit_ne (by decide) ?_)
  refine exit_eq ?_
  go_wp2
  go_ret
  exact ⟨rfl, rfl⟩

set_option maxRecDepth 100000 in
theorem sign_15 (w : World) : Calls Tryd.prog 46 #[.int .i64 15] w fun e w' => e = .returned (.string (⟨#[45]⟩ : ByteArray)) ∧ w = w' := by
  go_enter Tryd.func46, Tryd.ntmps46
  go_upto_region 4 with (fail)
  iterate 10 go_step
  refine wp_cond_split rfl (fun h => ?_) (fun h => absurd h (by decide))
  apply wp_exit
  repeat (first | refine exit_then ?_ | refine exit_ne (by decide) ?_)
  refine exit_eq ?_
  go_wp2
  go_ret
  exact ⟨rfl, rfl⟩

set_option maxRecDepth 100000 in
theorem sign_16 (w : World) : Calls Tryd.prog 46 #[.int .i64 16] w fun e w' => e = .returned (.string (⟨#[33]⟩ : ByteArray)) ∧ w = w' := by
  go_enter Tryd.func46, Tryd.ntmps46
  go_upto_region 17 with (fail)
  iterate 10 go_step
  refine wp_cond_split rfl (fun h => ?_) (fun h => absurd h (by decide))
  apply wp_exit
  repeat (first | refine exit_then ?_ | refine exit_ne (by decide) ?_)
  refine exit_eq ?_
  go_wp2
  go_ret
  exact ⟨rfl, rfl⟩

set_option maxRecDepth 100000 in
theorem sign_17 (w : World) : Calls Tryd.prog 46 #[.int .i64 17] w fun e w' => e = .returned (.string (⟨#[126]⟩ : ByteArray)) ∧ w = w' := by
  go_enter Tryd.func46, Tryd.ntmps46
  go_upto_region 18 with (fail)
  iterate 10 go_step
  refine wp_cond_split rfl (fun h => ?_) (fun h => absurd h (by decide))
  apply wp_exit
  repeat (first | refine exit_then ?_ | refine exit_ne (by decide) ?_)
  refine exit_eq ?_
  go_wp2
  go_ret
  exact ⟨rfl, rfl⟩

set_option maxRecDepth 100000 in
theorem sign_none (op : Int) (hop : op < 1 ∨ 17 < op) (w : World) : Calls Tryd.prog 46 #[.int .i64 op] w fun e w' => e = .returned (.string (⟨#[]⟩ : ByteArray)) ∧ w = w' := by
  have c1 : (op == 1) = false := by simp; omega
  have c2 : (op == 2) = false := by simp; omega
  have c3 : (op == 3) = false := by simp; omega
  have c4 : (op == 4) = false := by simp; omega
  have c5 : (op == 5) = false := by simp; omega
  have c6 : (op == 6) = false := by simp; omega
  have c7 : (op == 7) = false := by simp; omega
  have c8 : (op == 8) = false := by simp; omega
  have c9 : (op == 9) = false := by simp; omega
  have c10 : (op == 10) = false := by simp; omega
  have c11 : (op == 11) = false := by simp; omega
  have c12 : (op == 12) = false := by simp; omega
  have c13 : (op == 13) = false := by simp; omega
  have c14 : (op == 14) = false := by simp; omega
  have c15 : (op == 15) = false := by simp; omega
  have c16 : (op == 16) = false := by simp; omega
  have c17 : (op == 17) = false := by simp; omega
  clear hop
  go_enter Tryd.func46, Tryd.ntmps46
  go_upto_region 18 with (fail)
  iterate 10 go_step
  refine wp_cond_split rfl (fun h => absurd h (by decide)) (fun h => ?_)
  go_step
  go_step
  go_step
  apply wp_exit
  repeat (first | refine exit_then ?_ | refine exit_ne (by decide) ?_)
  refine exit_eq ?_
  go_wp2
  go_ret
  exact ⟨rfl, rfl⟩

theorem sign_cases (op : Int) : op = 1 ∨ op = 2 ∨ op = 3 ∨ op = 4 ∨ op = 5 ∨ op = 6 ∨ op = 7 ∨ op = 8 ∨ op = 9 ∨ op = 10 ∨ op = 11 ∨ op = 12 ∨ op = 13 ∨ op = 14 ∨ op = 15 ∨ op = 16 ∨ op = 17 ∨ (op < 1 ∨ 17 < op) := by omega

/-- **Sign.** -/
theorem sign_any (op : Int) (w : World) : Calls Tryd.prog 46 #[.int .i64 op] w fun e w' => e = .returned (.string (signV op)) ∧ w = w' := by
  rcases sign_cases op with rfl | rfl | rfl | rfl | rfl | rfl | rfl | rfl | rfl | rfl | rfl | rfl | rfl | rfl | rfl | rfl | rfl | hop
  · exact sign_1 w
  · exact sign_2 w
  · exact sign_3 w
  · exact sign_4 w
  · exact sign_5 w
  · exact sign_6 w
  · exact sign_7 w
  · exact sign_8 w
  · exact sign_9 w
  · exact sign_10 w
  · exact sign_11 w
  · exact sign_12 w
  · exact sign_13 w
  · exact sign_14 w
  · exact sign_15 w
  · exact sign_16 w
  · exact sign_17 w
  · rw [show signV op = (⟨#[]⟩ : ByteArray) from by unfold signV; rw [if_neg (by omega)]]; exact sign_none op hop w

set_option maxRecDepth 100000 in
theorem arity_ops (op : Int) (w : World) : Calls Tryd.prog 47 #[.int .i64 op] w fun e w' => e = .returned (.int .i64 (arV op)) ∧ w = w' := by
  unfold arV
  by_cases h1 : 1 ≤ op ∧ op ≤ 14
  · rw [if_pos h1]
    obtain ⟨h1, h2⟩ := h1
    go_enter Tryd.func47, Tryd.ntmps47
    go_wp2
    go_ret
    exact ⟨rfl, rfl⟩
  · rw [if_neg h1]
    by_cases h2 : 15 ≤ op ∧ op ≤ 17
    · rw [if_pos h2]
      obtain ⟨h2, h3⟩ := h2
      have h4 : ¬ op ≤ 14 := by omega
      clear h1
      go_enter Tryd.func47, Tryd.ntmps47
      go_wp2
      go_ret
      exact ⟨rfl, rfl⟩
    · rw [if_neg h2]
      rcases (show op < 1 ∨ 17 < op by omega) with h | h
      all_goals
        clear h1 h2
        go_enter Tryd.func47, Tryd.ntmps47
        go_wp2
        go_ret
        exact ⟨rfl, rfl⟩

/-- Is an operation of that sign and that arity? -/
def hitS (s : ByteArray) (ar : Int) (k : Nat) : Bool := ((signV k).toList == s.toList) && (arV k == ar)
/-- The first such operation; 18, if there is none. -/
def First (s : ByteArray) (ar : Int) (n : Nat) : Prop := 1 ≤ n ∧ n ≤ 18 ∧ (∀ j, 1 ≤ j → j < n → hitS s ar j = false) ∧ (n = 18 ∨ hitS s ar n = true)
def bsV (n : Nat) : Value := if n = 18 then .tuple #[.int .i64 0, .bool false] else .tuple #[.int .i64 n, .bool true]

theorem first_from (s : ByteArray) (ar : Int) : ∀ (d n : Nat), n + d = 18 → 1 ≤ n → (∀ j, 1 ≤ j → j < n → hitS s ar j = false) → ∃ m, First s ar m := by
  intro d
  induction d with
  | zero => intro n hn h1 h; exact ⟨n, h1, by omega, h, .inl (by omega)⟩
  | succ d ih =>
    intro n hn h1 h
    cases hh : hitS s ar n with
    | true => exact ⟨n, h1, by omega, h, .inr hh⟩
    | false => exact ih (n + 1) (by omega) (by omega) (fun j hj hjn => if e : j = n then by rw [e]; exact hh else h j hj (by omega))
theorem first_any (s : ByteArray) (ar : Int) : ∃ m, First s ar m := first_from s ar 17 1 rfl (Nat.le_refl _) (fun j h1 h2 => by omega)

theorem miss (s : ByteArray) (ar : Int) (k : Nat) (h : hitS s ar k = false) : ((signV k).toList == s.toList) = false ∨ (((signV k).toList == s.toList) = true ∧ (arV k == ar) = false) := by
  unfold hitS at h
  rw [Bool.and_eq_false_iff] at h
  cases h1 : ((signV k).toList == s.toList) with
  | false => exact .inl rfl
  | true => rw [h1] at h; exact .inr ⟨rfl, h.resolve_left (by simp)⟩
theorem hitS_both (s : ByteArray) (ar : Int) (k : Nat) (h : hitS s ar k = true) : ((signV k).toList == s.toList) = true ∧ (arV k == ar) = true := by
  unfold hitS at h
  simpa using h

set_option maxRecDepth 100000 in
set_option maxHeartbeats 1000000 in
theorem bysign_ops (s : ByteArray) (ar : Int) (n : Nat) (hn : First s ar n) (w : World) :
    Calls Tryd.prog 34 #[.string s, .int .i64 ar] w fun e w' => e = .returned (bsV n) ∧ w = w' := by
  obtain ⟨h1, h18, hno, hyes⟩ := hn
  have HNO := Lib.hid hno
  have HY := Lib.hid hyes
  clear hno hyes
  go_enter Tryd.func34, Tryd.ntmps34
  go_wp2
  go_loop [6] (fun x => ∃ k : Nat, 1 ≤ k ∧ k ≤ n ∧ x = .int .i64 k) (fun x => 18 - (intOf x).toNat)
  case atStart => exact ⟨1, Nat.le_refl _, h1, rfl⟩
  case round =>
    obtain ⟨k, hk, hkn, rfl⟩ := hrel
    have hs := sign_any k w
    have ha := arity_ops k w
    by_cases hlt : k < n
    · have hm := HNO.out k hk hlt
      have hk17 : (k : Int) ≤ 17 := by omega
      rcases miss s ar k hm with hm1 | ⟨hm1, hm2⟩
      · clear hm
        go_wp2_with (first | (go_at_call 46; refine hs.mono ?_; rintro e w' ⟨rfl, rfl⟩) | (go_at_call 47; refine ha.mono ?_; rintro e w' ⟨rfl, rfl⟩))
        exact ⟨⟨k + 1, by omega, by omega, by go_num⟩, by simp [intOf]; omega⟩
      · clear hm
        go_wp2_with (first | (go_at_call 46; refine hs.mono ?_; rintro e w' ⟨rfl, rfl⟩) | (go_at_call 47; refine ha.mono ?_; rintro e w' ⟨rfl, rfl⟩))
        exact ⟨⟨k + 1, by omega, by omega, by go_num⟩, by simp [intOf]; omega⟩
    · obtain rfl : k = n := by omega
      by_cases h : k = 18
      · subst h
        clear HNO HY
        go_wp2
        go_ret2
        exact ⟨rfl, rfl⟩
      · obtain ⟨hm1, hm2⟩ := hitS_both s ar k (HY.out.resolve_left h)
        have hk17 : (k : Int) ≤ 17 := by omega
        have hV := Lib.hid (show bsV k = .tuple #[.int .i64 k, .bool true] from if_neg h)
        clear HNO HY
        go_wp2_with (first | (go_at_call 46; refine hs.mono ?_; rintro e w' ⟨rfl, rfl⟩) | (go_at_call 47; refine ha.mono ?_; rintro e w' ⟨rfl, rfl⟩))
        go_ret2
        exact ⟨by rw [hV.out]; rfl, rfl⟩

end Go.Proofs.YtnmcjkabihihiaaDoor
