/- BySign of package ops and of the document's answer, and OpsSigns, in every memory. -/
import Derived.Test.YtiddlnmpiaelmaaSigR
import Derived.Test.YtiddlnmpiaelmaaLawW
import Derived.Lib.Hide
namespace Go.Proofs.Ytiddlnmpiaelmaa
open Go Go.RowKit

theorem grown_trans {a b c : World} (h1 : Grown a b) (h2 : Grown b c) : Grown a c :=
  ⟨World.keptBut_trans h1.1 h2.1, fun x => (h2.2.1 x).trans (h1.2.1 x), Nat.le_trans h1.2.2 h2.2.2⟩

/-- Is an operation of that sign and that arity? -/
def hitS (s : ByteArray) (ar : Int) (k : Nat) : Bool := ((signV k).toList == s.toList) && (arV k == ar)
/-- The first such operation; 18, if there is none. -/
def First (s : ByteArray) (ar : Int) (n : Nat) : Prop := 1 ≤ n ∧ n ≤ 18 ∧ (∀ j, 1 ≤ j → j < n → hitS s ar j = false) ∧ (n = 18 ∨ hitS s ar n = true)
def bsV (n : Nat) : Value := if n = 18 then .tuple #[.int .i64 0, .bool false] else .tuple #[.int .i64 n, .bool true]

theorem first_from (s : ByteArray) (ar : Int) : ∀ (d n : Nat), n + d = 18 → 1 ≤ n → (∀ j, 1 ≤ j → j < n → hitS s ar j = false) → ∃ m, First s ar m := by
  intro d
  induction d with
  | zero => intro n hn h1 h; exact ⟨n, h1, by omega, h, .inl (by omega)⟩
  | succ d ih =>
    intro n hn h1 h
    cases hh : hitS s ar n with
    | true => exact ⟨n, h1, by omega, h, .inr hh⟩
    | false => exact ih (n + 1) (by omega) (by omega) (fun j hj hjn => if e : j = n then by rw [e]; exact hh else h j hj (by omega))
theorem first_any (s : ByteArray) (ar : Int) : ∃ m, First s ar m := first_from s ar 17 1 rfl (Nat.le_refl _) (fun j h1 h2 => by omega)

theorem miss (s : ByteArray) (ar : Int) (k : Nat) (h : hitS s ar k = false) : ((signV k).toList == s.toList) = false ∨ (((signV k).toList == s.toList) = true ∧ (arV k == ar) = false) := by
  unfold hitS at h
  rw [Bool.and_eq_false_iff] at h
  cases h1 : ((signV k).toList == s.toList) with
  | false => exact .inl rfl
  | true => rw [h1] at h; exact .inr ⟨rfl, h.resolve_left (by simp)⟩
theorem missR (s : ByteArray) (ar : Int) (k : Nat) (h : hitS s ar k = false) : (arV k == ar) = false ∨ ((arV k == ar) = true ∧ ((signV k).toList == s.toList) = false) := by
  unfold hitS at h
  rw [Bool.and_eq_false_iff] at h
  cases h1 : (arV k == ar) with
  | false => exact .inl rfl
  | true => rw [h1] at h; exact .inr ⟨rfl, h.resolve_right (by simp)⟩
theorem hitS_both (s : ByteArray) (ar : Int) (k : Nat) (h : hitS s ar k = true) : ((signV k).toList == s.toList) = true ∧ (arV k == ar) = true := by
  unfold hitS at h
  simpa using h

set_option maxRecDepth 100000 in
set_option maxHeartbeats 1000000 in
theorem bysign_ops (s : ByteArray) (ar : Int) (n : Nat) (hn : First s ar n) (w : World) :
    Calls Try.prog 13 #[.string s, .int .i64 ar] w fun e w' => e = .returned (bsV n) ∧ w = w' := by
  obtain ⟨h1, h18, hno, hyes⟩ := hn
  have HNO := Lib.hid hno
  have HY := Lib.hid hyes
  clear hno hyes
  go_enter Try.func13, Try.ntmps13
  go_wp2
  go_loop [6] (fun x => ∃ k : Nat, 1 ≤ k ∧ k ≤ n ∧ x = .int .i64 k) (fun x => 18 - (intOf x).toNat)
  case atStart => exact ⟨1, Nat.le_refl _, h1, rfl⟩
  case round =>
    obtain ⟨k, hk, hkn, rfl⟩ := hrel
    have hs := sign_any k w
    have ha := arity_ops k w
    by_cases hlt : k < n
    · have hm := HNO.out k hk hlt
      have hk17 : (k : Int) ≤ 17 := by omega
      rcases miss s ar k hm with hm1 | ⟨hm1, hm2⟩
      · clear hm
        go_wp2_with (first | (go_at_call 17; refine hs.mono ?_; rintro e w' ⟨rfl, rfl⟩) | (go_at_call 15; refine ha.mono ?_; rintro e w' ⟨rfl, rfl⟩))
        exact ⟨⟨k + 1, by omega, by omega, by go_num⟩, by simp [intOf]; omega⟩
      · clear hm
        go_wp2_with (first | (go_at_call 17; refine hs.mono ?_; rintro e w' ⟨rfl, rfl⟩) | (go_at_call 15; refine ha.mono ?_; rintro e w' ⟨rfl, rfl⟩))
        exact ⟨⟨k + 1, by omega, by omega, by go_num⟩, by simp [intOf]; omega⟩
    · obtain rfl : k = n := by omega
      by_cases h : k = 18
      · subst h
        clear HNO HY
        go_wp2
        go_ret2
        exact ⟨rfl, rfl⟩
      · obtain ⟨hm1, hm2⟩ := hitS_both s ar k (HY.out.resolve_left h)
        have hk17 : (k : Int) ≤ 17 := by omega
        have hV := Lib.hid (show bsV k = .tuple #[.int .i64 k, .bool true] from if_neg h)
        clear HNO HY
        go_wp2_with (first | (go_at_call 17; refine hs.mono ?_; rintro e w' ⟨rfl, rfl⟩) | (go_at_call 15; refine ha.mono ?_; rintro e w' ⟨rfl, rfl⟩))
        go_ret2
        exact ⟨by rw [hV.out]; rfl, rfl⟩

set_option maxRecDepth 100000 in
set_option maxHeartbeats 1000000 in
theorem bysign_ref (s : ByteArray) (ar : Int) (n : Nat) (hn : First s ar n) (w : World) :
    Calls Try.prog 14 #[.string s, .int .i64 ar] w fun e w' => e = .returned (bsV n) ∧ Grown w w' := by
  obtain ⟨h1, h18, hno, hyes⟩ := hn
  have HNO := Lib.hid hno
  have HY := Lib.hid hyes
  clear hno hyes
  go_enter Try.func14, Try.ntmps14
  go_wp2
  go_loopw [6] (fun x wr => ∃ k : Nat, 1 ≤ k ∧ k ≤ n ∧ x = .int .i64 k ∧ Grown w wr) (fun x _ => 18 - (intOf x).toNat)
  case atStart => exact ⟨1, Nat.le_refl _, h1, rfl, Grown.refl _⟩
  case round =>
    obtain ⟨k, hk, hkn, rfl, hG⟩ := hrel
    have hs := refsign_any k wr
    have ha := arity_ref k wr
    by_cases hlt : k < n
    · have hm := HNO.out k hk hlt
      have hk17 : (k : Int) ≤ 17 := by omega
      rcases missR s ar k hm with hm1 | ⟨hm1, hm2⟩
      · clear hm
        go_wp2_with (first | (go_at_call 18; refine hs.mono ?_; rintro e w' ⟨rfl, hg⟩) | (go_at_call 16; refine ha.mono ?_; rintro e w' ⟨rfl, rfl⟩))
        exact ⟨⟨k + 1, by omega, by omega, by go_num, hG⟩, by simp [intOf]; omega⟩
      · clear hm
        go_wp2_with (first | (go_at_call 18; refine hs.mono ?_; rintro e w' ⟨rfl, hg⟩) | (go_at_call 16; refine ha.mono ?_; rintro e w' ⟨rfl, rfl⟩))
        exact ⟨⟨k + 1, by omega, by omega, by go_num, grown_trans hG hg⟩, by simp [intOf]; omega⟩
    · obtain rfl : k = n := by omega
      by_cases h : k = 18
      · subst h
        clear HNO HY
        go_wp2
        go_ret2
        exact ⟨rfl, hG⟩
      · obtain ⟨hm1, hm2⟩ := hitS_both s ar k (HY.out.resolve_left h)
        have hk17 : (k : Int) ≤ 17 := by omega
        have hV := Lib.hid (show bsV k = .tuple #[.int .i64 k, .bool true] from if_neg h)
        clear HNO HY
        go_wp2_with (first | (go_at_call 18; refine hs.mono ?_; rintro e w' ⟨rfl, hg⟩) | (go_at_call 16; refine ha.mono ?_; rintro e w' ⟨rfl, rfl⟩))
        go_ret2
        exact ⟨by rw [hV.out]; rfl, grown_trans hG hg⟩

set_option maxRecDepth 100000 in
set_option maxHeartbeats 1000000 in
theorem signs_any (op ar : Int) (s : ByteArray) (w : World) :
    Calls Try.prog 4 #[.int .i64 op, .string s, .int .i64 ar] w fun e w' => e = .returned (.bool true) ∧ Grown w w' := by
  obtain ⟨n, hn⟩ := first_any s ar
  have h1 := bysign_ops s ar n hn w
  have h2 := bysign_ref s ar n hn w
  clear hn
  obtain ⟨x, y, hxy⟩ : ∃ x y, bsV n = .tuple #[.int .i64 x, .bool y] := by unfold bsV; split <;> exact ⟨_, _, rfl⟩
  rw [hxy] at h1 h2
  clear hxy
  generalize hS : signV op = S
  generalize hA : arV op = A
  have h3 := fun w => arity_ops op w
  have h4 := fun w => arity_ref op w
  have h5 := fun w => sign_any op w
  have h6 := fun w => refsign_any op w
  rw [hS] at h5 h6
  rw [hA] at h3 h4
  clear hS hA
  go_enter Try.func4, Try.ntmps4
  go_wp2_with fail
  refine h1.mono ?_
  rintro e w' ⟨rfl, rfl⟩
  go_wp2_with fail
  refine h2.mono ?_
  rintro e w1 ⟨rfl, hg1⟩
  go_wp2_with fail
  refine (h3 w1).mono ?_
  rintro e w' ⟨rfl, rfl⟩
  go_wp2_with fail
  refine (h4 w1).mono ?_
  rintro e w' ⟨rfl, rfl⟩
  go_wp2_with fail
  refine (h5 w1).mono ?_
  rintro e w' ⟨rfl, rfl⟩
  go_wp2_with fail
  refine (h6 w1).mono ?_
  rintro e w2 ⟨rfl, hg2⟩
  go_wp2_with fail
  refine (awake_any w2).mono ?_
  rintro e w' ⟨rfl, rfl⟩
  go_wp2_with fail
  go_ret
  exact ⟨rfl, grown_trans hg1 hg2⟩
end Go.Proofs.Ytiddlnmpiaelmaa
