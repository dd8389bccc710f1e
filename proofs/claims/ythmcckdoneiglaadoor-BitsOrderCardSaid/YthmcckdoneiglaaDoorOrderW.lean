/- BitsOrder returns true at every three labels, in every memory in which the library's tables and errors lie. -/
import Derived.Test.YthmcckdoneiglaaDoorN
namespace Go.Proofs.YthmcckdoneiglaaDoor
open Go Go.RowKit

def wB (x y : Nat) : Bool := minusN x y == 0

theorem testBit_minus (a b i : Nat) (hi : i < 64) : (minusN a b).testBit i = (a.testBit i && !b.testBit i) := by
  unfold minusN
  rw [Nat.testBit_and, Nat.testBit_xor]
  have : (18446744073709551615 : Nat).testBit i = true := by
    have h := Nat.testBit_two_pow_sub_one 64 i
    rw [show (2 ^ 64 - 1 : Nat) = 18446744073709551615 from rfl] at h
    rw [h]; simpa using hi
  rw [this]
  simp

theorem testBit_high {a i : Nat} (ha : a < 18446744073709551616) (hi : ¬ i < 64) : a.testBit i = false :=
  Nat.testBit_lt_two_pow (Nat.lt_of_lt_of_le ha (show 2 ^ 64 ≤ 2 ^ i from Nat.pow_le_pow_right (by omega) (by omega)))

theorem minus_lt {a b : Nat} (ha : a < 18446744073709551616) : minusN a b < 18446744073709551616 := by
  have := @Nat.and_le_left a (b ^^^ 18446744073709551615)
  unfold minusN; omega

theorem wB_iff {x y : Nat} (hx : x < 18446744073709551616) : wB x y = true ↔ ∀ i, i < 64 → x.testBit i = true → y.testBit i = true := by
  unfold wB
  rw [beq_iff_eq]
  constructor
  · intro h i hi hxi
    have := testBit_minus x y i hi
    rw [h, Nat.zero_testBit, hxi] at this
    simpa using this.symm
  · intro h
    apply Nat.eq_of_testBit_eq
    intro i
    rw [Nat.zero_testBit]
    by_cases hi : i < 64
    · rw [testBit_minus x y i hi]
      cases hxi : x.testBit i with
      | false => rfl
      | true => rw [h i hi hxi]; rfl
    · exact testBit_high (minus_lt hx) hi

theorem wB_eq {x y : Nat} (hx : x < 18446744073709551616) (hy : y < 18446744073709551616) : (x ||| y == y) = wB x y := by
  rw [Bool.eq_iff_iff, beq_iff_eq, wB_iff hx]
  constructor
  · intro h i _ hxi
    rw [← h, Nat.testBit_or, hxi]; rfl
  · intro h
    apply Nat.eq_of_testBit_eq
    intro i
    rw [Nat.testBit_or]
    by_cases hi : i < 64
    · cases hxi : x.testBit i with
      | false => rfl
      | true => rw [h i hi hxi]; rfl
    · rw [testBit_high hx hi, testBit_high hy hi]; rfl

theorem minus_or_and {a b : Nat} (ha : a < 18446744073709551616) : minusN a b ||| (a &&& b) = a := by
  apply Nat.eq_of_testBit_eq
  intro i
  rw [Nat.testBit_or, Nat.testBit_and]
  by_cases hi : i < 64
  · rw [testBit_minus a b i hi]
    cases a.testBit i <;> cases b.testBit i <;> rfl
  · rw [testBit_high ha hi, testBit_high (minus_lt ha) hi]; rfl

theorem within_w (x y : Nat) (hx : x < 18446744073709551616) (hy : y < 18446744073709551616) (w : World) :
    Calls Tryd.prog 23 #[.int .u64 x, .int .u64 y] w fun e w' => e = .returned (.bool (wB x y)) ∧ w = w' := within_any x y hx hy w

theorem join_new (x y J : Nat) (hx : x < 18446744073709551616) (hy : y < 18446744073709551616) (hJ : x ||| y = J) (w : World) :
    Calls Tryd.prog 20 #[.slice (some ⟨w.heap.size, 0, none⟩) 2 2] (w.alloc (.cells #[.int .u64 x, .int .u64 y] 23)) fun e w' => e = .returned (.int .u64 (J : Int)) ∧ w.alloc (.cells #[.int .u64 x, .int .u64 y] 23) = w' := by
  rw [← hJ]
  exact join_two x y hx hy w.heap.size _ (by rw [World.cell?_alloc_new]; rfl) (by rw [World.cell?_alloc_new]; rfl)

set_option maxRecDepth 100000 in
set_option maxHeartbeats 4000000 in
theorem order_core (a b c J M D n1 n2 n3 n4 : Nat) (t p q r s : Bool) (ha : a < 18446744073709551616) (hb : b < 18446744073709551616) (hc : c < 18446744073709551616) (hJ : J < 18446744073709551616) (hM : M < 18446744073709551616) (hD : D < 18446744073709551616)
    (eJ : a ||| b = J) (eM : a &&& b = M) (eD : minusN a b = D) (eA : D ||| M = a)
    (l1 : popN 64 J = n1) (l2 : popN 64 M = n2) (l3 : popN 64 a = n3) (l4 : popN 64 b = n4) (hn : n1 + n2 = n3 + n4) (hs : n1 ≤ 64 ∧ n2 ≤ 64 ∧ n3 ≤ 64 ∧ n4 ≤ 64)
    (haJ : wB a J = true) (hbJ : wB b J = true) (hMa : wB M a = true) (hMb : wB M b = true) (hp : wB a c = p) (hq : wB b c = q) (hr : wB c a = r) (hs' : wB c b = s) (hpq : p = true → q = true → wB J c = true) (hrs : r = true → s = true → wB c M = true)
    (ht : wB a b = t) (hjt : (((J : Int) == (b : Int)) = t)) (hdt : ((D : Int) == 0) = t) (w : World) (hE : Env w) :
    Calls Tryd.prog 6 #[.int .u64 a, .int .u64 b, .int .u64 c] w fun e w' => e = .returned (.bool true) ∧ Below w.heap.size w w' := by
  have C1 := Lib.hid (fun W => join_new a b J ha hb eJ W)
  have C2 := Lib.hid (fun W => eM ▸ meet_any a b ha hb W)
  have C3 := Lib.hid (fun W => eD ▸ minus_any a b ha hb W)
  have C4 := Lib.hid (fun W => join_new D M a hD hM eA W)
  have L1 := Lib.hid (fun W => l1 ▸ len_any J hJ W)
  have L2 := Lib.hid (fun W => l2 ▸ len_any M hM W)
  have L3 := Lib.hid (fun W => l3 ▸ len_any a ha W)
  have L4 := Lib.hid (fun W => l4 ▸ len_any b hb W)
  obtain ⟨hs1, hs2, hs3, hs4⟩ := hs
  have hsum : (((n1 : Int) + (n2 : Int)) == ((n3 : Int) + (n4 : Int))) = true := by simp; omega
  clear eJ eM eD eA l1 l2 l3 l4 hn
  have h8 := hE.1.2.2
  have HPQ := Lib.hid hpq
  have HRS := Lib.hid hrs
  have hpqc : (p = false ∨ (p = true ∧ q = false)) ∨ (p = true ∧ q = true ∧ wB J c = true) := by
    cases hpp : p with
    | false => exact .inl (.inl rfl)
    | true => cases hqq : q with
      | false => exact .inl (.inr ⟨rfl, rfl⟩)
      | true => exact .inr ⟨rfl, rfl, hpq hpp hqq⟩
  have hrsc : (r = false ∨ (r = true ∧ s = false)) ∨ (r = true ∧ s = true ∧ wB c M = true) := by
    cases hrr : r with
    | false => exact .inl (.inl rfl)
    | true => cases hss : s with
      | false => exact .inl (.inr ⟨rfl, rfl⟩)
      | true => exact .inr ⟨rfl, rfl, hrs hrr hss⟩
  clear hpq hrs HPQ HRS
  rcases hpqc with (rfl | ⟨rfl, rfl⟩) | ⟨rfl, rfl, hJc⟩
  all_goals rcases hrsc with (rfl | ⟨rfl, rfl⟩) | ⟨rfl, rfl, hcM⟩
  all_goals cases t
  all_goals as_aux_lemma =>
    go_enter Tryd.func6, Tryd.ntmps6
    go_wp2_with fail
    refine (C1.out w).mono ?_
    rintro e w1 ⟨rfl, hw1⟩
    have hb1 : Below w.heap.size w w1 := by rw [← hw1]; exact (Below.refl _ w).alloc (Nat.le_refl _) _
    clear hw1
    go_wp2_with (first | (go_at_call 21; refine (C2.out _).mono ?_; rintro e w' ⟨rfl, rfl⟩) | (go_at_call 23; refine (within_w _ _ (by assumption) (by assumption) _).mono ?_; rintro e w' ⟨rfl, rfl⟩) | (go_at_call 22; refine (C3.out _).mono ?_; rintro e w' ⟨rfl, rfl⟩) | (go_at_call 19; first | (refine (L1.out _).mono ?_; rintro e w' ⟨rfl, rfl⟩) | (refine (L2.out _).mono ?_; rintro e w' ⟨rfl, rfl⟩) | (refine (L3.out _).mono ?_; rintro e w' ⟨rfl, rfl⟩) | (refine (L4.out _).mono ?_; rintro e w' ⟨rfl, rfl⟩)))
    refine (C4.out w1).mono ?_
    rintro e w2 ⟨rfl, hw2⟩
    have hb2 : Below w.heap.size w w2 := by rw [← hw2]; exact hb1.alloc hb1.size _
    clear hw2
    go_wp2_with (go_at_call 11; refine (awake_any _ (hE.below h8 hb2)).mono ?_; rintro e w3 ⟨rfl, hb3⟩)
    go_ret
    exact ⟨rfl, hb2.trans (hb3.mono hb2.size)⟩
end Go.Proofs.YthmcckdoneiglaaDoor
