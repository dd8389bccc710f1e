/- Contracts of the small calls of package bits (Meet, Minus, Within, Len, and the library's OnesCount64), for every number of 64 bits and every memory. -/
import Derived.Test.YthmcckdoneiglaaGreatDoorProg
import Derived.Test.YthmcckdoneiglaaGreatDoorNum
import Derived.WalkKit
import Derived.Outline
import Derived.Laws.Bits64b
namespace Go.Proofs.YthmcckdoneiglaaGreatDoor
open Go Go.RowKit

theorem meet_raw (a b : Int) (w : World) :
    Calls Tryz.prog 14 #[.int .u64 a, .int .u64 b] w fun e w' => e = .returned (.int .u64 (bits .and .u64 a b)) ∧ w = w' := by
  go_enter Tryz.func14, Tryz.ntmps14
  go_wp2
  go_ret
  exact ⟨rfl, rfl⟩

theorem minus_raw (a b : Int) (w : World) :
    Calls Tryz.prog 16 #[.int .u64 a, .int .u64 b] w fun e w' => e = .returned (.int .u64 (bits .andNot .u64 a b)) ∧ w = w' := by
  go_enter Tryz.func16, Tryz.ntmps16
  go_wp2
  go_ret
  exact ⟨rfl, rfl⟩

theorem within_raw (a b : Int) (w : World) :
    Calls Tryz.prog 18 #[.int .u64 a, .int .u64 b] w fun e w' => e = .returned (.bool (bits .andNot .u64 a b == 0)) ∧ w = w' := by
  go_enter Tryz.func18, Tryz.ntmps18
  go_wp2_with (go_at_call 16; refine (minus_raw _ _ _).mono ?_; rintro e w' ⟨rfl, rfl⟩)
  go_ret
  exact ⟨rfl, rfl⟩

/-- What the folding computes, step for step. -/
def swar1 (a : Int) : Int := IntKind.u64.wrap (bits .and .u64 (a / 2) 6148914691236517205 + bits .and .u64 a 6148914691236517205)
def swar2 (a : Int) : Int := IntKind.u64.wrap (bits .and .u64 (a / 4) 3689348814741910323 + bits .and .u64 a 3689348814741910323)
def swar3 (a : Int) : Int := bits .and .u64 (IntKind.u64.wrap (a / 16 + a)) 1085102592571150095
def swar4 (a : Int) : Int := IntKind.u64.wrap (a + a / 256)
def swar5 (a : Int) : Int := IntKind.u64.wrap (a + a / 65536)
def swar6 (a : Int) : Int := IntKind.u64.wrap (a + a / 4294967296)
def swar7 (a : Int) : Int := bits .and .i64 (wrap64 a) 127

set_option maxRecDepth 100000 in
theorem ones_raw (a : Int) (w : World) :
    Calls Tryz.prog 27 #[.int .u64 a] w fun e w' => e = .returned (.int .i64 (swar7 (swar6 (swar5 (swar4 (swar3 (swar2 (swar1 a)))))))) ∧ w = w' := by
  go_enter Tryz.func27, Tryz.ntmps27
  go_wp2
  go_ret
  exact ⟨rfl, rfl⟩

theorem cast_wrap (x : Nat) (h : x < 18446744073709551616) : IntKind.u64.wrap (x : Int) = (x : Int) := by
  rw [IntKind.wrap_u64]; omega

theorem swar1_eq (a : Nat) (h : a < 18446744073709551616) : swar1 a = (s1 8 a : Nat) ∧ s1 8 a < 18446744073709551616 := by
  have m : maskN 85 8 = 6148914691236517205 := by decide
  have l1 := @Nat.and_le_right (a / 2) 6148914691236517205
  have l2 := @Nat.and_le_right a 6148914691236517205
  unfold swar1 s1
  rw [m]
  have e1 : ((a : Int) / 2) = ((a / 2 : Nat) : Int) := by omega
  have e2 := bits_and_u64_nat (a / 2) 6148914691236517205 (by omega) (by omega)
  have e3 := bits_and_u64_nat a 6148914691236517205 h (by omega)
  simp only [Int.cast_ofNat_Int] at e2 e3
  rw [e1, e2, e3, ← Int.natCast_add, cast_wrap _ (by omega)]
  exact ⟨rfl, by omega⟩

theorem swar2_eq (a : Nat) (h : a < 18446744073709551616) : swar2 a = (s2 8 a : Nat) ∧ s2 8 a < 9223372036854775808 := by
  have m : maskN 51 8 = 3689348814741910323 := by decide
  have l1 := @Nat.and_le_right (a / 4) 3689348814741910323
  have l2 := @Nat.and_le_right a 3689348814741910323
  unfold swar2 s2
  rw [m]
  have e1 : ((a : Int) / 4) = ((a / 4 : Nat) : Int) := by omega
  have e2 := bits_and_u64_nat (a / 4) 3689348814741910323 (by omega) (by omega)
  have e3 := bits_and_u64_nat a 3689348814741910323 h (by omega)
  simp only [Int.cast_ofNat_Int] at e2 e3
  rw [e1, e2, e3, ← Int.natCast_add, cast_wrap _ (by omega)]
  exact ⟨rfl, by omega⟩

theorem swar3_eq (a : Nat) (h : a < 9223372036854775808) : swar3 a = (s3 8 a : Nat) := by
  have m : maskN 15 8 = 1085102592571150095 := by decide
  unfold swar3 s3
  rw [m]
  have e1 : ((a : Int) / 16 + a) = ((a / 16 + a : Nat) : Int) := by omega
  have e2 := bits_and_u64_nat (a / 16 + a) 1085102592571150095 (by omega) (by omega)
  simp only [Int.cast_ofNat_Int] at e2
  rw [e1, cast_wrap _ (by omega), e2]

theorem and_127 (x : Nat) : x &&& 127 = x % 128 := Nat.and_two_pow_sub_one_eq_mod x 7

theorem swar7_eq (x : Nat) (h : x < 9223372036854775808) : swar7 x = ((x % 128 : Nat) : Int) := by
  unfold swar7
  have e : wrap64 (x : Int) = (x : Int) := by unfold wrap64; omega
  rw [e]
  have h1 : (BitVec.ofInt 64 (x : Int)).toNat = x := by
    rw [BitVec.ofInt_natCast, BitVec.toNat_ofNat]; exact Nat.mod_eq_of_lt (by omega)
  have h2 : (BitVec.ofInt 64 (127 : Int)).toNat = 127 := by decide
  show IntKind.i64.wrap ((BitVec.ofInt 64 (x : Int) &&& BitVec.ofInt 64 (127 : Int)).toNat : Int) = _
  rw [BitVec.toNat_and, h1, h2, and_127]
  simp [IntKind.wrap, IntKind.bits, IntKind.signed]
  omega

theorem swar_tail (p0 p1 p2 p3 p4 p5 p6 p7 X : Nat) (h0 : p0 ≤ 8) (h1 : p1 ≤ 8) (h2 : p2 ≤ 8) (h3 : p3 ≤ 8) (h4 : p4 ≤ 8) (h5 : p5 ≤ 8) (h6 : p6 ≤ 8) (h7 : p7 ≤ 8)
    (hX : X = ofBytes [p0, p1, p2, p3, p4, p5, p6, p7]) : swar7 (swar6 (swar5 (swar4 (X : Int)))) = ((p0 + p1 + p2 + p3 + p4 + p5 + p6 + p7 : Nat) : Int) := by
  obtain ⟨y, z, u, ey, hy, ez, hz, eu, hu, hm⟩ := fold_tail p0 p1 p2 p3 p4 p5 p6 p7 X _ _ _ _ _ _ _ h0 h1 h2 h3 h4 h5 h6 h7 hX rfl rfl rfl rfl rfl rfl rfl
  clear hX
  have f4 : swar4 (X : Int) = (y : Int) := by
    unfold swar4
    rw [show ((X : Int) + X / 256) = ((X + X / 256 : Nat) : Int) from by omega, ← ey, cast_wrap _ hy]
  have f5 : swar5 (y : Int) = (z : Int) := by
    unfold swar5
    rw [show ((y : Int) + y / 65536) = ((y + y / 65536 : Nat) : Int) from by omega, ← ez, cast_wrap _ hz]
  have f6 : swar6 (z : Int) = (u : Int) := by
    unfold swar6
    rw [show ((z : Int) + z / 4294967296) = ((z + z / 4294967296 : Nat) : Int) from by omega, ← eu, cast_wrap _ (by omega)]
  rw [f4, f5, f6, swar7_eq _ hu, hm]

theorem swar_pop (a : Nat) (h : a < 18446744073709551616) : swar7 (swar6 (swar5 (swar4 (swar3 (swar2 (swar1 a)))))) = ((popN 64 a : Nat) : Int) := by
  obtain ⟨e1, b1⟩ := swar1_eq a h
  obtain ⟨e2, b2⟩ := swar2_eq _ b1
  rw [e1, e2, swar3_eq _ b2]
  obtain ⟨c0, c1, c2, c3, c4, c5, c6, c7, g0, g1, g2, g3, g4, g5, g6, g7, ha⟩ := bytes8 a h
  have hl : ∀ c ∈ [c0, c1, c2, c3, c4, c5, c6, c7], c < 256 := by
    intro c hc
    simp only [List.mem_cons, List.not_mem_nil, or_false] at hc
    rcases hc with rfl | rfl | rfl | rfl | rfl | rfl | rfl | rfl <;> assumption
  have hlen : [c0, c1, c2, c3, c4, c5, c6, c7].length = 8 := rfl
  have hf := fold3 _ hl
  have hp := pop_bytes _ hl
  rw [hlen] at hf hp
  have h64 : 8 * 8 = 64 := rfl
  rw [h64] at hp
  rw [ha, hf, hp]
  simp only [List.map_cons, List.map_nil]
  rw [swar_tail _ _ _ _ _ _ _ _ _ (popN_le 8 c0) (popN_le 8 c1) (popN_le 8 c2) (popN_le 8 c3) (popN_le 8 c4) (popN_le 8 c5) (popN_le 8 c6) (popN_le 8 c7) rfl]
  simp only [List.sum_cons, List.sum_nil, Nat.add_zero, Nat.add_assoc]

theorem ones_any (a : Nat) (h : a < 18446744073709551616) (w : World) :
    Calls Tryz.prog 27 #[.int .u64 a] w fun e w' => e = .returned (.int .i64 (popN 64 a : Nat)) ∧ w = w' := by
  rw [← swar_pop a h]
  exact ones_raw a w

theorem len_any (a : Nat) (h : a < 18446744073709551616) (w : World) :
    Calls Tryz.prog 20 #[.int .u64 a] w fun e w' => e = .returned (.int .i64 (popN 64 a : Nat)) ∧ w = w' := by
  go_enter Tryz.func20, Tryz.ntmps20
  go_wp2_with (go_at_call 27; refine (ones_any _ h _).mono ?_; rintro e w' ⟨rfl, rfl⟩)
  go_ret
  exact ⟨rfl, rfl⟩

/-- a without b, as the machine has it. -/
def minusN (a b : Nat) : Nat := a &&& (b ^^^ 18446744073709551615)

theorem bits_andNot_nat (a b : Nat) (ha : a < 18446744073709551616) (hb : b < 18446744073709551616) : bits .andNot .u64 (a : Int) (b : Int) = ((minusN a b : Nat) : Int) := by
  have h1 : (BitVec.ofInt 64 (a : Int)).toNat = a := by
    rw [BitVec.ofInt_natCast, BitVec.toNat_ofNat]; exact Nat.mod_eq_of_lt (by omega)
  have h2 : (BitVec.ofInt 64 (b : Int)).toNat = b := by
    rw [BitVec.ofInt_natCast, BitVec.toNat_ofNat]; exact Nat.mod_eq_of_lt (by omega)
  have h3 : (~~~(BitVec.ofInt 64 (b : Int))).toNat = b ^^^ 18446744073709551615 := by
    have : ~~~(BitVec.ofInt 64 (b : Int)) = (BitVec.ofInt 64 (b : Int)) ^^^ BitVec.allOnes 64 := by
      rw [BitVec.xor_allOnes]
    rw [this, BitVec.toNat_xor, h2]; rfl
  have hx : minusN a b < 18446744073709551616 := by
    have := @Nat.and_le_left a (b ^^^ 18446744073709551615)
    unfold minusN; omega
  show IntKind.u64.wrap ((BitVec.ofInt 64 (a : Int) &&& ~~~(BitVec.ofInt 64 (b : Int))).toNat : Int) = _
  rw [BitVec.toNat_and, h1, h3]
  exact cast_wrap _ hx

theorem meet_any (a b : Nat) (ha : a < 18446744073709551616) (hb : b < 18446744073709551616) (w : World) :
    Calls Tryz.prog 14 #[.int .u64 a, .int .u64 b] w fun e w' => e = .returned (.int .u64 (a &&& b : Nat)) ∧ w = w' := by
  rw [← bits_and_u64_nat a b ha hb]
  exact meet_raw a b w

theorem minus_any (a b : Nat) (ha : a < 18446744073709551616) (hb : b < 18446744073709551616) (w : World) :
    Calls Tryz.prog 16 #[.int .u64 a, .int .u64 b] w fun e w' => e = .returned (.int .u64 (minusN a b : Nat)) ∧ w = w' := by
  rw [← bits_andNot_nat a b ha hb]
  exact minus_raw a b w

theorem within_any (a b : Nat) (ha : a < 18446744073709551616) (hb : b < 18446744073709551616) (w : World) :
    Calls Tryz.prog 18 #[.int .u64 a, .int .u64 b] w fun e w' => e = .returned (.bool (minusN a b == 0)) ∧ w = w' := by
  have e : (minusN a b == 0) = (bits .andNot .u64 (a : Int) (b : Int) == 0) := by
    rw [bits_andNot_nat a b ha hb, Bool.eq_iff_iff]; simp
  rw [e]
  exact within_raw a b w
end Go.Proofs.YthmcckdoneiglaaGreatDoor
