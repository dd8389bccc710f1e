/- Plain facts on numbers of 64 bits: how many bits are set (told by folding, as Go's library does it), the places of the set bits, and joins of single bits. No condition beyond 'below 2^64' where it stands. -/
import Derived.Laws.Bits64b
import Derived.Lib.TrailingZeros
namespace Go.Proofs.YthmcckdoneiglaaGreatDoor
open Go

/-! ### how many bits -/
def popN : Nat → Nat → Nat
  | 0, _ => 0
  | n + 1, a => a % 2 + popN n (a / 2)

theorem popN_or_and : ∀ (n a b : Nat), popN n (a ||| b) + popN n (a &&& b) = popN n a + popN n b
  | 0, _, _ => rfl
  | n + 1, a, b => by
    have ih := popN_or_and n (a / 2) (b / 2)
    simp only [popN, Nat.or_div_two, Nat.and_div_two]
    have h1 : (a ||| b) % 2 + (a &&& b) % 2 = a % 2 + b % 2 := by
      have e1 : (a ||| b) % 2 = (a % 2) ||| (b % 2) := by
        have := Nat.or_mod_two_pow (a := a) (b := b) (n := 1); simpa using this
      have e2 : (a &&& b) % 2 = (a % 2) &&& (b % 2) := by
        have := Nat.and_mod_two_pow (a := a) (b := b) (n := 1); simpa using this
      rw [e1, e2]
      rcases Nat.mod_two_eq_zero_or_one a with ha | ha <;> rcases Nat.mod_two_eq_zero_or_one b with hb | hb <;> simp [ha, hb]
    omega

theorem popN_le : ∀ (n a : Nat), popN n a ≤ n
  | 0, _ => Nat.le_refl 0
  | n + 1, a => by
    have := popN_le n (a / 2)
    simp only [popN]; omega

theorem popN_add : ∀ (m n a : Nat), popN (m + n) a = popN m (a % 2 ^ m) + popN n (a / 2 ^ m)
  | 0, n, a => by simp [popN]
  | m + 1, n, a => by
    have ih := popN_add m n (a / 2)
    have e : m + 1 + n = (m + n) + 1 := by omega
    rw [e]
    simp only [popN]
    rw [ih]
    have h1 : a % 2 ^ (m + 1) % 2 = a % 2 := by
      rw [Nat.pow_succ, Nat.mul_comm]; exact Nat.mod_mul_right_mod a 2 (2 ^ m)
    have h2 : a % 2 ^ (m + 1) / 2 = a / 2 % 2 ^ m := by
      rw [Nat.pow_succ, Nat.mul_comm]; exact Nat.mod_mul_right_div_self a 2 (2 ^ m)
    have h3 : a / 2 / 2 ^ m = a / 2 ^ (m + 1) := by
      rw [Nat.div_div_eq_div_mul, Nat.pow_succ, Nat.mul_comm]
    rw [h1, h2, h3]; omega

/-- A byte below a number: masks go byte by byte. -/
theorem land_byte (c p a m : Nat) (hc : c < 256) (hp : p < 256) : (c + 256 * a) &&& (p + 256 * m) = (c &&& p) + 256 * (a &&& m) := by
  have hcp : c &&& p < 256 := Nat.and_lt_two_pow (n := 8) c (by omega)
  apply Nat.eq_of_testBit_eq
  intro i
  have e1 : c + 256 * a = 2 ^ 8 * a + c := by omega
  have e2 : p + 256 * m = 2 ^ 8 * m + p := by omega
  have e3 : (c &&& p) + 256 * (a &&& m) = 2 ^ 8 * (a &&& m) + (c &&& p) := by omega
  rw [Nat.testBit_and, e1, e2, e3, Nat.testBit_two_pow_mul_add a (by omega : c < 2 ^ 8), Nat.testBit_two_pow_mul_add m (by omega : p < 2 ^ 8), Nat.testBit_two_pow_mul_add (a &&& m) (by omega : c &&& p < 2 ^ 8)]
  by_cases h : i < 8 <;> simp [h, Nat.testBit_and]

def maskN (p : Nat) : Nat → Nat
  | 0 => 0
  | n + 1 => p + 256 * maskN p n

def s1 (n a : Nat) : Nat := ((a / 2) &&& maskN 85 n) + (a &&& maskN 85 n)
def s2 (n a : Nat) : Nat := ((a / 4) &&& maskN 51 n) + (a &&& maskN 51 n)
def s3 (n a : Nat) : Nat := (a / 16 + a) &&& maskN 15 n

theorem s1_byte : ∀ c : Fin 256, ∀ t : Fin 2, ((c.val / 2 + 128 * t.val) &&& 85) = ((c.val / 2) &&& 85) := by decide +kernel
theorem s2_byte : ∀ c : Fin 256, ∀ t : Fin 4, ((c.val / 4 + 64 * t.val) &&& 51) = ((c.val / 4) &&& 51) := by decide +kernel

def p1 (c : Nat) : Nat := ((c / 2) &&& 85) + (c &&& 85)
def p2 (c : Nat) : Nat := ((c / 4) &&& 51) + (c &&& 51)
def p3 (c : Nat) : Nat := (c / 16 + c) &&& 15

theorem s1_step (n c a : Nat) (hc : c < 256) : s1 (n + 1) (c + 256 * a) = p1 c + 256 * s1 n a := by
  have e : (c + 256 * a) / 2 = (c / 2 + 128 * (a % 2)) + 256 * (a / 2) := by omega
  unfold s1 p1
  rw [maskN, e, land_byte _ _ _ _ (by omega) (by omega), land_byte _ _ _ _ hc (by omega)]
  have := s1_byte ⟨c, hc⟩ ⟨a % 2, by omega⟩
  simp only at this
  rw [this]; omega

theorem s2_step (n c a : Nat) (hc : c < 256) : s2 (n + 1) (c + 256 * a) = p2 c + 256 * s2 n a := by
  have e : (c + 256 * a) / 4 = (c / 4 + 64 * (a % 4)) + 256 * (a / 4) := by omega
  unfold s2 p2
  rw [maskN, e, land_byte _ _ _ _ (by omega) (by omega), land_byte _ _ _ _ hc (by omega)]
  have := s2_byte ⟨c, hc⟩ ⟨a % 4, by omega⟩
  simp only at this
  rw [this]; omega

/-- The bytes of a number, the least first. -/
def ofBytes : List Nat → Nat
  | [] => 0
  | c :: l => c + 256 * ofBytes l

theorem s1_bytes : ∀ (l : List Nat), (∀ c ∈ l, c < 256) → s1 l.length (ofBytes l) = ofBytes (l.map p1)
  | [], _ => by simp [s1, ofBytes, maskN]
  | c :: l, h => by
    simp only [List.length_cons, ofBytes, List.map_cons]
    rw [s1_step _ _ _ (h c (by simp)), s1_bytes l (fun d hd => h d (by simp [hd]))]

theorem s2_bytes : ∀ (l : List Nat), (∀ c ∈ l, c < 256) → s2 l.length (ofBytes l) = ofBytes (l.map p2)
  | [], _ => by simp [s2, ofBytes, maskN]
  | c :: l, h => by
    simp only [List.length_cons, ofBytes, List.map_cons]
    rw [s2_step _ _ _ (h c (by simp)), s2_bytes l (fun d hd => h d (by simp [hd]))]

theorem s3_byte : ∀ c : Fin 5, ∀ d : Fin 5, ∀ t : Fin 5, ((d.val + 16 * t.val + (c.val + 16 * d.val)) &&& 15) = ((d.val + (c.val + 16 * d.val)) &&& 15) := by decide +kernel

def Nib (c : Nat) : Prop := c % 16 ≤ 4 ∧ c / 16 ≤ 4
theorem ofBytes_mod : ∀ (l : List Nat), (∀ c ∈ l, Nib c) → ofBytes l % 16 ≤ 4
  | [], _ => by simp [ofBytes]
  | c :: l, h => by
    have := (h c (by simp)).1
    simp only [ofBytes]; omega

theorem s3_bytes : ∀ (l : List Nat), (∀ c ∈ l, Nib c) → s3 l.length (ofBytes l) = ofBytes (l.map p3)
  | [], _ => by simp [s3, ofBytes, maskN]
  | c :: l, h => by
    have ih := s3_bytes l (fun d hd => h d (by simp [hd]))
    have hm := ofBytes_mod l (fun d hd => h d (by simp [hd]))
    obtain ⟨h1, h2⟩ := h c (by simp)
    simp only [List.length_cons, ofBytes, List.map_cons]
    rw [← ih]
    unfold s3 p3
    have e : (c + 256 * ofBytes l) / 16 + (c + 256 * ofBytes l) = (c / 16 + 16 * (ofBytes l % 16) + c) + 256 * (ofBytes l / 16 + ofBytes l) := by omega
    rw [maskN, e, land_byte _ _ _ _ (by omega) (by omega)]
    have := s3_byte ⟨c % 16, by omega⟩ ⟨c / 16, by omega⟩ ⟨ofBytes l % 16, by omega⟩
    simp only at this
    have ec : c % 16 + 16 * (c / 16) = c := by omega
    rw [ec] at this
    rw [this]

theorem byte_nib : ∀ c : Fin 256, p2 (p1 c.val) % 16 ≤ 4 ∧ p2 (p1 c.val) / 16 ≤ 4 ∧ p1 c.val < 256 := by decide +kernel
theorem byte_pop : ∀ c : Fin 256, p3 (p2 (p1 c.val)) = popN 8 c.val := by decide +kernel

theorem pop_bytes : ∀ (l : List Nat), (∀ c ∈ l, c < 256) → popN (8 * l.length) (ofBytes l) = (l.map (popN 8)).sum
  | [], _ => by simp [popN, ofBytes]
  | c :: l, h => by
    have ih := pop_bytes l (fun d hd => h d (by simp [hd]))
    have hc := h c (by simp)
    have e : 8 * (c :: l).length = 8 + 8 * l.length := by simp; omega
    rw [e, popN_add]
    simp only [ofBytes, List.map_cons, List.sum_cons]
    have e1 : (c + 256 * ofBytes l) % 2 ^ 8 = c := by omega
    have e2 : (c + 256 * ofBytes l) / 2 ^ 8 = ofBytes l := by omega
    rw [e1, e2, ih]

theorem fold3 (l : List Nat) (h : ∀ c ∈ l, c < 256) : s3 l.length (s2 l.length (s1 l.length (ofBytes l))) = ofBytes (l.map (popN 8)) := by
  rw [s1_bytes l h]
  have h2 := s2_bytes (l.map p1) (by
    intro c hc
    obtain ⟨d, hd, rfl⟩ := List.mem_map.1 hc
    exact (byte_nib ⟨d, h d hd⟩).2.2)
  rw [List.length_map] at h2
  rw [h2]
  have h3 := s3_bytes ((l.map p1).map p2) (by
    intro c hc
    simp only [List.map_map, List.mem_map, Function.comp] at hc
    obtain ⟨d, hd, rfl⟩ := hc
    exact ⟨(byte_nib ⟨d, h d hd⟩).1, (byte_nib ⟨d, h d hd⟩).2.1⟩)
  simp only [List.length_map] at h3
  rw [h3]
  congr 1
  simp only [List.map_map]
  apply List.map_congr_left
  intro c hc
  exact byte_pop ⟨c, h c hc⟩

/-- A number below 2^64 as its eight bytes. -/
theorem bytes8 (a : Nat) (ha : a < 18446744073709551616) : ∃ c0 c1 c2 c3 c4 c5 c6 c7, c0 < 256 ∧ c1 < 256 ∧ c2 < 256 ∧ c3 < 256 ∧ c4 < 256 ∧ c5 < 256 ∧ c6 < 256 ∧ c7 < 256 ∧ a = ofBytes [c0, c1, c2, c3, c4, c5, c6, c7] :=
  ⟨a % 256, a / 256 % 256, a / 256 / 256 % 256, a / 256 / 256 / 256 % 256, a / 256 / 256 / 256 / 256 % 256, a / 256 / 256 / 256 / 256 / 256 % 256, a / 256 / 256 / 256 / 256 / 256 / 256 % 256, a / 256 / 256 / 256 / 256 / 256 / 256 / 256 % 256,
    by omega, by omega, by omega, by omega, by omega, by omega, by omega, by omega, by simp only [ofBytes]; omega⟩

theorem fold_y (p0 p1 p2 X0 X1 X2 X3 : Nat) (h0 : p0 ≤ 8) (h1 : p1 ≤ 8) (h2 : p2 ≤ 8) (e0 : X0 = p0 + 256 * X1) (e1 : X1 = p1 + 256 * X2) (e2 : X2 = p2 + 256 * X3) :
    X0 / 256 = X1 ∧ (X0 + X1) / 65536 = X2 + X3 := by
  constructor
  · omega
  · have : X0 + X1 = (p0 + p1 + 256 * (p1 + p2)) + 65536 * (X2 + X3) := by omega
    omega

theorem fold_z (L z H : Nat) (hL : L < 4294967296) (hz : z = L + 4294967296 * H) : z / 4294967296 = H := by omega

theorem fold_low (p0 p1 p2 p3 X0 X1 X2 X3 X4 : Nat) (e0 : X0 = p0 + 256 * X1) (e1 : X1 = p1 + 256 * X2) (e2 : X2 = p2 + 256 * X3) (e3 : X3 = p3 + 256 * X4) :
    X0 = (p0 + 256 * p1 + 65536 * p2 + 16777216 * p3) + 4294967296 * X4 := by omega

theorem fold_sum (p0 p1 p2 p3 p4 p5 p6 p7 X0 X1 X2 X3 X4 X5 X6 X7 : Nat) (h0 : p0 ≤ 8) (h1 : p1 ≤ 8) (h2 : p2 ≤ 8) (h3 : p3 ≤ 8) (h4 : p4 ≤ 8) (h5 : p5 ≤ 8) (h6 : p6 ≤ 8) (h7 : p7 ≤ 8)
    (e0 : X0 = p0 + 256 * X1) (e1 : X1 = p1 + 256 * X2) (e2 : X2 = p2 + 256 * X3) (e3 : X3 = p3 + 256 * X4) (e4 : X4 = p4 + 256 * X5) (e5 : X5 = p5 + 256 * X6) (e6 : X6 = p6 + 256 * X7) (e7 : X7 = p7) :
    (X0 + X1 + X2 + X3 + X4 + X5 + X6 + X7) % 128 = p0 + p1 + p2 + p3 + p4 + p5 + p6 + p7 := by
  have : X0 + X1 + X2 + X3 + X4 + X5 + X6 + X7 = (p0 + p1 + p2 + p3 + p4 + p5 + p6 + p7) + 128 * (2 * (X1 + X2 + X3 + X4 + X5 + X6 + X7)) := by omega
  omega

theorem fold_tail (p0 p1 p2 p3 p4 p5 p6 p7 X0 X1 X2 X3 X4 X5 X6 X7 : Nat) (h0 : p0 ≤ 8) (h1 : p1 ≤ 8) (h2 : p2 ≤ 8) (h3 : p3 ≤ 8) (h4 : p4 ≤ 8) (h5 : p5 ≤ 8) (h6 : p6 ≤ 8) (h7 : p7 ≤ 8)
    (e0 : X0 = p0 + 256 * X1) (e1 : X1 = p1 + 256 * X2) (e2 : X2 = p2 + 256 * X3) (e3 : X3 = p3 + 256 * X4) (e4 : X4 = p4 + 256 * X5) (e5 : X5 = p5 + 256 * X6) (e6 : X6 = p6 + 256 * X7) (e7 : X7 = p7) :
    ∃ y z u, y = X0 + X0 / 256 ∧ y < 18446744073709551616 ∧ z = y + y / 65536 ∧ z < 18446744073709551616 ∧ u = z + z / 4294967296 ∧ u < 9223372036854775808 ∧ u % 128 = p0 + p1 + p2 + p3 + p4 + p5 + p6 + p7 := by
  obtain ⟨f1, f2⟩ := fold_y p0 p1 p2 X0 X1 X2 X3 h0 h1 h2 e0 e1 e2
  have b6 : X6 ≤ 2056 := by omega
  have b5 : X5 ≤ 526344 := by omega
  have b4 : X4 ≤ 134744072 := by omega
  have b3 : X3 ≤ 34494482440 := by omega
  have b2 : X2 ≤ 8830587504648 := by omega
  have b1 : X1 ≤ 2260630401189896 := by omega
  have b0 : X0 ≤ 578721382704613384 := by omega
  have l0 := fold_low _ _ _ _ _ _ _ _ _ e0 e1 e2 e3
  have l1 := fold_low _ _ _ _ _ _ _ _ _ e1 e2 e3 e4
  have l2 := fold_low _ _ _ _ _ _ _ _ _ e2 e3 e4 e5
  have l3 := fold_low _ _ _ _ _ _ _ _ _ e3 e4 e5 e6
  have f3 : (X0 + X1 + X2 + X3) / 4294967296 = X4 + X5 + X6 + X7 :=
    fold_z ((p0 + 256 * p1 + 65536 * p2 + 16777216 * p3) + (p1 + 256 * p2 + 65536 * p3 + 16777216 * p4) + (p2 + 256 * p3 + 65536 * p4 + 16777216 * p5) + (p3 + 256 * p4 + 65536 * p5 + 16777216 * p6)) _ _ (by clear l0 l1 l2 l3 e0 e1 e2 e3 e4 e5 e6 f1 f2; omega) (by clear e0 e1 e2 e3 e4 e5 e6 f1 f2 b0 b1 b2 b3 b4 b5 b6; omega)
  have f4 := fold_sum p0 p1 p2 p3 p4 p5 p6 p7 X0 X1 X2 X3 X4 X5 X6 X7 h0 h1 h2 h3 h4 h5 h6 h7 e0 e1 e2 e3 e4 e5 e6 e7
  have hu : X0 + X1 + X2 + X3 + X4 + X5 + X6 + X7 < 9223372036854775808 := by clear l0 l1 l2 l3 e0 e1 e2 e3 e4 e5 e6 f1 f2 f3 f4; omega
  refine ⟨X0 + X1, X0 + X1 + X2 + X3, X0 + X1 + X2 + X3 + X4 + X5 + X6 + X7, by rw [f1], by omega, by rw [f2, Nat.add_assoc (X0 + X1)], by omega, by rw [f3]; clear l0 l1 l2 l3 e0 e1 e2 e3 e4 e5 e6 f1 f2 f3 f4; omega, hu, f4⟩
end Go.Proofs.YthmcckdoneiglaaGreatDoor
