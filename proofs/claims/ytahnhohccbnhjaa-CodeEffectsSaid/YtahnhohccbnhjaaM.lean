/- Plain facts: groups put together in a word of 64 bits, from the lowest on and from the highest on, unsigned and signed. -/
import Derived.Test.YtahnhohccbnhjaaN
namespace Go.Proofs.Ytahnhohccbnhjaa
open Go Go.RowKit

theorem valU_take : ∀ (l : List Nat) (j : Nat), j < l.length → valU (l.take (j + 1)) = valU (l.take j) + 128 ^ j * (l.getD j 0 % 128)
  | [], j, h => absurd h (by simp)
  | x :: l, 0, _ => by simp [valU]
  | x :: l, j + 1, h => by
    have := valU_take l j (by simpa using h)
    rw [List.take_succ_cons, valU, this, List.take_succ_cons, valU, Nat.mul_add, Nat.pow_succ]
    simp only [List.getD_cons_succ]
    rw [Nat.mul_comm (128 ^ j) 128, Nat.mul_assoc]
    omega
theorem valU_lt : ∀ l : List Nat, valU l < 128 ^ l.length
  | [] => by simp [valU]
  | x :: l => by
    have := valU_lt l
    rw [valU, List.length_cons, Nat.pow_succ]
    omega
theorem valU_drop (l : List Nat) (j : Nat) (h : j < l.length) : valU (l.drop j) = l.getD j 0 % 128 + 128 * valU (l.drop (j + 1)) := by
  rw [List.drop_eq_getElem_cons h, valU, List.getD_eq_getElem?_getD, List.getElem?_eq_getElem h]
  rfl

theorem ten (P : Nat → Prop) (h0 : P 0) (h1 : P 1) (h2 : P 2) (h3 : P 3) (h4 : P 4) (h5 : P 5) (h6 : P 6) (h7 : P 7) (h8 : P 8) (h9 : P 9) : ∀ j, j < 10 → P j := by
  intro j hj
  have : j = 0 ∨ j = 1 ∨ j = 2 ∨ j = 3 ∨ j = 4 ∨ j = 5 ∨ j = 6 ∨ j = 7 ∨ j = 8 ∨ j = 9 := by omega
  rcases this with rfl | rfl | rfl | rfl | rfl | rfl | rfl | rfl | rfl | rfl <;> assumption

/-- One group more, above those that there are: as numbers. -/
theorem joinN (z V j : Nat) (hj : j < 10) (hV : V < 128 ^ j) : V < W64 ∧ V ||| z * 2 ^ (7 * j) % W64 = (V + 128 ^ j * z) % W64 := by
  revert V
  refine ten (fun j => ∀ V, V < 128 ^ j → V < W64 ∧ V ||| z * 2 ^ (7 * j) % W64 = (V + 128 ^ j * z) % W64) ?_ ?_ ?_ ?_ ?_ ?_ ?_ ?_ ?_ ?_ j hj
  · intro V hV
    simp only [W64, Nat.reducePow, Nat.reduceMul] at hV ⊢
    refine ⟨by omega, ?_⟩
    rw [Nat.or_comm, nat_join 0 _ V (by simp only [Nat.reducePow]; omega) (by simp only [Nat.reducePow]; omega)]; omega
  · intro V hV
    simp only [W64, Nat.reducePow, Nat.reduceMul] at hV ⊢
    refine ⟨by omega, ?_⟩
    rw [Nat.or_comm, nat_join 7 _ V (by simp only [Nat.reducePow]; omega) (by simp only [Nat.reducePow]; omega)]; omega
  · intro V hV
    simp only [W64, Nat.reducePow, Nat.reduceMul] at hV ⊢
    refine ⟨by omega, ?_⟩
    rw [Nat.or_comm, nat_join 14 _ V (by simp only [Nat.reducePow]; omega) (by simp only [Nat.reducePow]; omega)]; omega
  · intro V hV
    simp only [W64, Nat.reducePow, Nat.reduceMul] at hV ⊢
    refine ⟨by omega, ?_⟩
    rw [Nat.or_comm, nat_join 21 _ V (by simp only [Nat.reducePow]; omega) (by simp only [Nat.reducePow]; omega)]; omega
  · intro V hV
    simp only [W64, Nat.reducePow, Nat.reduceMul] at hV ⊢
    refine ⟨by omega, ?_⟩
    rw [Nat.or_comm, nat_join 28 _ V (by simp only [Nat.reducePow]; omega) (by simp only [Nat.reducePow]; omega)]; omega
  · intro V hV
    simp only [W64, Nat.reducePow, Nat.reduceMul] at hV ⊢
    refine ⟨by omega, ?_⟩
    rw [Nat.or_comm, nat_join 35 _ V (by simp only [Nat.reducePow]; omega) (by simp only [Nat.reducePow]; omega)]; omega
  · intro V hV
    simp only [W64, Nat.reducePow, Nat.reduceMul] at hV ⊢
    refine ⟨by omega, ?_⟩
    rw [Nat.or_comm, nat_join 42 _ V (by simp only [Nat.reducePow]; omega) (by simp only [Nat.reducePow]; omega)]; omega
  · intro V hV
    simp only [W64, Nat.reducePow, Nat.reduceMul] at hV ⊢
    refine ⟨by omega, ?_⟩
    rw [Nat.or_comm, nat_join 49 _ V (by simp only [Nat.reducePow]; omega) (by simp only [Nat.reducePow]; omega)]; omega
  · intro V hV
    simp only [W64, Nat.reducePow, Nat.reduceMul] at hV ⊢
    refine ⟨by omega, ?_⟩
    rw [Nat.or_comm, nat_join 56 _ V (by simp only [Nat.reducePow]; omega) (by simp only [Nat.reducePow]; omega)]; omega
  · intro V hV
    simp only [W64, Nat.reducePow, Nat.reduceMul] at hV ⊢
    refine ⟨by omega, ?_⟩
    rw [Nat.or_comm, nat_join 63 _ V (by simp only [Nat.reducePow]; omega) (by simp only [Nat.reducePow]; omega)]; omega

theorem u64_wrap_nat (x : Nat) : IntKind.u64.wrap (x : Int) = ((x % W64 : Nat) : Int) := by rw [IntKind.wrap_u64]; simp only [W64]; omega
theorem shl_nat (z j : Nat) : (z : Int) * 2 ^ j = ((z * 2 ^ j : Nat) : Int) := by rw [Int.natCast_mul, Int.natCast_pow]; rfl

theorem stepU (z V j : Nat) (hj : j < 10) (hz : z < 128) (hV : V < 128 ^ j) :
    bits .or .u64 ((V % W64 : Nat) : Int) (IntKind.u64.wrap (IntKind.u64.wrap (z : Int) * 2 ^ (7 * j))) = (((V + 128 ^ j * z) % W64 : Nat) : Int) := by
  obtain ⟨h1, h2⟩ := joinN z V j hj hV
  rw [u64_wrap_nat z, Nat.mod_eq_of_lt (show z < W64 by simp only [W64]; omega), Nat.mod_eq_of_lt h1, shl_nat, u64_wrap_nat, u64_or_nat V _ h1 (Nat.mod_lt _ (by decide)), h2]

/-- A group more below. -/
theorem lowN (X g : Nat) (hg : g < 128) : X * 128 % W64 ||| g = (X * 128 + g) % W64 := by
  simp only [W64]
  rw [nat_join 7 _ g (by simp only [Nat.reducePow]; omega) (by simp only [Nat.reducePow]; omega)]; omega
theorem lowU (V g : Nat) (hg : g < 128) : bits .or .u64 (IntKind.u64.wrap (((V % W64 : Nat) : Int) * 2 ^ 7)) (g : Int) = (((g + 128 * V) % W64 : Nat) : Int) := by
  rw [shl_nat, u64_wrap_nat, u64_or_nat _ g (Nat.mod_lt _ (by decide)) (by omega), show (2 : Nat) ^ 7 = 128 from rfl, lowN (V % W64) g hg]
  simp only [W64]
  omega

/-- The bits above are cut off and drawn over: an unsigned number stays. -/
theorem spareU (V k : Nat) (hk : 0 < k) (hk1 : k ≤ 10) (hV : V < 128 ^ k) : IntKind.u64.wrap (((V % W64 : Nat) : Int) * 2 ^ (64 - 7 * k)) / 2 ^ (64 - 7 * k) = ((V % W64 : Nat) : Int) := by
  obtain ⟨j, rfl⟩ : ∃ j, k = j + 1 := ⟨k - 1, by omega⟩
  rw [shl_nat, u64_wrap_nat, show ((2 : Int) ^ (64 - 7 * (j + 1))) = ((2 ^ (64 - 7 * (j + 1)) : Nat) : Int) from by rw [Int.natCast_pow]; rfl, ← Int.natCast_ediv]
  congr 1
  revert V
  refine ten (fun j => ∀ V, V < 128 ^ (j + 1) → V % W64 * 2 ^ (64 - 7 * (j + 1)) % W64 / 2 ^ (64 - 7 * (j + 1)) = V % W64) ?_ ?_ ?_ ?_ ?_ ?_ ?_ ?_ ?_ ?_ j (by omega) <;> intro V hV <;> simp only [W64, Nat.reducePow, Nat.reduceAdd, Nat.reduceMul, Nat.reduceSub] at hV ⊢ <;> omega

/-! ### signed -/
def U (a : Int) : Nat := (a % 18446744073709551616).toNat
theorem U_lt (a : Int) : U a < 18446744073709551616 := by unfold U; omega
theorem U_wrap (a : Int) : U (wrap64 a) = U a := by unfold U; rw [wrap_emod]
theorem U_nat (n : Nat) : U (n : Int) = n % W64 := by unfold U; simp only [W64]; omega
theorem U_cast (a : Int) : (U a : Int) = a % 18446744073709551616 := by unfold U; omega
theorem or_i64 (a b : Int) : bits .or .i64 a b = wrap64 ((U a ||| U b : Nat) : Int) := by
  show IntKind.i64.wrap ((BitVec.ofInt 64 a ||| BitVec.ofInt 64 b).toNat : Int) = _
  rw [wrap_i64, BitVec.toNat_or, BitVec.toNat_ofInt, BitVec.toNat_ofInt]
  rfl

theorem stepS (z V j : Nat) (hj : j < 10) (hz : z < 128) (hV : V < 128 ^ j) :
    bits .or .i64 (wrap64 (V : Int)) (wrap64 (wrap64 (z : Int) * 2 ^ (7 * j))) = wrap64 ((V + 128 ^ j * z : Nat) : Int) := by
  obtain ⟨h1, h2⟩ := joinN z V j hj hV
  rw [wrap_id (x := (z : Int)) (by omega) (by omega), or_i64, U_wrap, U_wrap, shl_nat, U_nat, U_nat, Nat.mod_eq_of_lt h1, h2]
  refine wrap_congr ?_
  simp only [W64]
  omega
theorem lowS (t : Int) (g : Nat) (hg : g < 128) : bits .or .i64 (wrap64 (wrap64 t * 2 ^ 7)) (g : Int) = wrap64 ((g : Int) + 128 * t) := by
  have h2 := lowN (U t) g hg
  have hc := U_cast t
  have h1 : U (wrap64 t * 2 ^ 7) = U t * 128 % W64 := by
    have := wrap_emod t
    unfold U W64
    omega
  rw [or_i64, U_wrap, h1, U_nat, Nat.mod_eq_of_lt (show g < W64 by simp only [W64]; omega), h2]
  refine wrap_congr ?_
  simp only [W64]
  omega

/-- A signed number's high bit is drawn over the bits that no group gave. -/
theorem spareS (V k : Nat) (S : Int) (hk : 0 < k) (hk1 : k ≤ 10) (hV : V < 128 ^ k) (hS : S = V ∨ S = (V : Int) - ((128 ^ k : Nat) : Int)) (h1 : -((64 * 128 ^ (k - 1) : Nat) : Int) ≤ S) (h2 : S < ((64 * 128 ^ (k - 1) : Nat) : Int)) :
    wrap64 (wrap64 (V : Int) * 2 ^ (64 - 7 * k)) / 2 ^ (64 - 7 * k) = wrap64 S := by
  obtain ⟨j, rfl⟩ : ∃ j, k = j + 1 := ⟨k - 1, by omega⟩
  rw [show ((2 : Int) ^ (64 - 7 * (j + 1))) = ((2 ^ (64 - 7 * (j + 1)) : Nat) : Int) from by rw [Int.natCast_pow]; rfl]
  revert V S
  refine ten (fun j => ∀ (V : Nat) (S : Int), V < 128 ^ (j + 1) → (S = (V : Int) ∨ S = (V : Int) - ((128 ^ (j + 1) : Nat) : Int)) → -((64 * 128 ^ (j + 1 - 1) : Nat) : Int) ≤ S → S < ((64 * 128 ^ (j + 1 - 1) : Nat) : Int) →
    wrap64 (wrap64 (V : Int) * ((2 ^ (64 - 7 * (j + 1)) : Nat) : Int)) / ((2 ^ (64 - 7 * (j + 1)) : Nat) : Int) = wrap64 S) ?_ ?_ ?_ ?_ ?_ ?_ ?_ ?_ ?_ ?_ j (by omega) <;> intro V S hV hS h1 h2 <;>
    simp only [wrap64, Nat.reducePow, Nat.reduceAdd, Nat.reduceMul, Nat.reduceSub] at hV hS h1 h2 ⊢ <;> omega

theorem valS_is : ∀ {l : List Nat}, oneS l → (valS l = valU l ∨ valS l = (valU l : Int) - ((128 ^ l.length : Nat) : Int)) ∧ -((64 * 128 ^ (l.length - 1) : Nat) : Int) ≤ valS l ∧ valS l < ((64 * 128 ^ (l.length - 1) : Nat) : Int)
  | [], h => h.elim
  | [x], h => by
    have hx : x < 128 := h
    simp only [valS, valU, List.length_singleton, Nat.reduceSub, Nat.pow_zero, Nat.pow_one]
    split <;> omega
  | x :: y :: l, h => by
    obtain ⟨h1, h2, h3⟩ := valS_is (l := y :: l) h.2
    simp only [valS, valU, List.length_cons, Nat.add_sub_cancel] at h1 h2 h3 ⊢
    generalize valS (y :: l) = s at h1 h2 h3 ⊢
    rw [Nat.pow_succ 128 (l.length + 1)]
    rw [Nat.pow_succ] at h1 ⊢
    generalize 128 ^ l.length = P at h1 h2 h3 ⊢
    generalize valU l = u at h1 ⊢
    omega

/-- The highest group first: what stands for no group is the sign. -/
def topS (n0 : Int) (l : List Nat) : Int := if l = [] then n0 else valS l
def sgn0 (l : List Nat) : Int := if 64 ≤ lastB l % 128 then -1 else 0
theorem lastB_drop : ∀ {l : List Nat} (j : Nat), j < l.length → lastB (l.drop j) = lastB l
  | [], j, h => absurd h (by simp)
  | x :: l, 0, _ => rfl
  | [x], j + 1, h => by simp at h
  | x :: y :: l, j + 1, h => by
    have := lastB_drop (l := y :: l) j (by simpa using h)
    rw [List.drop_succ_cons, this]; rfl
theorem topS_drop (l : List Nat) (j : Nat) (h : j < l.length) : topS (sgn0 l) (l.drop j) = ((l.getD j 0 % 128 : Nat) : Int) + 128 * topS (sgn0 l) (l.drop (j + 1)) := by
  have hd := List.drop_eq_getElem_cons h
  have hg : l.getD j 0 = l[j] := by rw [List.getD_eq_getElem?_getD, List.getElem?_eq_getElem h]; rfl
  have hl := lastB_drop j h
  unfold topS
  rw [hg, if_neg (fun e => by rw [hd] at e; cases e), hd]
  rw [hd] at hl
  generalize l[j] = x at hl ⊢
  generalize l.drop (j + 1) = m at hl ⊢
  cases m with
  | nil =>
    have hl' : x = lastB l := hl
    rw [if_pos rfl, valS, sgn0, ← hl']
    split <;> split <;> omega
  | cons y m => rw [if_neg (by simp), valS]
theorem lowU' (V g : Nat) (hg : g < 128) : bits .or .u64 (IntKind.u64.wrap (((V % W64 : Nat) : Int) * 128)) (g : Int) = (((g + 128 * V) % W64 : Nat) : Int) := lowU V g hg
theorem lowS' (t : Int) (g : Nat) (hg : g < 128) : bits .or .i64 (wrap64 (wrap64 t * 128)) (g : Int) = wrap64 ((g : Int) + 128 * t) := lowS t g hg
end Go.Proofs.Ytahnhohccbnhjaa
