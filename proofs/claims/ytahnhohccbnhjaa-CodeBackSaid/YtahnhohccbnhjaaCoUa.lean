/- What is put is got; what is got is what would be put (plain). -/
import Derived.Test.YtahnhohccbnhjaaCoQ
namespace Go.Proofs.Ytahnhohccbnhjaa
open Go Go.RowKit Go.Proofs.Mm Go.Sort

theorem putI_bytes (op a : Int) : bytesL (putI op a) := by
  unfold putI
  split
  · rename_i hm
    have hb : op.toNat < 256 := by
      obtain ⟨k, hk, e⟩ := knI_nat (mayI_kn hm)
      omega
    intro x hx
    rcases List.mem_cons.1 hx with h | hx
    · rw [h]
      exact hb
    · split at hx
      · exact putS_bytes _ x hx
      · split at hx
        · exact putU_bytes _ x hx
        · cases hx
  · intro x hx; cases hx
theorem oprI_plain {op : Int} (hk : knI op = true) (ho : opdI op = false) (m : List Nat) : oprI op m = (0, 0, 0) := by
  have h32 : op ≠ 32 := by rintro rfl; cases ho
  unfold oprI
  rw [if_neg h32, ho]
  rfl
theorem getI_put {op a : Int} (hm : mayI op a = true) (h1 : -9223372036854775808 ≤ a) (h2 : a < 9223372036854775808) (m : List Nat) : getI (putI op a ++ m) = (op, a, (putI op a).length, 0) := by
  have hk := mayI_kn hm
  obtain ⟨k, hk48, rfl⟩ := knI_nat hk
  unfold putI
  rw [if_pos hm, List.cons_append, getI_cons, show ((k : Int).toNat : Int) = k from by omega, if_pos hk]
  by_cases h32 : (k : Int) = 32
  · rw [if_pos h32, show oprI (k : Int) (putS a ++ m) = getS (putS a ++ m) from by unfold oprI; rw [if_pos h32], getS_put a h1 h2 m]
    simp
  · rw [if_neg h32]
    cases ho : opdI (k : Int)
    · simp only [Bool.false_eq_true, if_false]
      rw [oprI_plain hk ho]
      rw [mayI_plain hk ho] at hm
      have ha := of_decide_eq_true hm
      simp [ha]
    · rw [if_pos rfl]
      rw [mayI_unsigned ho h32] at hm
      have ha := of_decide_eq_true hm
      have hW : a.toNat < W64 := by unfold W64; omega
      have hg := getU_put a.toNat hW m
      rw [show oprI (k : Int) (putU a.toNat ++ m) = (a, (putU a.toNat).length, 0) from by
        unfold oprI
        rw [if_neg h32, ho, if_pos rfl, hg, if_neg (by simp only; omega)]
        simp only [Prod.mk.injEq, and_true]
        omega]
      simp
theorem putI_one {op a : Int} (hm : mayI op a = true) : decide ((putI op a).length = 1) = !opdI op := by
  have hk := mayI_kn hm
  unfold putI
  rw [if_pos hm]
  by_cases h32 : op = 32
  · subst h32
    rw [if_pos rfl]
    have := List.length_pos_iff.2 (putS_ne a)
    rw [show opdI 32 = true from rfl]
    simp only [List.length_cons, Bool.not_true, decide_eq_false_iff_not]
    omega
  · rw [if_neg h32]
    cases ho : opdI op
    · simp
    · have := List.length_pos_iff.2 (putU_ne a.toNat)
      simp only [if_true, List.length_cons, Bool.not_true, decide_eq_false_iff_not]
      omega
theorem getI_is {l : List Nat} (h : (getI l).2.2.2 = 0) : mayI (getI l).1 (getI l).2.1 = true ∧ putI (getI l).1 (getI l).2.1 = l.take (getI l).2.2.1 ∧ (getI l).2.2.1 ≤ l.length ∧ -9223372036854775808 ≤ (getI l).2.1 ∧ (getI l).2.1 < 9223372036854775808 := by
  cases l with
  | nil => simp [getI] at h
  | cons x r =>
    rw [getI_cons] at h ⊢
    cases hk : knI (x : Int)
    · rw [hk] at h; simp at h
    · rw [hk, if_pos rfl] at h
      rw [if_pos rfl]
      have hle := oprI_le (x : Int) r
      by_cases he : (oprI (x : Int) r).2.2 = 0
      · rw [if_pos he]
        simp only
        by_cases h32 : (x : Int) = 32
        · have e : oprI (x : Int) r = getS r := by unfold oprI; rw [if_pos h32]
          rw [e] at he hle ⊢
          obtain ⟨g1, g2, g3, g4⟩ := getS_is he
          have hm : mayI (x : Int) (getS r).1 = true := by rw [h32]; exact mayI_const _
          refine ⟨hm, ?_, by simp only [List.length_cons]; omega, g3, g4⟩
          unfold putI
          rw [if_pos hm, if_pos h32, g1]
          rfl
        · cases ho : opdI (x : Int)
          · rw [oprI_plain hk ho] at he hle ⊢
            have hm : mayI (x : Int) 0 = true := by rw [mayI_plain hk ho]; rfl
            refine ⟨hm, ?_, by simp only [List.length_cons]; omega, by decide, by decide⟩
            unfold putI
            rw [if_pos hm, if_neg h32, ho]
            rfl
          · have e : oprI (x : Int) r = if 9223372036854775807 < (getU r).1 then (0, 0, 100) else (((getU r).1 : Int), (getU r).2.1, (getU r).2.2) := by
              unfold oprI
              rw [if_neg h32, ho]
              rfl
            rw [e] at he hle ⊢
            by_cases hb : 9223372036854775807 < (getU r).1
            · rw [if_pos hb] at he; simp at he
            · rw [if_neg hb] at he hle ⊢
              simp only at he hle ⊢
              obtain ⟨g1, g2, g3⟩ := getU_is he
              have hm : mayI (x : Int) ((getU r).1 : Int) = true := by rw [mayI_unsigned ho h32]; exact decide_eq_true (by omega)
              refine ⟨hm, ?_, by simp only [List.length_cons]; omega, by omega, by omega⟩
              unfold putI
              rw [if_pos hm, if_neg h32, ho, if_pos rfl, show (((getU r).1 : Nat) : Int).toNat = (getU r).1 from rfl, g1]
              rfl
      · rw [if_neg he] at h
        exact absurd h he
theorem getI_err (l : List Nat) : (getI l).2.2.2 = 0 ∨ (getI l).2.2.2 = 30 ∨ (getI l).2.2.2 = 31 ∨ (getI l).2.2.2 = 100 := by
  cases l with
  | nil => exact .inr (.inl rfl)
  | cons x r =>
    rw [getI_cons]
    split
    · split
      · exact .inl rfl
      · rename_i h
        rcases oprI_err h with e | e | e
        · rw [e]; exact .inr (.inl rfl)
        · rw [e]; exact .inr (.inr (.inl rfl))
        · rw [e]; exact .inr (.inr (.inr rfl))
    · exact .inr (.inr (.inr rfl))
end Go.Proofs.Ytahnhohccbnhjaa
