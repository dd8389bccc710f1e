/- Get of the document's answer, of whatever bytes, in every memory. -/
import Derived.Test.YtahnhohccbnhjaaCoO
namespace Go.Proofs.Ytahnhohccbnhjaa
open Go Go.RowKit Go.Proofs.Mm Go.Sort

theorem opdI_of {x : Int} (hk : knI x = true) (h : kiI x ≠ 0) : opdI x = true := by
  cases ho : opdI x
  · exact absurd (kiI_none hk ho) h
  · rfl
theorem opdI_zero {x : Int} (h : kiI x = 0) : opdI x = false := by unfold opdI; rw [h]; simp
theorem crGet_any (p : Option Addr) (c : Nat) (xs : List Nat) (hx : bytesL xs) (hl : xs.length ≤ c) (hm : c ≤ maxLen) (w : World) (hp : ByIn w.heap.size w p xs) :
    Calls Try.prog 21 #[.slice p xs.length c] w fun e w' => e = .returned (gtV (getI xs)) ∧ Below w.heap.size w w' := by
  cases xs with
  | nil => exact refGet_nil p c w
  | cons x r =>
    obtain ⟨b, off, rfl, hlt, hc⟩ := hp.head
    have hx256 : x < 256 := hx x (List.mem_cons_self ..)
    have hlen : (r.length : Int) + 1 ≤ (c : Int) := by simp at hl; omega
    have hmx := hm
    unfold maxLen at hmx
    have hbr : bytesL r := fun y hy => hx y (List.mem_cons_of_mem _ hy)
    rw [getI_cons]
    cases hk : knI (x : Int)
    · exact refGet_unk b off c r.length x w hlt hc hx256 hlen (by omega) hk
    · rw [if_pos rfl]
      by_cases h0 : kiI (x : Int) = 0
      · have e : oprI (x : Int) r = (0, 0, 0) := by
          unfold oprI
          rw [if_neg (fun e => by rw [e] at h0; cases h0), opdI_zero h0]
          rfl
        rw [e]
        exact refGet_plain b off c r.length x w hlt hc hx256 hlen (by omega) hk h0
      · by_cases h1 : kiI (x : Int) = 1
        · have e : oprI (x : Int) r = getS r := by
            unfold oprI
            rw [if_pos (kiI_one h1)]
          have hle := oprI_le (x : Int) r
          rw [e] at hle ⊢
          have HP1 : ∀ (hc1 : c = 1) (W : World), Below w.heap.size w W → Calls Try.prog 39 #[.slice (some ⟨b, off, none⟩) 0 0] W fun e w' => e = .returned (.tuple #[.int .i64 (getS r).1, .int .i64 ((getS r).2.1 : Nat), .int .i64 ((getS r).2.2 : Nat)]) ∧ Below W.heap.size W w' := fun hc1 W hb => by
            have hr0 : r = [] := List.eq_nil_of_length_eq_zero (by omega)
            subst hr0
            exact refGetSigned_any (some ⟨b, off, none⟩) 0 [] (fun y hy => by cases hy) (Nat.le_refl _) (by omega) W (ByIn.nil _ _ _)
          have HP2 : ∀ (W : World), Below w.heap.size w W → Calls Try.prog 39 #[.slice (some ⟨b, off + 1, none⟩) r.length (c - 1)] W fun e w' => e = .returned (.tuple #[.int .i64 (getS r).1, .int .i64 ((getS r).2.1 : Nat), .int .i64 ((getS r).2.2 : Nat)]) ∧ Below W.heap.size W w' := fun W hb =>
            refGetSigned_any (some ⟨b, off + 1, none⟩) (c - 1) r hbr (by simp at hl; omega) (by omega) W (hp.tail.below hb (Nat.le_refl _) hb.size)
          generalize getS r = R at HP1 HP2 hle ⊢
          obtain ⟨m, k, er⟩ := R
          simp only at HP1 HP2 hle ⊢
          by_cases he : er = 0
          · subst he
            rw [if_pos rfl]
            by_cases hc1 : c = 1
            · exact refGet_consto1 b off c r.length x w hlt hc hx256 hlen (by omega) hk h1 hc1 m k hle (HP1 hc1)
            · exact refGet_consto2 b off c r.length x w hlt hc hx256 hlen (by omega) hk h1 hc1 m k hle HP2
          · rw [if_neg he]
            by_cases hc1 : c = 1
            · exact refGet_conste1 b off c r.length x w hlt hc hx256 hlen (by omega) hk h1 hc1 m k er (by omega) (HP1 hc1)
            · exact refGet_conste2 b off c r.length x w hlt hc hx256 hlen (by omega) hk h1 hc1 m k er (by omega) HP2
        · have h2 : 1 < kiI (x : Int) := by
            have h3 : ∀ k : Fin 48, 0 ≤ kiL.getD k.val 0 := by decide
            obtain ⟨k, hk48, e⟩ := knI_nat hk
            have h4 : 0 ≤ kiI (x : Int) := by rw [e]; exact h3 ⟨k, hk48⟩
            omega
          have e : oprI (x : Int) r = if 9223372036854775807 < (getU r).1 then (0, 0, 100) else (((getU r).1 : Int), (getU r).2.1, (getU r).2.2) := by
            unfold oprI
            rw [if_neg (fun e => h1 (by rw [e]; rfl)), opdI_of hk h0]
            rfl
          have hle := oprI_le (x : Int) r
          have hz := getU_cases r
          rw [e] at hle ⊢
          have HP1 : ∀ (hc1 : c = 1) (W : World), Below w.heap.size w W → Calls Try.prog 40 #[.slice (some ⟨b, off, none⟩) 0 0] W fun e w' => e = .returned (.tuple #[.int .u64 ((getU r).1 : Nat), .int .i64 ((getU r).2.1 : Nat), .int .i64 ((getU r).2.2 : Nat)]) ∧ Below W.heap.size W w' := fun hc1 W hb => by
            have hr0 : r = [] := List.eq_nil_of_length_eq_zero (by omega)
            subst hr0
            exact refGet_any (some ⟨b, off, none⟩) 0 [] (fun y hy => by cases hy) (Nat.le_refl _) (by omega) W (ByIn.nil _ _ _)
          have HP2 : ∀ (W : World), Below w.heap.size w W → Calls Try.prog 40 #[.slice (some ⟨b, off + 1, none⟩) r.length (c - 1)] W fun e w' => e = .returned (.tuple #[.int .u64 ((getU r).1 : Nat), .int .i64 ((getU r).2.1 : Nat), .int .i64 ((getU r).2.2 : Nat)]) ∧ Below W.heap.size W w' := fun W hb =>
            refGet_any (some ⟨b, off + 1, none⟩) (c - 1) r hbr (by simp at hl; omega) (by omega) W (hp.tail.below hb (Nat.le_refl _) hb.size)
          generalize getU r = R at HP1 HP2 hle hz ⊢
          obtain ⟨m, k, er⟩ := R
          simp only at HP1 HP2 hle hz ⊢
          by_cases he : er = 0
          · subst he
            by_cases hbig : 9223372036854775807 < m
            · rw [if_pos hbig]
              by_cases hc1 : c = 1
              · exact refGet_unsb1 b off c r.length x w hlt hc hx256 hlen (by omega) hk h2 hc1 m k (by omega) (HP1 hc1)
              · exact refGet_unsb2 b off c r.length x w hlt hc hx256 hlen (by omega) hk h2 hc1 m k (by omega) HP2
            · rw [if_neg hbig] at hle ⊢
              by_cases hc1 : c = 1
              · exact refGet_unso1 b off c r.length x w hlt hc hx256 hlen (by omega) hk h2 hc1 m k (by omega) hle (HP1 hc1)
              · exact refGet_unso2 b off c r.length x w hlt hc hx256 hlen (by omega) hk h2 hc1 m k (by omega) hle HP2
          · have hm0 : m = 0 := by
              rcases hz with h | h | h
              · exact absurd h he
              · simp only [Prod.mk.injEq] at h; exact h.1
              · simp only [Prod.mk.injEq] at h; exact h.1
            subst hm0
            rw [if_neg (show ¬ (9223372036854775807 : Nat) < 0 from by decide)]
            simp only
            rw [if_neg he]
            by_cases hc1 : c = 1
            · exact refGet_unse1 b off c r.length x w hlt hc hx256 hlen (by omega) hk h2 hc1 0 k er (by omega) (HP1 hc1)
            · exact refGet_unse2 b off c r.length x w hlt hc hx256 hlen (by omega) hk h2 hc1 0 k er (by omega) HP2
end Go.Proofs.Ytahnhohccbnhjaa
