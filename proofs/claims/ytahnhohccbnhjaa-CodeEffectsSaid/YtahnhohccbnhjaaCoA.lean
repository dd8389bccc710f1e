/- Instructions: the table as lists; isKnown, Operand, May, Name of package code; in every memory. -/
import Derived.Test.YtahnhohccbnhjaaH
namespace Go.Proofs.Ytahnhohccbnhjaa
open Go Go.RowKit

def nmL : List ByteArray := [⟨#[]⟩, ⟨#[97, 100, 100]⟩, ⟨#[115, 117, 98]⟩, ⟨#[109, 117, 108]⟩, ⟨#[100, 105, 118]⟩, ⟨#[114, 101, 109]⟩, ⟨#[97, 110, 100]⟩, ⟨#[111, 114]⟩, ⟨#[120, 111, 114]⟩, ⟨#[115, 104, 108]⟩, ⟨#[115, 104, 114]⟩, ⟨#[101, 113]⟩, ⟨#[110, 101]⟩, ⟨#[108, 116]⟩, ⟨#[108, 101]⟩, ⟨#[110, 101, 103]⟩, ⟨#[110, 111, 116]⟩, ⟨#[105, 110, 118]⟩, ⟨#[]⟩, ⟨#[]⟩, ⟨#[]⟩, ⟨#[]⟩, ⟨#[]⟩, ⟨#[]⟩, ⟨#[]⟩, ⟨#[]⟩, ⟨#[]⟩, ⟨#[]⟩, ⟨#[]⟩, ⟨#[]⟩, ⟨#[]⟩, ⟨#[]⟩, ⟨#[99, 111, 110, 115, 116]⟩, ⟨#[108, 111, 99, 97, 108]⟩, ⟨#[115, 101, 116]⟩, ⟨#[103, 108, 111, 98, 97, 108]⟩, ⟨#[115, 101, 116, 103, 108, 111, 98, 97, 108]⟩, ⟨#[108, 111, 97, 100]⟩, ⟨#[115, 116, 111, 114, 101]⟩, ⟨#[100, 117, 112]⟩, ⟨#[115, 119, 97, 112]⟩, ⟨#[112, 111, 112]⟩, ⟨#[110, 111, 112]⟩, ⟨#[106, 117, 109, 112]⟩, ⟨#[122, 101, 114, 111]⟩, ⟨#[99, 97, 108, 108]⟩, ⟨#[114, 101, 116, 117, 114, 110]⟩, ⟨#[115, 101, 110, 100]⟩]
def poL : List Int := [0, 2, 2, 2, 2, 2, 2, 2, 2, 2, 2, 2, 2, 2, 2, 1, 1, 1, 0, 0, 0, 0, 0, 0, 0, 0, 0, 0, 0, 0, 0, 0, 0, 0, 1, 0, 1, 1, 2, 1, 2, 1, 0, 0, 1, -1, -1, 1]
def puL : List Int := [0, 1, 1, 1, 1, 1, 1, 1, 1, 1, 1, 1, 1, 1, 1, 1, 1, 1, 0, 0, 0, 0, 0, 0, 0, 0, 0, 0, 0, 0, 0, 0, 1, 1, 0, 1, 0, 1, 0, 2, 2, 0, 0, 0, 0, -1, 0, 0]
def kiL : List Int := [0, 0, 0, 0, 0, 0, 0, 0, 0, 0, 0, 0, 0, 0, 0, 0, 0, 0, 0, 0, 0, 0, 0, 0, 0, 0, 0, 0, 0, 0, 0, 0, 1, 2, 2, 3, 3, 4, 4, 0, 0, 0, 0, 5, 5, 6, 0, 7]
def nmI (op : Int) : ByteArray := nmL.getD op.toNat ⟨#[]⟩
def poI (op : Int) : Int := poL.getD op.toNat 0
def puI (op : Int) : Int := puL.getD op.toNat 0
def kiI (op : Int) : Int := kiL.getD op.toNat 0
def knI (op : Int) : Bool := decide (1 ≤ op ∧ op ≤ 17 ∨ 32 ≤ op ∧ op ≤ 47)
def opdI (op : Int) : Bool := knI op && decide (0 < kiI op)
def mayI (op a : Int) : Bool := knI op && (if kiI op = 0 then decide (a = 0) else decide (kiI op = 1) || decide (0 ≤ a))

theorem knI_cases {op : Int} (h : knI op = true) : op = 1 ∨ op = 2 ∨ op = 3 ∨ op = 4 ∨ op = 5 ∨ op = 6 ∨ op = 7 ∨ op = 8 ∨ op = 9 ∨ op = 10 ∨ op = 11 ∨ op = 12 ∨ op = 13 ∨ op = 14 ∨ op = 15 ∨ op = 16 ∨ op = 17 ∨ op = 32 ∨ op = 33 ∨ op = 34 ∨ op = 35 ∨ op = 36 ∨ op = 37 ∨ op = 38 ∨ op = 39 ∨ op = 40 ∨ op = 41 ∨ op = 42 ∨ op = 43 ∨ op = 44 ∨ op = 45 ∨ op = 46 ∨ op = 47 := by
  unfold knI at h
  rw [decide_eq_true_iff] at h
  omega
theorem knI_not {op : Int} (h : knI op = false) : op ≠ 1 ∧ op ≠ 2 ∧ op ≠ 3 ∧ op ≠ 4 ∧ op ≠ 5 ∧ op ≠ 6 ∧ op ≠ 7 ∧ op ≠ 8 ∧ op ≠ 9 ∧ op ≠ 10 ∧ op ≠ 11 ∧ op ≠ 12 ∧ op ≠ 13 ∧ op ≠ 14 ∧ op ≠ 15 ∧ op ≠ 16 ∧ op ≠ 17 ∧ op ≠ 32 ∧ op ≠ 33 ∧ op ≠ 34 ∧ op ≠ 35 ∧ op ≠ 36 ∧ op ≠ 37 ∧ op ≠ 38 ∧ op ≠ 39 ∧ op ≠ 40 ∧ op ≠ 41 ∧ op ≠ 42 ∧ op ≠ 43 ∧ op ≠ 44 ∧ op ≠ 45 ∧ op ≠ 46 ∧ op ≠ 47 := by
  unfold knI at h
  rw [decide_eq_false_iff_not] at h
  omega
theorem opdI_iff {op : Int} (h : opdI op = true) : op = 32 ∨ op = 33 ∨ op = 34 ∨ op = 35 ∨ op = 36 ∨ op = 37 ∨ op = 38 ∨ op = 43 ∨ op = 44 ∨ op = 45 ∨ op = 47 := by
  unfold opdI at h
  rw [Bool.and_eq_true] at h
  obtain ⟨h1, h2⟩ := h
  rcases knI_cases h1 with rfl | rfl | rfl | rfl | rfl | rfl | rfl | rfl | rfl | rfl | rfl | rfl | rfl | rfl | rfl | rfl | rfl | rfl | rfl | rfl | rfl | rfl | rfl | rfl | rfl | rfl | rfl | rfl | rfl | rfl | rfl | rfl | rfl
  all_goals first
    | omega
    | (exfalso; revert h2; decide)
theorem opdI_not {op : Int} (h : opdI op = false) : op ≠ 32 ∧ op ≠ 33 ∧ op ≠ 34 ∧ op ≠ 35 ∧ op ≠ 36 ∧ op ≠ 37 ∧ op ≠ 38 ∧ op ≠ 43 ∧ op ≠ 44 ∧ op ≠ 45 ∧ op ≠ 47 := by
  refine ⟨?_, ?_, ?_, ?_, ?_, ?_, ?_, ?_, ?_, ?_, ?_⟩
  all_goals
    rintro rfl
    revert h
    decide

set_option maxRecDepth 100000 in
theorem isKnown_any (op : Int) (w : World) : Calls Try.prog 33 #[.int .i64 op] w fun e w' => e = .returned (.bool (knI op)) ∧ w = w' := by
  by_cases h1 : 1 ≤ op
  · by_cases h2 : op ≤ 17
    · have e : knI op = true := by unfold knI; rw [decide_eq_true_iff]; omega
      rw [e]
      clear e
      go_enter Try.func33, Try.ntmps33
      go_wp2
      go_ret
      exact ⟨rfl, rfl⟩
    · by_cases h3 : 32 ≤ op
      · by_cases h4 : op ≤ 47
        · have e : knI op = true := by unfold knI; rw [decide_eq_true_iff]; omega
          rw [e]
          clear e
          go_enter Try.func33, Try.ntmps33
          go_wp2
          go_ret
          exact ⟨rfl, rfl⟩
        · have e : knI op = false := by unfold knI; rw [decide_eq_false_iff_not]; omega
          rw [e]
          clear e
          go_enter Try.func33, Try.ntmps33
          go_wp2
          go_ret
          exact ⟨rfl, rfl⟩
      · have e : knI op = false := by unfold knI; rw [decide_eq_false_iff_not]; omega
        rw [e]
        clear e
        go_enter Try.func33, Try.ntmps33
        go_wp2
        go_ret
        exact ⟨rfl, rfl⟩
  · have h3 : ¬ 32 ≤ op := by omega
    have e : knI op = false := by unfold knI; rw [decide_eq_false_iff_not]; omega
    rw [e]
    clear e
    go_enter Try.func33, Try.ntmps33
    go_wp2
    go_ret
    exact ⟨rfl, rfl⟩

set_option maxRecDepth 100000 in
set_option maxHeartbeats 1000000 in
theorem Operand_any (op : Int) (w : World) : Calls Try.prog 14 #[.int .i64 op] w fun e w' => e = .returned (.bool (opdI op)) ∧ w = w' := by
  cases h : opdI op
  · obtain ⟨n1, n2, n3, n4, n5, n6, n7, n8, n9, n10, n11⟩ := opdI_not h
    clear h
    go_enter Try.func14, Try.ntmps14
    go_wp2
    go_ret
    exact ⟨rfl, rfl⟩
  · rcases opdI_iff h with rfl | rfl | rfl | rfl | rfl | rfl | rfl | rfl | rfl | rfl | rfl
    all_goals
      clear h
      go_enter Try.func14, Try.ntmps14
      go_wp2
      go_ret
      exact ⟨rfl, rfl⟩

abbrev inV (op a : Int) : Value := .agg #[.int .i64 op, .int .i64 a]

theorem mayI_none {op : Int} (h : knI op = false) (a : Int) : mayI op a = false := by unfold mayI; rw [h]; rfl
theorem mayI_plain {op : Int} (h : knI op = true) (h2 : opdI op = false) (a : Int) : mayI op a = decide (a = 0) := by
  have h0 : kiI op = 0 := by
    rcases knI_cases h with rfl | rfl | rfl | rfl | rfl | rfl | rfl | rfl | rfl | rfl | rfl | rfl | rfl | rfl | rfl | rfl | rfl | rfl | rfl | rfl | rfl | rfl | rfl | rfl | rfl | rfl | rfl | rfl | rfl | rfl | rfl | rfl | rfl
    all_goals first
      | rfl
      | (exfalso; revert h2; decide)
  unfold mayI
  rw [h, if_pos h0]
  rfl
theorem mayI_const (a : Int) : mayI 32 a = true := by
  unfold mayI
  rfl
theorem kiI_one {op : Int} (h : kiI op = 1) : op = 32 := by
  by_cases hk : knI op = true
  · rcases knI_cases hk with rfl | rfl | rfl | rfl | rfl | rfl | rfl | rfl | rfl | rfl | rfl | rfl | rfl | rfl | rfl | rfl | rfl | rfl | rfl | rfl | rfl | rfl | rfl | rfl | rfl | rfl | rfl | rfl | rfl | rfl | rfl | rfl | rfl
    all_goals first
      | rfl
      | (exfalso; revert h; decide)
  · exfalso
    unfold kiI at h
    by_cases h2 : op.toNat < 48
    · have h3 : ∀ k : Fin 48, kiL.getD k.val 0 = 1 → k.val = 32 := by decide
      have := h3 ⟨op.toNat, h2⟩ h
      apply hk
      unfold knI
      rw [decide_eq_true_iff]
      simp only at this
      omega
    · rw [List.getD_eq_getElem?_getD, List.getElem?_eq_none (by show 48 ≤ _; omega)] at h
      cases h
theorem mayI_unsigned {op : Int} (h2 : opdI op = true) (h3 : op ≠ 32) (a : Int) : mayI op a = decide (0 ≤ a) := by
  have h := h2
  unfold opdI at h
  rw [Bool.and_eq_true, decide_eq_true_iff] at h
  have h1 : ¬ kiI op = 1 := fun e => h3 (kiI_one e)
  unfold mayI
  rw [h.1, if_neg (by omega), decide_eq_false h1]
  rfl

set_option maxRecDepth 100000 in
set_option maxHeartbeats 1000000 in
theorem May_any (op a : Int) (w : World) : Calls Try.prog 12 #[inV op a] w fun e w' => e = .returned (.bool (mayI op a)) ∧ Below w.heap.size w w' := by
  have HK := Lib.hid (isKnown_any op)
  have HO := Lib.hid (Operand_any op)
  cases hk : knI op
  · rw [mayI_none hk]
    rw [hk] at HK
    clear hk HO
    go_enter Try.func12, Try.ntmps12
    go_wp2_with fail
    refine (HK.out _).mono ?_
    rintro e w1 ⟨rfl, rfl⟩
    go_wp2
    go_ret
    exact ⟨rfl, (Below.refl _ w).alloc (Nat.le_refl _) _⟩
  · rw [hk] at HK
    cases ho : opdI op
    · rw [mayI_plain hk ho]
      rw [ho] at HO
      clear hk ho
      go_enter Try.func12, Try.ntmps12
      go_wp2_with fail
      refine (HK.out _).mono ?_
      rintro e w1 ⟨rfl, rfl⟩
      go_wp2_with fail
      refine (HO.out _).mono ?_
      rintro e w1 ⟨rfl, rfl⟩
      by_cases ha : a = 0
      · subst ha
        go_wp2
        go_ret
        exact ⟨rfl, (Below.refl _ w).alloc (Nat.le_refl _) _⟩
      · go_wp2
        go_ret
        refine ⟨?_, (Below.refl _ w).alloc (Nat.le_refl _) _⟩
        simp [ha]
    · rw [ho] at HO
      by_cases h32 : op = 32
      · subst h32
        rw [mayI_const]
        clear hk ho
        go_enter Try.func12, Try.ntmps12
        go_wp2_with fail
        refine (HK.out _).mono ?_
        rintro e w1 ⟨rfl, rfl⟩
        go_wp2_with fail
        refine (HO.out _).mono ?_
        rintro e w1 ⟨rfl, rfl⟩
        go_wp2
        go_ret
        exact ⟨rfl, (Below.refl _ w).alloc (Nat.le_refl _) _⟩
      · rw [mayI_unsigned ho h32]
        clear hk ho
        go_enter Try.func12, Try.ntmps12
        go_wp2_with fail
        refine (HK.out _).mono ?_
        rintro e w1 ⟨rfl, rfl⟩
        go_wp2_with fail
        refine (HO.out _).mono ?_
        rintro e w1 ⟨rfl, rfl⟩
        by_cases ha : 0 ≤ a
        all_goals
          go_wp2
          go_ret
          refine ⟨?_, (Below.refl _ w).alloc (Nat.le_refl _) _⟩
          simp [ha, h32]
end Go.Proofs.Ytahnhohccbnhjaa
