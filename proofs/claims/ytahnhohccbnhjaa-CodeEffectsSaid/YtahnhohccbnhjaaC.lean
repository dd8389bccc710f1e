/- How many bytes belong to a number: span of package leb, size of the document's answer; the closures that say when the last group is reached; in every memory. -/
import Derived.Test.YtahnhohccbnhjaaB
namespace Go.Proofs.Ytahnhohccbnhjaa
open Go Go.RowKit

/-- What span says: the size, the error. -/
def spanV (l : List Nat) : Int × Int := if 10 ≤ lead l then (0, 31) else if lead l = l.length then (0, 30) else ((lead l + 1 : Nat), 0)

theorem and128 (x : Nat) (h : x < 256) : bits .and .u8 (x : Int) 128 = if 128 ≤ x then 128 else 0 := by
  have := u8_and_nat x 128 h (by omega)
  rw [show ((128 : Nat) : Int) = 128 from rfl] at this
  rw [this, show (128 : Nat) = 2 ^ 7 from rfl, nat_bit 7 x]
  split
  · have : x / 2 ^ 7 % 2 = 1 := by omega
    rw [this]; rfl
  · have : x / 2 ^ 7 % 2 = 0 := by omega
    rw [this]; rfl

set_option maxRecDepth 100000 in
set_option maxHeartbeats 1000000 in
theorem span_any (p : Option Addr) (c : Nat) (xs : List Nat) (hx : bytesL xs) (hl : xs.length ≤ maxLen) (B : Nat) (w : World) (hp : ByIn B w p xs) :
    Calls Try.prog 70 #[.slice p xs.length c] w fun e w' => e = .returned (.tuple #[.int .i64 (spanV xs).1, .int .i64 (spanV xs).2]) ∧ w = w' := by
  unfold maxLen at hl
  obtain ⟨n, hn⟩ : ∃ n, xs.length = n := ⟨_, rfl⟩
  have HN := Lib.hid hn
  rw [hn] at hl ⊢
  clear hn
  obtain ⟨r, hr⟩ : ∃ r, spanV xs = r := ⟨_, rfl⟩
  rw [hr]
  have HR := Lib.hid hr
  clear hr
  go_enter Try.func70, Try.ntmps70
  go_wp2
  go_loop [8] (fun i => ∃ k : Nat, k ≤ n ∧ k < 10 ∧ i = .int .i64 k ∧ ∀ j, j < k → 128 ≤ xs.getD j 0) (fun i => n - (intOf i).toNat)
  case atStart => exact ⟨0, Nat.zero_le _, by omega, rfl, fun j hj => absurd hj (by omega)⟩
  case round =>
    obtain ⟨k, hk, hk10, rfl, hbig⟩ := hrel
    have HS := Lib.hid hbig
    clear hbig
    by_cases hlt : k < n
    · obtain ⟨b, off, rfl, hb, hc⟩ := hp k (by rw [HN.out]; exact hlt)
      have hki : (k : Int) < (n : Int) := by omega
      have ha := and128 (xs.getD k 0) (bytesL_at hx k)
      by_cases he : 128 ≤ xs.getD k 0
      · rw [if_pos he] at ha
        have HS2 := Lib.hid (show ∀ j, j < k + 1 → 128 ≤ xs.getD j 0 from fun j hj => by
          rcases Nat.lt_or_ge j k with h | h
          · exact HS.out j h
          · obtain rfl : j = k := by omega
            exact he)
        by_cases h10 : k = 9
        · have hr : r = (0, 31) := by
            have := lead_ge xs 10 (by rw [HN.out]; omega) (by subst h10; exact HS2.out)
            rw [← HR.out, spanV, if_pos this]
          subst hr h10
          clear hp hx HR HS HS2 he
          generalize xs.getD 9 0 = y at hc ha
          go_wp2
          go_ret2
          exact ⟨rfl, rfl⟩
        · have h10' : ((k : Int) + 1 == 10) = false := by simp; omega
          clear hp hx HR he
          generalize xs.getD k 0 = y at hc ha
          go_wp2
          exact ⟨⟨k + 1, by omega, by omega, by go_num, HS2.out⟩, by simp [intOf]; omega⟩
      · rw [if_neg he] at ha
        have hr : r = (((k + 1 : Nat) : Int), 0) := by
          have := lead_eq (l := xs) (i := k) (by rw [HN.out]; exact hlt) HS.out (by omega)
          rw [← HR.out, spanV, this, if_neg (by omega), if_neg (by rw [HN.out]; omega)]
        subst hr
        clear hp hx HR HS he
        generalize xs.getD k 0 = y at hc ha
        go_wp2
        go_ret2
        exact ⟨rfl, rfl⟩
    · obtain rfl : k = n := by omega
      have hr : r = (0, 30) := by
        have h1 := lead_ge xs k (by rw [HN.out]; omega) HS.out
        have h2 := lead_le xs
        rw [HN.out] at h2
        have h3 : lead xs = k := by omega
        rw [← HR.out, spanV, h3, if_neg (by omega), if_pos HN.out.symm]
      subst hr
      clear hp hx HR HS
      go_wp2
      go_ret2
      exact ⟨rfl, rfl⟩

set_option maxRecDepth 100000 in
set_option maxHeartbeats 1000000 in
theorem size_any (p : Option Addr) (c : Nat) (xs : List Nat) (hl : xs.length ≤ maxLen) (B : Nat) (w : World) (hp : ByIn B w p xs) :
    Calls Try.prog 57 #[.slice p xs.length c] w fun e w' => e = .returned (.tuple #[.int .i64 (spanV xs).1, .int .i64 (spanV xs).2]) ∧ w = w' := by
  unfold maxLen at hl
  obtain ⟨n, hn⟩ : ∃ n, xs.length = n := ⟨_, rfl⟩
  have HN := Lib.hid hn
  rw [hn] at hl ⊢
  clear hn
  obtain ⟨r, hr⟩ : ∃ r, spanV xs = r := ⟨_, rfl⟩
  rw [hr]
  have HR := Lib.hid hr
  clear hr
  go_enter Try.func57, Try.ntmps57
  go_wp2
  go_loop [4] (fun i => ∃ k : Nat, k ≤ n ∧ k < 10 ∧ i = .int .i64 k ∧ ∀ j, j < k → 128 ≤ xs.getD j 0) (fun i => n - (intOf i).toNat)
  case atStart => exact ⟨0, Nat.zero_le _, by omega, rfl, fun j hj => absurd hj (by omega)⟩
  case round =>
    obtain ⟨k, hk, hk10, rfl, hbig⟩ := hrel
    have HS := Lib.hid hbig
    clear hbig
    by_cases hlt : k < n
    · obtain ⟨b, off, rfl, hb, hc⟩ := hp k (by rw [HN.out]; exact hlt)
      have hki : (k : Int) < (n : Int) := by omega
      have hkn : ((k : Int) == (n : Int)) = false := by simp; omega
      by_cases he : 128 ≤ xs.getD k 0
      · have he' : (128 : Int) ≤ ((xs.getD k 0 : Nat) : Int) := by omega
        have HS2 := Lib.hid (show ∀ j, j < k + 1 → 128 ≤ xs.getD j 0 from fun j hj => by
          rcases Nat.lt_or_ge j k with h | h
          · exact HS.out j h
          · obtain rfl : j = k := by omega
            exact he)
        by_cases h10 : k = 9
        · have hr : r = (0, 31) := by
            have := lead_ge xs 10 (by rw [HN.out]; omega) (by subst h10; exact HS2.out)
            rw [← HR.out, spanV, if_pos this]
          subst hr h10
          clear hp HR HS HS2 he
          generalize xs.getD 9 0 = y at hc he'
          go_wp2
          go_ret2
          exact ⟨rfl, rfl⟩
        · have h10' : ((k : Int) == 9) = false := by simp; omega
          clear hp HR he
          generalize xs.getD k 0 = y at hc he'
          go_wp2
          exact ⟨⟨k + 1, by omega, by omega, by go_num, HS2.out⟩, by simp [intOf]; omega⟩
      · have he' : ¬ (128 : Int) ≤ ((xs.getD k 0 : Nat) : Int) := by omega
        have hr : r = (((k + 1 : Nat) : Int), 0) := by
          have := lead_eq (l := xs) (i := k) (by rw [HN.out]; exact hlt) HS.out (by omega)
          rw [← HR.out, spanV, this, if_neg (by omega), if_neg (by rw [HN.out]; omega)]
        subst hr
        clear hp HR HS he
        generalize xs.getD k 0 = y at hc he'
        go_wp2
        go_ret2
        exact ⟨rfl, rfl⟩
    · obtain rfl : k = n := by omega
      have hr : r = (0, 30) := by
        have h1 := lead_ge xs k (by rw [HN.out]; omega) HS.out
        have h2 := lead_le xs
        rw [HN.out] at h2
        have h3 : lead xs = k := by omega
        rw [← HR.out, spanV, h3, if_neg (by omega), if_pos HN.out.symm]
      subst hr
      clear hp HR HS
      go_wp2
      go_ret2
      exact ⟨rfl, rfl⟩

/-- The closure that says when the last group of an unsigned number is reached, and that of a signed one: it lies at g. -/
def endU (g : Nat) : Value := .func (.func 69) #[] #[.pointer (some ⟨g, 0, none⟩), .pointer (some ⟨g + 1, 0, none⟩)]
def endS (g : Nat) : Value := .func (.func 68) #[] #[.pointer (some ⟨g, 0, none⟩), .pointer (some ⟨g + 1, 0, none⟩)]
/-- What it looks at. -/
def laysU (g : Nat) (w : World) : Prop := w.cell? ⟨g, 0, none⟩ = some (.int .u64 0) ∧ w.cell? ⟨g + 1, 0, none⟩ = some (.int .u64 127)
def laysS (g : Nat) (w : World) : Prop := w.cell? ⟨g, 0, none⟩ = some (.int .i64 (-64)) ∧ w.cell? ⟨g + 1, 0, none⟩ = some (.int .i64 63)
theorem laysU.below {g n : Nat} {w w' : World} (h : laysU g w) (hb : Below n w w') (hg : g + 1 < n) : laysU g w' :=
  ⟨(hb.cell (p := ⟨g, 0, none⟩) (by simp; omega)).trans h.1, (hb.cell (p := ⟨g + 1, 0, none⟩) hg).trans h.2⟩
theorem laysS.below {g n : Nat} {w w' : World} (h : laysS g w) (hb : Below n w w') (hg : g + 1 < n) : laysS g w' :=
  ⟨(hb.cell (p := ⟨g, 0, none⟩) (by simp; omega)).trans h.1, (hb.cell (p := ⟨g + 1, 0, none⟩) hg).trans h.2⟩

theorem two_new (w : World) (u v : Value) (t : TypeId) : ((w.alloc (.cells #[u] t)).alloc (.cells #[v] t)).cell? ⟨w.heap.size, 0, none⟩ = some u ∧ ((w.alloc (.cells #[u] t)).alloc (.cells #[v] t)).cell? ⟨w.heap.size + 1, 0, none⟩ = some v := by
  have hB : Below (w.heap.size + 1) (w.alloc (.cells #[u] t)) ((w.alloc (.cells #[u] t)).alloc (.cells #[v] t)) := (Below.refl _ _).alloc (by simp) _
  refine ⟨(hB.cell (p := ⟨w.heap.size, 0, none⟩) (by simp)).trans (cell_new w u t).1, ?_⟩
  have := (cell_new (w.alloc (.cells #[u] t)) v t).1
  rw [show (w.alloc (.cells #[u] t)).heap.size = w.heap.size + 1 from by simp] at this
  exact this

set_option maxRecDepth 100000 in
theorem unsignedEnd_any (w : World) : Calls Try.prog 53 #[] w fun e w' => ∃ g, e = .returned (endU g) ∧ laysU g w' ∧ w.heap.size ≤ g ∧ g + 1 < w'.heap.size ∧ Below w.heap.size w w' := by
  go_enter Try.func53, Try.ntmps53
  go_wp2
  go_ret
  exact ⟨w.heap.size, rfl, two_new w _ _ _, Nat.le_refl _, by simp, ((Below.refl _ w).alloc (Nat.le_refl _) _).alloc (by simp) _⟩

set_option maxRecDepth 100000 in
theorem signedEnd_any (w : World) : Calls Try.prog 51 #[] w fun e w' => ∃ g, e = .returned (endS g) ∧ laysS g w' ∧ w.heap.size ≤ g ∧ g + 1 < w'.heap.size ∧ Below w.heap.size w w' := by
  go_enter Try.func51, Try.ntmps51
  go_wp2
  go_ret
  exact ⟨w.heap.size, rfl, two_new w _ _ _, Nat.le_refl _, by simp, ((Below.refl _ w).alloc (Nat.le_refl _) _).alloc (by simp) _⟩

set_option maxRecDepth 100000 in
theorem lastU_any (g n : Nat) (w : World) (h : laysU g w) :
    Calls Try.prog 69 #[.int .u64 n, .pointer (some ⟨g, 0, none⟩), .pointer (some ⟨g + 1, 0, none⟩)] w fun e w' => e = .returned (.bool (decide (n < 128))) ∧ w' = w := by
  obtain ⟨h1, h2⟩ := h
  have h0 : (0 : Int) ≤ (n : Int) := by omega
  by_cases hn : n < 128
  · have h3 : (n : Int) ≤ 127 := by omega
    rw [decide_eq_true hn]
    go_enter Try.func69, Try.ntmps69
    go_wp2
    go_ret
    exact ⟨rfl, rfl⟩
  · have h3 : ¬ (n : Int) ≤ 127 := by omega
    rw [decide_eq_false hn]
    go_enter Try.func69, Try.ntmps69
    go_wp2
    go_ret
    exact ⟨rfl, rfl⟩

set_option maxRecDepth 100000 in
theorem lastS_any (g : Nat) (n : Int) (w : World) (h : laysS g w) :
    Calls Try.prog 68 #[.int .i64 n, .pointer (some ⟨g, 0, none⟩), .pointer (some ⟨g + 1, 0, none⟩)] w fun e w' => e = .returned (.bool (decide (-64 ≤ n ∧ n < 64))) ∧ w' = w := by
  obtain ⟨h1, h2⟩ := h
  by_cases h0 : -64 ≤ n
  · by_cases hn : n < 64
    · have h3 : n ≤ 63 := by omega
      rw [decide_eq_true ⟨h0, hn⟩]
      go_enter Try.func68, Try.ntmps68
      go_wp2
      go_ret
      exact ⟨rfl, rfl⟩
    · have h3 : ¬ n ≤ 63 := by omega
      rw [decide_eq_false (fun h => hn h.2)]
      go_enter Try.func68, Try.ntmps68
      go_wp2
      go_ret
      exact ⟨rfl, rfl⟩
  · rw [decide_eq_false (fun h => h0 h.1)]
    go_enter Try.func68, Try.ntmps68
    go_wp2
    go_ret
    exact ⟨rfl, rfl⟩
end Go.Proofs.Ytahnhohccbnhjaa
