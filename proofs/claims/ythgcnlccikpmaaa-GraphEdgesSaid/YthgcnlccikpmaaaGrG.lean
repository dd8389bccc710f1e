/- The document's Edge and Ahead. -/
import Derived.Test.YthgcnlccikpmaaaGrF
namespace Go.Proofs.Ythgcnlccikpmaaa
open Go Go.RowKit Go.Proofs.Mm
def edB (c : Cd) (a b : Int) : Bool := (nxt c a).any fun x => decide ((x : Int) = b)
theorem any_inN {n : Nat} {x b : Int} : ((inN n x).any fun y => decide ((y : Int) = b)) = decide (0 ≤ x ∧ x < n ∧ x = b) := by
  unfold inN
  split
  · rename_i h
    simp only [List.any_cons, List.any_nil, Bool.or_false]
    rw [decide_eq_decide]
    omega
  · rename_i h
    simp only [List.any_nil]
    symm
    rw [decide_eq_false_iff_not]
    omega
theorem any_twoN {n : Nat} {x y b : Int} : ((twoN n x y).any fun z => decide ((z : Int) = b)) = decide ((0 ≤ x ∧ x < n ∧ x = b) ∨ (0 ≤ y ∧ y < n ∧ y = b)) := by
  unfold twoN
  split
  · rename_i h
    subst h
    rw [any_inN, decide_eq_decide]
    omega
  · split <;> rw [List.any_append, any_inN, any_inN, ← Bool.decide_or, decide_eq_decide] <;> omega
theorem any_false {l : List Nat} {b : Int} (h : ∀ x ∈ l, (x : Int) ≠ b) : (l.any fun x => decide ((x : Int) = b)) = false := by
  rw [List.any_eq_false]
  intro x hx
  simpa using h x hx
section
variable (lv : Int) (qp : Option Addr) (np cp : Nat) (qr : Option Addr) (nr cr : Nat) (lo stk : Int) (qc : Option Addr) (nc cc : Nat)
set_option maxRecDepth 100000 in
set_option maxHeartbeats 2000000 in
theorem edge_any {w : World} {code : Cd} (hI : InAt (wC w) qc code) (hn : code.length = nc) (hm : nc ≤ cc) (hm2 : cc ≤ maxLen) (a b : Int) :
    Calls Try.prog 29 #[fnV lv qp np cp qr nr cr lo stk qc nc cc, .int .i64 a, .int .i64 b] w fun e w' => e = .returned (.bool (edB code a b)) ∧ Below w.heap.size w w' := by
  unfold maxLen at hm2
  unfold edB
  by_cases h0 : 0 ≤ a
  · by_cases h1 : a < (nc : Int)
    · obtain ⟨j, rfl⟩ : ∃ j : Nat, a = (j : Int) := ⟨a.toNat, by omega⟩
      obtain ⟨g, o, rfl, x1, x2⟩ := hI.at (j := j) (by omega)
      rw [nxt_nat (by omega)]
      generalize (code.getD j (0, 0)).1 = op at x1 ⊢
      generalize (code.getD j (0, 0)).2 = A at x2 ⊢
      rw [hn]
      have y1 : w.cell? ⟨g, o + j * 2, none⟩ = some (.int .i64 op) := x1
      have y2 : w.cell? ⟨g, o + j * 2 + 1, none⟩ = some (.int .i64 A) := x2
      have hgl : g < w.heap.size := World.block_lt_of_cell? _ _ y1
      clear hI x1 x2 hn
      have hF : ∀ x ∈ (if op = 43 then inN nc A else if op = 44 then twoN nc ((j : Int) + 1) A else if op = 46 then [nc] else inN nc ((j : Int) + 1)), x ≤ nc := by
        intro x hx
        split at hx
        · rw [mem_inN] at hx; omega
        · split at hx
          · rw [mem_twoN] at hx; omega
          · split at hx
            · rw [List.mem_singleton] at hx; omega
            · rw [mem_inN] at hx; omega
      by_cases hb0 : 0 ≤ b
      · by_cases hb1 : b ≤ (nc : Int)
        · clear hF
          by_cases k1 : op = 43
          · subst k1
            rw [if_pos rfl, any_inN]
            by_cases hb2 : b < (nc : Int)
            · by_cases hA : A = b
              · subst hA
                go_enter Try.func29, Try.ntmps29
                go_wp2
                go_ret
                exact ⟨by simp; try omega, bl_al (bl_al (Below.refl _ w) _) _⟩
              · have hA2 : (A == b) = false := by simpa using hA
                go_enter Try.func29, Try.ntmps29
                go_wp2
                go_ret
                exact ⟨by simp; try omega, bl_al (bl_al (Below.refl _ w) _) _⟩
            · go_enter Try.func29, Try.ntmps29
              go_wp2
              go_ret
              exact ⟨by simp; try omega, bl_al (bl_al (Below.refl _ w) _) _⟩
          · have b1 : (op == 43) = false := by simpa using k1
            by_cases k2 : op = 44
            · subst k2
              rw [if_neg (by decide), if_pos rfl, any_twoN]
              by_cases hb2 : b < (nc : Int)
              · by_cases hj : b = (j : Int) + 1
                · subst hj
                  go_enter Try.func29, Try.ntmps29
                  go_wp2
                  go_ret
                  exact ⟨by simp; try omega, bl_al (bl_al (Below.refl _ w) _) _⟩
                · have hj2 : (b == (j : Int) + 1) = false := by simpa using hj
                  by_cases hA : A = b
                  · subst hA
                    go_enter Try.func29, Try.ntmps29
                    go_wp2
                    go_ret
                    exact ⟨by simp; try omega, bl_al (bl_al (Below.refl _ w) _) _⟩
                  · have hA2 : (A == b) = false := by simpa using hA
                    go_enter Try.func29, Try.ntmps29
                    go_wp2
                    go_ret
                    exact ⟨by simp; try omega, bl_al (bl_al (Below.refl _ w) _) _⟩
              · go_enter Try.func29, Try.ntmps29
                go_wp2
                go_ret
                exact ⟨by simp; try omega, bl_al (bl_al (Below.refl _ w) _) _⟩
            · have b2 : (op == 44) = false := by simpa using k2
              by_cases k3 : op = 46
              · subst k3
                rw [if_neg (by decide), if_neg (by decide), if_pos rfl]
                by_cases hb2 : b = (nc : Int)
                · subst hb2
                  go_enter Try.func29, Try.ntmps29
                  go_wp2
                  go_ret
                  exact ⟨by simp; try omega, bl_al (bl_al (Below.refl _ w) _) _⟩
                · have hb3 : (b == (nc : Int)) = false := by simpa using hb2
                  go_enter Try.func29, Try.ntmps29
                  go_wp2
                  go_ret
                  exact ⟨by simp; try omega, bl_al (bl_al (Below.refl _ w) _) _⟩
              · have b3 : (op == 46) = false := by simpa using k3
                rw [if_neg k1, if_neg k2, if_neg k3, any_inN]
                by_cases hb2 : b < (nc : Int)
                · by_cases hj : b = (j : Int) + 1
                  · subst hj
                    go_enter Try.func29, Try.ntmps29
                    go_wp2
                    go_ret
                    exact ⟨by simp; try omega, bl_al (bl_al (Below.refl _ w) _) _⟩
                  · have hj2 : (b == (j : Int) + 1) = false := by simpa using hj
                    go_enter Try.func29, Try.ntmps29
                    go_wp2
                    go_ret
                    exact ⟨by simp; try omega, bl_al (bl_al (Below.refl _ w) _) _⟩
                · go_enter Try.func29, Try.ntmps29
                  go_wp2
                  go_ret
                  exact ⟨by simp; try omega, bl_al (bl_al (Below.refl _ w) _) _⟩
        · rw [any_false (by intro x hx; have := hF x hx; omega)]
          clear hF
          go_enter Try.func29, Try.ntmps29
          go_wp2
          go_ret
          exact ⟨rfl, bl_al (Below.refl _ w) _⟩
      · rw [any_false (by intro x hx; omega)]
        clear hF
        go_enter Try.func29, Try.ntmps29
        go_wp2
        go_ret
        exact ⟨rfl, bl_al (Below.refl _ w) _⟩
    · rw [nxt_none (by omega)]
      go_enter Try.func29, Try.ntmps29
      go_wp2
      go_ret
      exact ⟨rfl, bl_al (Below.refl _ w) _⟩
  · rw [nxt_none (by omega)]
    go_enter Try.func29, Try.ntmps29
    go_wp2
    go_ret
    exact ⟨rfl, bl_al (Below.refl _ w) _⟩
end
end Go.Proofs.Ythgcnlccikpmaaa
