/- OpsFolds: the law's walk, in every memory. -/
import Derived.Test.YtiddlnmpiaelmaaFold
namespace Go.Proofs.Ytiddlnmpiaelmaa
open Go Go.RowKit

theorem lent_cell {w : World} {b g cap : Nat} {xs : List Int} (h : w.ownsRow b 2 1 (.slice (some ⟨g, 0, none⟩) (xs.length + 1) cap) (xs.length + 1) (numVals (xs ++ [markI]))) (i : Nat) (hi : i < xs.length + 1) :
    w.cell? ⟨g, i, none⟩ = some (.int .i64 ((xs ++ [markI]).getD i 0)) := by
  have h2 := h.2
  rcases h2 with ⟨_, h0⟩ | ⟨gq, cap', cur, h0, _, _, _⟩
  · omega
  · simp only [Value.slice.injEq, true_and] at h0
    obtain ⟨h0, rfl⟩ := h0
    obtain rfl : g = gq := by cases h0; rfl
    have hc := h.cellAt i (by omega)
    refine hc.trans ?_
    simp only [numVals, List.getElem?_map, List.getD_eq_getElem?_getD]
    rw [List.getElem?_eq_getElem (by simp; omega)]; rfl

theorem lent_in {w : World} {b g cap : Nat} {xs : List Int} (h : w.ownsRow b 2 1 (.slice (some ⟨g, 0, none⟩) (xs.length + 1) cap) (xs.length + 1) (numVals (xs ++ [markI]))) : IntIn w.heap.size w (some ⟨g, 0, none⟩) xs := by
  intro i hi
  have hc := lent_cell h i (by omega)
  rw [show (xs ++ [markI]).getD i 0 = xs.getD i 0 from by simp [List.getD_eq_getElem?_getD, List.getElem?_append_left hi]] at hc
  refine ⟨g, 0, rfl, World.block_lt_of_cell? _ _ hc, ?_⟩
  rw [Nat.zero_add]
  exact hc

theorem lent_mark {w : World} {b g cap : Nat} {xs : List Int} (h : w.ownsRow b 2 1 (.slice (some ⟨g, 0, none⟩) (xs.length + 1) cap) (xs.length + 1) (numVals (xs ++ [markI]))) : w.cell? ⟨g, xs.length, none⟩ = some (.int .i64 markI) := by
  have hc := lent_cell h xs.length (by omega)
  rw [show (xs ++ [markI]).getD xs.length 0 = markI from by simp] at hc
  exact hc

set_option maxRecDepth 100000 in
set_option maxHeartbeats 1000000 in
theorem folds_any (op : Int) (p : Option Addr) (c : Nat) (ns : List Int) (hp : (p = none ∧ ns = [] ∧ c = 0) ∨ ∃ ad, p = some ad) (hl : ns.length ≤ maxLen) (hc : ns.length ≤ c) (hb : (ns.length + 1) * 8 ≤ 140737488355328)
    (hwf : ∀ i, i < ns.length → wfI (ns.getD i 0)) (w : World) (hs : IntIn w.heap.size w p ns) :
    Calls Try.prog 5 #[.int .i64 op, .slice p ns.length c] w fun e w' => e = .returned (.bool true) ∧ Below w.heap.size w w' := by
  have h1 := lent_any p c ns hp hb w hs
  have h2 : ∀ (q cap : Nat) (w1 : World), ns.length + 1 ≤ cap → w1.ownsRow w.heap.size 2 1 (.slice (some ⟨q, 0, none⟩) (ns.length + 1) cap) (ns.length + 1) (numVals (ns ++ [markI])) → Below w.heap.size w w1 →
      Calls Try.prog 20 #[.int .i64 op, .slice (some ⟨q, 0, none⟩) ns.length cap] w1 (fun e w' => e = .returned (.tuple #[.int .i64 (if arV op = 2 then foldL op ns else 0), .bool (decide (arV op = 2 ∧ ns ≠ []))]) ∧ w1 = w') ∧
      Calls Try.prog 21 #[.int .i64 op, .slice p ns.length c] w1 (fun e w' => e = .returned (.tuple #[.int .i64 (if arV op = 2 then foldL op ns else 0), .bool (decide (arV op = 2 ∧ ns ≠ []))]) ∧ w1 = w') ∧
      Calls Try.prog 22 #[.slice (some ⟨q, 0, none⟩) ns.length cap, .slice p ns.length c] w1 (fun e w' => e = .returned (.bool true) ∧ Below w1.heap.size w1 w') := by
    intro q cap w1 hcap hrow hbl
    have hin := lent_in hrow
    have hs1 := hs.below hbl (Nat.le_refl _) (B' := w1.heap.size) hbl.size
    have hm := lent_mark hrow
    have hqlt := World.block_lt_of_cell? _ _ hm
    exact ⟨fold_ops op _ cap ns hl (by omega) _ w1 hin, fold_ref op p c ns hl hc _ w1 hwf hs1, kept_any q p cap c ns hcap (row_cap hrow).2 w1 hin hs1 hqlt hm⟩
  clear hs hwf hb hp hc hl
  generalize (if arV op = 2 then foldL op ns else 0) = V at h2
  generalize decide (arV op = 2 ∧ ns ≠ []) = O at h2
  go_enter Try.func5, Try.ntmps5
  go_wp2_with fail
  refine h1.mono ?_
  rintro e w1 ⟨q, cap, rfl, _, hcap, hrow, hbl⟩
  obtain ⟨g1, g2, g3⟩ := h2 q cap w1 hcap hrow hbl
  clear h1 h2 hrow
  go_wp2_with fail
  refine g1.mono ?_
  rintro e w' ⟨rfl, rfl⟩
  go_wp2_with fail
  refine g2.mono ?_
  rintro e w' ⟨rfl, rfl⟩
  go_wp2_with fail
  refine g3.mono ?_
  rintro e w2 ⟨rfl, hb2⟩
  go_wp2_with fail
  refine (awake_any w2).mono ?_
  rintro e w' ⟨rfl, rfl⟩
  go_wp2_with fail
  go_ret
  exact ⟨rfl, hbl.trans (hb2.mono hbl.size)⟩
end Go.Proofs.Ytiddlnmpiaelmaa
