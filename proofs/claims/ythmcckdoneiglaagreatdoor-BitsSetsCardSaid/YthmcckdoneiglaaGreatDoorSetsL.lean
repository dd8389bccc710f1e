/- What BitsSets' walk asks of lists that are lent and of lists that lie apart. -/
import Derived.Test.YthmcckdoneiglaaGreatDoorApart
import Derived.Test.YthmcckdoneiglaaGreatDoorKit
import Derived.Deep.RegionHeld3
namespace Go.Proofs.YthmcckdoneiglaaGreatDoor
open Go Go.RowKit

theorem lent_cellL {w : World} {b g cap : Nat} {xs : List Int} (h : w.ownsRow b 27 1 (.slice (some ⟨g, 0, none⟩) (xs.length + 1) cap) (xs.length + 1) (valsL (xs ++ [markL]))) (i : Nat) (hi : i < xs.length + 1) :
    w.cell? ⟨g, i, none⟩ = some (.int .u64 ((xs ++ [markL]).getD i 0)) := by
  have h2 := h.2
  rcases h2 with ⟨_, h0⟩ | ⟨gq, cap', cur, h0, _, _, _⟩
  · omega
  · simp only [Value.slice.injEq, true_and] at h0
    obtain ⟨h0, rfl⟩ := h0
    obtain rfl : g = gq := by cases h0; rfl
    have hc := h.cellAt i (by omega)
    refine hc.trans ?_
    simp only [valsL, List.getElem?_map, List.getD_eq_getElem?_getD]
    rw [List.getElem?_eq_getElem (by simp; omega)]; rfl

theorem lent_inL {w : World} {b g cap : Nat} {xs : List Int} (h : w.ownsRow b 27 1 (.slice (some ⟨g, 0, none⟩) (xs.length + 1) cap) (xs.length + 1) (valsL (xs ++ [markL]))) : NumInL w.heap.size w (some ⟨g, 0, none⟩) xs := by
  intro i hi
  have hc := lent_cellL h i (by omega)
  rw [show (xs ++ [markL]).getD i 0 = xs.getD i 0 from by simp [List.getD_eq_getElem?_getD, List.getElem?_append_left hi]] at hc
  refine ⟨g, 0, rfl, World.block_lt_of_cell? _ _ hc, ?_⟩
  rw [Nat.zero_add]
  exact hc

theorem lent_markL {w : World} {b g cap : Nat} {xs : List Int} (h : w.ownsRow b 27 1 (.slice (some ⟨g, 0, none⟩) (xs.length + 1) cap) (xs.length + 1) (valsL (xs ++ [markL]))) : w.cell? ⟨g, xs.length, none⟩ = some (.int .u64 markL) := by
  have hc := lent_cellL h xs.length (by omega)
  rw [show (xs ++ [markL]).getD xs.length 0 = markL from by simp] at hc
  exact hc

theorem lent_cellN {w : World} {b g cap : Nat} {xs : List Int} (h : w.ownsRow b 3 1 (.slice (some ⟨g, 0, none⟩) (xs.length + 1) cap) (xs.length + 1) (valsN (xs ++ [markN]))) (i : Nat) (hi : i < xs.length + 1) :
    w.cell? ⟨g, i, none⟩ = some (.int .i64 ((xs ++ [markN]).getD i 0)) := by
  have h2 := h.2
  rcases h2 with ⟨_, h0⟩ | ⟨gq, cap', cur, h0, _, _, _⟩
  · omega
  · simp only [Value.slice.injEq, true_and] at h0
    obtain ⟨h0, rfl⟩ := h0
    obtain rfl : g = gq := by cases h0; rfl
    have hc := h.cellAt i (by omega)
    refine hc.trans ?_
    simp only [valsN, List.getElem?_map, List.getD_eq_getElem?_getD]
    rw [List.getElem?_eq_getElem (by simp; omega)]; rfl

theorem lent_inN {w : World} {b g cap : Nat} {xs : List Int} (h : w.ownsRow b 3 1 (.slice (some ⟨g, 0, none⟩) (xs.length + 1) cap) (xs.length + 1) (valsN (xs ++ [markN]))) : NumInN w.heap.size w (some ⟨g, 0, none⟩) xs := by
  intro i hi
  have hc := lent_cellN h i (by omega)
  rw [show (xs ++ [markN]).getD i 0 = xs.getD i 0 from by simp [List.getD_eq_getElem?_getD, List.getElem?_append_left hi]] at hc
  refine ⟨g, 0, rfl, World.block_lt_of_cell? _ _ hc, ?_⟩
  rw [Nat.zero_add]
  exact hc

theorem lent_markN {w : World} {b g cap : Nat} {xs : List Int} (h : w.ownsRow b 3 1 (.slice (some ⟨g, 0, none⟩) (xs.length + 1) cap) (xs.length + 1) (valsN (xs ++ [markN]))) : w.cell? ⟨g, xs.length, none⟩ = some (.int .i64 markN) := by
  have hc := lent_cellN h xs.length (by omega)
  rw [show (xs ++ [markN]).getD xs.length 0 = markN from by simp] at hc
  exact hc

theorem row_in {W : World} {b : Nat} {q : Option Addr} {c m : Nat} {l : List Nat} (hm : l.length = m) (h : W.ownsRow b 3 1 (.slice q m c) m (numVals l)) : IntIn W q (l.map Int.ofNat) := by
  intro i hi
  rw [List.length_map] at hi
  rcases h.2 with ⟨_, h0⟩ | ⟨gq, cap, cur, h0, _, _, _⟩
  · omega
  · simp only [Value.slice.injEq, true_and] at h0
    obtain ⟨rfl, rfl⟩ := h0
    refine ⟨gq, 0, rfl, ?_⟩
    rw [Nat.zero_add]
    have hc := h.cellAt i (by omega)
    refine hc.trans ?_
    simp only [numVals, List.getElem?_map, List.getD_eq_getElem?_getD]
    rw [List.getElem?_eq_getElem hi]; rfl

theorem map_getD (zs : List Nat) (i : Nat) : (zs.map Int.ofNat).getD i 0 = ((zs.getD i 0 : Nat) : Int) := by
  simp only [List.getD_eq_getElem?_getD, List.getElem?_map]
  cases zs[i]? <;> rfl

/-- Two lists of marks of the same length, and the list of the two, in a block of its own. -/
theorem apart_two (bx by' m : Nat) (hm : m ≤ 64) (xs : List Value) (hxy : bx < by') (W0 W : World) (hb : Below W0.heap.size W0 W) (hx : W0.ownsRow bx 3 1 (.slice (some ⟨bx, 0, none⟩) m m) m xs) (hy : W0.ownsRow by' 3 1 (.slice (some ⟨by', 0, none⟩) m m) m xs) (hl : xs.length = m) :
    Calls Tryz.prog 22 #[.slice (some ⟨W.heap.size, 0, none⟩) 2 2] (W.alloc (.cells #[.slice (some ⟨bx, 0, none⟩) m m, .slice (some ⟨by', 0, none⟩) m m] 23)) fun e w' => e = .returned (.bool true) ∧ Below bx W0 w' := by
  have hxl : bx < W0.heap.size := by obtain ⟨cur, hh, _⟩ := own_block hx; exact lt_of_block hh
  have hyl : by' < W0.heap.size := by obtain ⟨cur, hh, _⟩ := own_block hy; exact lt_of_block hh
  have hsz := hb.size
  have hx1 := (own_keep hx hb hxl).alloc (.cells #[.slice (some ⟨bx, 0, none⟩) m m, .slice (some ⟨by', 0, none⟩) m m] 23)
  have hy1 := (own_keep hy hb hyl).alloc (.cells #[.slice (some ⟨bx, 0, none⟩) m m, .slice (some ⟨by', 0, none⟩) m m] 23)
  have hA : ApS W.heap.size bx m (fun q => if q = 0 then bx else by') (fun _ => xs) (W.alloc (.cells #[.slice (some ⟨bx, 0, none⟩) m m, .slice (some ⟨by', 0, none⟩) m m] 23)) (W.alloc (.cells #[.slice (some ⟨bx, 0, none⟩) m m, .slice (some ⟨by', 0, none⟩) m m] 23)) := by
    refine ⟨fun q hq => ?_, fun q hq => ?_, Below.refl _ _⟩
    · rw [World.cell?_alloc_new]
      rcases (show q = 0 ∨ q = 1 by omega) with rfl | rfl <;> rfl
    · rcases (show q = 0 ∨ q = 1 by omega) with rfl | rfl
      · exact hx1
      · exact own_base hy1 (by omega)
  refine (apart_any W.heap.size bx m _ _ (fun q hq => ?_) (by simp; omega) hm 2 _ (by simp; omega) hA (fun _ _ => hl)).mono fun e w' ⟨he, hb'⟩ => ⟨he, ?_⟩
  · rcases (show q = 0 ∨ q = 1 by omega) with rfl | rfl
    · simp; omega
    · simp; omega
  · exact ((hb.mono (by omega)).trans ((Below.refl _ W).alloc (by omega) _)).trans hb'
end Go.Proofs.YthmcckdoneiglaaGreatDoor
