/- Has and Numbers of the document's answer, in every memory. -/
import Derived.Test.YthmcckdoneiglaaGreatDoorNumbers
import Derived.OwnWalk
import Derived.Laws.AppendOwn
namespace Go.Proofs.YthmcckdoneiglaaGreatDoor
open Go Go.RowKit

theorem has_bit (x k : Nat) (hx : x < 18446744073709551616) : (bits .and .u64 ((x : Int) / 2 ^ k) 1 == 1) = x.testBit k := by
  have e : ((x : Int) / 2 ^ k) = ((x / 2 ^ k : Nat) : Int) := by push_cast; rfl
  have h := bits_and_u64_nat (x / 2 ^ k) 1 (Nat.lt_of_le_of_lt (Nat.div_le_self ..) hx) (by omega)
  rw [e, show bits .and .u64 ((x / 2 ^ k : Nat) : Int) 1 = ((x / 2 ^ k &&& 1 : Nat) : Int) from h, Nat.and_one_is_mod, Nat.testBit_eq_decide_div_mod_eq, Bool.eq_iff_iff]
  simp only [beq_iff_eq, decide_eq_true_eq]
  omega

set_option maxRecDepth 100000 in
theorem has_any (x k : Nat) (hx : x < 18446744073709551616) (hk : k < 64) (w : World) :
    Calls Tryz.prog 24 #[.int .u64 (x : Int), .int .i64 (k : Int)] w fun e w' => e = .returned (.bool (x.testBit k)) ∧ w = w' := by
  have hk0 : (0 : Int) ≤ k := by omega
  have hk63 : (k : Int) ≤ 63 := by omega
  go_enter Tryz.func24, Tryz.ntmps24
  go_wp2
  go_ret
  exact ⟨ret_bool (has_bit x k hx), rfl⟩

theorem below_own {n : Nat} {A B : World} {r : Option Nat} (hg : A.grownBy B r) (hn : n ≤ A.heap.size) (hr : ∀ k, r = some k → n ≤ k) : Below n A B :=
  ⟨hg.os, hg.tape, hg.output, hg.size, fun k hk => hg.block k (by omega) (fun e => by have := hr k e.symm; omega)⟩

theorem bitsFrom_snoc (x : Nat) : ∀ n i, bitsFrom i (n + 1) x = bitsFrom i n x ++ (if x.testBit (i + n) then [i + n] else []) := by
  intro n i
  unfold bitsFrom
  rw [List.range'_concat, List.filter_append]
  congr 1
  simp only [Nat.one_mul, List.filter_cons, List.filter_nil]

set_option maxRecDepth 100000 in
set_option maxHeartbeats 2000000 in
/-- **Numbers of the document's answer.** -/
theorem refnums_any (x : Nat) (hx : x < 18446744073709551616) (w : World) :
    Calls Tryz.prog 13 #[.int .u64 (x : Int)] w fun e w' => (∃ v, e = .returned v ∧ w'.ownsRow w.heap.size 3 1 v (bitsOf x).length (numVals (bitsOf x))) ∧ Below w.heap.size w w' := by
  obtain ⟨i3, h2, h3, h4, h5⟩ := info3
  go_enter Tryz.func13, Tryz.ntmps13
  go_wp2
  go_loopw [3, 4] (fun l i wr => ∃ k : Nat, k ≤ 64 ∧ i = .int .i64 k ∧ wr.ownsRow w.heap.size 3 1 l (bitsFrom 0 k x).length (numVals (bitsFrom 0 k x)) ∧ Below w.heap.size w wr) (fun _ i _ => 64 - (intOf i).toNat)
  case atStart => exact ⟨0, Nat.zero_le _, rfl, World.ownsRow_nil _ _ _ _, Below.refl _ _⟩
  case round =>
    obtain ⟨k, hk, rfl, hR, hB⟩ := hrel
    by_cases hlt : k < 64
    · have hh := has_any x k hx hlt wr
      have hsn := bitsFrom_snoc x k 0
      rw [Nat.zero_add] at hsn
      have hki : (k : Int) < 64 := by omega
      cases ht : x.testBit k with
      | true =>
        rw [ht] at hh
        rw [ht, if_pos rfl] at hsn
        have HSN := Lib.hid hsn
        have hlen : (bitsFrom 0 k x).length ≤ k := by unfold bitsFrom; exact Nat.le_trans (List.length_filter_le _ _) (by simp)
        clear hsn ht
        generalize bitsFrom 0 k x = l at hR HSN hlen
        have hR' := hR.alloc (.cells #[.int .i64 (k : Int)] 3)
        have hbW := hB.size
        go_wp2_with (first | (go_at_call 24; refine hh.mono ?_; rintro e w' ⟨rfl, rfl⟩) | (at_builtin; refine wpList_append_own _ rfl _ _ 23 rfl w.heap.size 3 i3 (.int .i64 0) 1 8 Tryz.underlying23 h2 h3 h4 h5 rfl (by omega) _ l.length _ rfl hR' ⟨_, 0, none⟩ 1 1 [.int .i64 (k : Int)] rfl (by simp) (newHere _ k) (oneHere k) (by unfold maxLen; omega) (by omega) (by simp; omega) ?_))
        intro v' w4 hR4 hg4 _
        have hB4 : Below w.heap.size w w4 := hB.trans (((Below.refl _ wr).alloc hbW _).trans (below_own hg4 (by simp; omega) (fun j hj => (hR'.lt j hj).1)))
        go_wp2
        refine ⟨⟨k + 1, by omega, by go_num, ?_, hB4⟩, by simp [intOf]; omega⟩
        rw [HSN.out, List.length_append, List.length_singleton]
        simpa [numVals] using hR4
      | false =>
        rw [ht] at hh
        rw [ht, if_neg (by simp), List.append_nil] at hsn
        have HSN := Lib.hid hsn
        clear hsn ht
        go_wp2_with (go_at_call 24; refine hh.mono ?_; rintro e w' ⟨rfl, rfl⟩)
        exact ⟨⟨k + 1, by omega, by go_num, by rw [HSN.out]; exact hR, hB⟩, by simp [intOf]; omega⟩
    · obtain rfl : k = 64 := by omega
      go_wp2
      go_ret
      exact ⟨⟨_, rfl, hR⟩, hB⟩

theorem row_slice {w : World} {b : Nat} {e : TypeId} {size : Nat} {v : Value} {n : Nat} {xs : List Value} (h : w.ownsRow b e size v n xs) : ∃ q c, v = .slice q n c := by
  rcases h.2 with ⟨rfl, rfl⟩ | ⟨g, cap, _, rfl, _⟩
  · exact ⟨_, _, rfl⟩
  · exact ⟨_, _, rfl⟩

theorem refnums_s (x : Nat) (hx : x < 18446744073709551616) (w : World) :
    Calls Tryz.prog 13 #[.int .u64 (x : Int)] w fun e w' => ∃ q c, e = .returned (.slice q (bitsOf x).length c) ∧ w'.ownsRow w.heap.size 3 1 (.slice q (bitsOf x).length c) (bitsOf x).length (numVals (bitsOf x)) ∧ Below w.heap.size w w' :=
  (refnums_any x hx w).mono fun e w' ⟨⟨v, he, hR⟩, hB⟩ => by
    obtain ⟨q, c, rfl⟩ := row_slice hR
    exact ⟨q, c, he, hR, hB⟩
end Go.Proofs.YthmcckdoneiglaaGreatDoor
