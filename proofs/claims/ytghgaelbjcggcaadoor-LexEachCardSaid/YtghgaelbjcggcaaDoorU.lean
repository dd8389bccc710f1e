/- LexEach: same, and what the law's walk counts. -/
import Derived.Test.YtghgaelbjcggcaaDoorO
import Derived.Test.YtghgaelbjcggcaaDoorK
import Derived.Test.YtghgaelbjcggcaaDoorI
namespace Go.Proofs.YtghgaelbjcggcaaDoor
open Go Go.RowKit

/-- The document's Words, whatever the text. -/
theorem words_any (s : ByteArray) (w : World) : Calls Tryd.prog 7 #[.string s] w (WordsRes s w) := by
  by_cases h : 65536 < s.size
  · exact words_long s h w
  · exact words_ok s (by omega) w
theorem allItems_R (s : ByteArray) : allItems s = itemsOf (wordsR s) := by
  unfold allItems wordsR
  split
  · rfl
  · rfl

/-- Two tokens are the same. -/
def sameB (x y : It) : Bool := decide (x.k = y.k ∧ x.t = y.t ∧ x.v = y.v ∧ x.a = y.a)
set_option maxRecDepth 100000 in
set_option maxHeartbeats 1000000 in
theorem same_any (x y : It) (w : World) : Calls Tryd.prog 9 #[tokV (x.k : Nat) x.t (x.v : Nat) (x.a : Nat), tokV (y.k : Nat) y.t (y.v : Nat) (y.a : Nat)] w fun e w' => e = .returned (.bool (sameB x y)) ∧ Below w.heap.size w w' := by
  have hB : Below w.heap.size w ((w.alloc (.cells #[.int .i64 (x.k : Nat), .string x.t, .int .i64 (x.v : Nat), .int .i64 (x.a : Nat)] 29)).alloc (.cells #[.int .i64 (y.k : Nat), .string y.t, .int .i64 (y.v : Nat), .int .i64 (y.a : Nat)] 32)) := ((Below.refl _ w).alloc (Nat.le_refl _) _).alloc (by simp) _
  by_cases hk : x.k = y.k
  · have e1 : (((x.k : Nat) : Int) == ((y.k : Nat) : Int)) = true := by simp [hk]
    by_cases ht : x.t = y.t
    · have e2 : (x.t.toList == y.t.toList) = true := by rw [ht]; exact beq_self _
      by_cases hv : x.v = y.v
      · have e3 : (((x.v : Nat) : Int) == ((y.v : Nat) : Int)) = true := by simp [hv]
        by_cases ha : x.a = y.a
        · have e4 : (((x.a : Nat) : Int) == ((y.a : Nat) : Int)) = true := by simp [ha]
          have HS := Lib.hid (show sameB x y = true from decide_eq_true ⟨hk, ht, hv, ha⟩)
          clear hk ht hv ha
          go_enter Tryd.func9, Tryd.ntmps9
          go_wp2
          go_ret
          exact ⟨ret_bool HS.out.symm, hB⟩
        · have e4 : (((x.a : Nat) : Int) == ((y.a : Nat) : Int)) = false := by simp; omega
          have HS := Lib.hid (show sameB x y = false from decide_eq_false (fun h => ha h.2.2.2))
          clear hk ht hv ha
          go_enter Tryd.func9, Tryd.ntmps9
          go_wp2
          go_ret
          exact ⟨ret_bool HS.out.symm, hB⟩
      · have e3 : (((x.v : Nat) : Int) == ((y.v : Nat) : Int)) = false := by simp; omega
        have HS := Lib.hid (show sameB x y = false from decide_eq_false (fun h => hv h.2.2.1))
        clear hk ht hv
        go_enter Tryd.func9, Tryd.ntmps9
        go_wp2
        go_ret
        exact ⟨ret_bool HS.out.symm, hB⟩
    · have e2 : (x.t.toList == y.t.toList) = false := beq_ne ht
      have HS := Lib.hid (show sameB x y = false from decide_eq_false (fun h => ht h.2.1))
      clear hk ht
      go_enter Tryd.func9, Tryd.ntmps9
      go_wp2
      go_ret
      exact ⟨ret_bool HS.out.symm, hB⟩
  · have e1 : (((x.k : Nat) : Int) == ((y.k : Nat) : Int)) = false := by simp; omega
    have HS := Lib.hid (show sameB x y = false from decide_eq_false (fun h => hk h.1))
    clear hk
    go_enter Tryd.func9, Tryd.ntmps9
    go_wp2
    go_ret
    exact ⟨ret_bool HS.out.symm, hB⟩
end Go.Proofs.YtghgaelbjcggcaaDoor
