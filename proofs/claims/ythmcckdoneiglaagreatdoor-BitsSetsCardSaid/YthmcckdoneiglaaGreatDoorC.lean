/- The sequence of Each of package bits: for every label, every loop body that keeps the library's tables, and every memory in which they lie: it hands out the set bits, rising. -/
import Derived.Test.YthmcckdoneiglaaGreatDoorB
import Derived.Test.YthmcckdoneiglaaGreatDoorBit
import Derived.Test.YthmcckdoneiglaaGreatDoorShelf
import Derived.RangeFuncNested
import Derived.RangeFuncBound
import Derived.RangeFuncCalls
import Derived.RangeFuncLeaves
import Derived.Shelf.Abstract
import Derived.Shelf.RegionOpen
import Derived.OwnWalkIn
import Derived.TacticsInMore
import Derived.LoopNIn
import Derived.LoopIn
import Derived.WalkSmall
namespace Go.Proofs.YthmcckdoneiglaaGreatDoor
open Go Go.RowKit Go.Shelf

attribute [local go_sem] Oper.semAt_some

/-- A number of a principal. -/
abbrev Pr := { k : Nat // k < 64 }

theorem same_flip {P : Program} {f : Nat} {args : Array Value} {w : World} {Q : Ending → Prop} (h : Calls P f args w fun e w' => Q e ∧ w' = w) : Calls P f args w fun e w' => Q e ∧ w = w' :=
  h.mono fun _ _ ⟨a, b⟩ => ⟨a, b.symm⟩

theorem tab_below {n₀ : Nat} {A B : World} (hn : 0 < n₀) (h : Below n₀ A B) (hT : TabAt 0 Lib.deBruijn64tab A) : TabAt 0 Lib.deBruijn64tab B :=
  fun j hj => (h.cell (p := ⟨0, j, none⟩) hn).trans (hT j hj)

set_option maxRecDepth 100000 in
set_option maxHeartbeats 1000000 in
theorem each1_in (n l Bx n₀ x : Nat) (hn₀ : 0 < n₀) (hx : x < 18446744073709551616) (J Jx : List Pr → World → Prop)
    (hY : ∀ pre k W, J pre W → pre.length < 64 → YieldAt Fence.wide (n - 1) Tryz.prog l #[.int .i64 (k.val : Int)] W fun e W' =>
      (e = .returned (.bool true) ∧ J (pre ++ [k]) W' ∧ Below n₀ W W') ∨ (e = .returned (.bool false) ∧ Jx (pre ++ [k]) W'))
    (W : World) (hT : TabAt 0 Lib.deBruijn64tab W) (hB : W.cell? ⟨Bx, 0, none⟩ = some (.int .u64 (x : Int))) (h0 : J [] W) :
    CallsIn Fence.wide n Tryz.prog 31 #[.func (.yield l) #[] #[], .pointer (some ⟨Bx, 0, none⟩)] W fun e W' => (∃ v, e = .returned v) ∧
      ((∃ ys : List Pr, ys.map (·.val) = bitsOf x ∧ J ys W') ∨ (∃ pre : List Pr, pre.map (·.val) <+: bitsOf x ∧ Jx pre W')) := by
  refine callsIn_of_wp Tryz.func31 rfl trivial ?_ rfl
  simp only [Tryz.ntmps31, List.size_toArray, List.length_cons, List.length_nil, Nat.reduceAdd, Nat.reduceSub, Array.replicate_succ, Array.replicate_zero, List.push_toArray, List.append_toArray, List.nil_append, List.cons_append]
  gi_wp2
  gi_loopw [3] (fun t wr => ∃ (pre : List Pr) (y : Nat), y < 18446744073709551616 ∧ t = .int .u64 (y : Int) ∧ pre.map (·.val) ++ bitsOf y = bitsOf x ∧ TabAt 0 Lib.deBruijn64tab wr ∧ J pre wr)
    (fun t _ => (intOf t).toNat)
  case atStart =>
    exact ⟨[], x, hx, rfl, rfl, hT, h0⟩
  case round =>
    obtain ⟨pre, y, hy, rfl, hp, hTr, hJs⟩ := hrel
    by_cases hy0 : y = 0
    · subst hy0
      gi_wp2
      go_end0
      exact ⟨⟨_, rfl⟩, .inl ⟨pre, by simpa [bitsOf_zero] using hp, hJs⟩⟩
    · obtain ⟨hst, hk, hlt⟩ := bitsOf_step y hy0 hy
      have hpl : pre.length < 64 := by
        have h1 := congrArg List.length hp
        rw [hst] at h1
        simp only [List.length_append, List.length_map, List.length_cons] at h1
        have h2 := bitsOf_length x
        have h3 := popN_le 64 x
        omega
      have hcall := same_flip (Tryz.bits_TrailingZeros64 y hy wr (fun _ => hTr))
      generalize Lib.ctz 64 y = c at hst hk hcall
      obtain ⟨fn, tmps, assign, body, hy1, hR⟩ := hY pre ⟨c, hk⟩ wr hJs hpl
      have hy0' : ((y : Int) != 0) = true := by simp; omega
      have hlt' : y &&& (y - 1) < 18446744073709551616 := by omega
      have HST := Lib.hid hst
      have HP := Lib.hid hp
      have HLT := Lib.hid hlt
      have HL2 := Lib.hid hlt'
      have HA := Lib.hid (bits_and_u64_nat y (y - 1) hy (by omega))
      have HW := Lib.hid (show IntKind.u64.wrap ((y : Int) - 1) = ((y - 1 : Nat) : Int) from by rw [show ((y : Int) - 1) = ((y - 1 : Nat) : Int) from by omega, cast_wrap _ (by omega)])
      clear hy0 hst hp hlt hpl hlt'
      gi_wp2_with (refine ⟨trivial, (fun h => by cases h), ?_⟩; gi_at_call 32; refine (callsIn_wide.2 hcall).mono ?_; rintro e w' ⟨rfl, rfl⟩)
      refine ⟨(fun h => by cases h), hR.mono ?_⟩
      rintro e W3 (⟨rfl, hJ3, hk3⟩ | ⟨rfl, hJx3⟩)
      · gi_wp2
        rw [HW.out, HA.out]
        exact ⟨⟨pre ++ [⟨c, hk⟩], y &&& (y - 1), HL2.out, rfl, by rw [← HP.out, HST.out]; simp, tab_below hn₀ hk3 hTr, hJ3⟩, by have := HLT.out; simp [intOf]; omega⟩
      · gi_wp2
        refine bodyPost_ret (results_none rfl _ _ _) rfl ?_
        exact ⟨⟨_, rfl⟩, .inr ⟨pre ++ [⟨c, hk⟩], ⟨bitsOf (y &&& (y - 1)), by rw [← HP.out, HST.out]; simp⟩, hJx3⟩⟩

/-- **Each**: the label is boxed; the sequence captures the box. -/
theorem each_any (x : Int) (w : World) :
    Calls Tryz.prog 26 #[.int .u64 x] w fun e w' => e = .returned (.func (.func 31) #[] #[.pointer (some ⟨w.heap.size, 0, none⟩)]) ∧ w' = w.alloc (.cells #[.int .u64 x] 27) := by
  go_enter Tryz.func26, Tryz.ntmps26
  go_wp2
  go_ret
  exact ⟨rfl, rfl⟩

/-- **The sequence, as a loop wants it.** -/
theorem each_stops (n Bx n₀ x : Nat) (hn₀ : 0 < n₀) (hx : x < 18446744073709551616) (w : World) (hw : n₀ ≤ w.heap.size) (hBx : Bx < w.heap.size) (hT : TabAt 0 Lib.deBruijn64tab w)
    (hB : w.cell? ⟨Bx, 0, none⟩ = some (.int .u64 (x : Int))) :
    SeqStopsK Fence.wide n Tryz.prog 31 #[.pointer (some ⟨Bx, 0, none⟩)] (fun k : Pr => #[Value.int .i64 (k.val : Int)]) (Below n₀) (fun ys => ys.map (·.val) = bitsOf x) (fun pre => pre.map (·.val) <+: bitsOf x) 64 w :=
  fun l J Jx W hW _ _ hY h0 =>
    each1_in n l Bx n₀ x hn₀ hx J Jx hY W (tab_below hn₀ (hW.mono hw) hT) ((hW.cell (p := ⟨Bx, 0, none⟩) hBx).trans hB) h0
end Go.Proofs.YthmcckdoneiglaaGreatDoor
