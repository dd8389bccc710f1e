/- The kit's kept function. -/
import Derived.Test.YthgcnlccikpmaaaCoLb
import Derived.RangeFuncBox
namespace Go.Proofs.Ythgcnlccikpmaaa
open Go Go.RowKit Go.Proofs.Mm
theorem _root_.Go.RowKit.Below.drewK {n : Nat} {a w : World} (h : Below n a w) (k : Nat) : Below n a (w.drewN k) := ⟨h.os, h.tape, h.output, h.size, h.block⟩
set_option maxRecDepth 100000 in
set_option maxHeartbeats 2000000 in
theorem keptFunction_true {w : World} {cs cs' : List Value} {f : FnM} (ha : FnR1 true (wC w) cs f) (hb : FnR1 false (wC w) cs' f) : Calls Try.prog 19 #[.agg cs.toArray, .agg cs'.toArray] w fun e w' => e = .returned (.bool true) ∧ Below w.heap.size w w' := by
  obtain ⟨vp, vr, vc, rfl, hp, hr, hc⟩ := ha
  obtain ⟨vp', vr', vc', rfl, hp', hr', hc'⟩ := hb
  have K1 := Lib.hid (fun W (h : Below w.heap.size w W) => keptLabels_true (w := W) (hp.le (below_cle h)) (hp'.le (below_cle h)))
  have K2 := Lib.hid (fun W (h : Below w.heap.size w W) => keptLabels_true (w := W) (hr.le (below_cle h)) (hr'.le (below_cle h)))
  have K3 := Lib.hid (fun W (h : Below w.heap.size w W) => keptCode_true (w := W) (hc.le (below_cle h)) (hc'.le (below_cle h)))
  generalize f.level = lv at *
  generalize f.locals = lo at *
  generalize f.stack = stk at *
  clear hp hr hc hp' hr' hc'
  have b1 : (lv == lv) = true := by simp
  have b2 : (lo == lo) = true := by simp
  have b3 : (stk == stk) = true := by simp
  go_enter Try.func19, Try.ntmps19
  go_wp2_with fail
  obtain ⟨W0, hW0⟩ : ∃ W0, (w.alloc (.cells #[.int .u64 lv, vp, vr, .int .i64 lo, .int .i64 stk, vc] 27)).alloc (.cells #[.int .u64 lv, vp', vr', .int .i64 lo, .int .i64 stk, vc'] 27) = W0 := ⟨_, rfl⟩
  have HB0 := Lib.hid (show Below w.heap.size w W0 by rw [← hW0]; exact ((Below.refl _ w).alloc (Nat.le_refl _) _).alloc (by simp) _)
  have hX : W0.heap[w.heap.size]? = some (.cells #[.int .u64 lv, vp, vr, .int .i64 lo, .int .i64 stk, vc] 27 (0, 0)) := by rw [← hW0]; exact heap_new _ _ (World.alloc_heap_new _ _)
  have hY : W0.heap[w.heap.size + 1]? = some (.cells #[.int .u64 lv, vp', vr', .int .i64 lo, .int .i64 stk, vc'] 27 (0, 0)) := by
    have h9 := World.alloc_heap_new (w.alloc (.cells #[.int .u64 lv, vp, vr, .int .i64 lo, .int .i64 stk, vc] 27)) (.cells #[.int .u64 lv, vp', vr', .int .i64 lo, .int .i64 stk, vc'] 27)
    rwa [show (w.alloc (.cells #[.int .u64 lv, vp, vr, .int .i64 lo, .int .i64 stk, vc] 27)).heap.size = w.heap.size + 1 by simp, hW0] at h9
  rw [hW0]
  clear hW0
  have x2 := cell_of (j := 2) hX rfl
  have x5 := cell_of (j := 5) hX rfl
  have y2 := cell_of (j := 2) hY rfl
  have y5 := cell_of (j := 5) hY rfl
  clear hX hY
  go_at_call 35
  refine (K1.out W0 HB0.out).mono ?_
  rintro e w2 ⟨rfl, k1, rfl⟩
  go_wp2_with fail
  go_at_call 35
  refine (K2.out (W0.drewN k1) (HB0.out.drewK k1)).mono ?_
  rintro e w2 ⟨rfl, k2, rfl⟩
  go_wp2_with fail
  go_at_call 36
  refine (K3.out (W0.drewN (k1 + k2)) (HB0.out.drewK (k1 + k2))).mono ?_
  rintro e w2 ⟨rfl, k3, rfl⟩
  go_wp2
  go_ret
  exact ⟨rfl, HB0.out.drewK _⟩
end Go.Proofs.Ythgcnlccikpmaaa
