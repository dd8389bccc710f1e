/- The kit's lent function. -/
import Derived.Test.YthgcnlccikpmaaaCoLb
import Derived.Laws.Rows
import Derived.RangeFuncBox
namespace Go.Proofs.Ythgcnlccikpmaaa
open Go Go.RowKit Go.Proofs.Mm

theorem undOf {P : Program} {t : TypeId} (h : (P.underlying t).map (fun d => match d with | .struct _ | .array _ _ => true | _ => false) = some true) : ∃ d, P.underlying t = some d ∧ (match d with | .struct _ | .array _ _ => true | _ => false) = true := by
  cases hd : P.underlying t with
  | none => rw [hd] at h; cases h
  | some d =>
    rw [hd] at h
    exact ⟨d, rfl, by simpa using h⟩
section
variable {w w1 w2 : World} {m m1 m2 : Mem} {b : Nat} {cs : Array Value} {T : TypeId}
/-- One block is written step by step; of what was there before nothing turns. -/
structure Kp (w : World) (m : Mem) (b : Nat) (cs : Array Value) (T : TypeId) (w' : World) (m' : Mem) : Prop where
  below : Below w.heap.size w w'
  has : Has w' m'
  more : m.More w m'
  le : w.heap.size ≤ b
  lies : w'.heap[b]? = some (.cells cs T (0, 0))
  new : m' b = none
theorem Kp.step (h : Kp w m b cs T w1 m1) (hb : Below w1.heap.size w1 w2) (hmo : m1.More w1 m2) (hH : Has w2 m2) : Kp w m b cs T w2 m2 :=
  ⟨h.below.trans (hb.mono h.below.size), hH, h.more.trans hmo h.below.size, h.le, by rw [hb.block _ (heap_lt h.lies)]; exact h.lies, hmo.new b h.new (heap_lt h.lies)⟩
theorem Kp.set (h : Kp w m b cs T w1 m1) (i : Nat) (v : Value) : Kp w m b (cs.setIfInBounds i v) T (w1.setCell ⟨b, i, none⟩ v) m1 :=
  ⟨h.below.setCell h.le v, h.has.chg ((Chg.refl (fun k => k = b) w1).setCell (.inl rfl) _) (fun k e => by rw [e]; exact h.new), h.more, h.le, heap_set h.lies i v, h.new⟩
theorem Kp.cell (h : Kp w m b cs T w1 m1) {i : Nat} {v : Value} (hv : cs[i]? = some v) : w1.cell? ⟨b, i, none⟩ = some v := cell_of h.lies hv
theorem Kp.free (h : Kp w m b cs T w1 m1) (i : Nat) : w1.frozen? ⟨b, i, none⟩ = false := free_of h.lies
theorem Kp.start (hm : Has w m) (cs : Array Value) (T : TypeId) : Kp w m w.heap.size cs T (w.alloc (.cells cs T)) m :=
  ⟨(Below.refl _ w).alloc (Nat.le_refl _) _, has_grown hm ((Below.refl _ w).alloc (Nat.le_refl _) _), Mem.More.refl _ _, Nat.le_refl _, World.alloc_heap_new _ _, hm.lt (Nat.le_refl _)⟩
end

theorem undFn : ∃ d, Try.prog.underlying 27 = some d ∧ (match d with | .struct _ | .array _ _ => true | _ => false) = true := undOf (by kernel_rfl)
theorem sizeFn : (Try.prog.info? 27).map (·.size) = some 6 := by kernel_rfl
set_option maxRecDepth 100000 in
set_option maxHeartbeats 4000000 in
theorem lentFunction_any {w : World} {cs : List Value} {f : FnM} (h : FnR1 false (wC w) cs f) {m : Mem} (hm : Has w m) :
    Calls Try.prog 8 #[.agg cs.toArray] w fun e w' => ∃ cs' m', e = .returned (.agg cs'.toArray) ∧ Below w.heap.size w w' ∧ m.More w m' ∧ Has w' m' ∧ FnR1 true (mC m') cs' f := by
  obtain ⟨vp, vr, vc, rfl, hp, hr, hc⟩ := h
  obtain ⟨qp, cp, rfl⟩ := slx_shape hp
  obtain ⟨qr, cr, rfl⟩ := slx_shape hr
  obtain ⟨qc, cc, rfl⟩ := slx_shape hc
  obtain ⟨np, hnp⟩ : ∃ n, f.params.length = n := ⟨_, rfl⟩
  obtain ⟨nr, hnr⟩ : ∃ n, f.results.length = n := ⟨_, rfl⟩
  obtain ⟨nc, hnc⟩ : ∃ n, f.code.length = n := ⟨_, rfl⟩
  rw [hnp] at hp ⊢
  rw [hnr] at hr ⊢
  rw [hnc] at hc ⊢
  obtain ⟨lv, hlv⟩ : ∃ n, f.level = n := ⟨_, rfl⟩
  obtain ⟨lo, hlo⟩ : ∃ n, f.locals = n := ⟨_, rfl⟩
  obtain ⟨stk, hst⟩ : ∃ n, f.stack = n := ⟨_, rfl⟩
  rw [hlv, hlo, hst]
  have HP := Lib.hid hp
  have HR := Lib.hid hr
  have HC := Lib.hid hc
  have HNP := Lib.hid hnp
  have HNR := Lib.hid hnr
  have HNC := Lib.hid hnc
  have HLV := Lib.hid hlv
  have HLO := Lib.hid hlo
  have HST := Lib.hid hst
  have HM := Lib.hid hm
  clear hp hr hc hnp hnr hnc hlv hlo hst hm
  go_enter Try.func8, Try.ntmps8
  go_wp2_with fail
  obtain ⟨W6, hW6⟩ : ∃ W6, (w.alloc (.cells #[.int .u64 lv, .slice qp np cp, .slice qr nr cr, .int .i64 lo, .int .i64 stk, .slice qc nc cc] 27)).alloc (.cells #[.int .u64 0, .slice none 0 0, .slice none 0 0, .int .i64 0, .int .i64 0, .slice none 0 0] 27) = W6 := ⟨_, rfl⟩
  have HP0 := Lib.hid (show Kp w m w.heap.size #[.int .u64 lv, .slice qp np cp, .slice qr nr cr, .int .i64 lo, .int .i64 stk, .slice qc nc cc] 27 W6 m by rw [← hW6]; exact (Kp.start HM.out _ _).step ((Below.refl _ _).alloc (Nat.le_refl _) _) (Mem.More.refl _ _) (has_grown (Kp.start HM.out _ _).has ((Below.refl _ _).alloc (Nat.le_refl _) _)))
  have hz : W6.heap.size = w.heap.size + 1 + 1 := by rw [← hW6]; simp
  have HZHP0 := Lib.hid (show W6.heap[w.heap.size + 1]? = some (.cells #[.int .u64 0, .slice none 0 0, .slice none 0 0, .int .i64 0, .int .i64 0, .slice none 0 0] 27 (0, 0)) by
    have h9 := World.alloc_heap_new (w.alloc (.cells #[.int .u64 lv, .slice qp np cp, .slice qr nr cr, .int .i64 lo, .int .i64 stk, .slice qc nc cc] 27)) (.cells #[.int .u64 0, .slice none 0 0, .slice none 0 0, .int .i64 0, .int .i64 0, .slice none 0 0] 27)
    rwa [show (w.alloc (.cells #[.int .u64 lv, .slice qp np cp, .slice qr nr cr, .int .i64 lo, .int .i64 stk, .slice qc nc cc] 27)).heap.size = w.heap.size + 1 by simp, hW6] at h9)
  have HSZ := Lib.hid hz
  have HLNHP0 := Lib.hid (HM.out.lt (Nat.le_succ w.heap.size))
  clear hz
  rw [hW6]
  clear hW6
  go_at_call 25
  refine (lentLabels_any (HP.out.le (below_cle HP0.out.below)) HP0.out.has).mono ?_
  rintro e y1 ⟨x, e1, rfl, hb, hmo, hH, hS⟩
  obtain ⟨pp, dp, rfl⟩ := slx_shape hS
  rw [HNP.out] at hS ⊢
  have HR1 := Lib.hid hS
  have hP := HP0.out.step hb hmo hH
  have HLF1 := Lib.hid hmo.le
  have HLNHP1 := Lib.hid (hmo.new (w.heap.size + 1) HLNHP0.out (heap_lt HZHP0.out))
  have HZHP1 := Lib.hid (heap_other (b := w.heap.size) (j := 1) (v := .slice pp np dp) ((hb.block (w.heap.size + 1) (heap_lt HZHP0.out)).trans HZHP0.out) (by omega))
  clear hS hb hmo hH
  have HP1 := Lib.hid (hP.set 1 (.slice pp np dp))
  have ff := hP.free 1
  have gg := hP.cell (i := 1) rfl
  have jj := hP.cell (i := 2) rfl
  have hle := hP.below.size
  clear hP
  go_wp2_with fail
  clear ff gg hle jj
  go_at_call 25
  refine (lentLabels_any (HR.out.le (below_cle HP1.out.below)) HP1.out.has).mono ?_
  rintro e y2 ⟨x, e2, rfl, hb, hmo, hH, hS⟩
  obtain ⟨pr, dr, rfl⟩ := slx_shape hS
  rw [HNR.out] at hS ⊢
  have HR2 := Lib.hid hS
  have hP := HP1.out.step hb hmo hH
  have HLF2 := Lib.hid hmo.le
  have HLNHP2 := Lib.hid (hmo.new (w.heap.size + 1) HLNHP1.out (heap_lt HZHP1.out))
  have HZHP2 := Lib.hid (heap_other (b := w.heap.size) (j := 2) (v := .slice pr nr dr) ((hb.block (w.heap.size + 1) (heap_lt HZHP1.out)).trans HZHP1.out) (by omega))
  clear hS hb hmo hH
  have HP2 := Lib.hid (hP.set 2 (.slice pr nr dr))
  have ff := hP.free 2
  have gg := hP.cell (i := 2) rfl
  have jj := hP.cell (i := 5) rfl
  have hle := hP.below.size
  clear hP
  go_wp2_with fail
  clear ff gg hle jj
  go_at_call 26
  refine (lentCode_any (HC.out.le (below_cle HP2.out.below)) HP2.out.has).mono ?_
  rintro e y3 ⟨x, e3, rfl, hb, hmo, hH, hS⟩
  obtain ⟨pc, dc, rfl⟩ := slx_shape hS
  rw [HNC.out] at hS ⊢
  have HR3 := Lib.hid hS
  have hP := HP2.out.step hb hmo hH
  have HLF5 := Lib.hid hmo.le
  have HLNHP3 := Lib.hid (hmo.new (w.heap.size + 1) HLNHP2.out (heap_lt HZHP2.out))
  have HZHP3 := Lib.hid (heap_other (b := w.heap.size) (j := 5) (v := .slice pc nc dc) ((hb.block (w.heap.size + 1) (heap_lt HZHP2.out)).trans HZHP2.out) (by omega))
  clear hS hb hmo hH
  have HP3 := Lib.hid (hP.set 5 (.slice pc nc dc))
  have ff := hP.free 5
  have gg := hP.cell (i := 5) rfl
  have hle := hP.below.size
  clear hP
  obtain ⟨W7, hW7⟩ : ∃ W7, y3.setCell ⟨w.heap.size, 5, none⟩ (.slice pc nc dc) = W7 := ⟨_, rfl⟩
  rw [hW7] at HP3
  have t0 : W7.cell? ⟨w.heap.size, 0, none⟩ = some (.int .u64 lv) := HP3.out.cell rfl
  have t1 : W7.cell? ⟨w.heap.size, 1, none⟩ = some (.slice pp np dp) := HP3.out.cell rfl
  have t2 : W7.cell? ⟨w.heap.size, 2, none⟩ = some (.slice pr nr dr) := HP3.out.cell rfl
  have t3 : W7.cell? ⟨w.heap.size, 3, none⟩ = some (.int .i64 lo) := HP3.out.cell rfl
  have t4 : W7.cell? ⟨w.heap.size, 4, none⟩ = some (.int .i64 stk) := HP3.out.cell rfl
  have t5 : W7.cell? ⟨w.heap.size, 5, none⟩ = some (.slice pc nc dc) := HP3.out.cell rfl
  have hx1 : W7.heap[w.heap.size + 1]? = _ := hW7 ▸ HZHP3.out
  have k0 := cell_of (j := 0) hx1 rfl
  have k1 := cell_of (j := 1) hx1 rfl
  have k2 := cell_of (j := 2) hx1 rfl
  have k3 := cell_of (j := 3) hx1 rfl
  have k4 := cell_of (j := 4) hx1 rfl
  have k5 := cell_of (j := 5) hx1 rfl
  have l0 := free_of (j := 0) hx1
  have l1 := free_of (j := 1) hx1
  have l2 := free_of (j := 2) hx1
  have l3 := free_of (j := 3) hx1
  have l4 := free_of (j := 4) hx1
  have l5 := free_of (j := 5) hx1
  go_wp2
  (try simp only [Exit.inBlock, Exit.then])
  try rw [hW7]
  clear hW7
  obtain ⟨d9, u1, u2⟩ := undFn
  have hx3 := heap_set (heap_set (heap_set (heap_set (heap_set (heap_set hx1 0 (.int .u64 lv)) 1 (.slice pp np dp)) 2 (.slice pr nr dr)) 3 (.int .i64 lo)) 4 (.int .i64 stk)) 5 (.slice pc nc dc)
  refine bodyPost_ret (results_cell_row rfl _ _ (w.heap.size + 1) 27 _ (0,0) d9 rfl hx3 u1 (by cases d9 <;> first | rfl | cases u2) sizeFn) rfl ?_
  have h0 : e3 (w.heap.size + 1) = none := HLNHP3.out
  have st : ∀ (W : World) i v, Has W e3 → Has (W.setCell ⟨w.heap.size + 1, i, none⟩ v) e3 := fun W i v h => h.chg ((Chg.refl (fun k => k = w.heap.size + 1) W).setCell (.inl rfl) v) (fun k e => by rw [e]; exact h0)
  have hq : w.heap.size ≤ w.heap.size + 1 := Nat.le_succ _
  refine ⟨[.int .u64 lv, .slice pp np dp, .slice pr nr dr, .int .i64 lo, .int .i64 stk, .slice pc nc dc], e3, rfl, ?_, HP3.out.more, st _ 5 _ (st _ 4 _ (st _ 3 _ (st _ 2 _ (st _ 1 _ (st _ 0 _ HP3.out.has))))), ?_⟩
  · exact ((((((HP3.out.below).setCell hq _).setCell hq _).setCell hq _).setCell hq _).setCell hq _).setCell hq _
  · exact ⟨_, _, _, by rw [HLV.out, HLO.out, HST.out], HR1.out.le (mle_cle (HLF2.out.trans HLF5.out)), HR2.out.le (mle_cle HLF5.out), HR3.out⟩
end Go.Proofs.Ythgcnlccikpmaaa
