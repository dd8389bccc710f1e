/- The kit's kept module. -/
import Derived.Test.YtahnhohccbnhjaaCoLf
import Derived.Laws.StructEq
import Derived.BigQuiet
namespace Go.Proofs.Ytahnhohccbnhjaa
open Go Go.RowKit Go.Proofs.Mm
theorem eqArr (a b c d : Int) (w : World) : (Op.equalIn 10000 65 (.agg #[.int .i64 a, .int .u64 b]) (.agg #[.int .i64 c, .int .u64 d])).run Try.prog w = .ok (a == c && b == d) w := by
  have u3 := Try.underlying3
  have u2 := Try.underlying63
  have hS : Try.prog.underlying 65 = some (.struct (Try.prog.fieldsOf 65)) := by kernel_rfl
  have hp : Try.prog.stoodInHeld 65 = false := by kernel_rfl
  rw [show (10000 : Nat) = 9999 + 1 from rfl, run_equalIn_agg w 9999 65 _ _ hS hp]
  simp only [Program.fieldsOf, Try.underlying65]
  go_simp
  by_cases h1 : a = c <;> by_cases h2 : b = d <;> simp [h1, h2]
theorem neArr' (a b c d : Int) (w : World) : (binOp .neq 65 (.agg #[.int .i64 a, .int .u64 b]) (.agg #[.int .i64 c, .int .u64 d])).run Try.prog w = .ok (.bool (!(a == c && b == d))) w := by
  rw [run_neq_struct, eqArr]; rfl
set_option maxRecDepth 100000 in
set_option maxHeartbeats 4000000 in
theorem keptModule_true {w : World} {v v' : Value} {s : MoM} (ha : MoR true (wC w) v s) (hb : MoR false (wC w) v' s) :
    Calls Try.prog 28 #[v, v'] w fun e w' => e = .returned (.bool true) ∧ Below w.heap.size w w' := by
  obtain ⟨v1, v2, v3, v4, rfl, h1, h2, h3, h4⟩ := ha
  obtain ⟨u1, u2, u3, u4, rfl, g1, g2, g3, g4⟩ := hb
  obtain ⟨q1, c1, rfl⟩ := slx_shape h1
  obtain ⟨q2, c2, rfl⟩ := slx_shape h2
  obtain ⟨q3, c3, rfl⟩ := slx_shape h3
  obtain ⟨q4, c4, rfl⟩ := slx_shape h4
  obtain ⟨r1, e1, rfl⟩ := slx_shape g1
  obtain ⟨r2, e2, rfl⟩ := slx_shape g2
  obtain ⟨r3, e3, rfl⟩ := slx_shape g3
  obtain ⟨r4, e4, rfl⟩ := slx_shape g4
  have hm2 := slx_max h2
  have hm4 := slx_max h4
  unfold maxLen at hm2 hm4
  obtain ⟨_, hc2, hx2, ga, oa, rfl, hka⟩ := slx_mark (size := 2) h2 (by decide) ar_len (by simp [mkA])
  obtain ⟨_, hc4, hx4, gf, of', rfl, hkf⟩ := slx_mark (size := 6) h4 (by decide) fn_len (by simp [mkF])
  unfold maxLen at hx2 hx4
  have HA := Lib.hid h2.cells
  have HA' := Lib.hid g2.cells
  have HF := Lib.hid h4.cells
  have HF' := Lib.hid g4.cells
  have K1 := Lib.hid (fun W (h : Below w.heap.size w W) => keptLabels_true (w := W) (h1.le (below_cle h)) (g1.le (below_cle h)))
  have K3 := Lib.hid (fun W (h : Below w.heap.size w W) => keptLabels_true (w := W) (h3.le (below_cle h)) (g3.le (below_cle h)))
  obtain ⟨n1, hn1⟩ : ∃ n, s.globals.length = n := ⟨_, rfl⟩
  obtain ⟨n2, hn2⟩ : ∃ n, s.arrays.length = n := ⟨_, rfl⟩
  obtain ⟨n3, hn3⟩ : ∃ n, s.channels.length = n := ⟨_, rfl⟩
  obtain ⟨n4, hn4⟩ : ∃ n, s.funcs.length = n := ⟨_, rfl⟩
  clear h1 h2 h3 h4 g1 g2 g3 g4
  rw [hn1] at K1 ⊢
  rw [hn2] at hm2 hc2 hka ⊢
  rw [hn3] at K3 ⊢
  rw [hn4] at hm4 hc4 hkf ⊢
  have HN2 := Lib.hid hn2
  have HN4 := Lib.hid hn4
  have HKA := Lib.hid (show wC w ⟨ga, oa + n2 * 2, none⟩ = some (.int .i64 (-71)) ∧ wC w ⟨ga, oa + n2 * 2 + 1, none⟩ = some (.int .u64 0) from ⟨by have := hka 0 _ rfl; simpa using this, hka 1 _ rfl⟩)
  have HKF := Lib.hid (show wC w ⟨gf, of' + n4 * 6, none⟩ = some (.int .u64 0) ∧ wC w ⟨gf, of' + n4 * 6 + 1, none⟩ = some (.slice none 0 0) ∧ wC w ⟨gf, of' + n4 * 6 + 2, none⟩ = some (.slice none 0 0) ∧ wC w ⟨gf, of' + n4 * 6 + 3, none⟩ = some (.int .i64 0) ∧ wC w ⟨gf, of' + n4 * 6 + 4, none⟩ = some (.int .i64 (-71)) ∧ wC w ⟨gf, of' + n4 * 6 + 5, none⟩ = some (.slice none 0 0) from ⟨by have := hkf 0 _ rfl; simpa using this, hkf 1 _ rfl, hkf 2 _ rfl, hkf 3 _ rfl, hkf 4 _ rfl, hkf 5 _ rfl⟩)
  have hneq2 : ((n2 : Int) != (n2 : Int)) = false := by simp
  have hneq4 : ((n4 : Int) != (n4 : Int)) = false := by simp
  have hi2 : (n2 : Int) < (n2 : Int) + 1 := by omega
  have hi4 : (n4 : Int) < (n4 : Int) + 1 := by omega
  have hcc2 : (n2 : Int) + 1 ≤ (c2 : Int) := by omega
  have hcc4 : (n4 : Int) + 1 ≤ (c4 : Int) := by omega
  clear hka hkf hn1 hn2 hn3 hn4
  go_enter Try.func28, Try.ntmps28
  go_wp2_with fail
  obtain ⟨W0, hW0⟩ : ∃ W0, (w.alloc (.cells #[.slice q1 n1 c1, .slice (some ⟨ga, oa, none⟩) n2 c2, .slice q3 n3 c3, .slice (some ⟨gf, of', none⟩) n4 c4] 51)).alloc (.cells #[.slice r1 n1 e1, .slice r2 n2 e2, .slice r3 n3 e3, .slice r4 n4 e4] 51) = W0 := ⟨_, rfl⟩
  have HB0 := Lib.hid (show Below w.heap.size w W0 by rw [← hW0]; exact ((Below.refl _ w).alloc (Nat.le_refl _) _).alloc (by simp) _)
  have hX : W0.heap[w.heap.size]? = some (.cells #[.slice q1 n1 c1, .slice (some ⟨ga, oa, none⟩) n2 c2, .slice q3 n3 c3, .slice (some ⟨gf, of', none⟩) n4 c4] 51 (0, 0)) := by rw [← hW0]; exact heap_new _ _ (World.alloc_heap_new _ _)
  have hY : W0.heap[w.heap.size + 1]? = some (.cells #[.slice r1 n1 e1, .slice r2 n2 e2, .slice r3 n3 e3, .slice r4 n4 e4] 51 (0, 0)) := by
    have h9 := World.alloc_heap_new (w.alloc (.cells #[.slice q1 n1 c1, .slice (some ⟨ga, oa, none⟩) n2 c2, .slice q3 n3 c3, .slice (some ⟨gf, of', none⟩) n4 c4] 51)) (.cells #[.slice r1 n1 e1, .slice r2 n2 e2, .slice r3 n3 e3, .slice r4 n4 e4] 51)
    rwa [show (w.alloc (.cells #[.slice q1 n1 c1, .slice (some ⟨ga, oa, none⟩) n2 c2, .slice q3 n3 c3, .slice (some ⟨gf, of', none⟩) n4 c4] 51)).heap.size = w.heap.size + 1 by simp, hW0] at h9
  rw [hW0]
  clear hW0
  have x0 := cell_of (j := 0) hX rfl
  have y0 := cell_of (j := 0) hY rfl
  have x1 := cell_of (j := 1) hX rfl
  have y1 := cell_of (j := 1) hY rfl
  have x2 := cell_of (j := 2) hX rfl
  have y2 := cell_of (j := 2) hY rfl
  have x3 := cell_of (j := 3) hX rfl
  have y3 := cell_of (j := 3) hY rfl
  have HX := Lib.hid hX
  have HY := Lib.hid hY
  clear hX hY
  go_at_call 46
  refine (K1.out W0 HB0.out).mono ?_
  rintro e w2 ⟨rfl, k1, rfl⟩
  go_wp2_with fail
  go_at_call 46
  refine (K3.out (W0.drewN k1) (HB0.out.drewK k1)).mono ?_
  rintro e w2 ⟨rfl, k2, rfl⟩
  go_wp2_with fail
  have HB1 := Lib.hid (HB0.out.drewK (k1 + k2))
  have HX1 := Lib.hid (show (W0.drewN (k1 + k2)).heap[w.heap.size]? = _ from HX.out)
  have HY1 := Lib.hid (show (W0.drewN (k1 + k2)).heap[w.heap.size + 1]? = _ from HY.out)
  clear x0 x1 x2 x3 y0 y1 y2 y3 HX HY HB0 K1 K3
  generalize W0.drewN (k1 + k2) = W1 at *
  have x1 := cell_of (j := 1) HX1.out rfl
  have y1 := cell_of (j := 1) HY1.out rfl
  have HLE := Lib.hid (below_cle HB1.out)
  go_loopw [5] (fun i wr => ∃ k nq : Nat, k ≤ n2 ∧ i = .int .i64 k ∧ wr = W1.drewN nq) (fun i _ => n2 - (intOf i).toNat)
  case atStart => exact ⟨0, 0, Nat.zero_le _, rfl, rfl⟩
  case round =>
    obtain ⟨k, nq, hk, rfl, rfl⟩ := hrel
    by_cases hlt : k < n2
    · have hk' : k < s.arrays.length := by rw [HN2.out]; exact hlt
      obtain ⟨g, o, hq, a1, a2⟩ := HA.out k hk'
      obtain ⟨rfl, rfl⟩ : ga = g ∧ oa = o := by injection hq with hq; injection hq with hq1 hq2; exact ⟨hq1, hq2⟩
      obtain ⟨g', o', rfl, b1, b2⟩ := HA'.out k hk'
      have z1 : W1.cell? ⟨ga, oa + k * 2, none⟩ = some (.int .i64 s.arrays[k].1) := HLE.out _ _ a1
      have z2 : W1.cell? ⟨ga, oa + k * 2 + 1, none⟩ = some (.int .u64 s.arrays[k].2) := HLE.out _ _ a2
      have z3 : W1.cell? ⟨g', o' + k * 2, none⟩ = some (.int .i64 s.arrays[k].1) := HLE.out _ _ b1
      have z4 : W1.cell? ⟨g', o' + k * 2 + 1, none⟩ = some (.int .u64 s.arrays[k].2) := HLE.out _ _ b2
      clear a1 a2 b1 b2 hq
      generalize s.arrays[k].1 = m1 at *
      generalize s.arrays[k].2 = m2 at *
      have hki : (k : Int) < (n2 : Int) := by omega
      have hne : ∀ W, (binOp .neq 65 (.agg #[.int .i64 m1, .int .u64 m2]) (.agg #[.int .i64 m1, .int .u64 m2])).run Try.prog W = .ok (.bool false) W := fun W => by rw [neArr']; simp
      go_wp2
      go_quiet (fail)
      go_wp2
      exact ⟨⟨k + 1, _, by omega, by go_num, rfl⟩, by simp [intOf]; omega⟩
    · go_wp2_with fail
      obtain rfl : k = n2 := by omega
      have HB2 := Lib.hid (HB1.out.drewK nq)
      have HX2 := Lib.hid (show (W1.drewN nq).heap[w.heap.size]? = _ from HX1.out)
      have HY2 := Lib.hid (show (W1.drewN nq).heap[w.heap.size + 1]? = _ from HY1.out)
      clear x1 y1 HX1 HY1 HB1 HLE
      generalize W1.drewN nq = W2 at *
      go_loopw [6] (fun i wr => ∃ j : Nat, j ≤ n4 ∧ i = .int .i64 j ∧ Hid (Below W2.heap.size W2 wr)) (fun i _ => n4 - (intOf i).toNat)
      case atStart => exact ⟨0, Nat.zero_le _, rfl, Lib.hid (Below.refl _ _)⟩
      case round =>
        obtain ⟨j, hj, rfl, HBV⟩ := hrel
        generalize wr = V at *
        have HXV := Lib.hid ((HBV.out.block _ (heap_lt HX2.out)).trans HX2.out)
        have HYV := Lib.hid ((HBV.out.block _ (heap_lt HY2.out)).trans HY2.out)
        have HBW := Lib.hid (show Below w.heap.size w V from HB2.out.trans (HBV.out.mono HB2.out.size))
        have HLV := Lib.hid (below_cle HBW.out)
        have x1 := cell_of (j := 1) HXV.out rfl
        have x3 := cell_of (j := 3) HXV.out rfl
        have y3 := cell_of (j := 3) HYV.out rfl
        by_cases hlt4 : j < n4
        · have hj' : j < s.funcs.length := by rw [HN4.out]; exact hlt4
          obtain ⟨g, o, vp, vr, vc, hq, hf, a0, a1, a2, a3, a4, a5⟩ := HF.out j hj'
          obtain ⟨rfl, rfl⟩ : gf = g ∧ of' = o := by injection hq with hq; injection hq with hq1 hq2; exact ⟨hq1, hq2⟩
          obtain ⟨g', o', vp', vr', vc', rfl, hf', b0, b1, b2, b3, b4, b5⟩ := HF'.out j hj'
          have HKEP := Lib.hid (fun W (h : Below w.heap.size w W) => keptFunction_true (w := W) (hf.le (below_cle h)) (hf'.le (below_cle h)))
          have z0 := HLV.out _ _ a0
          have z1 := HLV.out _ _ a1
          have z2 := HLV.out _ _ a2
          have z3 := HLV.out _ _ a3
          have z4 := HLV.out _ _ a4
          have z5 := HLV.out _ _ a5
          have t0 := HLV.out _ _ b0
          have t1 := HLV.out _ _ b1
          have t2 := HLV.out _ _ b2
          have t3 := HLV.out _ _ b3
          have t4 := HLV.out _ _ b4
          have t5 := HLV.out _ _ b5
          unfold wC at z0 z1 z2 z3 z4 z5 t0 t1 t2 t3 t4 t5
          clear a0 a1 a2 a3 a4 a5 b0 b1 b2 b3 b4 b5 hf hf' hq
          generalize s.funcs[j].level = lv at *
          generalize s.funcs[j].locals = lo at *
          generalize s.funcs[j].stack = stk at *
          have hji : (j : Int) < (n4 : Int) := by omega
          go_wp2_with fail
          have hmx : Try.prog.follows .mixedOrders = true := by kernel_rfl
          have HBY := Lib.hid (be_drew (Below.refl V.heap.size V))
          refine wp_region_held_drew (S := fun x => Below V.heap.size V x) hmx HBY.out (fun hHeld => ?_)
          generalize V.drew = Y at *
          refine wpAnyH_take (i := 0) (v := .pointer (some ⟨w.heap.size, 3, none⟩)) rfl (by kernel_rfl) (by kernel_rfl) (by kernel_rfl) (fun _ _ _ h => h) (Or.inl ⟨by rfl, fun w hSw => by (skip); go_simp⟩) (by assumption) ?_
          try simp only [Act.put, List.setIfInBounds_toArray, List.set_cons_zero, List.set_cons_succ, List.getElem_toArray, List.getElem_cons_zero, List.getElem_cons_succ]
          refine wpAnyH_take (i := 1) (v := .slice (some ⟨gf, of', none⟩) n4 c4) rfl (by kernel_rfl) (by kernel_rfl) (by kernel_rfl) (fun _ _ _ h => h) (Or.inl ⟨by rfl, fun w hSw => by (have s0 : w.cell? _ = some _ := below_cle hSw _ _ x3); go_simp⟩) (by assumption) ?_
          try simp only [Act.put, List.setIfInBounds_toArray, List.set_cons_zero, List.set_cons_succ, List.getElem_toArray, List.getElem_cons_zero, List.getElem_cons_succ]
          refine wpAnyH_take (i := 2) (v := .int .i64 (j : Int)) rfl (by kernel_rfl) (by kernel_rfl) (by kernel_rfl) (fun _ _ _ h => h) (Or.inl ⟨by rfl, fun w hSw => by (skip); go_simp⟩) (by assumption) ?_
          try simp only [Act.put, List.setIfInBounds_toArray, List.set_cons_zero, List.set_cons_succ, List.getElem_toArray, List.getElem_cons_zero, List.getElem_cons_succ]
          refine wpAnyH_take (i := 3) (v := .pointer (some ⟨gf, of' + j * 6, none⟩)) rfl (by kernel_rfl) (by kernel_rfl) (by kernel_rfl) (fun _ _ _ h => h) (Or.inl ⟨by rfl, fun w hSw => by (skip); go_simp⟩) (by assumption) ?_
          try simp only [Act.put, List.setIfInBounds_toArray, List.set_cons_zero, List.set_cons_succ, List.getElem_toArray, List.getElem_cons_zero, List.getElem_cons_succ]
          refine wpAnyH_take (i := 4) (v := .agg #[.int .u64 lv, vp, vr, .int .i64 lo, .int .i64 stk, vc]) rfl (by kernel_rfl) (by kernel_rfl) (by kernel_rfl) (fun _ _ _ h => h) (Or.inl ⟨by rfl, fun w hSw => by (have s0 : w.cell? _ = some _ := below_cle hSw _ _ z0; have s1 : w.cell? _ = some _ := below_cle hSw _ _ z1; have s2 : w.cell? _ = some _ := below_cle hSw _ _ z2; have s3 : w.cell? _ = some _ := below_cle hSw _ _ z3; have s4 : w.cell? _ = some _ := below_cle hSw _ _ z4; have s5 : w.cell? _ = some _ := below_cle hSw _ _ z5); go_simp⟩) (by assumption) ?_
          try simp only [Act.put, List.setIfInBounds_toArray, List.set_cons_zero, List.set_cons_succ, List.getElem_toArray, List.getElem_cons_zero, List.getElem_cons_succ]
          refine wpAnyH_take (i := 5) (v := .pointer (some ⟨w.heap.size + 1, 3, none⟩)) rfl (by kernel_rfl) (by kernel_rfl) (by kernel_rfl) (fun _ _ _ h => h) (Or.inl ⟨by rfl, fun w hSw => by (skip); go_simp⟩) (by assumption) ?_
          try simp only [Act.put, List.setIfInBounds_toArray, List.set_cons_zero, List.set_cons_succ, List.getElem_toArray, List.getElem_cons_zero, List.getElem_cons_succ]
          refine wpAnyH_take (i := 6) (v := .slice (some ⟨g', o', none⟩) n4 e4) rfl (by kernel_rfl) (by kernel_rfl) (by kernel_rfl) (fun _ _ _ h => h) (Or.inl ⟨by rfl, fun w hSw => by (have s0 : w.cell? _ = some _ := below_cle hSw _ _ y3); go_simp⟩) (by assumption) ?_
          try simp only [Act.put, List.setIfInBounds_toArray, List.set_cons_zero, List.set_cons_succ, List.getElem_toArray, List.getElem_cons_zero, List.getElem_cons_succ]
          refine wpAnyH_take (i := 7) (v := .int .i64 (j : Int)) rfl (by kernel_rfl) (by kernel_rfl) (by kernel_rfl) (fun _ _ _ h => h) (Or.inl ⟨by rfl, fun w hSw => by (skip); go_simp⟩) (by assumption) ?_
          try simp only [Act.put, List.setIfInBounds_toArray, List.set_cons_zero, List.set_cons_succ, List.getElem_toArray, List.getElem_cons_zero, List.getElem_cons_succ]
          refine wpAnyH_take (i := 8) (v := .pointer (some ⟨g', o' + j * 6, none⟩)) rfl (by kernel_rfl) (by kernel_rfl) (by kernel_rfl) (fun _ _ _ h => h) (Or.inl ⟨by rfl, fun w hSw => by (skip); go_simp⟩) (by assumption) ?_
          try simp only [Act.put, List.setIfInBounds_toArray, List.set_cons_zero, List.set_cons_succ, List.getElem_toArray, List.getElem_cons_zero, List.getElem_cons_succ]
          refine wpAnyH_take (i := 9) (v := .agg #[.int .u64 lv, vp', vr', .int .i64 lo, .int .i64 stk, vc']) rfl (by kernel_rfl) (by kernel_rfl) (by kernel_rfl) (fun _ _ _ h => h) (Or.inl ⟨by rfl, fun w hSw => by (have s0 : w.cell? _ = some _ := below_cle hSw _ _ t0; have s1 : w.cell? _ = some _ := below_cle hSw _ _ t1; have s2 : w.cell? _ = some _ := below_cle hSw _ _ t2; have s3 : w.cell? _ = some _ := below_cle hSw _ _ t3; have s4 : w.cell? _ = some _ := below_cle hSw _ _ t4; have s5 : w.cell? _ = some _ := below_cle hSw _ _ t5); go_simp⟩) (by assumption) ?_
          try simp only [Act.put, List.setIfInBounds_toArray, List.set_cons_zero, List.set_cons_succ, List.getElem_toArray, List.getElem_cons_zero, List.getElem_cons_succ]
          refine wpAnyH_ready (rs := [10]) (by kernel_rfl) (by simp) ?_
          refine AllReadyH.cons rfl (fun K1 hK1 => ?_) AllReadyH.nil
          go_simp
          go_at_call 47
          refine (HKEP.out Y (HBW.out.trans (HBY.out.mono HBW.out.size))).mono ?_
          rintro e wk ⟨rfl, hbk⟩
          have HBK := Lib.hid (be_le HBY.out hbk)
          refine hK1.out _ _ HBK.out (fun hHeld => ?_)
          clear hK1 K1 hbk
          try simp only [Act.put, List.setIfInBounds_toArray, List.set_cons_zero, List.set_cons_succ, List.getElem_toArray, List.getElem_cons_zero, List.getElem_cons_succ]
          refine wpAnyH_take (i := 11) (v := .bool false) rfl (by kernel_rfl) (by kernel_rfl) (by kernel_rfl) (fun _ _ _ h => h) (Or.inl ⟨by rfl, fun w hSw => by (skip); go_simp⟩) (by assumption) ?_
          try simp only [Act.put, List.setIfInBounds_toArray, List.set_cons_zero, List.set_cons_succ, List.getElem_toArray, List.getElem_cons_zero, List.getElem_cons_succ]
          refine wpAnyH_done (by kernel_rfl) ?_ _
          clear x1 x3 y3 z0 z1 z2 z3 z4 z5 t0 t1 t2 t3 t4 t5 hHeld
          go_wp2
          exact ⟨⟨j + 1, by omega, by go_num, Lib.hid (be_le HBV.out HBK.out)⟩, by simp [intOf]; omega⟩
        · obtain rfl : j = n4 := by omega
          have z0 := HLV.out _ _ HKA.out.1
          have z1 := HLV.out _ _ HKA.out.2
          have t0 := HLV.out _ _ HKF.out.1
          have t1 := HLV.out _ _ HKF.out.2.1
          have t2 := HLV.out _ _ HKF.out.2.2.1
          have t3 := HLV.out _ _ HKF.out.2.2.2.1
          have t4 := HLV.out _ _ HKF.out.2.2.2.2.1
          have t5 := HLV.out _ _ HKF.out.2.2.2.2.2
          unfold wC at z0 z1 t0 t1 t2 t3 t4 t5
          go_wp2
          go_ret
          exact ⟨rfl, HBW.out⟩
end Go.Proofs.Ytahnhohccbnhjaa
