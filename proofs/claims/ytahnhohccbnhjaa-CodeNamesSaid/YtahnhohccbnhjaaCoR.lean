/- CodeNames: the law's walk. -/
import Derived.Test.YtahnhohccbnhjaaCoQ
namespace Go.Proofs.Ytahnhohccbnhjaa
open Go Go.RowKit Go.Proofs.Mm Go.Sort

set_option maxRecDepth 100000 in
set_option maxHeartbeats 2000000 in
theorem namesL_ff (op a : Int) (s : ByteArray) (w : World) (hk : knI op = false) (hmm : mayI op a = false) :
    Calls Try.prog 3 #[inV op a, .string s] w fun e w' => e = .returned (.bool true) ∧ Below w.heap.size w w' := by
  have HT := Lib.hid (Table_any op)
  unfold tbV rwV at HT
  have HN := Lib.hid (Name_any op)
  have HM := Lib.hid (hmm ▸ May_any op a)
  have HM2 := Lib.hid (hmm ▸ refMay_any op a)
  have HO := Lib.hid ((show opdI op = false from by unfold opdI; rw [hk]; rfl) ▸ Operand_any op : ∀ W, Calls Try.prog 14 #[.int .i64 op] W fun e w' => e = .returned (.bool false) ∧ W = w')
  rw [hk] at HT
  generalize nmI op = z at HT HN
  generalize poI op = po at HT
  generalize puI op = pu at HT
  generalize kiI op = ki at HT
  have hzz : (z.toList == z.toList) = true := by simp
  clear hmm hk
  go_enter Try.func3, Try.ntmps3
  go_wp2_with fail
  refine (HT.out _).mono ?_
  rintro e w1 ⟨rfl, hb⟩
  have HI1 := Lib.hid ((InB.new w #[.int .i64 op, .int .i64 a] 23).le hb)
  have HB1 := Lib.hid ((bl_al (Below.refl _ w) (.cells #[.int .i64 op, .int .i64 a] 23)).trans (hb.mono (by simp)))
  clear hb
  go_wp2_with fail
  refine (ByName_any s _).mono ?_
  rintro e w2 ⟨r, t, rfl, hr, hb⟩
  have HI2 := Lib.hid (InB.le (heap_new _ _ HI1.out) hb)
  have HR2 := Lib.hid ((InB.new w1 #[.string z, .int .i64 po, .int .i64 pu, .int .i64 ki] 25).le hb)
  have HB2 := Lib.hid (bl_tr (bl_al HB1.out _) hb)
  have HR := Lib.hid hr
  clear hb hr
  go_wp2_with fail
  refine (refByName_any s _).mono ?_
  rintro e w3 ⟨r3, t3, rfl, hr, hb⟩
  obtain ⟨rfl, rfl⟩ := HR.out.same hr
  have hI := HI2.out.le hb
  have hR := HR2.out.le hb
  have HB3 := Lib.hid (bl_tr HB2.out hb)
  clear hb hr HI2 HR2 HB2 HR
  go_upto_region 4 with (fail)
  generalize w1.heap.size = b5 at hR ⊢
  have k0 := cell_regrown (hI.cell (j := 0) rfl)
  have k1 := cell_regrown (hI.cell (j := 1) rfl)
  have q0 := cell_regrown (hR.cell (j := 0) rfl)
  have q3 := cell_regrown (hR.cell (j := 3) rfl)
  clear hI hR HI1 HB1
  have c1 : ∀ d os, Calls Try.prog 12 #[inV op a] (grow (redrawn w3 d) os) fun e w'' => e = .returned (.bool false) ∧ ∃ p : Regrown, w'' = grow (redrawn w3 p.d) p.os := fun d os => Calls.regrown_of (HM.out _)
  have c2 : ∀ d os, Calls Try.prog 13 #[inV op a] (grow (redrawn w3 d) os) fun e w'' => e = .returned (.bool false) ∧ ∃ p : Regrown, w'' = grow (redrawn w3 p.d) p.os := fun d os => Calls.regrown_of (HM2.out _)
  have c3 : ∀ d os, Calls Try.prog 14 #[.int .i64 op] (grow (redrawn w3 d) os) fun e w'' => e = .returned (.bool false) ∧ ∃ p : Regrown, w'' = grow (redrawn w3 p.d) p.os := fun d os => Calls.regrown_of ((HO.out _).mono fun _ _ h => ⟨h.1, h.2 ▸ Below.refl _ _⟩)
  have c4 : ∀ d os, Calls Try.prog 15 #[.int .i64 op] (grow (redrawn w3 d) os) fun e w'' => e = .returned (.string z) ∧ ∃ p : Regrown, w'' = grow (redrawn w3 p.d) p.os := fun d os => Calls.regrown_of (HN.out _)
  have c5 : ∀ d os, Calls Try.prog 16 #[] (grow (redrawn w3 d) os) fun e w'' => e = .returned (.bool true) ∧ ∃ p : Regrown, w'' = grow (redrawn w3 p.d) p.os := fun d os => Calls.regrown_of (awake_any _)
  refine wp_region_quiet_below (by kernel_rfl) (by kernel_rfl) ?_
  iterate 39 (go_big_quiet_step (first | exact c1 _ _ | exact c2 _ _ | exact c3 _ _ | exact c4 _ _ | exact c5 _ _))
  refine wpQuiet_nil ?_
  intro _ hw'
  obtain ⟨⟨dq, osq⟩, hw''⟩ := hw'
  subst hw''
  have HV := Lib.hid (HB3.out.trans ((below_regrown w3 dq osq).mono HB3.out.size))
  generalize grow (redrawn w3 dq) osq = V at HV ⊢
  clear k0 k1 q0 q3 c1 c2 c3 c4 c5
  go_wp2
  go_ret
  exact ⟨rfl, HV.out⟩
set_option maxRecDepth 100000 in
set_option maxHeartbeats 2000000 in
theorem namesL_tzf (op a : Int) (s : ByteArray) (w : World) (hk : knI op = true) (hki : kiI op = 0) (hmm : mayI op a = false) :
    Calls Try.prog 3 #[inV op a, .string s] w fun e w' => e = .returned (.bool true) ∧ Below w.heap.size w w' := by
  have HT := Lib.hid (Table_any op)
  unfold tbV rwV at HT
  have HN := Lib.hid (Name_any op)
  have HM := Lib.hid (hmm ▸ May_any op a)
  have HM2 := Lib.hid (hmm ▸ refMay_any op a)
  have HO := Lib.hid (opdI_zero hki ▸ Operand_any op : ∀ W, Calls Try.prog 14 #[.int .i64 op] W fun e w' => e = .returned (.bool false) ∧ W = w')
  rw [hk] at HT
  generalize nmI op = z at HT HN
  generalize poI op = po at HT
  generalize puI op = pu at HT
  generalize kiI op = ki at HT hki
  have hzz : (z.toList == z.toList) = true := by simp
  subst hki
  clear hmm hk
  go_enter Try.func3, Try.ntmps3
  go_wp2_with fail
  refine (HT.out _).mono ?_
  rintro e w1 ⟨rfl, hb⟩
  have HI1 := Lib.hid ((InB.new w #[.int .i64 op, .int .i64 a] 23).le hb)
  have HB1 := Lib.hid ((bl_al (Below.refl _ w) (.cells #[.int .i64 op, .int .i64 a] 23)).trans (hb.mono (by simp)))
  clear hb
  go_wp2_with fail
  refine (ByName_any s _).mono ?_
  rintro e w2 ⟨r, t, rfl, hr, hb⟩
  have HI2 := Lib.hid (InB.le (heap_new _ _ HI1.out) hb)
  have HR2 := Lib.hid ((InB.new w1 #[.string z, .int .i64 po, .int .i64 pu, .int .i64 0] 25).le hb)
  have HB2 := Lib.hid (bl_tr (bl_al HB1.out _) hb)
  have HR := Lib.hid hr
  clear hb hr
  go_wp2_with fail
  refine (refByName_any s _).mono ?_
  rintro e w3 ⟨r3, t3, rfl, hr, hb⟩
  obtain ⟨rfl, rfl⟩ := HR.out.same hr
  have hI := HI2.out.le hb
  have hR := HR2.out.le hb
  have HB3 := Lib.hid (bl_tr HB2.out hb)
  clear hb hr HI2 HR2 HB2 HR
  go_upto_region 4 with (fail)
  generalize w1.heap.size = b5 at hR ⊢
  have k0 := cell_regrown (hI.cell (j := 0) rfl)
  have k1 := cell_regrown (hI.cell (j := 1) rfl)
  have q0 := cell_regrown (hR.cell (j := 0) rfl)
  have q3 := cell_regrown (hR.cell (j := 3) rfl)
  clear hI hR HI1 HB1
  have c1 : ∀ d os, Calls Try.prog 12 #[inV op a] (grow (redrawn w3 d) os) fun e w'' => e = .returned (.bool false) ∧ ∃ p : Regrown, w'' = grow (redrawn w3 p.d) p.os := fun d os => Calls.regrown_of (HM.out _)
  have c2 : ∀ d os, Calls Try.prog 13 #[inV op a] (grow (redrawn w3 d) os) fun e w'' => e = .returned (.bool false) ∧ ∃ p : Regrown, w'' = grow (redrawn w3 p.d) p.os := fun d os => Calls.regrown_of (HM2.out _)
  have c3 : ∀ d os, Calls Try.prog 14 #[.int .i64 op] (grow (redrawn w3 d) os) fun e w'' => e = .returned (.bool false) ∧ ∃ p : Regrown, w'' = grow (redrawn w3 p.d) p.os := fun d os => Calls.regrown_of ((HO.out _).mono fun _ _ h => ⟨h.1, h.2 ▸ Below.refl _ _⟩)
  have c4 : ∀ d os, Calls Try.prog 15 #[.int .i64 op] (grow (redrawn w3 d) os) fun e w'' => e = .returned (.string z) ∧ ∃ p : Regrown, w'' = grow (redrawn w3 p.d) p.os := fun d os => Calls.regrown_of (HN.out _)
  have c5 : ∀ d os, Calls Try.prog 16 #[] (grow (redrawn w3 d) os) fun e w'' => e = .returned (.bool true) ∧ ∃ p : Regrown, w'' = grow (redrawn w3 p.d) p.os := fun d os => Calls.regrown_of (awake_any _)
  refine wp_region_quiet_below (by kernel_rfl) (by kernel_rfl) ?_
  iterate 39 (go_big_quiet_step (first | exact c1 _ _ | exact c2 _ _ | exact c3 _ _ | exact c4 _ _ | exact c5 _ _))
  refine wpQuiet_nil ?_
  intro _ hw'
  obtain ⟨⟨dq, osq⟩, hw''⟩ := hw'
  subst hw''
  have HV := Lib.hid (HB3.out.trans ((below_regrown w3 dq osq).mono HB3.out.size))
  generalize grow (redrawn w3 dq) osq = V at HV ⊢
  clear k0 k1 q0 q3 c1 c2 c3 c4 c5
  go_wp2
  go_ret
  exact ⟨rfl, HV.out⟩
set_option maxRecDepth 100000 in
set_option maxHeartbeats 2000000 in
theorem namesL_tzt (op a : Int) (s : ByteArray) (w : World) (hk : knI op = true) (hki : kiI op = 0) (hmm : mayI op a = true) :
    Calls Try.prog 3 #[inV op a, .string s] w fun e w' => e = .returned (.bool true) ∧ Below w.heap.size w w' := by
  have HT := Lib.hid (Table_any op)
  unfold tbV rwV at HT
  have HN := Lib.hid (Name_any op)
  have HM := Lib.hid (hmm ▸ May_any op a)
  have HM2 := Lib.hid (hmm ▸ refMay_any op a)
  have HO := Lib.hid (opdI_zero hki ▸ Operand_any op : ∀ W, Calls Try.prog 14 #[.int .i64 op] W fun e w' => e = .returned (.bool false) ∧ W = w')
  rw [hk] at HT
  generalize nmI op = z at HT HN
  generalize poI op = po at HT
  generalize puI op = pu at HT
  generalize kiI op = ki at HT hki
  have hzz : (z.toList == z.toList) = true := by simp
  subst hki
  clear hmm hk
  go_enter Try.func3, Try.ntmps3
  go_wp2_with fail
  refine (HT.out _).mono ?_
  rintro e w1 ⟨rfl, hb⟩
  have HI1 := Lib.hid ((InB.new w #[.int .i64 op, .int .i64 a] 23).le hb)
  have HB1 := Lib.hid ((bl_al (Below.refl _ w) (.cells #[.int .i64 op, .int .i64 a] 23)).trans (hb.mono (by simp)))
  clear hb
  go_wp2_with fail
  refine (ByName_any s _).mono ?_
  rintro e w2 ⟨r, t, rfl, hr, hb⟩
  have HI2 := Lib.hid (InB.le (heap_new _ _ HI1.out) hb)
  have HR2 := Lib.hid ((InB.new w1 #[.string z, .int .i64 po, .int .i64 pu, .int .i64 0] 25).le hb)
  have HB2 := Lib.hid (bl_tr (bl_al HB1.out _) hb)
  have HR := Lib.hid hr
  clear hb hr
  go_wp2_with fail
  refine (refByName_any s _).mono ?_
  rintro e w3 ⟨r3, t3, rfl, hr, hb⟩
  obtain ⟨rfl, rfl⟩ := HR.out.same hr
  have hI := HI2.out.le hb
  have hR := HR2.out.le hb
  have HB3 := Lib.hid (bl_tr HB2.out hb)
  clear hb hr HI2 HR2 HB2 HR
  go_upto_region 4 with (fail)
  generalize w1.heap.size = b5 at hR ⊢
  have k0 := cell_regrown (hI.cell (j := 0) rfl)
  have k1 := cell_regrown (hI.cell (j := 1) rfl)
  have q0 := cell_regrown (hR.cell (j := 0) rfl)
  have q3 := cell_regrown (hR.cell (j := 3) rfl)
  clear hI hR HI1 HB1
  have c1 : ∀ d os, Calls Try.prog 12 #[inV op a] (grow (redrawn w3 d) os) fun e w'' => e = .returned (.bool true) ∧ ∃ p : Regrown, w'' = grow (redrawn w3 p.d) p.os := fun d os => Calls.regrown_of (HM.out _)
  have c2 : ∀ d os, Calls Try.prog 13 #[inV op a] (grow (redrawn w3 d) os) fun e w'' => e = .returned (.bool true) ∧ ∃ p : Regrown, w'' = grow (redrawn w3 p.d) p.os := fun d os => Calls.regrown_of (HM2.out _)
  have c3 : ∀ d os, Calls Try.prog 14 #[.int .i64 op] (grow (redrawn w3 d) os) fun e w'' => e = .returned (.bool false) ∧ ∃ p : Regrown, w'' = grow (redrawn w3 p.d) p.os := fun d os => Calls.regrown_of ((HO.out _).mono fun _ _ h => ⟨h.1, h.2 ▸ Below.refl _ _⟩)
  have c4 : ∀ d os, Calls Try.prog 15 #[.int .i64 op] (grow (redrawn w3 d) os) fun e w'' => e = .returned (.string z) ∧ ∃ p : Regrown, w'' = grow (redrawn w3 p.d) p.os := fun d os => Calls.regrown_of (HN.out _)
  have c5 : ∀ d os, Calls Try.prog 16 #[] (grow (redrawn w3 d) os) fun e w'' => e = .returned (.bool true) ∧ ∃ p : Regrown, w'' = grow (redrawn w3 p.d) p.os := fun d os => Calls.regrown_of (awake_any _)
  refine wp_region_quiet_below (by kernel_rfl) (by kernel_rfl) ?_
  iterate 39 (go_big_quiet_step (first | exact c1 _ _ | exact c2 _ _ | exact c3 _ _ | exact c4 _ _ | exact c5 _ _))
  refine wpQuiet_nil ?_
  intro _ hw'
  obtain ⟨⟨dq, osq⟩, hw''⟩ := hw'
  subst hw''
  have HV := Lib.hid (HB3.out.trans ((below_regrown w3 dq osq).mono HB3.out.size))
  generalize grow (redrawn w3 dq) osq = V at HV ⊢
  clear k0 k1 q0 q3 c1 c2 c3 c4 c5
  go_wp2
  go_ret
  exact ⟨rfl, HV.out⟩
set_option maxRecDepth 100000 in
set_option maxHeartbeats 2000000 in
theorem namesL_tpf (op a : Int) (s : ByteArray) (w : World) (hk : knI op = true) (hki : 0 < kiI op) (hmm : mayI op a = false) :
    Calls Try.prog 3 #[inV op a, .string s] w fun e w' => e = .returned (.bool true) ∧ Below w.heap.size w w' := by
  have HT := Lib.hid (Table_any op)
  unfold tbV rwV at HT
  have HN := Lib.hid (Name_any op)
  have HM := Lib.hid (hmm ▸ May_any op a)
  have HM2 := Lib.hid (hmm ▸ refMay_any op a)
  have HO := Lib.hid (opdI_of hk (by omega) ▸ Operand_any op : ∀ W, Calls Try.prog 14 #[.int .i64 op] W fun e w' => e = .returned (.bool true) ∧ W = w')
  rw [hk] at HT
  generalize nmI op = z at HT HN
  generalize poI op = po at HT
  generalize puI op = pu at HT
  generalize kiI op = ki at HT hki
  have hzz : (z.toList == z.toList) = true := by simp
  clear hmm hk
  go_enter Try.func3, Try.ntmps3
  go_wp2_with fail
  refine (HT.out _).mono ?_
  rintro e w1 ⟨rfl, hb⟩
  have HI1 := Lib.hid ((InB.new w #[.int .i64 op, .int .i64 a] 23).le hb)
  have HB1 := Lib.hid ((bl_al (Below.refl _ w) (.cells #[.int .i64 op, .int .i64 a] 23)).trans (hb.mono (by simp)))
  clear hb
  go_wp2_with fail
  refine (ByName_any s _).mono ?_
  rintro e w2 ⟨r, t, rfl, hr, hb⟩
  have HI2 := Lib.hid (InB.le (heap_new _ _ HI1.out) hb)
  have HR2 := Lib.hid ((InB.new w1 #[.string z, .int .i64 po, .int .i64 pu, .int .i64 ki] 25).le hb)
  have HB2 := Lib.hid (bl_tr (bl_al HB1.out _) hb)
  have HR := Lib.hid hr
  clear hb hr
  go_wp2_with fail
  refine (refByName_any s _).mono ?_
  rintro e w3 ⟨r3, t3, rfl, hr, hb⟩
  obtain ⟨rfl, rfl⟩ := HR.out.same hr
  have hI := HI2.out.le hb
  have hR := HR2.out.le hb
  have HB3 := Lib.hid (bl_tr HB2.out hb)
  clear hb hr HI2 HR2 HB2 HR
  go_upto_region 4 with (fail)
  generalize w1.heap.size = b5 at hR ⊢
  have k0 := cell_regrown (hI.cell (j := 0) rfl)
  have k1 := cell_regrown (hI.cell (j := 1) rfl)
  have q0 := cell_regrown (hR.cell (j := 0) rfl)
  have q3 := cell_regrown (hR.cell (j := 3) rfl)
  clear hI hR HI1 HB1
  have c1 : ∀ d os, Calls Try.prog 12 #[inV op a] (grow (redrawn w3 d) os) fun e w'' => e = .returned (.bool false) ∧ ∃ p : Regrown, w'' = grow (redrawn w3 p.d) p.os := fun d os => Calls.regrown_of (HM.out _)
  have c2 : ∀ d os, Calls Try.prog 13 #[inV op a] (grow (redrawn w3 d) os) fun e w'' => e = .returned (.bool false) ∧ ∃ p : Regrown, w'' = grow (redrawn w3 p.d) p.os := fun d os => Calls.regrown_of (HM2.out _)
  have c3 : ∀ d os, Calls Try.prog 14 #[.int .i64 op] (grow (redrawn w3 d) os) fun e w'' => e = .returned (.bool true) ∧ ∃ p : Regrown, w'' = grow (redrawn w3 p.d) p.os := fun d os => Calls.regrown_of ((HO.out _).mono fun _ _ h => ⟨h.1, h.2 ▸ Below.refl _ _⟩)
  have c4 : ∀ d os, Calls Try.prog 15 #[.int .i64 op] (grow (redrawn w3 d) os) fun e w'' => e = .returned (.string z) ∧ ∃ p : Regrown, w'' = grow (redrawn w3 p.d) p.os := fun d os => Calls.regrown_of (HN.out _)
  have c5 : ∀ d os, Calls Try.prog 16 #[] (grow (redrawn w3 d) os) fun e w'' => e = .returned (.bool true) ∧ ∃ p : Regrown, w'' = grow (redrawn w3 p.d) p.os := fun d os => Calls.regrown_of (awake_any _)
  refine wp_region_quiet_below (by kernel_rfl) (by kernel_rfl) ?_
  iterate 39 (go_big_quiet_step (first | exact c1 _ _ | exact c2 _ _ | exact c3 _ _ | exact c4 _ _ | exact c5 _ _))
  refine wpQuiet_nil ?_
  intro _ hw'
  obtain ⟨⟨dq, osq⟩, hw''⟩ := hw'
  subst hw''
  have HV := Lib.hid (HB3.out.trans ((below_regrown w3 dq osq).mono HB3.out.size))
  generalize grow (redrawn w3 dq) osq = V at HV ⊢
  clear k0 k1 q0 q3 c1 c2 c3 c4 c5
  go_wp2
  go_ret
  exact ⟨rfl, HV.out⟩
set_option maxRecDepth 100000 in
set_option maxHeartbeats 2000000 in
theorem namesL_tpt (op a : Int) (s : ByteArray) (w : World) (hk : knI op = true) (hki : 0 < kiI op) (hmm : mayI op a = true) :
    Calls Try.prog 3 #[inV op a, .string s] w fun e w' => e = .returned (.bool true) ∧ Below w.heap.size w w' := by
  have HT := Lib.hid (Table_any op)
  unfold tbV rwV at HT
  have HN := Lib.hid (Name_any op)
  have HM := Lib.hid (hmm ▸ May_any op a)
  have HM2 := Lib.hid (hmm ▸ refMay_any op a)
  have HO := Lib.hid (opdI_of hk (by omega) ▸ Operand_any op : ∀ W, Calls Try.prog 14 #[.int .i64 op] W fun e w' => e = .returned (.bool true) ∧ W = w')
  rw [hk] at HT
  generalize nmI op = z at HT HN
  generalize poI op = po at HT
  generalize puI op = pu at HT
  generalize kiI op = ki at HT hki
  have hzz : (z.toList == z.toList) = true := by simp
  clear hmm hk
  go_enter Try.func3, Try.ntmps3
  go_wp2_with fail
  refine (HT.out _).mono ?_
  rintro e w1 ⟨rfl, hb⟩
  have HI1 := Lib.hid ((InB.new w #[.int .i64 op, .int .i64 a] 23).le hb)
  have HB1 := Lib.hid ((bl_al (Below.refl _ w) (.cells #[.int .i64 op, .int .i64 a] 23)).trans (hb.mono (by simp)))
  clear hb
  go_wp2_with fail
  refine (ByName_any s _).mono ?_
  rintro e w2 ⟨r, t, rfl, hr, hb⟩
  have HI2 := Lib.hid (InB.le (heap_new _ _ HI1.out) hb)
  have HR2 := Lib.hid ((InB.new w1 #[.string z, .int .i64 po, .int .i64 pu, .int .i64 ki] 25).le hb)
  have HB2 := Lib.hid (bl_tr (bl_al HB1.out _) hb)
  have HR := Lib.hid hr
  clear hb hr
  go_wp2_with fail
  refine (refByName_any s _).mono ?_
  rintro e w3 ⟨r3, t3, rfl, hr, hb⟩
  obtain ⟨rfl, rfl⟩ := HR.out.same hr
  have hI := HI2.out.le hb
  have hR := HR2.out.le hb
  have HB3 := Lib.hid (bl_tr HB2.out hb)
  clear hb hr HI2 HR2 HB2 HR
  go_upto_region 4 with (fail)
  generalize w1.heap.size = b5 at hR ⊢
  have k0 := cell_regrown (hI.cell (j := 0) rfl)
  have k1 := cell_regrown (hI.cell (j := 1) rfl)
  have q0 := cell_regrown (hR.cell (j := 0) rfl)
  have q3 := cell_regrown (hR.cell (j := 3) rfl)
  clear hI hR HI1 HB1
  have c1 : ∀ d os, Calls Try.prog 12 #[inV op a] (grow (redrawn w3 d) os) fun e w'' => e = .returned (.bool true) ∧ ∃ p : Regrown, w'' = grow (redrawn w3 p.d) p.os := fun d os => Calls.regrown_of (HM.out _)
  have c2 : ∀ d os, Calls Try.prog 13 #[inV op a] (grow (redrawn w3 d) os) fun e w'' => e = .returned (.bool true) ∧ ∃ p : Regrown, w'' = grow (redrawn w3 p.d) p.os := fun d os => Calls.regrown_of (HM2.out _)
  have c3 : ∀ d os, Calls Try.prog 14 #[.int .i64 op] (grow (redrawn w3 d) os) fun e w'' => e = .returned (.bool true) ∧ ∃ p : Regrown, w'' = grow (redrawn w3 p.d) p.os := fun d os => Calls.regrown_of ((HO.out _).mono fun _ _ h => ⟨h.1, h.2 ▸ Below.refl _ _⟩)
  have c4 : ∀ d os, Calls Try.prog 15 #[.int .i64 op] (grow (redrawn w3 d) os) fun e w'' => e = .returned (.string z) ∧ ∃ p : Regrown, w'' = grow (redrawn w3 p.d) p.os := fun d os => Calls.regrown_of (HN.out _)
  have c5 : ∀ d os, Calls Try.prog 16 #[] (grow (redrawn w3 d) os) fun e w'' => e = .returned (.bool true) ∧ ∃ p : Regrown, w'' = grow (redrawn w3 p.d) p.os := fun d os => Calls.regrown_of (awake_any _)
  refine wp_region_quiet_below (by kernel_rfl) (by kernel_rfl) ?_
  iterate 39 (go_big_quiet_step (first | exact c1 _ _ | exact c2 _ _ | exact c3 _ _ | exact c4 _ _ | exact c5 _ _))
  refine wpQuiet_nil ?_
  intro _ hw'
  obtain ⟨⟨dq, osq⟩, hw''⟩ := hw'
  subst hw''
  have HV := Lib.hid (HB3.out.trans ((below_regrown w3 dq osq).mono HB3.out.size))
  generalize grow (redrawn w3 dq) osq = V at HV ⊢
  clear k0 k1 q0 q3 c1 c2 c3 c4 c5
  go_wp2
  go_ret
  exact ⟨rfl, HV.out⟩
theorem names_law (op a : Int) (s : ByteArray) (w : World) : Calls Try.prog 3 #[inV op a, .string s] w fun e w' => e = .returned (.bool true) ∧ Below w.heap.size w w' := by
  cases hk : knI op
  · exact namesL_ff op a s w hk (mayI_none hk a)
  · by_cases h0 : kiI op = 0
    · cases hm : mayI op a
      · exact namesL_tzf op a s w hk h0 hm
      · exact namesL_tzt op a s w hk h0 hm
    · have h1 : 0 < kiI op := by
        have h3 : ∀ k : Fin 48, 0 ≤ kiL.getD k.val 0 := by decide
        obtain ⟨k, hk48, e⟩ := knI_nat hk
        have h4 : 0 ≤ kiI op := by rw [e]; exact h3 ⟨k, hk48⟩
        omega
      cases hm : mayI op a
      · exact namesL_tpf op a s w hk h1 hm
      · exact namesL_tpt op a s w hk h1 hm
end Go.Proofs.Ytahnhohccbnhjaa
