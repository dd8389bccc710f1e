/- Effect of the document's answer, in every memory. -/
import Derived.Test.YtahnhohccbnhjaaCoH
namespace Go.Proofs.Ytahnhohccbnhjaa
open Go Go.RowKit Go.Proofs.Mm Go.Sort
section
variable (qg : Option Addr) (ng cg : Nat) (qa : Option Addr) (na ca : Nat) (qh : Option Addr) (nh ch : Nat) (qf : Option Addr) (cf : Nat)
variable {lv : Int} {qp : Option Addr} {np cp : Nat} {qr : Option Addr} {nr cr : Nat} {loc stk : Int} {qc : Option Addr} {nc cc : Nat}
set_option maxRecDepth 100000 in
set_option maxHeartbeats 1000000 in
theorem refEffect_no1 (n : Nat) (f op a : Int) (hf : f < 0 ∨ (n : Int) ≤ f) (w : World) :
    Calls Try.prog 27 #[moV qg ng cg qa na ca qh nh ch qf n cf, .int .i64 f, inV op a] w fun e w' => e = .returned (efV (0, 0, false)) ∧ Below w.heap.size w w' := by
  rw [show efV (0, 0, false) = .tuple #[.int .i64 0, .int .i64 0, .bool false] from rfl]
  by_cases h0 : f < 0
  · clear hf
    go_enter Try.func27, Try.ntmps27
    go_upto_region 1 with (fail)
    have hX := BxW.new w (.slice qg ng cg) (.slice qa na ca) (.slice qh nh ch) (.slice qf n cf) op a 51 23
    generalize ((w.alloc (Obj.cells #[.slice qg ng cg, .slice qa na ca, .slice qh nh ch, .slice qf n cf] 51)).alloc (Obj.cells #[.int .i64 op, .int .i64 a] 23)) = W at hX ⊢
    generalize w.heap.size = b at hX ⊢
    have c0 := hX.c0
    have c1 := hX.c1
    have c2 := hX.c2
    have c3 := hX.c3
    have i0 := hX.i0
    have i1 := hX.i1
    have HX := Lib.hid hX
    clear hX
    go_wp2
    go_ret3
    exact ⟨rfl, HX.out.bl⟩
  · have h1 : (n : Int) ≤ f := hf.resolve_left h0
    clear hf
    go_enter Try.func27, Try.ntmps27
    go_upto_region 1 with (fail)
    have hX := BxW.new w (.slice qg ng cg) (.slice qa na ca) (.slice qh nh ch) (.slice qf n cf) op a 51 23
    generalize ((w.alloc (Obj.cells #[.slice qg ng cg, .slice qa na ca, .slice qh nh ch, .slice qf n cf] 51)).alloc (Obj.cells #[.int .i64 op, .int .i64 a] 23)) = W at hX ⊢
    generalize w.heap.size = b at hX ⊢
    have c0 := hX.c0
    have c1 := hX.c1
    have c2 := hX.c2
    have c3 := hX.c3
    have i0 := hX.i0
    have i1 := hX.i1
    have HX := Lib.hid hX
    clear hX
    go_wp2
    go_ret3
    exact ⟨rfl, HX.out.bl⟩
set_option maxRecDepth 100000 in
set_option maxHeartbeats 1000000 in
theorem refEffect_no2 (n : Nat) (f op a : Int) (h0 : ¬ f < 0) (h1 : ¬ (n : Int) ≤ f) (hm : mayI op a = false) (w : World) :
    Calls Try.prog 27 #[moV qg ng cg qa na ca qh nh ch qf n cf, .int .i64 f, inV op a] w fun e w' => e = .returned (efV (0, 0, false)) ∧ Below w.heap.size w w' := by
  rw [show efV (0, 0, false) = .tuple #[.int .i64 0, .int .i64 0, .bool false] from rfl]
  have HM := Lib.hid (hm ▸ refMay_any op a)
  clear hm
  go_enter Try.func27, Try.ntmps27
  go_upto_region 1 with (fail)
  have hX := BxW.new w (.slice qg ng cg) (.slice qa na ca) (.slice qh nh ch) (.slice qf n cf) op a 51 23
  generalize ((w.alloc (Obj.cells #[.slice qg ng cg, .slice qa na ca, .slice qh nh ch, .slice qf n cf] 51)).alloc (Obj.cells #[.int .i64 op, .int .i64 a] 23)) = W at hX ⊢
  generalize w.heap.size = b at hX ⊢
  have c0 := hX.c0
  have c1 := hX.c1
  have c2 := hX.c2
  have c3 := hX.c3
  have i0 := hX.i0
  have i1 := hX.i1
  have HX := Lib.hid hX
  clear hX
  go_wp2_with fail
  refine (HM.out _).mono ?_
  rintro e V ⟨rfl, hb⟩
  have HV := Lib.hid (HX.out.le hb)
  clear hb
  go_wp2
  go_ret3
  exact ⟨rfl, HV.out.bl⟩
set_option maxRecDepth 100000 in
set_option maxHeartbeats 2000000 in
theorem refEffect_no3 (n g o j : Nat) (op a : Int) (hj : j < n) (hn : n ≤ maxLen) (hm : mayI op a = true) (ha : a < 9223372036854775808) (hp : np ≤ maxLen) (ht : thI ng na nh n ⟨np, nr, loc, nc⟩ (kiI op) a = false) (w : World) (hF : FnC (wC w) g o j lv qp np cp qr nr cr loc stk qc nc cc) :
    Calls Try.prog 27 #[moV qg ng cg qa na ca qh nh ch (some ⟨g, o, none⟩) n cf, .int .i64 j, inV op a] w fun e w' => e = .returned (efV (0, 0, false)) ∧ Below w.heap.size w w' := by
  rw [show efV (0, 0, false) = .tuple #[.int .i64 0, .int .i64 0, .bool false] from rfl]
  have HM := Lib.hid (hm ▸ refMay_any op a)
  have HT := Lib.hid (fun W => ht ▸ there_any lv qp np cp qr nr cr loc stk qc nc cc qg ng cg qa na ca qh nh ch (some ⟨g, o, none⟩) n cf (kiI op) a (mayI_two hm) ha hp W)
  have HTB := Lib.hid (show ∀ W, Calls Try.prog 9 #[.int .i64 op] W fun e w' => e = .returned (.tuple #[.agg #[.string (nmI op), .int .i64 (poI op), .int .i64 (puI op), .int .i64 (kiI op)], .bool true]) ∧ Below W.heap.size W w' from fun W => by
    have h := Table_any op W
    unfold tbV rwV at h
    rw [mayI_kn hm] at h
    exact h)
  have h0 : ¬ (j : Int) < 0 := by omega
  have h1 : ¬ (n : Int) ≤ (j : Int) := by omega
  have h2 : (j : Int) < (n : Int) := by omega
  unfold maxLen at hn
  have HF := Lib.hid hF
  clear hm ht ha hp hF
  generalize nmI op = ns at HTB
  generalize poI op = po at HTB ⊢
  generalize puI op = pu at HTB ⊢
  generalize kiI op = ki at HTB HT
  go_enter Try.func27, Try.ntmps27
  go_upto_region 1 with (fail)
  have hX := BxW.new w (.slice qg ng cg) (.slice qa na ca) (.slice qh nh ch) (.slice (some ⟨g, o, none⟩) n cf) op a 51 23
  generalize ((w.alloc (Obj.cells #[.slice qg ng cg, .slice qa na ca, .slice qh nh ch, .slice (some ⟨g, o, none⟩) n cf] 51)).alloc (Obj.cells #[.int .i64 op, .int .i64 a] 23)) = W at hX ⊢
  generalize w.heap.size = b at hX ⊢
  have c0 := hX.c0
  have c1 := hX.c1
  have c2 := hX.c2
  have c3 := hX.c3
  have i0 := hX.i0
  have i1 := hX.i1
  have HX := Lib.hid hX
  clear hX
  go_wp2_with fail
  refine (HM.out _).mono ?_
  rintro e V ⟨rfl, hb⟩
  have hV := HX.out.le hb
  clear c0 c1 c2 c3 i0 i1 HX hb
  have i0 := hV.i0
  have HV := Lib.hid hV
  clear hV
  go_wp2_with fail
  refine (HTB.out _).mono ?_
  rintro e V2 ⟨rfl, hb⟩
  have hV2 := HV.out.le hb
  clear i0 HV hb
  have HV2 := Lib.hid hV2
  clear hV2
  go_upto_region 4 with (fail)
  have hU := HV2.out.le (bl_al (Below.refl _ V2) (.cells #[.string ns, .int .i64 po, .int .i64 pu, .int .i64 ki] 25))
  have hR := InB.new V2 #[.string ns, .int .i64 po, .int .i64 pu, .int .i64 ki] 25
  generalize V2.alloc (.cells #[.string ns, .int .i64 po, .int .i64 pu, .int .i64 ki] 25) = U at hU hR ⊢
  generalize V2.heap.size = b9 at hR ⊢
  clear HV2
  have k0 := cell_regrown hU.c0
  have k1 := cell_regrown hU.c1
  have k2 := cell_regrown hU.c2
  have k3 := cell_regrown hU.c3
  have k5 := cell_regrown hU.i1
  have k9 := cell_regrown (hR.cell (j := 3) rfl)
  have F0 := cell_regrown (cell_b HF.out.f0 hU.bl)
  have F1 := cell_regrown (cell_b HF.out.f1 hU.bl)
  have F2 := cell_regrown (cell_b HF.out.f2 hU.bl)
  have F3 := cell_regrown (cell_b HF.out.f3 hU.bl)
  have F4 := cell_regrown (cell_b HF.out.f4 hU.bl)
  have F5 := cell_regrown (cell_b HF.out.f5 hU.bl)
  have cT : ∀ d os, Calls Try.prog 45 #[moV qg ng cg qa na ca qh nh ch (some ⟨g, o, none⟩) n cf, fnV lv qp np cp qr nr cr loc stk qc nc cc, .int .i64 ki, .int .i64 a] (grow (redrawn U d) os) fun e w'' => e = .returned (.bool false) ∧ ∃ p : Regrown, w'' = grow (redrawn U p.d) p.os := fun d os => Calls.regrown_of (HT.out _)
  have HU := Lib.hid hU
  have HR := Lib.hid hR
  clear hU hR
  refine wp_region_quiet_below (by kernel_rfl) (by kernel_rfl) ?_
  iterate 12 (go_big_quiet_step (exact cT _ _))
  refine wpQuiet_nil ?_
  intro _ hw'
  obtain ⟨⟨dq, osq⟩, hw''⟩ := hw'
  subst hw''
  clear k0 k1 k2 k3 k5 k9 F0 F1 F2 F3 F4 F5 cT
  have hZ := HU.out.le (below_regrown U dq osq)
  have hRZ := HR.out.le (below_regrown U dq osq)
  generalize grow (redrawn U dq) osq = Z at hZ hRZ ⊢
  have HB := Lib.hid hZ.bl
  clear hZ hRZ
  go_wp2
  go_ret3
  exact ⟨rfl, HB.out⟩
set_option maxRecDepth 100000 in
set_option maxHeartbeats 2000000 in
theorem refEffect_plain (n g o j : Nat) (op a : Int) (hj : j < n) (hn : n ≤ maxLen) (hm : mayI op a = true) (ha : a < 9223372036854775808) (hp : np ≤ maxLen) (ht : thI ng na nh n ⟨np, nr, loc, nc⟩ (kiI op) a = true) (w : World) (hF : FnC (wC w) g o j lv qp np cp qr nr cr loc stk qc nc cc) (h45 : op ≠ 45) (h46 : op ≠ 46) :
    Calls Try.prog 27 #[moV qg ng cg qa na ca qh nh ch (some ⟨g, o, none⟩) n cf, .int .i64 j, inV op a] w fun e w' => e = .returned (efV (poI op, puI op, true)) ∧ Below w.heap.size w w' := by
  rw [show efV (poI op, puI op, true) = .tuple #[.int .i64 (poI op), .int .i64 (puI op), .bool true] from rfl]
  have e45 : (op == 45) = false := by rw [beq_eq_false_iff_ne]; exact h45
  have e46 : (op == 46) = false := by rw [beq_eq_false_iff_ne]; exact h46
  have HM := Lib.hid (hm ▸ refMay_any op a)
  have HT := Lib.hid (fun W => ht ▸ there_any lv qp np cp qr nr cr loc stk qc nc cc qg ng cg qa na ca qh nh ch (some ⟨g, o, none⟩) n cf (kiI op) a (mayI_two hm) ha hp W)
  have HTB := Lib.hid (show ∀ W, Calls Try.prog 9 #[.int .i64 op] W fun e w' => e = .returned (.tuple #[.agg #[.string (nmI op), .int .i64 (poI op), .int .i64 (puI op), .int .i64 (kiI op)], .bool true]) ∧ Below W.heap.size W w' from fun W => by
    have h := Table_any op W
    unfold tbV rwV at h
    rw [mayI_kn hm] at h
    exact h)
  have h0 : ¬ (j : Int) < 0 := by omega
  have h1 : ¬ (n : Int) ≤ (j : Int) := by omega
  have h2 : (j : Int) < (n : Int) := by omega
  unfold maxLen at hn
  have HF := Lib.hid hF
  clear hm ht ha hp hF
  generalize nmI op = ns at HTB
  generalize poI op = po at HTB ⊢
  generalize puI op = pu at HTB ⊢
  generalize kiI op = ki at HTB HT
  go_enter Try.func27, Try.ntmps27
  go_upto_region 1 with (fail)
  have hX := BxW.new w (.slice qg ng cg) (.slice qa na ca) (.slice qh nh ch) (.slice (some ⟨g, o, none⟩) n cf) op a 51 23
  generalize ((w.alloc (Obj.cells #[.slice qg ng cg, .slice qa na ca, .slice qh nh ch, .slice (some ⟨g, o, none⟩) n cf] 51)).alloc (Obj.cells #[.int .i64 op, .int .i64 a] 23)) = W at hX ⊢
  generalize w.heap.size = b at hX ⊢
  have c0 := hX.c0
  have c1 := hX.c1
  have c2 := hX.c2
  have c3 := hX.c3
  have i0 := hX.i0
  have i1 := hX.i1
  have HX := Lib.hid hX
  clear hX
  go_wp2_with fail
  refine (HM.out _).mono ?_
  rintro e V ⟨rfl, hb⟩
  have hV := HX.out.le hb
  clear c0 c1 c2 c3 i0 i1 HX hb
  have i0 := hV.i0
  have HV := Lib.hid hV
  clear hV
  go_wp2_with fail
  refine (HTB.out _).mono ?_
  rintro e V2 ⟨rfl, hb⟩
  have hV2 := HV.out.le hb
  clear i0 HV hb
  have HV2 := Lib.hid hV2
  clear hV2
  go_upto_region 4 with (fail)
  have hU := HV2.out.le (bl_al (Below.refl _ V2) (.cells #[.string ns, .int .i64 po, .int .i64 pu, .int .i64 ki] 25))
  have hR := InB.new V2 #[.string ns, .int .i64 po, .int .i64 pu, .int .i64 ki] 25
  generalize V2.alloc (.cells #[.string ns, .int .i64 po, .int .i64 pu, .int .i64 ki] 25) = U at hU hR ⊢
  generalize V2.heap.size = b9 at hR ⊢
  clear HV2
  have k0 := cell_regrown hU.c0
  have k1 := cell_regrown hU.c1
  have k2 := cell_regrown hU.c2
  have k3 := cell_regrown hU.c3
  have k5 := cell_regrown hU.i1
  have k9 := cell_regrown (hR.cell (j := 3) rfl)
  have F0 := cell_regrown (cell_b HF.out.f0 hU.bl)
  have F1 := cell_regrown (cell_b HF.out.f1 hU.bl)
  have F2 := cell_regrown (cell_b HF.out.f2 hU.bl)
  have F3 := cell_regrown (cell_b HF.out.f3 hU.bl)
  have F4 := cell_regrown (cell_b HF.out.f4 hU.bl)
  have F5 := cell_regrown (cell_b HF.out.f5 hU.bl)
  have cT : ∀ d os, Calls Try.prog 45 #[moV qg ng cg qa na ca qh nh ch (some ⟨g, o, none⟩) n cf, fnV lv qp np cp qr nr cr loc stk qc nc cc, .int .i64 ki, .int .i64 a] (grow (redrawn U d) os) fun e w'' => e = .returned (.bool true) ∧ ∃ p : Regrown, w'' = grow (redrawn U p.d) p.os := fun d os => Calls.regrown_of (HT.out _)
  have HU := Lib.hid hU
  have HR := Lib.hid hR
  clear hU hR
  refine wp_region_quiet_below (by kernel_rfl) (by kernel_rfl) ?_
  iterate 12 (go_big_quiet_step (exact cT _ _))
  refine wpQuiet_nil ?_
  intro _ hw'
  obtain ⟨⟨dq, osq⟩, hw''⟩ := hw'
  subst hw''
  clear k0 k1 k2 k3 k5 k9 F0 F1 F2 F3 F4 F5 cT
  have hZ := HU.out.le (below_regrown U dq osq)
  have hRZ := HR.out.le (below_regrown U dq osq)
  generalize grow (redrawn U dq) osq = Z at hZ hRZ ⊢
  have HB := Lib.hid hZ.bl
  have i0 := hZ.i0
  have r1 := hRZ.cell (j := 1) rfl
  have r2 := hRZ.cell (j := 2) rfl
  clear hZ hRZ
  go_wp2_with fail
  go_quiet (fail)
  go_wp2
  go_ret3
  exact ⟨rfl, below_drewN HB.out _⟩
set_option maxRecDepth 100000 in
set_option maxHeartbeats 2000000 in
theorem refEffect_ret (n g o j : Nat) (a : Int) (hj : j < n) (hn : n ≤ maxLen) (hm : mayI 46 a = true) (ha : a < 9223372036854775808) (hp : np ≤ maxLen) (ht : thI ng na nh n ⟨np, nr, loc, nc⟩ (kiI 46) a = true) (w : World) (hF : FnC (wC w) g o j lv qp np cp qr nr cr loc stk qc nc cc) :
    Calls Try.prog 27 #[moV qg ng cg qa na ca qh nh ch (some ⟨g, o, none⟩) n cf, .int .i64 j, inV 46 a] w fun e w' => e = .returned (efV (nr, 0, true)) ∧ Below w.heap.size w w' := by
  rw [show efV (nr, 0, true) = .tuple #[.int .i64 nr, .int .i64 0, .bool true] from rfl]
  have HM := Lib.hid (hm ▸ refMay_any 46 a)
  have HT := Lib.hid (fun W => ht ▸ there_any lv qp np cp qr nr cr loc stk qc nc cc qg ng cg qa na ca qh nh ch (some ⟨g, o, none⟩) n cf (kiI 46) a (mayI_two hm) ha hp W)
  have HTB := Lib.hid (show ∀ W, Calls Try.prog 9 #[.int .i64 46] W fun e w' => e = .returned (.tuple #[.agg #[.string (nmI 46), .int .i64 (poI 46), .int .i64 (puI 46), .int .i64 (kiI 46)], .bool true]) ∧ Below W.heap.size W w' from fun W => by
    have h := Table_any 46 W
    unfold tbV rwV at h
    rw [mayI_kn hm] at h
    exact h)
  have h0 : ¬ (j : Int) < 0 := by omega
  have h1 : ¬ (n : Int) ≤ (j : Int) := by omega
  have h2 : (j : Int) < (n : Int) := by omega
  unfold maxLen at hn
  have HF := Lib.hid hF
  clear hm ht ha hp hF
  generalize nmI 46 = ns at HTB
  generalize poI 46 = po at HTB ⊢
  generalize puI 46 = pu at HTB ⊢
  generalize kiI 46 = ki at HTB HT
  go_enter Try.func27, Try.ntmps27
  go_upto_region 1 with (fail)
  have hX := BxW.new w (.slice qg ng cg) (.slice qa na ca) (.slice qh nh ch) (.slice (some ⟨g, o, none⟩) n cf) 46 a 51 23
  generalize ((w.alloc (Obj.cells #[.slice qg ng cg, .slice qa na ca, .slice qh nh ch, .slice (some ⟨g, o, none⟩) n cf] 51)).alloc (Obj.cells #[.int .i64 46, .int .i64 a] 23)) = W at hX ⊢
  generalize w.heap.size = b at hX ⊢
  have c0 := hX.c0
  have c1 := hX.c1
  have c2 := hX.c2
  have c3 := hX.c3
  have i0 := hX.i0
  have i1 := hX.i1
  have HX := Lib.hid hX
  clear hX
  go_wp2_with fail
  refine (HM.out _).mono ?_
  rintro e V ⟨rfl, hb⟩
  have hV := HX.out.le hb
  clear c0 c1 c2 c3 i0 i1 HX hb
  have i0 := hV.i0
  have HV := Lib.hid hV
  clear hV
  go_wp2_with fail
  refine (HTB.out _).mono ?_
  rintro e V2 ⟨rfl, hb⟩
  have hV2 := HV.out.le hb
  clear i0 HV hb
  have HV2 := Lib.hid hV2
  clear hV2
  go_upto_region 4 with (fail)
  have hU := HV2.out.le (bl_al (Below.refl _ V2) (.cells #[.string ns, .int .i64 po, .int .i64 pu, .int .i64 ki] 25))
  have hR := InB.new V2 #[.string ns, .int .i64 po, .int .i64 pu, .int .i64 ki] 25
  generalize V2.alloc (.cells #[.string ns, .int .i64 po, .int .i64 pu, .int .i64 ki] 25) = U at hU hR ⊢
  generalize V2.heap.size = b9 at hR ⊢
  clear HV2
  have k0 := cell_regrown hU.c0
  have k1 := cell_regrown hU.c1
  have k2 := cell_regrown hU.c2
  have k3 := cell_regrown hU.c3
  have k5 := cell_regrown hU.i1
  have k9 := cell_regrown (hR.cell (j := 3) rfl)
  have F0 := cell_regrown (cell_b HF.out.f0 hU.bl)
  have F1 := cell_regrown (cell_b HF.out.f1 hU.bl)
  have F2 := cell_regrown (cell_b HF.out.f2 hU.bl)
  have F3 := cell_regrown (cell_b HF.out.f3 hU.bl)
  have F4 := cell_regrown (cell_b HF.out.f4 hU.bl)
  have F5 := cell_regrown (cell_b HF.out.f5 hU.bl)
  have cT : ∀ d os, Calls Try.prog 45 #[moV qg ng cg qa na ca qh nh ch (some ⟨g, o, none⟩) n cf, fnV lv qp np cp qr nr cr loc stk qc nc cc, .int .i64 ki, .int .i64 a] (grow (redrawn U d) os) fun e w'' => e = .returned (.bool true) ∧ ∃ p : Regrown, w'' = grow (redrawn U p.d) p.os := fun d os => Calls.regrown_of (HT.out _)
  have HU := Lib.hid hU
  have HR := Lib.hid hR
  clear hU hR
  refine wp_region_quiet_below (by kernel_rfl) (by kernel_rfl) ?_
  iterate 12 (go_big_quiet_step (exact cT _ _))
  refine wpQuiet_nil ?_
  intro _ hw'
  obtain ⟨⟨dq, osq⟩, hw''⟩ := hw'
  subst hw''
  clear k0 k1 k2 k3 k5 k9 F0 F1 F2 F3 F4 F5 cT
  have hZ := HU.out.le (below_regrown U dq osq)
  have hRZ := HR.out.le (below_regrown U dq osq)
  generalize grow (redrawn U dq) osq = Z at hZ hRZ ⊢
  have HB := Lib.hid hZ.bl
  have i0 := hZ.i0
  have c3 := hZ.c3
  have F2 : Z.cell? ⟨g, o + j * 6 + 2, none⟩ = _ := cell_b HF.out.f2 hZ.bl
  clear hZ hRZ
  go_wp2
  go_ret3
  exact ⟨rfl, HB.out⟩
set_option maxRecDepth 100000 in
set_option maxHeartbeats 2000000 in
theorem refEffect_call {lv' : Int} {qp' : Option Addr} {np' cp' : Nat} {qr' : Option Addr} {nr' cr' : Nat} {loc' stk' : Int} {qc' : Option Addr} {nc' cc' : Nat} (n g o j : Nat) (i : Nat) (hi : i < n) (hj : j < n) (hn : n ≤ maxLen) (hm : mayI 45 i = true) (ha : (i : Int) < 9223372036854775808) (hp : np ≤ maxLen) (ht : thI ng na nh n ⟨np, nr, loc, nc⟩ (kiI 45) i = true) (w : World) (hF : FnC (wC w) g o j lv qp np cp qr nr cr loc stk qc nc cc) (hG : FnC (wC w) g o i lv' qp' np' cp' qr' nr' cr' loc' stk' qc' nc' cc') :
    Calls Try.prog 27 #[moV qg ng cg qa na ca qh nh ch (some ⟨g, o, none⟩) n cf, .int .i64 j, inV 45 i] w fun e w' => e = .returned (efV (np', nr', true)) ∧ Below w.heap.size w w' := by
  rw [show efV (np', nr', true) = .tuple #[.int .i64 np', .int .i64 nr', .bool true] from rfl]
  have HG := Lib.hid hG
  clear hG
  have HM := Lib.hid (hm ▸ refMay_any 45 i)
  have HT := Lib.hid (fun W => ht ▸ there_any lv qp np cp qr nr cr loc stk qc nc cc qg ng cg qa na ca qh nh ch (some ⟨g, o, none⟩) n cf (kiI 45) i (mayI_two hm) ha hp W)
  have HTB := Lib.hid (show ∀ W, Calls Try.prog 9 #[.int .i64 45] W fun e w' => e = .returned (.tuple #[.agg #[.string (nmI 45), .int .i64 (poI 45), .int .i64 (puI 45), .int .i64 (kiI 45)], .bool true]) ∧ Below W.heap.size W w' from fun W => by
    have h := Table_any 45 W
    unfold tbV rwV at h
    rw [mayI_kn hm] at h
    exact h)
  have h0 : ¬ (j : Int) < 0 := by omega
  have h1 : ¬ (n : Int) ≤ (j : Int) := by omega
  have h2 : (j : Int) < (n : Int) := by omega
  unfold maxLen at hn
  have HF := Lib.hid hF
  clear hm ht ha hp hF
  generalize nmI 45 = ns at HTB
  generalize poI 45 = po at HTB ⊢
  generalize puI 45 = pu at HTB ⊢
  generalize kiI 45 = ki at HTB HT
  go_enter Try.func27, Try.ntmps27
  go_upto_region 1 with (fail)
  have hX := BxW.new w (.slice qg ng cg) (.slice qa na ca) (.slice qh nh ch) (.slice (some ⟨g, o, none⟩) n cf) 45 i 51 23
  generalize ((w.alloc (Obj.cells #[.slice qg ng cg, .slice qa na ca, .slice qh nh ch, .slice (some ⟨g, o, none⟩) n cf] 51)).alloc (Obj.cells #[.int .i64 45, .int .i64 (i : Int)] 23)) = W at hX ⊢
  generalize w.heap.size = b at hX ⊢
  have c0 := hX.c0
  have c1 := hX.c1
  have c2 := hX.c2
  have c3 := hX.c3
  have i0 := hX.i0
  have i1 := hX.i1
  have HX := Lib.hid hX
  clear hX
  go_wp2_with fail
  refine (HM.out _).mono ?_
  rintro e V ⟨rfl, hb⟩
  have hV := HX.out.le hb
  clear c0 c1 c2 c3 i0 i1 HX hb
  have i0 := hV.i0
  have HV := Lib.hid hV
  clear hV
  go_wp2_with fail
  refine (HTB.out _).mono ?_
  rintro e V2 ⟨rfl, hb⟩
  have hV2 := HV.out.le hb
  clear i0 HV hb
  have HV2 := Lib.hid hV2
  clear hV2
  go_upto_region 4 with (fail)
  have hU := HV2.out.le (bl_al (Below.refl _ V2) (.cells #[.string ns, .int .i64 po, .int .i64 pu, .int .i64 ki] 25))
  have hR := InB.new V2 #[.string ns, .int .i64 po, .int .i64 pu, .int .i64 ki] 25
  generalize V2.alloc (.cells #[.string ns, .int .i64 po, .int .i64 pu, .int .i64 ki] 25) = U at hU hR ⊢
  generalize V2.heap.size = b9 at hR ⊢
  clear HV2
  have k0 := cell_regrown hU.c0
  have k1 := cell_regrown hU.c1
  have k2 := cell_regrown hU.c2
  have k3 := cell_regrown hU.c3
  have k5 := cell_regrown hU.i1
  have k9 := cell_regrown (hR.cell (j := 3) rfl)
  have F0 := cell_regrown (cell_b HF.out.f0 hU.bl)
  have F1 := cell_regrown (cell_b HF.out.f1 hU.bl)
  have F2 := cell_regrown (cell_b HF.out.f2 hU.bl)
  have F3 := cell_regrown (cell_b HF.out.f3 hU.bl)
  have F4 := cell_regrown (cell_b HF.out.f4 hU.bl)
  have F5 := cell_regrown (cell_b HF.out.f5 hU.bl)
  have cT : ∀ d os, Calls Try.prog 45 #[moV qg ng cg qa na ca qh nh ch (some ⟨g, o, none⟩) n cf, fnV lv qp np cp qr nr cr loc stk qc nc cc, .int .i64 ki, .int .i64 (i : Int)] (grow (redrawn U d) os) fun e w'' => e = .returned (.bool true) ∧ ∃ p : Regrown, w'' = grow (redrawn U p.d) p.os := fun d os => Calls.regrown_of (HT.out _)
  have HU := Lib.hid hU
  have HR := Lib.hid hR
  clear hU hR
  refine wp_region_quiet_below (by kernel_rfl) (by kernel_rfl) ?_
  iterate 12 (go_big_quiet_step (exact cT _ _))
  refine wpQuiet_nil ?_
  intro _ hw'
  obtain ⟨⟨dq, osq⟩, hw''⟩ := hw'
  subst hw''
  clear k0 k1 k2 k3 k5 k9 F0 F1 F2 F3 F4 F5 cT
  have hZ := HU.out.le (below_regrown U dq osq)
  have hRZ := HR.out.le (below_regrown U dq osq)
  generalize grow (redrawn U dq) osq = Z at hZ hRZ ⊢
  have HB := Lib.hid hZ.bl
  have i0 := hZ.i0
  have i1 := hZ.i1
  have c3 := hZ.c3
  have hii : (i : Int) < (n : Int) := by omega
  have G0 : Z.cell? ⟨g, o + i * 6, none⟩ = _ := cell_b HG.out.f0 hZ.bl
  have G1 : Z.cell? ⟨g, o + i * 6 + 1, none⟩ = _ := cell_b HG.out.f1 hZ.bl
  have G2 : Z.cell? ⟨g, o + i * 6 + 2, none⟩ = _ := cell_b HG.out.f2 hZ.bl
  have G3 : Z.cell? ⟨g, o + i * 6 + 3, none⟩ = _ := cell_b HG.out.f3 hZ.bl
  have G4 : Z.cell? ⟨g, o + i * 6 + 4, none⟩ = _ := cell_b HG.out.f4 hZ.bl
  have G5 : Z.cell? ⟨g, o + i * 6 + 5, none⟩ = _ := cell_b HG.out.f5 hZ.bl
  clear hZ hRZ
  go_wp2_with fail
  go_quiet (fail)
  go_wp2
  go_ret3
  exact ⟨rfl, below_drewN (bl_al HB.out _) _⟩
end
end Go.Proofs.Ytahnhohccbnhjaa
