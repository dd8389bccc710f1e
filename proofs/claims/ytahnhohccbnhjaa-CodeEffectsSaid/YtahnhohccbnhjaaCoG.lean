/- Effect of package code where there is the function, in every memory. -/
import Derived.Test.YtahnhohccbnhjaaCoF
import Derived.Deep.RegionHeld
namespace Go.Proofs.Ytahnhohccbnhjaa
open Go Go.RowKit Go.Proofs.Mm Go.Sort

/-- A function as it lies. -/
structure FnC (C : Cl) (g o j : Nat) (lv : Int) (qp : Option Addr) (np cp : Nat) (qr : Option Addr) (nr cr : Nat) (loc stk : Int) (qc : Option Addr) (nc cc : Nat) : Prop where
  f0 : C ⟨g, o + j * 6, none⟩ = some (.int .u64 lv)
  f1 : C ⟨g, o + j * 6 + 1, none⟩ = some (.slice qp np cp)
  f2 : C ⟨g, o + j * 6 + 2, none⟩ = some (.slice qr nr cr)
  f3 : C ⟨g, o + j * 6 + 3, none⟩ = some (.int .i64 loc)
  f4 : C ⟨g, o + j * 6 + 4, none⟩ = some (.int .i64 stk)
  f5 : C ⟨g, o + j * 6 + 5, none⟩ = some (.slice qc nc cc)
theorem FnC.le {C D : Cl} {g o j : Nat} {lv : Int} {qp : Option Addr} {np cp : Nat} {qr : Option Addr} {nr cr : Nat} {loc stk : Int} {qc : Option Addr} {nc cc : Nat} (h : FnC C g o j lv qp np cp qr nr cr loc stk qc nc cc) (hc : CLe C D) : FnC D g o j lv qp np cp qr nr cr loc stk qc nc cc :=
  ⟨hc _ _ h.f0, hc _ _ h.f1, hc _ _ h.f2, hc _ _ h.f3, hc _ _ h.f4, hc _ _ h.f5⟩
theorem mayI_kn {op a : Int} (h : mayI op a = true) : knI op = true := by
  cases hk : knI op
  · rw [mayI_none hk] at h; cases h
  · rfl
theorem mayI_two {op a : Int} (h : mayI op a = true) : 0 ≤ a ∨ kiI op ≠ 2 := by
  by_cases h2 : kiI op = 2
  · left
    have hk := mayI_kn h
    unfold mayI at h
    rw [hk, h2] at h
    simpa using h
  · exact .inr h2
theorem mayI_call {a : Int} (h : mayI 45 a = true) : 0 ≤ a := by
  have h2 : mayI 45 a = (decide (0 ≤ a)) := mayI_unsigned (by decide) (by decide) a
  rw [h2] at h
  exact of_decide_eq_true h
section
variable (qg : Option Addr) (ng cg : Nat) (qa : Option Addr) (na ca : Nat) (qh : Option Addr) (nh ch : Nat) (cf : Nat)
variable {lv : Int} {qp : Option Addr} {np cp : Nat} {qr : Option Addr} {nr cr : Nat} {loc stk : Int} {qc : Option Addr} {nc cc : Nat}
set_option maxRecDepth 100000 in
set_option maxHeartbeats 1000000 in
theorem Effect_no3 (n g o j : Nat) (op a : Int) (hj : j < n) (hn : n ≤ maxLen) (hm : mayI op a = true) (ha : a < 9223372036854775808) (hp : np ≤ maxLen) (ht : thI ng na nh n ⟨np, nr, loc, nc⟩ (kiI op) a = false) (w : World) (hF : FnC (wC w) g o j lv qp np cp qr nr cr loc stk qc nc cc) :
    Calls Try.prog 26 #[moV qg ng cg qa na ca qh nh ch (some ⟨g, o, none⟩) n cf, .int .i64 j, inV op a] w fun e w' => e = .returned (efV (0, 0, false)) ∧ Below w.heap.size w w' := by
  rw [show efV (0, 0, false) = .tuple #[.int .i64 0, .int .i64 0, .bool false] from rfl]
  have HM := Lib.hid hm
  have HT := Lib.hid ht
  have HA := Lib.hid ha
  have HP := Lib.hid hp
  have h0 : ¬ (j : Int) < 0 := by omega
  have h1 : ¬ (n : Int) ≤ (j : Int) := by omega
  unfold maxLen at hn
  clear hm ht ha hp
  go_enter Try.func26, Try.ntmps26
  go_upto_region 1 with (fail)
  have hX := BxW.new w (.slice qg ng cg) (.slice qa na ca) (.slice qh nh ch) (.slice (some ⟨g, o, none⟩) n cf) op a 51 23
  generalize ((w.alloc (Obj.cells #[.slice qg ng cg, .slice qa na ca, .slice qh nh ch, .slice (some ⟨g, o, none⟩) n cf] 51)).alloc (Obj.cells #[.int .i64 op, .int .i64 a] 23)) = W at hX ⊢
  generalize w.heap.size = b at hX ⊢
  have k0 := cell_regrown hX.c0
  have k1 := cell_regrown hX.c1
  have k2 := cell_regrown hX.c2
  have k3 := cell_regrown hX.c3
  have k4 := cell_regrown hX.i0
  have k5 := cell_regrown hX.i1
  have HX := Lib.hid hX
  clear hX
  have F0 := cell_regrown (cell_b hF.f0 HX.out.bl)
  have F1 := cell_regrown (cell_b hF.f1 HX.out.bl)
  have F2 := cell_regrown (cell_b hF.f2 HX.out.bl)
  have F3 := cell_regrown (cell_b hF.f3 HX.out.bl)
  have F4 := cell_regrown (cell_b hF.f4 HX.out.bl)
  have F5 := cell_regrown (cell_b hF.f5 HX.out.bl)
  have HFN := Lib.hid hF
  clear hF
  have cM : ∀ d os, Calls Try.prog 12 #[inV op a] (grow (redrawn W d) os) fun e w'' => e = .returned (.bool true) ∧ ∃ p : Regrown, w'' = grow (redrawn W p.d) p.os := fun d os => Calls.regrown_of (HM.out ▸ May_any op a _)
  have cF : ∀ d os, Calls Try.prog 43 #[moV qg ng cg qa na ca qh nh ch (some ⟨g, o, none⟩) n cf, fnV lv qp np cp qr nr cr loc stk qc nc cc, inV op a] (grow (redrawn W d) os) fun e w'' => e = .returned (.bool false) ∧ ∃ p : Regrown, w'' = grow (redrawn W p.d) p.os := fun d os => Calls.regrown_of (HT.out ▸ finds_any lv qp np cp qr nr cr loc stk qc nc cc qg ng cg qa na ca qh nh ch (some ⟨g, o, none⟩) n cf op a (mayI_two HM.out) HA.out HP.out (mayI_kn HM.out) _)
  refine wp_region_quiet_below (by kernel_rfl) (by kernel_rfl) ?_
  iterate 25 (go_big_quiet_step (first | exact cM _ _ | exact cF _ _))
  refine wpQuiet_nil ?_
  intro _ hw'
  obtain ⟨⟨dq, osq⟩, hw''⟩ := hw'
  subst hw''
  clear k0 k1 k2 k3 k4 k5 F0 F1 F2 F3 F4 F5
  have hV := HX.out.le (below_regrown W dq osq)
  generalize grow (redrawn W dq) osq = V at hV ⊢
  have HV := Lib.hid hV
  clear hV HX
  go_wp2
  go_ret3
  exact ⟨rfl, HV.out.bl⟩
end
/-- What region 6 reads. -/
structure E6 (W0 : World) (b g o j : Nat) (v3 : Value) (op : Int) (lv : Int) (qp : Option Addr) (np cp : Nat) (qr : Option Addr) (nr cr : Nat) (loc stk : Int) (qc : Option Addr) (nc cc : Nat) (b9 : Nat) (cal : Array Value) (W : World) : Prop where
  bl : Below W0.heap.size W0 W
  m3 : W.cell? ⟨b, 3, none⟩ = some v3
  i0 : W.cell? ⟨b + 1, 0, none⟩ = some (.int .i64 op)
  fn : FnC (wC W) g o j lv qp np cp qr nr cr loc stk qc nc cc
  c9 : InB W b9 cal 68
section
variable {W0 W W' : World} {b g o j : Nat} {v3 : Value} {op : Int} {lv : Int} {qp : Option Addr} {np cp : Nat} {qr : Option Addr} {nr cr : Nat} {loc stk : Int} {qc : Option Addr} {nc cc : Nat} {b9 : Nat} {cal : Array Value}
theorem E6.le (h : E6 W0 b g o j v3 op lv qp np cp qr nr cr loc stk qc nc cc b9 cal W) (hb : Below W.heap.size W W') : E6 W0 b g o j v3 op lv qp np cp qr nr cr loc stk qc nc cc b9 cal W' :=
  ⟨bl_tr h.bl hb, cell_b h.m3 hb, cell_b h.i0 hb, h.fn.le (below_cle hb), h.c9.le hb⟩
theorem E6.al (h : E6 W0 b g o j v3 op lv qp np cp qr nr cr loc stk qc nc cc b9 cal W) (x : Obj) : E6 W0 b g o j v3 op lv qp np cp qr nr cr loc stk qc nc cc b9 cal (W.alloc x) := h.le (bl_al (Below.refl _ _) x)
theorem E6.drew (h : E6 W0 b g o j v3 op lv qp np cp qr nr cr loc stk qc nc cc b9 cal W) : E6 W0 b g o j v3 op lv qp np cp qr nr cr loc stk qc nc cc b9 cal W.drew := h.le (bl_dr (Below.refl _ _))
end
section
variable (qg : Option Addr) (ng cg : Nat) (qa : Option Addr) (na ca : Nat) (qh : Option Addr) (nh ch : Nat) (cf : Nat)
variable {lv : Int} {qp : Option Addr} {np cp : Nat} {qr : Option Addr} {nr cr : Nat} {loc stk : Int} {qc : Option Addr} {nc cc : Nat}
set_option maxRecDepth 100000 in
set_option maxHeartbeats 4000000 in
theorem Effect_plain (n g o j : Nat) (op a : Int) (hj : j < n) (hn : n ≤ maxLen) (hm : mayI op a = true) (ha : a < 9223372036854775808) (hp : np ≤ maxLen) (ht : thI ng na nh n ⟨np, nr, loc, nc⟩ (kiI op) a = true) (w : World) (hF : FnC (wC w) g o j lv qp np cp qr nr cr loc stk qc nc cc) (h45 : op ≠ 45) :
    Calls Try.prog 26 #[moV qg ng cg qa na ca qh nh ch (some ⟨g, o, none⟩) n cf, .int .i64 j, inV op a] w fun e w' => e = .returned (efV ((exI nr 0 0 op).1, (exI nr 0 0 op).2, true)) ∧ Below w.heap.size w w' := by
  rw [show efV ((exI nr 0 0 op).1, (exI nr 0 0 op).2, true) = .tuple #[.int .i64 (exI nr 0 0 op).1, .int .i64 (exI nr 0 0 op).2, .bool true] from rfl]
  have HIX := Lib.hid (index_ef (mayI_kn hm) nr 0 0)
  generalize exI nr 0 0 op = X at *
  have h45b : (op == 45) = false := by rw [beq_eq_false_iff_ne]; exact h45
  have HM := Lib.hid hm
  have HT := Lib.hid ht
  have HA := Lib.hid ha
  have HP := Lib.hid hp
  have h0 : ¬ (j : Int) < 0 := by omega
  have h1 : ¬ (n : Int) ≤ (j : Int) := by omega
  unfold maxLen at hn
  clear hm ht ha hp
  go_enter Try.func26, Try.ntmps26
  go_upto_region 1 with (fail)
  have hX := BxW.new w (.slice qg ng cg) (.slice qa na ca) (.slice qh nh ch) (.slice (some ⟨g, o, none⟩) n cf) op a 51 23
  generalize ((w.alloc (Obj.cells #[.slice qg ng cg, .slice qa na ca, .slice qh nh ch, .slice (some ⟨g, o, none⟩) n cf] 51)).alloc (Obj.cells #[.int .i64 op, .int .i64 a] 23)) = W at hX ⊢
  generalize w.heap.size = b at hX ⊢
  have k0 := cell_regrown hX.c0
  have k1 := cell_regrown hX.c1
  have k2 := cell_regrown hX.c2
  have k3 := cell_regrown hX.c3
  have k4 := cell_regrown hX.i0
  have k5 := cell_regrown hX.i1
  have HX := Lib.hid hX
  clear hX
  have F0 := cell_regrown (cell_b hF.f0 HX.out.bl)
  have F1 := cell_regrown (cell_b hF.f1 HX.out.bl)
  have F2 := cell_regrown (cell_b hF.f2 HX.out.bl)
  have F3 := cell_regrown (cell_b hF.f3 HX.out.bl)
  have F4 := cell_regrown (cell_b hF.f4 HX.out.bl)
  have F5 := cell_regrown (cell_b hF.f5 HX.out.bl)
  have HFN := Lib.hid hF
  clear hF
  have cM : ∀ d os, Calls Try.prog 12 #[inV op a] (grow (redrawn W d) os) fun e w'' => e = .returned (.bool true) ∧ ∃ p : Regrown, w'' = grow (redrawn W p.d) p.os := fun d os => Calls.regrown_of (HM.out ▸ May_any op a _)
  have cF : ∀ d os, Calls Try.prog 43 #[moV qg ng cg qa na ca qh nh ch (some ⟨g, o, none⟩) n cf, fnV lv qp np cp qr nr cr loc stk qc nc cc, inV op a] (grow (redrawn W d) os) fun e w'' => e = .returned (.bool true) ∧ ∃ p : Regrown, w'' = grow (redrawn W p.d) p.os := fun d os => Calls.regrown_of (HT.out ▸ finds_any lv qp np cp qr nr cr loc stk qc nc cc qg ng cg qa na ca qh nh ch (some ⟨g, o, none⟩) n cf op a (mayI_two HM.out) HA.out HP.out (mayI_kn HM.out) _)
  refine wp_region_quiet_below (by kernel_rfl) (by kernel_rfl) ?_
  iterate 25 (go_big_quiet_step (first | exact cM _ _ | exact cF _ _))
  refine wpQuiet_nil ?_
  intro _ hw'
  obtain ⟨⟨dq, osq⟩, hw''⟩ := hw'
  subst hw''
  clear k0 k1 k2 k3 k4 k5 F0 F1 F2 F3 F4 F5
  have hV := HX.out.le (below_regrown W dq osq)
  generalize grow (redrawn W dq) osq = V at hV ⊢
  have HV := Lib.hid hV
  clear hV HX
  have hl0 := World.block_lt_of_cell? _ _ HV.out.c0
  have hl1 := World.block_lt_of_cell? _ _ HV.out.i0
  have c3 := HV.out.c3
  have i0 := HV.out.i0
  go_upto_region 6 with (fail)
  have HE : Hid (E6 w b g o j (.slice (some ⟨g, o, none⟩) n cf) op lv qp np cp qr nr cr loc stk qc nc cc V.heap.size #[.int .u64 0, .slice none 0 0, .slice none 0 0, .int .i64 0, .int .i64 0, .slice none 0 0] (V.alloc (Obj.cells #[.int .u64 0, .slice none 0 0, .slice none 0 0, .int .i64 0, .int .i64 0, .slice none 0 0] 68))) :=
    Lib.hid ⟨bl_al HV.out.bl _, cell_b HV.out.c3 (bl_al (Below.refl _ _) _), cell_b HV.out.i0 (bl_al (Below.refl _ _) _), HFN.out.le (below_cle (bl_al HV.out.bl _)), InB.new _ _ _⟩
  generalize (V.alloc (Obj.cells #[.int .u64 0, .slice none 0 0, .slice none 0 0, .int .i64 0, .int .i64 0, .slice none 0 0] 68)) = U at HE ⊢
  generalize V.heap.size = b9 at HE ⊢
  clear c3 i0 hl0 hl1 HV h45 h45b
  have hmx : Try.prog.follows .mixedOrders = true := by kernel_rfl
  refine wp_region_held_drew (S := fun x => E6 w b g o j (.slice (some ⟨g, o, none⟩) n cf) op lv qp np cp qr nr cr loc stk qc nc cc b9 #[.int .u64 0, .slice none 0 0, .slice none 0 0, .int .i64 0, .int .i64 0, .slice none 0 0] x) hmx HE.out.drew (fun hHeld => ?_)
  have HE2 := Lib.hid HE.out.drew
  have hjn : (j : Int) < (n : Int) := by omega
  generalize U.drew = Y at *
  refine wpAnyH_take (i := 0) (v := .pointer (some ⟨b, 3, none⟩)) rfl (by kernel_rfl) (by kernel_rfl) (by kernel_rfl) (fun _ _ _ h => h) (Or.inl ⟨by rfl, fun w hSw => by (skip); go_simp⟩) (by assumption) ?_
  try simp only [Act.put, List.setIfInBounds_toArray, List.set_cons_zero, List.set_cons_succ, List.getElem_toArray, List.getElem_cons_zero, List.getElem_cons_succ]
  refine wpAnyH_take (i := 1) (v := .slice (some ⟨g, o, none⟩) n cf) rfl (by kernel_rfl) (by kernel_rfl) (by kernel_rfl) (fun _ _ _ h => h) (Or.inl ⟨by rfl, fun w hSw => by (have s0 := hSw.m3); go_simp⟩) (by assumption) ?_
  try simp only [Act.put, List.setIfInBounds_toArray, List.set_cons_zero, List.set_cons_succ, List.getElem_toArray, List.getElem_cons_zero, List.getElem_cons_succ]
  refine wpAnyH_take (i := 2) (v := .int .i64 (j : Int)) rfl (by kernel_rfl) (by kernel_rfl) (by kernel_rfl) (fun _ _ _ h => h) (Or.inl ⟨by rfl, fun w hSw => by (skip); go_simp⟩) (by assumption) ?_
  try simp only [Act.put, List.setIfInBounds_toArray, List.set_cons_zero, List.set_cons_succ, List.getElem_toArray, List.getElem_cons_zero, List.getElem_cons_succ]
  refine wpAnyH_take (i := 3) (v := .pointer (some ⟨g, o + j * 6, none⟩)) rfl (by kernel_rfl) (by kernel_rfl) (by kernel_rfl) (fun _ _ _ h => h) (Or.inl ⟨by rfl, fun w hSw => by (skip); go_simp⟩) (by assumption) ?_
  try simp only [Act.put, List.setIfInBounds_toArray, List.set_cons_zero, List.set_cons_succ, List.getElem_toArray, List.getElem_cons_zero, List.getElem_cons_succ]
  refine wpAnyH_take (i := 4) (v := .agg #[.int .u64 lv, .slice qp np cp, .slice qr nr cr, .int .i64 loc, .int .i64 stk, .slice qc nc cc]) rfl (by kernel_rfl) (by kernel_rfl) (by kernel_rfl) (fun _ _ _ h => h) (Or.inl ⟨by rfl, fun w hSw => by (have s0 : w.cell? ⟨g, o + j * 6, none⟩ = _ := hSw.fn.f0; have s1 : w.cell? ⟨g, o + j * 6 + 1, none⟩ = _ := hSw.fn.f1; have s2 : w.cell? ⟨g, o + j * 6 + 2, none⟩ = _ := hSw.fn.f2; have s3 : w.cell? ⟨g, o + j * 6 + 3, none⟩ = _ := hSw.fn.f3; have s4 : w.cell? ⟨g, o + j * 6 + 4, none⟩ = _ := hSw.fn.f4; have s5 : w.cell? ⟨g, o + j * 6 + 5, none⟩ = _ := hSw.fn.f5); go_simp⟩) (by assumption) ?_
  try simp only [Act.put, List.setIfInBounds_toArray, List.set_cons_zero, List.set_cons_succ, List.getElem_toArray, List.getElem_cons_zero, List.getElem_cons_succ]
  refine wpAnyH_take (i := 5) (v := .agg #[.int .u64 0, .slice none 0 0, .slice none 0 0, .int .i64 0, .int .i64 0, .slice none 0 0]) rfl (by kernel_rfl) (by kernel_rfl) (by kernel_rfl) (fun _ _ _ h => h) (Or.inl ⟨by rfl, fun w hSw => by (have s0 := hSw.c9.cell (j := 0) rfl; have s1 := hSw.c9.cell (j := 1) rfl; have s2 := hSw.c9.cell (j := 2) rfl; have s3 := hSw.c9.cell (j := 3) rfl; have s4 := hSw.c9.cell (j := 4) rfl; have s5 := hSw.c9.cell (j := 5) rfl); go_simp⟩) (by assumption) ?_
  try simp only [Act.put, List.setIfInBounds_toArray, List.set_cons_zero, List.set_cons_succ, List.getElem_toArray, List.getElem_cons_zero, List.getElem_cons_succ]
  refine wpAnyH_take (i := 7) (v := .pointer (some ⟨b + 1, 0, none⟩)) rfl (by kernel_rfl) (by kernel_rfl) (by kernel_rfl) (fun _ _ _ h => h) (Or.inl ⟨by rfl, fun w hSw => by (skip); go_simp⟩) (by assumption) ?_
  try simp only [Act.put, List.setIfInBounds_toArray, List.set_cons_zero, List.set_cons_succ, List.getElem_toArray, List.getElem_cons_zero, List.getElem_cons_succ]
  refine wpAnyH_take (i := 8) (v := .int .i64 op) rfl (by kernel_rfl) (by kernel_rfl) (by kernel_rfl) (fun _ _ _ h => h) (Or.inl ⟨by rfl, fun w hSw => by (have s0 := hSw.i0); go_simp⟩) (by assumption) ?_
  try simp only [Act.put, List.setIfInBounds_toArray, List.set_cons_zero, List.set_cons_succ, List.getElem_toArray, List.getElem_cons_zero, List.getElem_cons_succ]
  refine wpAnyH_ready (rs := [6, 10]) (by kernel_rfl) (by simp) ?_
  refine AllReadyH.cons rfl (fun K1 hK1 => ?_) (AllReadyH.cons rfl (fun K2 hK2 => ?_) AllReadyH.nil)
  · go_simp
    go_at_call 44
    refine (effects_any _ _ _ _ _ _ _ _ _ _ _ _ _ _ _ _ _ _ _ _ _ _ _ _ _).mono ?_
    rintro e we ⟨rfl, hbe⟩
    have HEW := Lib.hid (HE2.out.le hbe)
    refine hK1.out _ _ HEW.out (fun hHeld => ?_)
    try simp only [Act.put, List.setIfInBounds_toArray, List.set_cons_zero, List.set_cons_succ, List.getElem_toArray, List.getElem_cons_zero, List.getElem_cons_succ]
    refine wpAnyH_take (i := 9) (v := .agg #[.int .i64 X.1, .int .i64 X.2]) rfl (by kernel_rfl) (by kernel_rfl) (by kernel_rfl) (fun _ _ _ h => h) (Or.inl ⟨by rfl, fun w hSw => by (have s0 := HIX.out); go_simp⟩) (by assumption) ?_
    try simp only [Act.put, List.setIfInBounds_toArray, List.set_cons_zero, List.set_cons_succ, List.getElem_toArray, List.getElem_cons_zero, List.getElem_cons_succ]
    refine wpAnyH_ready (rs := [10]) (by kernel_rfl) (by simp) ?_
    refine AllReadyH.cons rfl (fun K3 hK3 => ?_) AllReadyH.nil
    go_simp
    refine hK3.out _ _ (HEW.out.al _) (fun hHeld => ?_)
    try simp only [Act.put, List.setIfInBounds_toArray, List.set_cons_zero, List.set_cons_succ, List.getElem_toArray, List.getElem_cons_zero, List.getElem_cons_succ]
    refine wpAnyH_ready (rs := [11]) (by kernel_rfl) (by simp) ?_
    refine AllReadyH.cons rfl (fun K4 hK4 => ?_) AllReadyH.nil
    go_simp
    have HEND := Lib.hid (HEW.out.al (.cells #[.int .i64 X.1, .int .i64 X.2] 86))
    refine hK4.out _ _ HEND.out (fun hHeld => ?_)
    try simp only [Act.put, List.setIfInBounds_toArray, List.set_cons_zero, List.set_cons_succ, List.getElem_toArray, List.getElem_cons_zero, List.getElem_cons_succ]
    refine wpAnyH_done (by kernel_rfl) ?_ _
    go_wp2_with fail
    go_quiet (fail)
    go_wp2
    go_ret3
    exact ⟨rfl, below_drewN HEND.out.bl _⟩
  · go_simp
    refine hK2.out _ _ (HE2.out.al _) (fun hHeld => ?_)
    try simp only [Act.put, List.setIfInBounds_toArray, List.set_cons_zero, List.set_cons_succ, List.getElem_toArray, List.getElem_cons_zero, List.getElem_cons_succ]
    refine wpAnyH_ready (rs := [6]) (by kernel_rfl) (by simp) ?_
    refine AllReadyH.cons rfl (fun K3 hK3 => ?_) AllReadyH.nil
    go_simp
    go_at_call 44
    refine (effects_any _ _ _ _ _ _ _ _ _ _ _ _ _ _ _ _ _ _ _ _ _ _ _ _ _).mono ?_
    rintro e we ⟨rfl, hbe⟩
    have hI := (InB.new Y #[.int .i64 0, .int .i64 0] 86).le hbe
    have HEW := Lib.hid ((HE2.out.al _).le hbe)
    have HBY := Lib.hid ((bl_al (Below.refl _ Y) (.cells #[.int .i64 0, .int .i64 0] 86)).trans (hbe.mono (by simp)))
    have d0 := hI.cell (j := 0) rfl
    have d1 := hI.cell (j := 1) rfl
    have e0 := hI.free 0
    have e1 := hI.free 1
    have hyl := hI.lt
    clear hI
    obtain ⟨c, hc⟩ : ∃ c, Y.heap.size = c := ⟨_, rfl⟩
    refine hK3.out _ _ HEW.out (fun hHeld => ?_)
    try simp only [Act.put, List.setIfInBounds_toArray, List.set_cons_zero, List.set_cons_succ, List.getElem_toArray, List.getElem_cons_zero, List.getElem_cons_succ]
    refine wpAnyH_take (i := 9) (v := .agg #[.int .i64 X.1, .int .i64 X.2]) rfl (by kernel_rfl) (by kernel_rfl) (by kernel_rfl) (fun _ _ _ h => h) (Or.inl ⟨by rfl, fun w hSw => by (have s0 := HIX.out); go_simp⟩) (by assumption) ?_
    try simp only [Act.put, List.setIfInBounds_toArray, List.set_cons_zero, List.set_cons_succ, List.getElem_toArray, List.getElem_cons_zero, List.getElem_cons_succ]
    refine wpAnyH_ready (rs := [11]) (by kernel_rfl) (by simp) ?_
    refine AllReadyH.cons rfl (fun K4 hK4 => ?_) AllReadyH.nil
    rw [hc] at d0 d1 e0 e1 hyl ⊢
    go_simp
    have HEND := Lib.hid (HE2.out.le (HBY.out.set2 (c := c) (i := 0) (j := 1) (x := .int .i64 X.1) (y := .int .i64 X.2) (by omega)))
    refine hK4.out _ _ HEND.out (fun hHeld => ?_)
    try simp only [Act.put, List.setIfInBounds_toArray, List.set_cons_zero, List.set_cons_succ, List.getElem_toArray, List.getElem_cons_zero, List.getElem_cons_succ]
    refine wpAnyH_done (by kernel_rfl) ?_ _
    go_wp2_with fail
    go_quiet (fail)
    go_wp2
    go_ret3
    exact ⟨rfl, below_drewN HEND.out.bl _⟩
end
end Go.Proofs.Ytahnhohccbnhjaa
