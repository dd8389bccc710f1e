/- Effect of package code, of a call, in every memory. -/
import Derived.Test.YtahnhohccbnhjaaCoG
namespace Go.Proofs.Ytahnhohccbnhjaa
open Go Go.RowKit Go.Proofs.Mm Go.Sort
section
variable (qg : Option Addr) (ng cg : Nat) (qa : Option Addr) (na ca : Nat) (qh : Option Addr) (nh ch : Nat) (cf : Nat)
variable {lv : Int} {qp : Option Addr} {np cp : Nat} {qr : Option Addr} {nr cr : Nat} {loc stk : Int} {qc : Option Addr} {nc cc : Nat}
set_option maxRecDepth 100000 in
set_option maxHeartbeats 4000000 in
theorem Effect_call {lv' : Int} {qp' : Option Addr} {np' cp' : Nat} {qr' : Option Addr} {nr' cr' : Nat} {loc' stk' : Int} {qc' : Option Addr} {nc' cc' : Nat} (n g o j i : Nat) (hj : j < n) (hi : i < n) (hn : n ≤ maxLen) (hm : mayI 45 i = true) (ha : (i : Int) < 9223372036854775808) (hp : np ≤ maxLen) (ht : thI ng na nh n ⟨np, nr, loc, nc⟩ (kiI 45) i = true) (w : World) (hF : FnC (wC w) g o j lv qp np cp qr nr cr loc stk qc nc cc) (hG : FnC (wC w) g o i lv' qp' np' cp' qr' nr' cr' loc' stk' qc' nc' cc') :
    Calls Try.prog 26 #[moV qg ng cg qa na ca qh nh ch (some ⟨g, o, none⟩) n cf, .int .i64 j, inV 45 i] w fun e w' => e = .returned (efV ((exI nr np' nr' 45).1, (exI nr np' nr' 45).2, true)) ∧ Below w.heap.size w w' := by
  rw [show efV ((exI nr np' nr' 45).1, (exI nr np' nr' 45).2, true) = .tuple #[.int .i64 (exI nr np' nr' 45).1, .int .i64 (exI nr np' nr' 45).2, .bool true] from rfl]
  have HIX := Lib.hid (index_ef (mayI_kn hm) nr np' nr')
  generalize exI nr np' nr' 45 = X at *
  have HG := Lib.hid hG
  clear hG
  have HM := Lib.hid hm
  have HT := Lib.hid ht
  have HA := Lib.hid ha
  have HP := Lib.hid hp
  have h0 : ¬ (j : Int) < 0 := by omega
  have h1 : ¬ (n : Int) ≤ (j : Int) := by omega
  unfold maxLen at hn
  clear hm ht ha hp
  go_enter Try.func26, Try.ntmps26
  go_upto_region 1 with (fail)
  have hX := BxW.new w (.slice qg ng cg) (.slice qa na ca) (.slice qh nh ch) (.slice (some ⟨g, o, none⟩) n cf) 45 i 51 23
  generalize ((w.alloc (Obj.cells #[.slice qg ng cg, .slice qa na ca, .slice qh nh ch, .slice (some ⟨g, o, none⟩) n cf] 51)).alloc (Obj.cells #[.int .i64 45, .int .i64 (i : Int)] 23)) = W at hX ⊢
  generalize w.heap.size = b at hX ⊢
  have k0 := cell_regrown hX.c0
  have k1 := cell_regrown hX.c1
  have k2 := cell_regrown hX.c2
  have k3 := cell_regrown hX.c3
  have k4 := cell_regrown hX.i0
  have k5 := cell_regrown hX.i1
  have HX := Lib.hid hX
  clear hX
  have F0 := cell_regrown (cell_b hF.f0 HX.out.bl)
  have F1 := cell_regrown (cell_b hF.f1 HX.out.bl)
  have F2 := cell_regrown (cell_b hF.f2 HX.out.bl)
  have F3 := cell_regrown (cell_b hF.f3 HX.out.bl)
  have F4 := cell_regrown (cell_b hF.f4 HX.out.bl)
  have F5 := cell_regrown (cell_b hF.f5 HX.out.bl)
  have HFN := Lib.hid hF
  clear hF
  have cM : ∀ d os, Calls Try.prog 12 #[inV 45 i] (grow (redrawn W d) os) fun e w'' => e = .returned (.bool true) ∧ ∃ p : Regrown, w'' = grow (redrawn W p.d) p.os := fun d os => Calls.regrown_of (HM.out ▸ May_any 45 i _)
  have cF : ∀ d os, Calls Try.prog 43 #[moV qg ng cg qa na ca qh nh ch (some ⟨g, o, none⟩) n cf, fnV lv qp np cp qr nr cr loc stk qc nc cc, inV 45 i] (grow (redrawn W d) os) fun e w'' => e = .returned (.bool true) ∧ ∃ p : Regrown, w'' = grow (redrawn W p.d) p.os := fun d os => Calls.regrown_of (HT.out ▸ finds_any lv qp np cp qr nr cr loc stk qc nc cc qg ng cg qa na ca qh nh ch (some ⟨g, o, none⟩) n cf 45 i (mayI_two HM.out) HA.out HP.out (mayI_kn HM.out) _)
  refine wp_region_quiet_below (by kernel_rfl) (by kernel_rfl) ?_
  iterate 25 (go_big_quiet_step (first | exact cM _ _ | exact cF _ _))
  refine wpQuiet_nil ?_
  intro _ hw'
  obtain ⟨⟨dq, osq⟩, hw''⟩ := hw'
  subst hw''
  clear k0 k1 k2 k3 k4 k5 F0 F1 F2 F3 F4 F5
  have hV := HX.out.le (below_regrown W dq osq)
  generalize grow (redrawn W dq) osq = V at hV ⊢
  have HV := Lib.hid hV
  clear hV HX
  have hl0 := World.block_lt_of_cell? _ _ HV.out.c0
  have hl1 := World.block_lt_of_cell? _ _ HV.out.i0
  have c3 := HV.out.c3
  have i0 := HV.out.i0
  have i1 := HV.out.i1
  have hii : (i : Int) < (n : Int) := by omega
  have G0 : V.cell? ⟨g, o + i * 6, none⟩ = _ := cell_b HG.out.f0 HV.out.bl
  have G1 : V.cell? ⟨g, o + i * 6 + 1, none⟩ = _ := cell_b HG.out.f1 HV.out.bl
  have G2 : V.cell? ⟨g, o + i * 6 + 2, none⟩ = _ := cell_b HG.out.f2 HV.out.bl
  have G3 : V.cell? ⟨g, o + i * 6 + 3, none⟩ = _ := cell_b HG.out.f3 HV.out.bl
  have G4 : V.cell? ⟨g, o + i * 6 + 4, none⟩ = _ := cell_b HG.out.f4 HV.out.bl
  have G5 : V.cell? ⟨g, o + i * 6 + 5, none⟩ = _ := cell_b HG.out.f5 HV.out.bl
  have hgl := World.block_lt_of_cell? _ _ G0
  go_upto_region 6 with (fail)
  have HE : Hid (E6 w b g o j (.slice (some ⟨g, o, none⟩) n cf) 45 lv qp np cp qr nr cr loc stk qc nc cc V.heap.size #[.int .u64 lv', .slice qp' np' cp', .slice qr' nr' cr', .int .i64 loc', .int .i64 stk', .slice qc' nc' cc'] (V.alloc (Obj.cells #[.int .u64 lv', .slice qp' np' cp', .slice qr' nr' cr', .int .i64 loc', .int .i64 stk', .slice qc' nc' cc'] 68))) :=
    Lib.hid ⟨bl_al HV.out.bl _, cell_b HV.out.c3 (bl_al (Below.refl _ _) _), cell_b HV.out.i0 (bl_al (Below.refl _ _) _), HFN.out.le (below_cle (bl_al HV.out.bl _)), InB.new _ _ _⟩
  generalize (V.alloc (Obj.cells #[.int .u64 lv', .slice qp' np' cp', .slice qr' nr' cr', .int .i64 loc', .int .i64 stk', .slice qc' nc' cc'] 68)) = U at HE ⊢
  generalize V.heap.size = b9 at HE ⊢
  clear c3 i0 i1 hl0 hl1 hgl G0 G1 G2 G3 G4 G5 HV
  have hmx : Try.prog.follows .mixedOrders = true := by kernel_rfl
  refine wp_region_held_drew (S := fun x => E6 w b g o j (.slice (some ⟨g, o, none⟩) n cf) 45 lv qp np cp qr nr cr loc stk qc nc cc b9 #[.int .u64 lv', .slice qp' np' cp', .slice qr' nr' cr', .int .i64 loc', .int .i64 stk', .slice qc' nc' cc'] x) hmx HE.out.drew (fun hHeld => ?_)
  have HE2 := Lib.hid HE.out.drew
  have hjn : (j : Int) < (n : Int) := by omega
  generalize U.drew = Y at *
  refine wpAnyH_take (i := 0) (v := .pointer (some ⟨b, 3, none⟩)) rfl (by kernel_rfl) (by kernel_rfl) (by kernel_rfl) (fun _ _ _ h => h) (Or.inl ⟨by rfl, fun w hSw => by (skip); go_simp⟩) (by assumption) ?_
  try simp only [Act.put, List.setIfInBounds_toArray, List.set_cons_zero, List.set_cons_succ, List.getElem_toArray, List.getElem_cons_zero, List.getElem_cons_succ]
  refine wpAnyH_take (i := 1) (v := .slice (some ⟨g, o, none⟩) n cf) rfl (by kernel_rfl) (by kernel_rfl) (by kernel_rfl) (fun _ _ _ h => h) (Or.inl ⟨by rfl, fun w hSw => by (have s0 := hSw.m3); go_simp⟩) (by assumption) ?_
  try simp only [Act.put, List.setIfInBounds_toArray, List.set_cons_zero, List.set_cons_succ, List.getElem_toArray, List.getElem_cons_zero, List.getElem_cons_succ]
  refine wpAnyH_take (i := 2) (v := .int .i64 (j : Int)) rfl (by kernel_rfl) (by kernel_rfl) (by kernel_rfl) (fun _ _ _ h => h) (Or.inl ⟨by rfl, fun w hSw => by (skip); go_simp⟩) (by assumption) ?_
  try simp only [Act.put, List.setIfInBounds_toArray, List.set_cons_zero, List.set_cons_succ, List.getElem_toArray, List.getElem_cons_zero, List.getElem_cons_succ]
  refine wpAnyH_take (i := 3) (v := .pointer (some ⟨g, o + j * 6, none⟩)) rfl (by kernel_rfl) (by kernel_rfl) (by kernel_rfl) (fun _ _ _ h => h) (Or.inl ⟨by rfl, fun w hSw => by (skip); go_simp⟩) (by assumption) ?_
  try simp only [Act.put, List.setIfInBounds_toArray, List.set_cons_zero, List.set_cons_succ, List.getElem_toArray, List.getElem_cons_zero, List.getElem_cons_succ]
  refine wpAnyH_take (i := 4) (v := .agg #[.int .u64 lv, .slice qp np cp, .slice qr nr cr, .int .i64 loc, .int .i64 stk, .slice qc nc cc]) rfl (by kernel_rfl) (by kernel_rfl) (by kernel_rfl) (fun _ _ _ h => h) (Or.inl ⟨by rfl, fun w hSw => by (have s0 : w.cell? ⟨g, o + j * 6, none⟩ = _ := hSw.fn.f0; have s1 : w.cell? ⟨g, o + j * 6 + 1, none⟩ = _ := hSw.fn.f1; have s2 : w.cell? ⟨g, o + j * 6 + 2, none⟩ = _ := hSw.fn.f2; have s3 : w.cell? ⟨g, o + j * 6 + 3, none⟩ = _ := hSw.fn.f3; have s4 : w.cell? ⟨g, o + j * 6 + 4, none⟩ = _ := hSw.fn.f4; have s5 : w.cell? ⟨g, o + j * 6 + 5, none⟩ = _ := hSw.fn.f5); go_simp⟩) (by assumption) ?_
  try simp only [Act.put, List.setIfInBounds_toArray, List.set_cons_zero, List.set_cons_succ, List.getElem_toArray, List.getElem_cons_zero, List.getElem_cons_succ]
  refine wpAnyH_take (i := 5) (v := .agg #[.int .u64 lv', .slice qp' np' cp', .slice qr' nr' cr', .int .i64 loc', .int .i64 stk', .slice qc' nc' cc']) rfl (by kernel_rfl) (by kernel_rfl) (by kernel_rfl) (fun _ _ _ h => h) (Or.inl ⟨by rfl, fun w hSw => by (have s0 := hSw.c9.cell (j := 0) rfl; have s1 := hSw.c9.cell (j := 1) rfl; have s2 := hSw.c9.cell (j := 2) rfl; have s3 := hSw.c9.cell (j := 3) rfl; have s4 := hSw.c9.cell (j := 4) rfl; have s5 := hSw.c9.cell (j := 5) rfl); go_simp⟩) (by assumption) ?_
  try simp only [Act.put, List.setIfInBounds_toArray, List.set_cons_zero, List.set_cons_succ, List.getElem_toArray, List.getElem_cons_zero, List.getElem_cons_succ]
  refine wpAnyH_take (i := 7) (v := .pointer (some ⟨b + 1, 0, none⟩)) rfl (by kernel_rfl) (by kernel_rfl) (by kernel_rfl) (fun _ _ _ h => h) (Or.inl ⟨by rfl, fun w hSw => by (skip); go_simp⟩) (by assumption) ?_
  try simp only [Act.put, List.setIfInBounds_toArray, List.set_cons_zero, List.set_cons_succ, List.getElem_toArray, List.getElem_cons_zero, List.getElem_cons_succ]
  refine wpAnyH_take (i := 8) (v := .int .i64 45) rfl (by kernel_rfl) (by kernel_rfl) (by kernel_rfl) (fun _ _ _ h => h) (Or.inl ⟨by rfl, fun w hSw => by (have s0 := hSw.i0); go_simp⟩) (by assumption) ?_
  try simp only [Act.put, List.setIfInBounds_toArray, List.set_cons_zero, List.set_cons_succ, List.getElem_toArray, List.getElem_cons_zero, List.getElem_cons_succ]
  refine wpAnyH_ready (rs := [6, 10]) (by kernel_rfl) (by simp) ?_
  refine AllReadyH.cons rfl (fun K1 hK1 => ?_) (AllReadyH.cons rfl (fun K2 hK2 => ?_) AllReadyH.nil)
  · go_simp
    go_at_call 44
    refine (effects_any _ _ _ _ _ _ _ _ _ _ _ _ _ _ _ _ _ _ _ _ _ _ _ _ _).mono ?_
    rintro e we ⟨rfl, hbe⟩
    have HEW := Lib.hid (HE2.out.le hbe)
    refine hK1.out _ _ HEW.out (fun hHeld => ?_)
    try simp only [Act.put, List.setIfInBounds_toArray, List.set_cons_zero, List.set_cons_succ, List.getElem_toArray, List.getElem_cons_zero, List.getElem_cons_succ]
    refine wpAnyH_take (i := 9) (v := .agg #[.int .i64 X.1, .int .i64 X.2]) rfl (by kernel_rfl) (by kernel_rfl) (by kernel_rfl) (fun _ _ _ h => h) (Or.inl ⟨by rfl, fun w hSw => by (have s0 := HIX.out); go_simp⟩) (by assumption) ?_
    try simp only [Act.put, List.setIfInBounds_toArray, List.set_cons_zero, List.set_cons_succ, List.getElem_toArray, List.getElem_cons_zero, List.getElem_cons_succ]
    refine wpAnyH_ready (rs := [10]) (by kernel_rfl) (by simp) ?_
    refine AllReadyH.cons rfl (fun K3 hK3 => ?_) AllReadyH.nil
    go_simp
    refine hK3.out _ _ (HEW.out.al _) (fun hHeld => ?_)
    try simp only [Act.put, List.setIfInBounds_toArray, List.set_cons_zero, List.set_cons_succ, List.getElem_toArray, List.getElem_cons_zero, List.getElem_cons_succ]
    refine wpAnyH_ready (rs := [11]) (by kernel_rfl) (by simp) ?_
    refine AllReadyH.cons rfl (fun K4 hK4 => ?_) AllReadyH.nil
    go_simp
    have HEND := Lib.hid (HEW.out.al (.cells #[.int .i64 X.1, .int .i64 X.2] 86))
    refine hK4.out _ _ HEND.out (fun hHeld => ?_)
    try simp only [Act.put, List.setIfInBounds_toArray, List.set_cons_zero, List.set_cons_succ, List.getElem_toArray, List.getElem_cons_zero, List.getElem_cons_succ]
    refine wpAnyH_done (by kernel_rfl) ?_ _
    go_wp2_with fail
    go_quiet (fail)
    go_wp2
    go_ret3
    exact ⟨rfl, below_drewN HEND.out.bl _⟩
  · go_simp
    refine hK2.out _ _ (HE2.out.al _) (fun hHeld => ?_)
    try simp only [Act.put, List.setIfInBounds_toArray, List.set_cons_zero, List.set_cons_succ, List.getElem_toArray, List.getElem_cons_zero, List.getElem_cons_succ]
    refine wpAnyH_ready (rs := [6]) (by kernel_rfl) (by simp) ?_
    refine AllReadyH.cons rfl (fun K3 hK3 => ?_) AllReadyH.nil
    go_simp
    go_at_call 44
    refine (effects_any _ _ _ _ _ _ _ _ _ _ _ _ _ _ _ _ _ _ _ _ _ _ _ _ _).mono ?_
    rintro e we ⟨rfl, hbe⟩
    have hI := (InB.new Y #[.int .i64 0, .int .i64 0] 86).le hbe
    have HEW := Lib.hid ((HE2.out.al _).le hbe)
    have HBY := Lib.hid ((bl_al (Below.refl _ Y) (.cells #[.int .i64 0, .int .i64 0] 86)).trans (hbe.mono (by simp)))
    have d0 := hI.cell (j := 0) rfl
    have d1 := hI.cell (j := 1) rfl
    have e0 := hI.free 0
    have e1 := hI.free 1
    have hyl := hI.lt
    clear hI
    obtain ⟨c, hc⟩ : ∃ c, Y.heap.size = c := ⟨_, rfl⟩
    refine hK3.out _ _ HEW.out (fun hHeld => ?_)
    try simp only [Act.put, List.setIfInBounds_toArray, List.set_cons_zero, List.set_cons_succ, List.getElem_toArray, List.getElem_cons_zero, List.getElem_cons_succ]
    refine wpAnyH_take (i := 9) (v := .agg #[.int .i64 X.1, .int .i64 X.2]) rfl (by kernel_rfl) (by kernel_rfl) (by kernel_rfl) (fun _ _ _ h => h) (Or.inl ⟨by rfl, fun w hSw => by (have s0 := HIX.out); go_simp⟩) (by assumption) ?_
    try simp only [Act.put, List.setIfInBounds_toArray, List.set_cons_zero, List.set_cons_succ, List.getElem_toArray, List.getElem_cons_zero, List.getElem_cons_succ]
    refine wpAnyH_ready (rs := [11]) (by kernel_rfl) (by simp) ?_
    refine AllReadyH.cons rfl (fun K4 hK4 => ?_) AllReadyH.nil
    rw [hc] at d0 d1 e0 e1 hyl ⊢
    go_simp
    have HEND := Lib.hid (HE2.out.le (HBY.out.set2 (c := c) (i := 0) (j := 1) (x := .int .i64 X.1) (y := .int .i64 X.2) (by omega)))
    refine hK4.out _ _ HEND.out (fun hHeld => ?_)
    try simp only [Act.put, List.setIfInBounds_toArray, List.set_cons_zero, List.set_cons_succ, List.getElem_toArray, List.getElem_cons_zero, List.getElem_cons_succ]
    refine wpAnyH_done (by kernel_rfl) ?_ _
    go_wp2_with fail
    go_quiet (fail)
    go_wp2
    go_ret3
    exact ⟨rfl, below_drewN HEND.out.bl _⟩
end
end Go.Proofs.Ytahnhohccbnhjaa
