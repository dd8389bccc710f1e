/- CodeBack: the law's walk. -/
import Derived.Test.YtahnhohccbnhjaaCoUa
import Derived.Test.YtahnhohccbnhjaaCoEq
namespace Go.Proofs.Ytahnhohccbnhjaa
open Go Go.RowKit Go.Proofs.Mm Go.Sort

section
variable (op a : Int) (h1 : -9223372036854775808 ≤ a) (h2 : a < 9223372036854775808) (p : Option Addr) (c : Nat) (ns : List Nat) (hp : (p = none ∧ ns = [] ∧ c = 0) ∨ ∃ ad, p = some ad) (hl : ns.length ≤ c) (hm : c ≤ maxLen) (hx : bytesL ns) (w : World) (hs : ByIn w.heap.size w p ns)
set_option maxRecDepth 100000 in
set_option maxHeartbeats 1000000 in
theorem back_long (hbig : 1000 < ns.length) : Calls Try.prog 7 #[inV op a, .slice p ns.length c] w fun e w' => e = .returned (.bool true) ∧ Below w.heap.size w w' := by
  generalize ns.length = n at hbig
  have hbi : (1000 : Int) < (n : Int) := by omega
  go_enter Try.func7, Try.ntmps7
  go_wp2_with fail
  refine (awake_any _).mono ?_
  rintro e w1 ⟨rfl, hb⟩
  have HB := Lib.hid (bl_tr (bl_al (Below.refl _ w) _) hb)
  clear hb
  go_wp2
  go_ret
  exact ⟨rfl, HB.out⟩
include h1 h2
set_option maxRecDepth 100000 in
set_option maxHeartbeats 1000000 in
theorem back_no (hbig : ¬ 1000 < ns.length) (hmm : mayI op a = false) : Calls Try.prog 7 #[inV op a, .slice p ns.length c] w fun e w' => e = .returned (.bool true) ∧ Below w.heap.size w w' := by
  have HPut := Lib.hid (fun W => cPut_any W op a h1 h2)
  have HM := Lib.hid (hmm ▸ May_any op a)
  have HZ := Lib.hid (show (putI op a).length = 0 from by unfold putI; rw [hmm]; rfl)
  generalize ns.length = n at hbig ⊢
  have hbi : ¬ (1000 : Int) < (n : Int) := by omega
  clear h1 h2 hmm
  go_enter Try.func7, Try.ntmps7
  go_wp2_with fail
  refine (awake_any _).mono ?_
  rintro e w1 ⟨rfl, hb⟩
  have hI := (InB.new w #[.int .i64 op, .int .i64 a] 23).le hb
  have d0 := hI.cell (j := 0) rfl
  have d1 := hI.cell (j := 1) rfl
  have HI := Lib.hid hI
  have HB := Lib.hid (bl_tr (bl_al (Below.refl _ w) _) hb)
  clear hb hI
  go_wp2_with fail
  refine (HPut.out _).mono ?_
  rintro e w2 ⟨⟨v, rfl, hO, _⟩, hb⟩
  obtain ⟨q, k, rfl⟩ := hO.slice
  have hI := HI.out.le hb
  have d0 := hI.cell (j := 0) rfl
  have d1 := hI.cell (j := 1) rfl
  have HB2 := Lib.hid (bl_tr HB.out hb)
  rw [HZ.out]
  clear hb hI hO HI HB
  go_wp2_with fail
  refine (HM.out _).mono ?_
  rintro e w3 ⟨rfl, hb⟩
  have HB3 := Lib.hid (bl_tr HB2.out hb)
  clear hb
  go_wp2
  go_ret
  exact ⟨rfl, HB3.out⟩
end
set_option maxRecDepth 100000 in
set_option maxHeartbeats 4000000 in
theorem back_none (op a : Int) (h1 : -9223372036854775808 ≤ a) (h2 : a < 9223372036854775808) (w : World) (hmm : mayI op a = true) : Calls Try.prog 7 #[inV op a, .slice none 0 0] w fun e w' => e = .returned (.bool true) ∧ Below w.heap.size w w' := by
  have HPut := Lib.hid (fun W => cPut_any W op a h1 h2)
  have HM := Lib.hid (hmm ▸ May_any op a)
  have HLen := Lib.hid (putI_len op a h1 h2)
  have HOne := Lib.hid (putI_one hmm)
  have HOp := Lib.hid (Operand_any op)
  have HName := Lib.hid (Name_any op)
  have HKN := Lib.hid (mayI_kn hmm)
  have HGot := Lib.hid (getI_put hmm h1 h2 [])
  have HBy := Lib.hid (bytesL_append (putI_bytes op a) (show bytesL [] from fun x hx => by cases hx))
  have HPos := Lib.hid (show 0 < (putI op a).length from by unfold putI; rw [hmm]; simp)
  have HBe := Lib.hid (fun (W : World) (hw : Below w.heap.size w W) => cGet_any none 0 [] (fun x hx => by cases hx) (Nat.le_refl _) (by decide) W (ByIn.nil _ _ _))
  clear h1 h2 hmm
  go_enter Try.func7, Try.ntmps7
  go_wp2_with fail
  refine (awake_any _).mono ?_
  rintro e w1 ⟨rfl, hb⟩
  have hI := (InB.new w #[.int .i64 op, .int .i64 a] 23).le hb
  have d0 := hI.cell (j := 0) rfl
  have d1 := hI.cell (j := 1) rfl
  have HI := Lib.hid hI
  have HB := Lib.hid (bl_tr (bl_al (Below.refl _ w) _) hb)
  clear hb hI
  go_wp2_with fail
  refine (HPut.out _).mono ?_
  rintro e w2 ⟨⟨v, rfl, hO, _⟩, hb⟩
  obtain ⟨qb, cb, rfl⟩ := hO.slice
  have hI := HI.out.le hb
  clear d0 d1
  have d0 := hI.cell (j := 0) rfl
  have d1 := hI.cell (j := 1) rfl
  have HI2 := Lib.hid hI
  have HB2 := Lib.hid (bl_tr HB.out hb)
  clear hb hI hO HI HB
  go_wp2_with fail
  refine (HM.out _).mono ?_
  rintro e w3 ⟨rfl, hb⟩
  have hI := HI2.out.le hb
  clear d0 d1
  have d0 := hI.cell (j := 0) rfl
  have d1 := hI.cell (j := 1) rfl
  have HI3 := Lib.hid hI
  have HB3 := Lib.hid (bl_tr HB2.out hb)
  clear hb hI HI2 HB2
  go_wp2_with fail
  refine (HPut.out _).mono ?_
  rintro e w4 ⟨⟨v, rfl, hO, _⟩, hb⟩
  have HI4 := Lib.hid (HI3.out.le hb)
  have HB4 := Lib.hid (bl_tr HB3.out hb)
  obtain ⟨go, co, rfl, hgo⟩ := row_form hO HPos.out
  have HR := Lib.hid hO
  have hW4 := HB4.out.size
  have hW34 := hb.size
  clear hb hO HI3 d0 d1
  obtain ⟨i2, u2, u3, u4, u5⟩ := info5
  have hR := HR.out
  go_wp2_with (at_builtin; refine wpList_append_own_none rfl _ _ 35 rfl w3.heap.size 5 i2 1 Try.underlying35 u2 _ (putI op a).length (bv (putI op a)) rfl hR rfl ?_)
  have HG := Lib.hid (cGet_any (some ⟨go, 0, none⟩) co (putI op a ++ []) HBy.out (by rw [List.append_nil]; exact (row_cap HR.out).1) (row_cap HR.out).2 w4 (by rw [List.append_nil]; exact HR.out.in))
  rw [HGot.out, List.append_nil] at HG
  have HB5 := HB4
  have HI5 := HI4
  clear hR
  refine HG.out.mono ?_
  unfold gtV
  rintro e w6 ⟨rfl, hb⟩
  have hI := HI5.out.le hb
  have d0 := hI.cell (j := 0) rfl
  have d1 := hI.cell (j := 1) rfl
  have hl6 := hI.lt
  have HI6 := Lib.hid hI
  have HB6 := Lib.hid (HB5.out.trans (hb.mono HB5.out.size))
  clear hb hI HG
  go_wp2_with fail
  refine (HName.out _).mono ?_
  rintro e w7 ⟨rfl, hb⟩
  have HK7 := Lib.hid ((InB.new w6 #[.int .i64 op, .int .i64 a] 23).le hb)
  have HI7 := Lib.hid (InB.le (heap_new _ _ HI6.out) hb)
  have HB7 := Lib.hid (bl_tr (bl_al HB6.out _) hb)
  clear hb d0 d1 hl6
  go_wp2_with fail
  refine (ByName_any (nmI op) _).mono ?_
  rintro e w8 ⟨r, t, rfl, hr, hb⟩
  obtain ⟨rfl, rfl⟩ := ByRes.same (.inl ⟨rfl, HKN.out, rfl⟩) hr
  have hK := HK7.out.le hb
  have hI := HI7.out.le hb
  have k0 := hK.cell (j := 0) rfl
  have k1 := hK.cell (j := 1) rfl
  have d0 := hI.cell (j := 0) rfl
  have d1 := hI.cell (j := 1) rfl
  have HB8 := Lib.hid (bl_tr HB7.out hb)
  have hne : ∀ W, (binOp .neq 23 (.agg #[.int .i64 op, .int .i64 a]) (.agg #[.int .i64 op, .int .i64 a])).run Try.prog W = .ok (.bool false) W := fun W => by rw [neIns']; simp
  clear hb hK hI hr HI6 HI7 HK7
  go_wp2_with fail
  refine (HOp.out _).mono ?_
  rintro e w9 ⟨rfl, rfl⟩
  have hone := HOne.out
  clear k0 k1 d0 d1 hne
  generalize opdI op = ob at hone ⊢
  generalize (putI op a).length = L at hone ⊢
  have hone2 : ((L : Int) == 1) = !ob := by rw [← hone]; rw [Bool.eq_iff_iff]; simp; omega
  clear hone
  go_wp2_with fail
  refine (HBe.out _ HB8.out).mono ?_
  rw [show getI [] = (0, 0, 0, 30) from rfl]
  unfold gtV
  rintro e w10 ⟨rfl, hb⟩
  have HB10 := Lib.hid (bl_tr HB8.out hb)
  clear hb
  go_upto_region 11 with (fail)
  have HW := Lib.hid (bl_al HB10.out (.cells #[.int .i64 0, .int .i64 0] 23))
  generalize w10.alloc (.cells #[.int .i64 0, .int .i64 0] 23) = W at HW ⊢
  refine wp_region_quiet_below (by kernel_rfl) (by kernel_rfl) ?_
  iterate 15 (go_big_quiet_step (fail))
  refine wpQuiet_nil ?_
  intro _ hw'
  obtain ⟨⟨dq, osq⟩, hw''⟩ := hw'
  subst hw''
  have HV := Lib.hid (bl_tr HW.out (below_regrown W dq osq))
  generalize grow (redrawn W dq) osq = V at HV ⊢
  go_wp2
  go_ret
  exact ⟨rfl, HV.out⟩
set_option maxRecDepth 100000 in
set_option maxHeartbeats 4000000 in
theorem back_some (op a : Int) (h1 : -9223372036854775808 ≤ a) (h2 : a < 9223372036854775808) (ad : Addr) (c : Nat) (ns : List Nat) (hl : ns.length ≤ c) (hm : c ≤ maxLen) (hx : bytesL ns) (w : World) (hmm : mayI op a = true) (hs : ByIn w.heap.size w (some ad) ns) (hbig : ns.length ≤ 1000) : Calls Try.prog 7 #[inV op a, .slice (some ad) ns.length c] w fun e w' => e = .returned (.bool true) ∧ Below w.heap.size w w' := by
  have HPut := Lib.hid (fun W => cPut_any W op a h1 h2)
  have HM := Lib.hid (hmm ▸ May_any op a)
  have HLen := Lib.hid (putI_len op a h1 h2)
  have HOne := Lib.hid (putI_one hmm)
  have HOp := Lib.hid (Operand_any op)
  have HName := Lib.hid (Name_any op)
  have HKN := Lib.hid (mayI_kn hmm)
  have HGot := Lib.hid (getI_put hmm h1 h2 ns)
  have HBy := Lib.hid (bytesL_append (putI_bytes op a) (show bytesL ns from hx))
  have HPos := Lib.hid (show 0 < (putI op a).length from by unfold putI; rw [hmm]; simp)
  have HBe := Lib.hid (fun (W : World) (hw : Below w.heap.size w W) => cGet_any (some ad) c ns hx hl hm W (hs.below hw (Nat.le_refl _) hw.size))
  have HS := Lib.hid hs
  have HL := Lib.hid hl
  have HCM := Lib.hid hm
  have HBG := Lib.hid hbig
  have hbi : ¬ (1000 : Int) < (ns.length : Int) := by omega
  clear h1 h2 hmm hx hs hm hl hbig
  go_enter Try.func7, Try.ntmps7
  go_wp2_with fail
  refine (awake_any _).mono ?_
  rintro e w1 ⟨rfl, hb⟩
  have hI := (InB.new w #[.int .i64 op, .int .i64 a] 23).le hb
  have d0 := hI.cell (j := 0) rfl
  have d1 := hI.cell (j := 1) rfl
  have HI := Lib.hid hI
  have HB := Lib.hid (bl_tr (bl_al (Below.refl _ w) _) hb)
  clear hb hI
  go_wp2_with fail
  refine (HPut.out _).mono ?_
  rintro e w2 ⟨⟨v, rfl, hO, _⟩, hb⟩
  obtain ⟨qb, cb, rfl⟩ := hO.slice
  have hI := HI.out.le hb
  clear d0 d1
  have d0 := hI.cell (j := 0) rfl
  have d1 := hI.cell (j := 1) rfl
  have HI2 := Lib.hid hI
  have HB2 := Lib.hid (bl_tr HB.out hb)
  clear hb hI hO HI HB
  go_wp2_with fail
  refine (HM.out _).mono ?_
  rintro e w3 ⟨rfl, hb⟩
  have hI := HI2.out.le hb
  clear d0 d1
  have d0 := hI.cell (j := 0) rfl
  have d1 := hI.cell (j := 1) rfl
  have HI3 := Lib.hid hI
  have HI0 := Lib.hid (show w.heap.size < w3.heap.size from hI.lt)
  have HB3 := Lib.hid (bl_tr HB2.out hb)
  clear hb hI HI2 HB2
  go_wp2_with fail
  refine (HPut.out _).mono ?_
  rintro e w4 ⟨⟨v, rfl, hO, _⟩, hb⟩
  have HI4 := Lib.hid (HI3.out.le hb)
  have HB4 := Lib.hid (bl_tr HB3.out hb)
  obtain ⟨go, co, rfl, hgo⟩ := row_form hO HPos.out
  have HR := Lib.hid hO
  have hW4 := HB4.out.size
  have hW34 := hb.size
  clear hb hO HI3 d0 d1
  have hcl := by_cells HS.out
  have hcl4 : ∀ (j : Nat) (u : Value), (bv ns)[j]? = some u → w4.cell? (ad.add j) = some u := fun j u hu => by
    have hc := hcl j u hu
    exact (HB4.out.cell (World.block_lt_of_cell? _ _ hc)).trans hc
  have hR := HR.out
  have hbg := HBG.out
  have hle := HLen.out
  clear hcl
  go_wp2_with (at_builtin; refine wpList_bytes rfl _ _ rfl w3.heap.size _ (putI op a) rfl hR ad c ns rfl hcl4 (by omega) hW34 ?_)
  intro v5 w5 hO5 hgr _
  have HB5 := Lib.hid (HB4.out.trans (below_own hgr hW4 (fun j hj => by have := (hR.lt j hj).1; have := HB3.out.size; omega)))
  have HI5 := Lib.hid (show InB w5 w.heap.size #[.int .i64 op, .int .i64 a] 23 from (hgr.block _ HI4.out.lt (fun e => by have := (hR.lt _ e.symm).1; have := HB3.out.size; have h7 := HI0.out; omega)).trans HI4.out)
  obtain ⟨g5, c5, rfl, _⟩ := row_form hO5 (by rw [List.length_append]; have := HPos.out; omega)
  have HG := Lib.hid (cGet_any (some ⟨g5, 0, none⟩) c5 (putI op a ++ ns) HBy.out (row_cap hO5).1 (row_cap hO5).2 w5 hO5.in)
  rw [HGot.out] at HG
  generalize (putI op a ++ ns).length = n5 at HG ⊢
  clear hgr hO5 hcl4 hR hbg hle
  go_wp2_with fail
  refine HG.out.mono ?_
  unfold gtV
  rintro e w6 ⟨rfl, hb⟩
  have hI := HI5.out.le hb
  have d0 := hI.cell (j := 0) rfl
  have d1 := hI.cell (j := 1) rfl
  have hl6 := hI.lt
  have HI6 := Lib.hid hI
  have HB6 := Lib.hid (HB5.out.trans (hb.mono HB5.out.size))
  clear hb hI HG
  go_wp2_with fail
  refine (HName.out _).mono ?_
  rintro e w7 ⟨rfl, hb⟩
  have HK7 := Lib.hid ((InB.new w6 #[.int .i64 op, .int .i64 a] 23).le hb)
  have HI7 := Lib.hid (InB.le (heap_new _ _ HI6.out) hb)
  have HB7 := Lib.hid (bl_tr (bl_al HB6.out _) hb)
  clear hb d0 d1 hl6
  go_wp2_with fail
  refine (ByName_any (nmI op) _).mono ?_
  rintro e w8 ⟨r, t, rfl, hr, hb⟩
  obtain ⟨rfl, rfl⟩ := ByRes.same (.inl ⟨rfl, HKN.out, rfl⟩) hr
  have hK := HK7.out.le hb
  have hI := HI7.out.le hb
  have k0 := hK.cell (j := 0) rfl
  have k1 := hK.cell (j := 1) rfl
  have d0 := hI.cell (j := 0) rfl
  have d1 := hI.cell (j := 1) rfl
  have HB8 := Lib.hid (bl_tr HB7.out hb)
  have hne : ∀ W, (binOp .neq 23 (.agg #[.int .i64 op, .int .i64 a]) (.agg #[.int .i64 op, .int .i64 a])).run Try.prog W = .ok (.bool false) W := fun W => by rw [neIns']; simp
  clear hb hK hI hr HI6 HI7 HK7
  go_wp2_with fail
  refine (HOp.out _).mono ?_
  rintro e w9 ⟨rfl, rfl⟩
  have hone := HOne.out
  clear k0 k1 d0 d1 hne
  generalize opdI op = ob at hone ⊢
  generalize (putI op a).length = L at hone ⊢
  have hone2 : ((L : Int) == 1) = !ob := by rw [← hone]; rw [Bool.eq_iff_iff]; simp; omega
  clear hone
  go_wp2_with fail
  refine (HBe.out _ HB8.out).mono ?_
  have HGI := Lib.hid (getI_is (l := ns))
  have HER := Lib.hid (getI_err ns)
  generalize getI ns = R at HGI HER ⊢
  obtain ⟨x, b, m, er⟩ := R
  unfold gtV
  simp only at HGI HER ⊢
  rintro e w10 ⟨rfl, hb⟩
  have HB10 := Lib.hid (bl_tr HB8.out hb)
  clear hb
  by_cases he : er = 0
  · subst he
    obtain ⟨g1, g2, g3, g4, g5'⟩ := HGI.out rfl
    have HM1 := Lib.hid (g1 ▸ May_any x b)
    have HP1 := Lib.hid (fun W => cPut_any W x b g4 g5')
    have HLe := Lib.hid (putI_len x b g4 g5')
    have HT := Lib.hid g2
    have HM3 := Lib.hid g3
    have hmi : (m : Int) ≤ (c : Int) := by have := HL.out; omega
    clear g1 g2 g3 g4 g5' HGI
    go_upto_region 11 with (fail)
    have hW := bl_al HB10.out (.cells #[.int .i64 x, .int .i64 b] 23)
    have hJ := InB.new w10 #[.int .i64 x, .int .i64 b] 23
    generalize w10.alloc (.cells #[.int .i64 x, .int .i64 b] 23) = W at hW hJ ⊢
    generalize w10.heap.size = b11 at hJ ⊢
    have HSB := Lib.hid (fun (y z : World) (h : InB y b11 #[.int .i64 x, .int .i64 b] 23 ∧ Below w.heap.size w y) (hb : Below y.heap.size y z) => (⟨h.1.le hb, bl_tr h.2 hb⟩ : InB z b11 #[.int .i64 x, .int .i64 b] 23 ∧ Below w.heap.size w z))
    have hmx : Try.prog.follows .mixedOrders = true := by kernel_rfl
    refine wp_region_held_drew (S := fun y => InB y b11 #[.int .i64 x, .int .i64 b] 23 ∧ Below w.heap.size w y) hmx (HSB.out W W.drew ⟨hJ, hW⟩ (bl_dr (Below.refl _ _))) (fun hHeld => ?_)
    have hS0 := HSB.out W W.drew ⟨hJ, hW⟩ (bl_dr (Below.refl _ _))
    clear hW hJ
    generalize W.drew = Y at *
    refine wpAnyH_take (i := 0) (v := .int .i64 0) rfl (by kernel_rfl) (by kernel_rfl) (by kernel_rfl) (fun _ _ _ h => h) (Or.inl ⟨by rfl, fun w hSw => by (skip); go_simp⟩) (by assumption) ?_
    try simp only [Act.put, List.setIfInBounds_toArray, List.set_cons_zero, List.set_cons_succ, List.getElem_toArray, List.getElem_cons_zero, List.getElem_cons_succ]
    refine wpAnyH_take (i := 1) (v := .bool false) rfl (by kernel_rfl) (by kernel_rfl) (by kernel_rfl) (fun _ _ _ h => h) (Or.inl ⟨by rfl, fun w hSw => by (skip); go_simp⟩) (by assumption) ?_
    try simp only [Act.put, List.setIfInBounds_toArray, List.set_cons_zero, List.set_cons_succ, List.getElem_toArray, List.getElem_cons_zero, List.getElem_cons_succ]
    refine wpAnyH_take (i := 2) (v := .bool false) rfl (by kernel_rfl) (by kernel_rfl) (by kernel_rfl) (fun _ _ _ h => h) (Or.inl ⟨by rfl, fun w hSw => by (skip); go_simp⟩) (by assumption) ?_
    try simp only [Act.put, List.setIfInBounds_toArray, List.set_cons_zero, List.set_cons_succ, List.getElem_toArray, List.getElem_cons_zero, List.getElem_cons_succ]
    refine wpAnyH_take (i := 3) (v := .agg #[.int .i64 x, .int .i64 b]) rfl (by kernel_rfl) (by kernel_rfl) (by kernel_rfl) (fun _ _ _ h => h) (Or.inl ⟨by rfl, fun w hSw => by (have s0 := hSw.1.cell (j := 0) rfl; have s1 := hSw.1.cell (j := 1) rfl); go_simp⟩) (by assumption) ?_
    try simp only [Act.put, List.setIfInBounds_toArray, List.set_cons_zero, List.set_cons_succ, List.getElem_toArray, List.getElem_cons_zero, List.getElem_cons_succ]
    refine wpAnyH_ready (rs := [4]) (by kernel_rfl) (by simp) ?_
    refine AllReadyH.cons rfl (fun K1 hK1 => ?_) AllReadyH.nil
    go_simp
    go_at_call 12
    refine (HM1.out _).mono ?_
    rintro e y1 ⟨rfl, hb⟩
    have hS1 := HSB.out _ _ hS0 hb
    clear hb hS0
    refine hK1.out _ _ hS1 (fun hHeld => ?_)
    try simp only [Act.put, List.setIfInBounds_toArray, List.set_cons_zero, List.set_cons_succ, List.getElem_toArray, List.getElem_cons_zero, List.getElem_cons_succ]
    refine wpAnyH_take (i := 5) (v := .bool true) rfl (by kernel_rfl) (by kernel_rfl) (by kernel_rfl) (fun _ _ _ h => h) (Or.inl ⟨by rfl, fun w hSw => by (skip); go_simp⟩) (by assumption) ?_
    try simp only [Act.put, List.setIfInBounds_toArray, List.set_cons_zero, List.set_cons_succ, List.getElem_toArray, List.getElem_cons_zero, List.getElem_cons_succ]
    refine wpAnyH_take (i := 6) (v := .agg #[.int .i64 x, .int .i64 b]) rfl (by kernel_rfl) (by kernel_rfl) (by kernel_rfl) (fun _ _ _ h => h) (Or.inl ⟨by rfl, fun w hSw => by (have s0 := hSw.1.cell (j := 0) rfl; have s1 := hSw.1.cell (j := 1) rfl); go_simp⟩) (by assumption) ?_
    try simp only [Act.put, List.setIfInBounds_toArray, List.set_cons_zero, List.set_cons_succ, List.getElem_toArray, List.getElem_cons_zero, List.getElem_cons_succ]
    refine wpAnyH_take (i := 8) (v := .slice (some ad) ns.length c) rfl (by kernel_rfl) (by kernel_rfl) (by kernel_rfl) (fun _ _ _ h => h) (Or.inl ⟨by rfl, fun w hSw => by (skip); go_simp⟩) (by assumption) ?_
    try simp only [Act.put, List.setIfInBounds_toArray, List.set_cons_zero, List.set_cons_succ, List.getElem_toArray, List.getElem_cons_zero, List.getElem_cons_succ]
    refine wpAnyH_take (i := 9) (v := .int .i64 (m : Nat)) rfl (by kernel_rfl) (by kernel_rfl) (by kernel_rfl) (fun _ _ _ h => h) (Or.inl ⟨by rfl, fun w hSw => by (skip); go_simp⟩) (by assumption) ?_
    try simp only [Act.put, List.setIfInBounds_toArray, List.set_cons_zero, List.set_cons_succ, List.getElem_toArray, List.getElem_cons_zero, List.getElem_cons_succ]
    refine wpAnyH_take (i := 10) (v := .slice (some ad) m c) rfl (by kernel_rfl) (by kernel_rfl) (by kernel_rfl) (fun _ _ _ h => h) (Or.inl ⟨by rfl, fun w hSw => by (skip); go_simp⟩) (by assumption) ?_
    try simp only [Act.put, List.setIfInBounds_toArray, List.set_cons_zero, List.set_cons_succ, List.getElem_toArray, List.getElem_cons_zero, List.getElem_cons_succ]
    refine wpAnyH_ready (rs := [7]) (by kernel_rfl) (by simp) ?_
    refine AllReadyH.cons rfl (fun K2 hK2 => ?_) AllReadyH.nil
    go_simp
    go_at_call 18
    refine (HP1.out _).mono ?_
    rintro e y2 ⟨⟨v, rfl, hO, _⟩, hb⟩
    obtain ⟨q7, c7, rfl⟩ := hO.slice
    have hS2 := HSB.out _ _ hS1 hb
    have HO7 := Lib.hid hO
    clear hb hS1 hO
    refine hK2.out _ _ hS2 (fun hHeld => ?_)
    try simp only [Act.put, List.setIfInBounds_toArray, List.set_cons_zero, List.set_cons_succ, List.getElem_toArray, List.getElem_cons_zero, List.getElem_cons_succ]
    refine wpAnyH_ready (rs := [11]) (by kernel_rfl) (by simp) ?_
    refine AllReadyH.cons rfl (fun K3 hK3 => ?_) AllReadyH.nil
    go_simp
    have hY2 : ByIn y2.heap.size y2 (some ad) (ns.take m) := (HS.out.below hS2.2 (Nat.le_refl _) hS2.2.size).take m
    have hBB := bytes_any q7 (some ad) c7 c (putI x b) (ns.take m) (by have := HLe.out; unfold maxLen; omega) y2 HO7.out.in hY2
    rw [HT.out, decide_eq_true rfl, show (ns.take m).length = m from by rw [List.length_take]; have := HM3.out; omega] at hBB
    rw [HT.out]
    rw [show (ns.take m).length = m from by rw [List.length_take]; have := HM3.out; omega]
    go_at_call 22
    refine hBB.mono ?_
    rintro e y3 ⟨rfl, hb⟩
    have hS3 := HSB.out _ _ hS2 hb
    clear hb
    refine hK3.out _ _ hS3 (fun hHeld => ?_)
    try simp only [Act.put, List.setIfInBounds_toArray, List.set_cons_zero, List.set_cons_succ, List.getElem_toArray, List.getElem_cons_zero, List.getElem_cons_succ]
    refine wpAnyH_take (i := 12) (v := .bool true) rfl (by kernel_rfl) (by kernel_rfl) (by kernel_rfl) (fun _ _ _ h => h) (Or.inl ⟨by rfl, fun w hSw => by (skip); go_simp⟩) (by assumption) ?_
    try simp only [Act.put, List.setIfInBounds_toArray, List.set_cons_zero, List.set_cons_succ, List.getElem_toArray, List.getElem_cons_zero, List.getElem_cons_succ]
    refine wpAnyH_take (i := 13) (v := .bool true) rfl (by kernel_rfl) (by kernel_rfl) (by kernel_rfl) (fun _ _ _ h => h) (Or.inl ⟨by rfl, fun w hSw => by (skip); go_simp⟩) (by assumption) ?_
    try simp only [Act.put, List.setIfInBounds_toArray, List.set_cons_zero, List.set_cons_succ, List.getElem_toArray, List.getElem_cons_zero, List.getElem_cons_succ]
    refine wpAnyH_take (i := 14) (v := .bool true) rfl (by kernel_rfl) (by kernel_rfl) (by kernel_rfl) (fun _ _ _ h => h) (Or.inl ⟨by rfl, fun w hSw => by (skip); go_simp⟩) (by assumption) ?_
    try simp only [Act.put, List.setIfInBounds_toArray, List.set_cons_zero, List.set_cons_succ, List.getElem_toArray, List.getElem_cons_zero, List.getElem_cons_succ]
    refine wpAnyH_done (by kernel_rfl) ?_ _
    have HV := Lib.hid hS3.2
    go_wp2
    go_ret
    exact ⟨rfl, HV.out⟩
  · have hz := HER.out.resolve_left he
    clear HER HGI he
    rcases hz with rfl | rfl | rfl
    all_goals
     go_upto_region 11 with (fail)
     have HW := Lib.hid (bl_al HB10.out (.cells #[.int .i64 x, .int .i64 b] 23))
     generalize w10.alloc (.cells #[.int .i64 x, .int .i64 b] 23) = W at HW ⊢
     refine wp_region_quiet_below (by kernel_rfl) (by kernel_rfl) ?_
     iterate 15 (go_big_quiet_step (fail))
     refine wpQuiet_nil ?_
     intro _ hw'
     obtain ⟨⟨dq, osq⟩, hw''⟩ := hw'
     subst hw''
     have HV := Lib.hid (bl_tr HW.out (below_regrown W dq osq))
     generalize grow (redrawn W dq) osq = V at HV ⊢
     go_wp2
     go_ret
     exact ⟨rfl, HV.out⟩
theorem back_law (op a : Int) (h1 : -9223372036854775808 ≤ a) (h2 : a < 9223372036854775808) (p : Option Addr) (c : Nat) (ns : List Nat) (hp : (p = none ∧ ns = [] ∧ c = 0) ∨ ∃ ad, p = some ad) (hl : ns.length ≤ c) (hm : c ≤ maxLen) (_ : ns.length + 1 ≤ 140737488355328) (hx : bytesL ns) (w : World) (hs : ByIn w.heap.size w p ns) :
    Calls Try.prog 7 #[inV op a, .slice p ns.length c] w fun e w' => e = .returned (.bool true) ∧ Below w.heap.size w w' := by
  by_cases hbig : 1000 < ns.length
  · exact back_long op a p c ns w hbig
  · cases hmm : mayI op a
    · exact back_no op a h1 h2 p c ns w hbig hmm
    · rcases hp with ⟨rfl, rfl, rfl⟩ | ⟨ad, rfl⟩
      · exact back_none op a h1 h2 w hmm
      · exact back_some op a h1 h2 ad c ns hl hm hx w hmm hs (by omega)
end Go.Proofs.Ytahnhohccbnhjaa
