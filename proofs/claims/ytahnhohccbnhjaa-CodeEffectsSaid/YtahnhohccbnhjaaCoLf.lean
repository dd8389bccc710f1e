/- The kit's lent module. -/
import Derived.Test.YtahnhohccbnhjaaCoLe
namespace Go.Proofs.Ytahnhohccbnhjaa
open Go Go.RowKit Go.Proofs.Mm
theorem be_drew {n : Nat} {a w : World} (h : Below n a w) : Below n a w.drew := ⟨h.os, h.tape, h.output, h.size, h.block⟩
theorem be_le {a w w' : World} (h : Below a.heap.size a w) (k : Below w.heap.size w w') : Below a.heap.size a w' := h.trans (k.mono h.size)
set_option maxRecDepth 100000 in
set_option maxHeartbeats 8000000 in
theorem lentModule_any {w : World} {v : Value} {s : MoM} (h : MoR false (wC w) v s) {m : Mem} (hm : Has w m) :
    Calls Try.prog 25 #[v] w fun e w' => ∃ v' m', e = .returned v' ∧ Below w.heap.size w w' ∧ m.More w m' ∧ Has w' m' ∧ MoR true (mC m') v' s := by
  obtain ⟨v1, v2, v3, v4, rfl, h1, h2, h3, h4⟩ := h
  obtain ⟨q1, c1, rfl⟩ := slx_shape h1
  obtain ⟨q2, c2, rfl⟩ := slx_shape h2
  obtain ⟨q3, c3, rfl⟩ := slx_shape h3
  obtain ⟨q4, c4, rfl⟩ := slx_shape h4
  have hl4 := slx_bytes h4
  obtain ⟨n1, hn1⟩ : ∃ n, s.globals.length = n := ⟨_, rfl⟩
  obtain ⟨n2, hn2⟩ : ∃ n, s.arrays.length = n := ⟨_, rfl⟩
  obtain ⟨n3, hn3⟩ : ∃ n, s.channels.length = n := ⟨_, rfl⟩
  obtain ⟨n4, hn4⟩ : ∃ n, s.funcs.length = n := ⟨_, rfl⟩
  rw [hn1] at h1 ⊢
  rw [hn2] at h2 ⊢
  rw [hn3] at h3 ⊢
  rw [hn4] at h4 hl4 ⊢
  obtain ⟨cs2, l2, hq2, hmc2, hcl2, hnw2, hon2, hmx2, hby2, he2⟩ := h2.take
  have H1 := Lib.hid (fun w' (hb : Below w.heap.size w w') => show LasR false (wC w') (.slice q1 n1 c1) s.globals from h1.le (below_cle hb))
  have H2 := Lib.hid (fun w' (hb : Below w.heap.size w w') => show ∀ ad, q2 = some ad → ∀ j u, cs2[j]? = some u → w'.cell? (ad.add j) = some u from fun ad e j u hu => below_cle hb _ _ (hnw2 ad e j u hu))
  have H3 := Lib.hid (fun w' (hb : Below w.heap.size w w') => show LasR false (wC w') (.slice q3 n3 c3) s.channels from h3.le (below_cle hb))
  have HA4 := Lib.hid h4.cells
  have HN1 := Lib.hid hn1
  have HN3 := Lib.hid hn3
  have HN4 := Lib.hid hn4
  have HE2 := Lib.hid he2
  have HL2 := Lib.hid l2
  have HM := Lib.hid hm
  clear h1 h2 h3 h4 hn1 hn2 hn3 hn4 he2 hnw2 l2 hm
  obtain ⟨i2, hi2, hz2, hs2, hbb2⟩ := infoA
  obtain ⟨i5, hi5, hz5, hs5, hbb5⟩ := infoFn
  go_enter Try.func25, Try.ntmps25
  obtain ⟨u2, hu2⟩ : ∃ u2, Value.slice q2 n2 c2 = u2 := ⟨_, rfl⟩
  have HU2 := Lib.hid hu2.symm
  rw [hu2]
  clear hu2
  go_wp2_with (at_builtin; refine wpList_append_rd rfl _ _ 48 rfl 65 i2 _ 2 16 und_A hi2 hz2 hs2 hbb2 rfl (by decide) rfl q2 n2 c2 cs2 HU2.out hq2 hmc2 hcl2 (H2.out _ (((Below.refl _ w).alloc (Nat.le_refl _) _).alloc (by simp) _)) hon2 hmx2 (by omega) ?_)
  intro q' c' w5 hR5 hb5
  obtain ⟨wA, hA⟩ : ∃ wA, (w.alloc (.cells #[.slice q1 n1 c1, u2, .slice q3 n3 c3, .slice q4 n4 c4] 51)).alloc (.cells #[.slice none 0 0, .slice none 0 0, .slice none 0 0, .slice none 0 0] 51) = wA := ⟨_, rfl⟩
  have hszA : wA.heap.size = w.heap.size + 1 + 1 := by rw [← hA]; simp
  have HK0 := Lib.hid (show Kp w m w.heap.size #[.slice q1 n1 c1, u2, .slice q3 n3 c3, .slice q4 n4 c4] 51 wA m by rw [← hA]; exact (Kp.start HM.out _ _).step ((Below.refl _ _).alloc (Nat.le_refl _) _) (Mem.More.refl _ _) (has_grown (Kp.start HM.out _ _).has ((Below.refl _ _).alloc (Nat.le_refl _) _)))
  have HZ0 := Lib.hid (show Kp w m (w.heap.size + 1) #[.slice none 0 0, .slice none 0 0, .slice none 0 0, .slice none 0 0] 51 wA m from by
    refine ⟨HK0.out.below, HK0.out.has, HK0.out.more, Nat.le_succ _, ?_, HM.out.lt (Nat.le_succ _)⟩
    have h9 := World.alloc_heap_new (w.alloc (.cells #[.slice q1 n1 c1, u2, .slice q3 n3 c3, .slice q4 n4 c4] 51)) (.cells #[.slice none 0 0, .slice none 0 0, .slice none 0 0, .slice none 0 0] 51)
    rwa [show (w.alloc (.cells #[.slice q1 n1 c1, u2, .slice q3 n3 c3, .slice q4 n4 c4] 51)).heap.size = w.heap.size + 1 by simp, hA] at h9)
  have HSZ := Lib.hid hszA
  rw [hA] at hb5
  rw [← hszA] at hR5 hb5
  clear hA hszA
  have hnew := row_new w5 (mkA true) 65
  have hone : ∀ u ∈ mkA true, u.oneCell' = true := by intro u hu; simp only [mkA, if_true, List.mem_cons, List.not_mem_nil, or_false] at hu; rcases hu with rfl | rfl <;> rfl
  have hz5' := hb5.size
  go_wp2_with (at_builtin; refine wpList_append_own_at _ rfl _ _ 48 rfl wA.heap.size 65 i2 _ 2 16 und_A hi2 hz2 hs2 hbb2 rfl (by decide) _ n2 cs2 rfl (hR5.alloc _) ⟨w5.heap.size, 0, none⟩ 1 1 (mkA true) rfl rfl hnew hone (by unfold maxLen; omega) (by omega) (by simp; omega) ?_)
  intro v6 w6 hR6 hg6 _ _
  obtain ⟨p2, d2, rfl⟩ := own_shape hR6
  have hb6 : Below wA.heap.size wA w6 := grown_below (hb5.alloc hz5' _) (by simp; omega) hg6 (fun j hj => (hR5.lt j hj).1)
  have hcap : n2 + 1 ≤ d2 := by
    rcases hR6.2 with ⟨_, h0⟩ | ⟨g', cap', cur, h0, _, _, h1, _, _⟩
    · omega
    · injection h0 with _ _ h4
      omega
  obtain ⟨m4, hmo6, hH6, hS2⟩ := lent_done (w := wA) (bs := 16) (R := fun _ => arR) (has_grown HK0.out.has hb6) (fun k hk => HK0.out.has.lt (hR6.lt k hk).1) hR6 HL2.out HE2.out (fun _ _ _ _ _ h => h) hby2
  have HS2 := Lib.hid (show ArsR true (mC m4) (.slice p2 n2 d2) s.arrays from hS2)
  have HK1 := Lib.hid (HK0.out.step hb6 hmo6 hH6)
  have HZ1 := Lib.hid (HZ0.out.step hb6 hmo6 hH6)
  have hw6 := HK1.out.below.size
  clear hS2 hb6 hmo6 hH6 hg6 hR6 hR5 hnew hone hz5' hb5 HK0 HZ0
  go_wp2_with fail
  go_loopw [4, 5] (RwI 68 6 (fun m => FnR1 true (mC m)) w6 m4 n4 s.funcs) (fun _ i _ => n4 - (intOf i).toNat)
  case atStart => exact RwI.start HK1.out.has
  case round =>
    obtain ⟨k, qF, cF, cs, mm, hk, rfl, rfl, HF, HE, HM1, HMo, HFr, HB⟩ := hrel
    generalize wr = V at *
    have hKV := HK1.out.step HB.out HMo.out HM1.out
    have s3 := hKV.cell (i := 3) rfl
    by_cases hlt : k < n4
    · have hkl : k < s.funcs.length := by rw [HN4.out]; exact hlt
      obtain ⟨g, o, vp, vr, vc, rfl, hfl, a0, a1, a2, a3, a4, a5⟩ := HA4.out k hkl
      have hle := below_cle hKV.below
      have x0 := hle _ _ a0
      have x1 := hle _ _ a1
      have x2 := hle _ _ a2
      have x3 := hle _ _ a3
      have x4 := hle _ _ a4
      have x5 := hle _ _ a5
      unfold wC at x0 x1 x2 x3 x4 x5
      have HFL := Lib.hid (hfl.le hle)
      clear a0 a1 a2 a3 a4 a5 hle hfl hKV
      generalize hd : s.funcs[k] = d at x0 x1 x2 x3 x4 x5 HFL
      have HDD := Lib.hid hd
      clear hd
      have hki : (k : Int) < (n4 : Int) := by omega
      obtain ⟨lv, hlv⟩ : ∃ n, d.level = n := ⟨_, rfl⟩
      obtain ⟨lo, hlo⟩ : ∃ n, d.locals = n := ⟨_, rfl⟩
      obtain ⟨stk, hst⟩ : ∃ n, d.stack = n := ⟨_, rfl⟩
      rw [hlv] at x0 HFL
      rw [hlo] at x3 HFL
      rw [hst] at x4 HFL
      clear hlv hlo hst
      go_wp2_with fail
      go_at_call 41
      refine (lentFunction_any HFL.out HM1.out).mono ?_
      rintro e y1 ⟨ds, e1, rfl, hb, hmo, hH, hS⟩
      have HS := Lib.hid hS
      obtain ⟨wp, wr', wc, hds, z1, z2, z3⟩ := hS
      subst hds
      obtain ⟨qp, cp, rfl⟩ := slx_shape z1
      obtain ⟨qr, cr, rfl⟩ := slx_shape z2
      obtain ⟨qc, cc, rfl⟩ := slx_shape z3
      clear z1 z2 z3
      obtain ⟨np, hnp⟩ : ∃ n, d.params.length = n := ⟨_, rfl⟩
      obtain ⟨nr, hnr⟩ : ∃ n, d.results.length = n := ⟨_, rfl⟩
      obtain ⟨nc, hnc⟩ : ∃ n, d.code.length = n := ⟨_, rfl⟩
      obtain ⟨lv2, hlv2⟩ : ∃ n, d.level = n := ⟨_, rfl⟩
      obtain ⟨lo2, hlo2⟩ : ∃ n, d.locals = n := ⟨_, rfl⟩
      obtain ⟨st2, hst2⟩ : ∃ n, d.stack = n := ⟨_, rfl⟩
      rw [hnp, hnr, hnc, hlv2, hlo2, hst2] at HS
      rw [hnp, hnr, hnc, hlv2, hlo2, hst2]
      clear hnp hnr hnc hlv2 hlo2 hst2
      clear x0 x1 x2 x3 x4 x5 s3
      have hby := hb.size
      have HB1 := Lib.hid hb
      have HMO1 := Lib.hid hmo
      have HH1 := Lib.hid hH
      clear hb hmo hH
      have hrow := own_chg HF.out (Below.chg HB1.out (Nat.le_refl _) (fun _ => False)) (fun _ _ e => e)
      obtain ⟨W7, hW7⟩ : ∃ W7, y1.alloc (.cells #[.int .u64 lv2, .slice qp np cp, .slice qr nr cr, .int .i64 lo2, .int .i64 st2, .slice qc nc cc] 68) = W7 := ⟨_, rfl⟩
      have hs7 : W7.heap.size = y1.heap.size + 1 := by rw [← hW7]; simp
      have hnew : ∀ (j : Nat) (u : Value), ([.int .u64 lv2, .slice qp np cp, .slice qr nr cr, .int .i64 lo2, .int .i64 st2, .slice qc nc cc] : List Value)[j]? = some u → ((y1.alloc (.cells #[.int .u64 lv2, .slice qp np cp, .slice qr nr cr, .int .i64 lo2, .int .i64 st2, .slice qc nc cc] 68)).alloc (.cells ([.int .u64 lv2, .slice qp np cp, .slice qr nr cr, .int .i64 lo2, .int .i64 st2, .slice qc nc cc] : List Value).toArray 68)).cell? ((⟨y1.heap.size + 1, 0, none⟩ : Addr).add j) = some u := by
        have := row_new W7 [.int .u64 lv2, .slice qp np cp, .slice qr nr cr, .int .i64 lo2, .int .i64 st2, .slice qc nc cc] 68
        rw [hs7] at this
        rw [hW7]
        exact this
      have hb7 : Below V.heap.size V W7 := by rw [← hW7]; exact HB1.out.alloc hby _
      have hH7 : Has W7 e1 := has_grown HH1.out (by rw [← hW7]; exact (Below.refl _ _).alloc (Nat.le_refl _) _)
      have hone : ∀ u ∈ ([.int .u64 lv2, .slice qp np cp, .slice qr nr cr, .int .i64 lo2, .int .i64 st2, .slice qc nc cc] : List Value), u.oneCell' = true := by
        intro u hu
        simp only [List.mem_cons, List.not_mem_nil, or_false] at hu
        rcases hu with rfl | rfl | rfl | rfl | rfl | rfl <;> rfl
      have HB7 := Lib.hid hb7
      have HH7 := Lib.hid hH7
      have HW7 := Lib.hid hW7
      have HS7 := Lib.hid hs7
      clear hb7 hH7 hs7 hW7
      have hsV := HB.out.size
      go_wp2_with (at_builtin; refine wpList_append_own_at _ rfl _ _ 49 rfl w6.heap.size 68 i5 _ 6 96 und_Fn hi5 hz5 hs5 hbb5 rfl (by decide) _ _ _ rfl ((hrow.alloc _).alloc _) ⟨y1.heap.size + 1, 0, none⟩ 1 1 [.int .u64 lv2, .slice qp np cp, .slice qr nr cr, .int .i64 lo2, .int .i64 st2, .slice qc nc cc] rfl rfl hnew hone (by unfold maxLen; omega) (by omega) (by simp; omega) ?_)
      intro v10 w10 hR10 hg10 _ hat
      rw [HW7.out] at hg10
      obtain ⟨q10, c10, rfl, r1, r2, r3, r4, r5, r6⟩ := rw_step hkl HE.out HMo.out HFr.out HB.out HF.out HB7.out HMO1.out HH7.out fnR_mono (by rw [HDD.out]; exact HS.out) hR10 hg10 (by rw [HS7.out]; simpa using hat)
      clear hR10 hg10 hat hrow hnew hone hsV
      go_wp2_with fail
      exact ⟨⟨k + 1, q10, c10, _, e1, by omega, by go_num, rfl, r1, r2, r3, r4, r5, r6⟩, by simp [intOf]; omega⟩
    · obtain rfl : k = n4 := by omega
      clear hKV
      have hrow := HF.out
      have hnew := row_new V (mkF true) 68
      have hone : ∀ u ∈ mkF true, u.oneCell' = true := by intro u hu; simp only [mkF, if_true, List.mem_cons, List.not_mem_nil, or_false] at hu; rcases hu with rfl | rfl | rfl | rfl | rfl | rfl <;> rfl
      have hws := HB.out.size
      go_wp2_with (at_builtin; refine wpList_append_own_at _ rfl _ _ 49 rfl w6.heap.size 68 i5 _ 6 96 und_Fn hi5 hz5 hs5 hbb5 rfl (by decide) _ _ _ rfl (hrow.alloc _) ⟨V.heap.size, 0, none⟩ 1 1 (mkF true) rfl rfl hnew hone (by unfold maxLen; omega) (by omega) (by simp; omega) ?_)
      intro v2 w8 hR2 hg2 _ hat
      obtain ⟨p5, d5, rfl, hcap5, -, HD, HB2⟩ := rw_end (m := m4) HN4.out HE.out HMo.out HFr.out HB.out hrow HM1.out fnR_mono hR2 hg2 (by simpa using hat) hl4
      clear hg2 hR2 hrow hat s3 hnew hone hws
      obtain ⟨m5, hmo, hH, hS⟩ := HD.out
      have HK2 := Lib.hid (HK1.out.step HB2.out hmo hH)
      have HZ2 := Lib.hid (HZ1.out.step HB2.out hmo hH)
      have HLE5 := Lib.hid hmo.le
      have HS4 := Lib.hid (show FnsR true (mC m5) (.slice p5 k d5) s.funcs from hS)
      clear hmo hH hS HD
      have e0 := HK2.out.cell (i := 0) rfl
      have e1 := HK2.out.cell (i := 1) rfl
      have e2 := HK2.out.cell (i := 2) rfl
      have e3 := HK2.out.cell (i := 3) rfl
      generalize w8 = wE at *
      have hU := HU2.out
      subst hU
      have HX := Lib.hid (fun (W : World) (h : Below wE.heap.size wE W) => show W.heap[w.heap.size + 1]? = some (.cells #[.slice none 0 0, .slice none 0 0, .slice none 0 0, .slice none 0 0] 51 (0, 0)) from (h.block _ (heap_lt HZ2.out.lies)).trans HZ2.out.lies)
      have HBE := Lib.hid (fun (W : World) (h : Below wE.heap.size wE W) => show Below w.heap.size w W from HK2.out.below.trans (h.mono HK2.out.below.size))
      have HC1 := Lib.hid (fun (W : World) (h : Below wE.heap.size wE W) => show Calls Try.prog 42 #[.slice q1 n1 c1] W fun e w' => ∃ g d m', e = .returned (.slice g n1 d) ∧ Below W.heap.size W w' ∧ m5.More W m' ∧ Has w' m' ∧ LasR true (mC m') (.slice g n1 d) s.globals from
        (lentLabels_any (H1.out _ (HBE.out _ h)) (has_grown HK2.out.has h)).mono (by
          rintro e w2 ⟨x, m', rfl, hb, hmo, hH, hS⟩
          obtain ⟨g, d, rfl⟩ := slx_shape hS
          rw [HN1.out] at hS ⊢
          exact ⟨g, d, m', rfl, hb, hmo, hH, hS⟩))
      have HC3 := Lib.hid (fun (W : World) (m6 : Mem) (h : Below wE.heap.size wE W) (hH : Has W m6) => show Calls Try.prog 42 #[.slice q3 n3 c3] W fun e w' => ∃ g d m', e = .returned (.slice g n3 d) ∧ Below W.heap.size W w' ∧ m6.More W m' ∧ Has w' m' ∧ LasR true (mC m') (.slice g n3 d) s.channels from
        (lentLabels_any (H3.out _ (HBE.out _ h)) hH).mono (by
          rintro e w2 ⟨x, m', rfl, hb, hmo, hH, hS⟩
          obtain ⟨g, d, rfl⟩ := slx_shape hS
          rw [HN3.out] at hS ⊢
          exact ⟨g, d, m', rfl, hb, hmo, hH, hS⟩))
      have hcn2 : (n2 : Int) ≤ (d2 : Int) := by omega
      have hcn5 : (k : Int) ≤ (d5 : Int) := by omega
      clear e0 e1 e2 e3
      go_wp2_with fail
      have hmx : Try.prog.follows .mixedOrders = true := by kernel_rfl
      have HY := Lib.hid (show wE.drew.heap[w.heap.size]? = some (.cells #[.slice q1 n1 c1, .slice q2 n2 c2, .slice q3 n3 c3, .slice q4 k c4] 51 (0, 0)) from HK2.out.lies)
      have HYZ := Lib.hid (show wE.drew.heap[w.heap.size + 1]? = some (.cells #[.slice none 0 0, .slice none 0 0, .slice none 0 0, .slice none 0 0] 51 (0, 0)) from HZ2.out.lies)
      have HBY := Lib.hid (be_drew (Below.refl wE.heap.size wE))
      refine wp_region_held_drew (S := fun x => x.heap[w.heap.size]? = some (.cells #[.slice q1 n1 c1, .slice q2 n2 c2, .slice q3 n3 c3, .slice q4 k c4] 51 (0, 0))) hmx HY.out (fun hHeld => ?_)
      generalize wE.drew = Y at *
      refine wpAnyH_take (i := 0) (v := .pointer (some ⟨w.heap.size, 0, none⟩)) rfl (by kernel_rfl) (by kernel_rfl) (by kernel_rfl) (fun _ _ _ h => h) (Or.inl ⟨by rfl, fun w hSw => by (skip); go_simp⟩) (by assumption) ?_
      try simp only [Act.put, List.setIfInBounds_toArray, List.set_cons_zero, List.set_cons_succ, List.getElem_toArray, List.getElem_cons_zero, List.getElem_cons_succ]
      refine wpAnyH_take (i := 1) (v := .slice q1 n1 c1) rfl (by kernel_rfl) (by kernel_rfl) (by kernel_rfl) (fun _ _ _ h => h) (Or.inl ⟨by rfl, fun w hSw => by (have s0 := cell_of (j := 0) hSw rfl); go_simp⟩) (by assumption) ?_
      try simp only [Act.put, List.setIfInBounds_toArray, List.set_cons_zero, List.set_cons_succ, List.getElem_toArray, List.getElem_cons_zero, List.getElem_cons_succ]
      refine wpAnyH_take (i := 3) (v := .slice p2 (n2 + 1) d2) rfl (by kernel_rfl) (by kernel_rfl) (by kernel_rfl) (fun _ _ _ h => h) (Or.inl ⟨by rfl, fun w hSw => by (skip); go_simp⟩) (by assumption) ?_
      try simp only [Act.put, List.setIfInBounds_toArray, List.set_cons_zero, List.set_cons_succ, List.getElem_toArray, List.getElem_cons_zero, List.getElem_cons_succ]
      refine wpAnyH_take (i := 4) (v := .pointer (some ⟨w.heap.size, 1, none⟩)) rfl (by kernel_rfl) (by kernel_rfl) (by kernel_rfl) (fun _ _ _ h => h) (Or.inl ⟨by rfl, fun w hSw => by (skip); go_simp⟩) (by assumption) ?_
      try simp only [Act.put, List.setIfInBounds_toArray, List.set_cons_zero, List.set_cons_succ, List.getElem_toArray, List.getElem_cons_zero, List.getElem_cons_succ]
      refine wpAnyH_take (i := 5) (v := .slice q2 n2 c2) rfl (by kernel_rfl) (by kernel_rfl) (by kernel_rfl) (fun _ _ _ h => h) (Or.inl ⟨by rfl, fun w hSw => by (have s0 := cell_of (j := 1) hSw rfl); go_simp⟩) (by assumption) ?_
      try simp only [Act.put, List.setIfInBounds_toArray, List.set_cons_zero, List.set_cons_succ, List.getElem_toArray, List.getElem_cons_zero, List.getElem_cons_succ]
      refine wpAnyH_take (i := 6) (v := .int .i64 (n2 : Int)) rfl (by kernel_rfl) (by kernel_rfl) (by kernel_rfl) (fun _ _ _ h => h) (Or.inl ⟨by rfl, fun w hSw => by (skip); go_simp⟩) (by assumption) ?_
      try simp only [Act.put, List.setIfInBounds_toArray, List.set_cons_zero, List.set_cons_succ, List.getElem_toArray, List.getElem_cons_zero, List.getElem_cons_succ]
      refine wpAnyH_take (i := 7) (v := .slice p2 n2 d2) rfl (by kernel_rfl) (by kernel_rfl) (by kernel_rfl) (fun _ _ _ h => h) (Or.inl ⟨by rfl, fun w hSw => by (skip); go_simp⟩) (by assumption) ?_
      try simp only [Act.put, List.setIfInBounds_toArray, List.set_cons_zero, List.set_cons_succ, List.getElem_toArray, List.getElem_cons_zero, List.getElem_cons_succ]
      refine wpAnyH_take (i := 8) (v := .pointer (some ⟨w.heap.size, 2, none⟩)) rfl (by kernel_rfl) (by kernel_rfl) (by kernel_rfl) (fun _ _ _ h => h) (Or.inl ⟨by rfl, fun w hSw => by (skip); go_simp⟩) (by assumption) ?_
      try simp only [Act.put, List.setIfInBounds_toArray, List.set_cons_zero, List.set_cons_succ, List.getElem_toArray, List.getElem_cons_zero, List.getElem_cons_succ]
      refine wpAnyH_take (i := 9) (v := .slice q3 n3 c3) rfl (by kernel_rfl) (by kernel_rfl) (by kernel_rfl) (fun _ _ _ h => h) (Or.inl ⟨by rfl, fun w hSw => by (have s0 := cell_of (j := 2) hSw rfl); go_simp⟩) (by assumption) ?_
      try simp only [Act.put, List.setIfInBounds_toArray, List.set_cons_zero, List.set_cons_succ, List.getElem_toArray, List.getElem_cons_zero, List.getElem_cons_succ]
      refine wpAnyH_take (i := 11) (v := .slice p5 (k + 1) d5) rfl (by kernel_rfl) (by kernel_rfl) (by kernel_rfl) (fun _ _ _ h => h) (Or.inl ⟨by rfl, fun w hSw => by (skip); go_simp⟩) (by assumption) ?_
      try simp only [Act.put, List.setIfInBounds_toArray, List.set_cons_zero, List.set_cons_succ, List.getElem_toArray, List.getElem_cons_zero, List.getElem_cons_succ]
      refine wpAnyH_take (i := 12) (v := .pointer (some ⟨w.heap.size, 3, none⟩)) rfl (by kernel_rfl) (by kernel_rfl) (by kernel_rfl) (fun _ _ _ h => h) (Or.inl ⟨by rfl, fun w hSw => by (skip); go_simp⟩) (by assumption) ?_
      try simp only [Act.put, List.setIfInBounds_toArray, List.set_cons_zero, List.set_cons_succ, List.getElem_toArray, List.getElem_cons_zero, List.getElem_cons_succ]
      refine wpAnyH_take (i := 13) (v := .slice q4 k c4) rfl (by kernel_rfl) (by kernel_rfl) (by kernel_rfl) (fun _ _ _ h => h) (Or.inl ⟨by rfl, fun w hSw => by (have s0 := cell_of (j := 3) hSw rfl); go_simp⟩) (by assumption) ?_
      try simp only [Act.put, List.setIfInBounds_toArray, List.set_cons_zero, List.set_cons_succ, List.getElem_toArray, List.getElem_cons_zero, List.getElem_cons_succ]
      refine wpAnyH_take (i := 14) (v := .int .i64 (k : Int)) rfl (by kernel_rfl) (by kernel_rfl) (by kernel_rfl) (fun _ _ _ h => h) (Or.inl ⟨by rfl, fun w hSw => by (skip); go_simp⟩) (by assumption) ?_
      try simp only [Act.put, List.setIfInBounds_toArray, List.set_cons_zero, List.set_cons_succ, List.getElem_toArray, List.getElem_cons_zero, List.getElem_cons_succ]
      refine wpAnyH_take (i := 15) (v := .slice p5 k d5) rfl (by kernel_rfl) (by kernel_rfl) (by kernel_rfl) (fun _ _ _ h => h) (Or.inl ⟨by rfl, fun w hSw => by (skip); go_simp⟩) (by assumption) ?_
      try simp only [Act.put, List.setIfInBounds_toArray, List.set_cons_zero, List.set_cons_succ, List.getElem_toArray, List.getElem_cons_zero, List.getElem_cons_succ]
      refine wpAnyH_ready (rs := [2]) (by kernel_rfl) (by simp) ?_
      refine AllReadyH.cons rfl (fun K1 hK1 => ?_) AllReadyH.nil
      go_simp
      go_at_call 42
      refine (HC1.out Y HBY.out).mono ?_
      rintro e wa ⟨g1, x1, m6, rfl, hba, hmoa, hHa, hSa⟩
      have HYa := Lib.hid ((hba.block _ (heap_lt HY.out)).trans HY.out)
      have HZa := Lib.hid ((hba.block _ (heap_lt HYZ.out)).trans HYZ.out)
      have HBa := Lib.hid (be_le HBY.out hba)
      have HMa := Lib.hid hmoa
      have HHa := Lib.hid hHa
      have HSa := Lib.hid hSa
      clear hba hmoa hHa hSa
      refine hK1.out _ _ HYa.out (fun hHeld => ?_)
      clear hK1 K1
      try simp only [Act.put, List.setIfInBounds_toArray, List.set_cons_zero, List.set_cons_succ, List.getElem_toArray, List.getElem_cons_zero, List.getElem_cons_succ]
      refine wpAnyH_ready (rs := [10]) (by kernel_rfl) (by simp) ?_
      refine AllReadyH.cons rfl (fun K2 hK2 => ?_) AllReadyH.nil
      go_simp
      go_at_call 42
      refine (HC3.out wa m6 HBa.out HHa.out).mono ?_
      rintro e wb ⟨g3, x3, m7, rfl, hbb, hmob, hHb, hSb⟩
      have HYb := Lib.hid ((hbb.block _ (heap_lt HYa.out)).trans HYa.out)
      have HZb := Lib.hid ((hbb.block _ (heap_lt HZa.out)).trans HZa.out)
      have HBb := Lib.hid (be_le HBa.out hbb)
      have HMb := Lib.hid hmob
      have HHb := Lib.hid hHb
      have HSb := Lib.hid hSb
      clear hbb hmob hHb hSb
      refine hK2.out _ _ HYb.out (fun hHeld => ?_)
      clear hK2 K2
      try simp only [Act.put, List.setIfInBounds_toArray, List.set_cons_zero, List.set_cons_succ, List.getElem_toArray, List.getElem_cons_zero, List.getElem_cons_succ]
      refine wpAnyH_take (i := 16) (v := .agg #[.slice g1 n1 x1, .slice p2 n2 d2, .slice g3 n3 x3, .slice p5 k d5]) rfl (by kernel_rfl) (by kernel_rfl) (by kernel_rfl) (fun _ _ _ h => h) (Or.inl ⟨by rfl, fun w hSw => by (skip); go_simp⟩) (by assumption) ?_
      try simp only [Act.put, List.setIfInBounds_toArray, List.set_cons_zero, List.set_cons_succ, List.getElem_toArray, List.getElem_cons_zero, List.getElem_cons_succ]
      refine wpAnyH_ready (rs := [17]) (by kernel_rfl) (by simp) ?_
      refine AllReadyH.cons rfl (fun K3 hK3 => ?_) AllReadyH.nil
      have k0 := cell_of (j := 0) HZb.out rfl
      have l0 := free_of (j := 0) HZb.out
      have k1 := cell_of (j := 1) HZb.out rfl
      have l1 := free_of (j := 1) HZb.out
      have k2 := cell_of (j := 2) HZb.out rfl
      have l2 := free_of (j := 2) HZb.out
      have k3 := cell_of (j := 3) HZb.out rfl
      have l3 := free_of (j := 3) HZb.out
      go_simp
      refine hK3.out _ _ (heap_other (heap_other (heap_other (heap_other HYb.out (by omega)) (by omega)) (by omega)) (by omega)) (fun hHeld => ?_)
      clear hK3 K3
      try simp only [Act.put, List.setIfInBounds_toArray, List.set_cons_zero, List.set_cons_succ, List.getElem_toArray, List.getElem_cons_zero, List.getElem_cons_succ]
      refine wpAnyH_done (by kernel_rfl) ?_ _
      clear k0 k1 k2 k3 l0 l1 l2 l3 HYb HYa HY hHeld
      try go_wp2
      (try simp only [Exit.inBlock, Exit.then])
      obtain ⟨d9, u1, u2⟩ := undMo
      have hx3 := heap_set (heap_set (heap_set (heap_set HZb.out 0 (.slice g1 n1 x1)) 1 (.slice p2 n2 d2)) 2 (.slice g3 n3 x3)) 3 (.slice p5 k d5)
      refine bodyPost_ret (results_cell_row rfl _ _ (w.heap.size + 1) 51 _ (0,0) d9 rfl hx3 u1 (by cases d9 <;> first | rfl | cases u2) sizeMo) rfl ?_
      have h0 : m7 (w.heap.size + 1) = none := HMb.out.new _ (HMa.out.new _ HZ2.out.new (heap_lt HYZ.out)) (heap_lt HZa.out)
      have st : ∀ (W : World) i v, Has W m7 → Has (W.setCell ⟨w.heap.size + 1, i, none⟩ v) m7 := fun W i v h => h.chg ((Chg.refl (fun k => k = w.heap.size + 1) W).setCell (.inl rfl) v) (fun k e => by rw [e]; exact h0)
      have hq : w.heap.size ≤ w.heap.size + 1 := Nat.le_succ _
      refine ⟨_, m7, rfl, ((((HBE.out _ HBb.out).setCell hq _).setCell hq _).setCell hq _).setCell hq _, (HK2.out.more.trans HMa.out (HBE.out _ HBY.out).size).trans HMb.out (HBE.out _ HBa.out).size, st _ 3 _ (st _ 2 _ (st _ 1 _ (st _ 0 _ HHb.out))), ?_⟩
      exact ⟨_, _, _, _, rfl, HSa.out.le (mle_cle HMb.out.le), HS2.out.le (mle_cle (HLE5.out.trans (HMa.out.le.trans HMb.out.le))), HSb.out, HS4.out.le (mle_cle (HMa.out.le.trans HMb.out.le))⟩
end Go.Proofs.Ytahnhohccbnhjaa
