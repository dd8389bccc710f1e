/- GraphEdges: the law's walk. -/
import Derived.Test.YthgcnlccikpmaaaGrEb
namespace Go.Proofs.Ythgcnlccikpmaaa
open Go Go.RowKit Go.Proofs.Mm
attribute [local go_sem] Oper.semAt_some
section
variable (lv : Int) (qp : Option Addr) (np cp : Nat) (qr : Option Addr) (nr cr : Nat) (lo stk : Int) (qc : Option Addr) (nc cc : Nat)
set_option maxRecDepth 100000 in
set_option maxHeartbeats 8000000 in
theorem edges_walk {w : World} {f : FnM} {code : Cd} (h : FnR1 false (wC w) [.int .u64 lv, .slice qp np cp, .slice qr nr cr, .int .i64 lo, .int .i64 stk, .slice qc nc cc] f) (hf : f.code = code) (hn : code.length = nc) (hI : InAt (wC w) qc code) (hm : nc ≤ cc) (hm2 : cc ≤ maxLen) (s : Int) :
    Calls Try.prog 4 #[fnV lv qp np cp qr nr cr lo stk qc nc cc, .int .i64 s] w fun e w' => e = .returned (.bool true) ∧ Below w.heap.size w w' := by
  have HAW := Lib.hid (fun W => awake_true W)
  have HL := Lib.hid (fun (W : World) (hb : Below w.heap.size w W) => lent_g (h.le (below_cle hb)) hf hn)
  have HI := Lib.hid hI
  have HEf := Lib.hid (fun (lv : Int) (qp : Option Addr) (np cp : Nat) (qr : Option Addr) (nr cr : Nat) (lo stk : Int) (qc : Option Addr) (nc cc : Nat) (W : World) (h : CdR true (wC W) (.slice qc nc cc) code) => edgesFn_any lv qp np cp qr nr cr lo stk qc nc cc h)
  have HFN := Lib.hid func_nil
  have HNx := Lib.hid (fun (W : World) (hb : Below w.heap.size w W) (a : Int) => refNext_any lv qp np cp qr nr cr lo stk qc nc cc (inAt_le qc hI hb) hn hm hm2 a)
  clear h hf hI
  refine (callsIn_wide (n := 5)).1 ?_
  refine callsIn_of_wp_marks Try.func4 rfl trivial ?_ rfl
  simp only [Try.ntmps4, List.size_toArray, List.length_cons, List.length_nil, Nat.reduceAdd, Nat.reduceSub, Array.replicate_succ, Array.replicate_zero, List.push_toArray, List.append_toArray, List.nil_append, List.cons_append]
  by_cases h200 : nc ≤ 200
  · have h200i : (nc : Int) ≤ 200 := by omega
    gi_wp2_with fail
    obtain ⟨W0, hW⟩ : ∃ W, (w.alloc (.cells (fnC lv qp np cp qr nr cr lo stk qc nc cc) 27)).alloc (.cells #[.int .i64 s] 3) = W := ⟨_, rfl⟩
    have HB0 := Lib.hid (show Below w.heap.size w W0 by rw [← hW]; exact bl_al (below_al _) _)
    have HF0 := Lib.hid (show InB W0 w.heap.size (fnC lv qp np cp qr nr cr lo stk qc nc cc) 27 by rw [← hW]; exact heap_new _ _ (InB.new _ _ _))
    have HU0 := Lib.hid (show InB W0 (w.heap.size + 1) #[.int .i64 s] 3 by rw [← hW]; exact InB.new' _ _ (by simp))
    have HS0 := Lib.hid (show W0.heap.size = w.heap.size + 2 by rw [← hW]; simp)
    try rw [hW]
    clear hW
    refine ⟨trivial, (callsIn_wide.2 (HL.out W0 HB0.out)).mono ?_⟩
    rintro e W1 ⟨qp', cp', qr', cr', qL, cL, m', rfl, hb1, hH1, hm1, hL1⟩
    obtain ⟨g, o, rfl, hgB, hLB⟩ := lent_cells hL1 hH1 hm1
    have hCL := hL1.le (show CLe (mC m') (wC W1) from has_cle hH1)
    gi_wp2_with fail
    obtain ⟨W2, hW⟩ : ∃ W, W1.alloc (.cells (fnC lv qp' np cp' qr' nr cr' lo stk (some ⟨g, o, none⟩) nc cL) 27) = W := ⟨_, rfl⟩
    have hb2 : Below W1.heap.size W1 W2 := by rw [← hW]; exact below_al _
    have hs2 : W2.heap.size = W1.heap.size + 1 := by rw [← hW]; simp
    have hi2 : InB W2 W1.heap.size (fnC lv qp' np cp' qr' nr cr' lo stk (some ⟨g, o, none⟩) nc cL) 27 := by rw [← hW]; exact InB.new _ _ _
    try rw [hW]
    clear hW
    refine ⟨trivial, (callsIn_wide.2 (HEf.out lv qp' np cp' qr' nr cr' lo stk (some ⟨g, o, none⟩) nc cL W2 (hCL.le (below_cle hb2)))).mono ?_⟩
    rintro e W3 ⟨E, q', c', rfl, hE, hIE, hOw, hb3⟩
    obtain ⟨hC3, hm3, hm4⟩ := own_code hOw hn.symm
    have hS0 := HS0.out
    have hgl : g < W1.heap.size := by obtain ⟨_, _, e, _⟩ := hLB; exact heap_lt e
    have hb13 : Below W1.heap.size W1 W3 := hb2.trans (hb3.mono (by omega))
    have hb03 : Below W0.heap.size W0 W3 := hb1.trans (hb13.mono hb1.size)
    have HM := Lib.hid (show Gm w (fnC lv qp np cp qr nr cr lo stk qc nc cc) (fnC lv qp' np cp' qr' nr cr' lo stk (some ⟨g, o, none⟩) nc cL) (fZ (.slice q' nc c')) W1.heap.size E g o nc q' code s W3 from
      ⟨HB0.out.trans (hb03.mono HB0.out.size), HF0.out.le hb03, HU0.out.le hb03, hi2.le hb3, hIE, hC3, hLB.le hb13, by omega, hgl, by omega, fun g' o' e => by have := (hOw.lt g' (by rw [e]; rfl)).1; omega⟩)
    have HEI := Lib.hid (show W1.heap.size < E ∧ (∀ g' o', q' = some ⟨g', o', none⟩ → W1.heap.size < g') from ⟨by omega, fun g' o' e => by have := (hOw.lt g' (by rw [e]; rfl)).1; omega⟩)
    have hq3 : ∀ k, q' = some k → k.block < W3.heap.size := fun k e => by
      subst e
      have := (hOw.lt k.block rfl).2
      exact this
    have HQ3 := Lib.hid hq3
    have HE3 := Lib.hid (heap_lt hIE)
    obtain ⟨B1, hB1⟩ : ∃ B, W1.heap.size = B := ⟨_, rfl⟩
    rw [hB1] at HM HEI
    have hfn := func_nil #[.pointer (some ⟨E, 0, none⟩)] W3
    have HMm := Lib.hid (show nc ≤ c' ∧ c' ≤ maxLen from ⟨hm3, hm4⟩)
    clear hb1 hH1 hm1 hL1 hgB hLB hCL hb2 hs2 hi2 hE hIE hOw hb3 hC3 hm3 hm4 hS0 hgl hb13 hb03 HB0 HF0 HU0 HS0 hq3
    try rw [hB1]
    clear hB1
    have g0 := HM.out.u
    have g1 := cell_of g0 (j := 0) rfl
    have g2 := free_of g0 (j := 0)
    obtain ⟨K, hK⟩ : ∃ K, W3.heap.size = K := ⟨_, rfl⟩
    obtain ⟨s1, W5, HM5, hW5, hs1⟩ : ∃ s1 W5, Hid (Gm w (fnC lv qp np cp qr nr cr lo stk qc nc cc) (fnC lv qp' np cp' qr' nr cr' lo stk (some ⟨g, o, none⟩) nc cL) (fZ (.slice q' nc c')) B1 E g o nc q' code s1 W5 ∧ W5.heap.size = K) ∧ (if s < 1 then W3.setCell ⟨w.heap.size + 1, 0, none⟩ (.int .i64 1) else W3) = W5 ∧ Hid ((if s < 1 then 1 else s) = s1) := by
      by_cases hs : s < 1
      · exact ⟨1, _, Lib.hid ⟨by rw [if_pos hs]; exact HM.out.upto 1, by rw [if_pos hs]; simp [World.setCell, hK]⟩, rfl, Lib.hid (by rw [if_pos hs])⟩
      · exact ⟨s, _, Lib.hid ⟨by rw [if_neg hs]; exact HM.out, by rw [if_neg hs]; exact hK⟩, rfl, Lib.hid (by rw [if_neg hs])⟩
    obtain ⟨W6, hW6⟩ : ∃ W6, W5.alloc (.cells #[.int .i64 0] 3) = W6 := ⟨_, rfl⟩
    have HM6 := Lib.hid (show Gm w (fnC lv qp np cp qr nr cr lo stk qc nc cc) (fnC lv qp' np cp' qr' nr cr' lo stk (some ⟨g, o, none⟩) nc cL) (fZ (.slice q' nc c')) B1 E g o nc q' code s1 W6 from HM5.out.1.later (by rw [← hW6]; exact below_al _))
    have hK6 : Boxed W6 K 3 (.int .i64 ((0 : Nat) : Int)) := by rw [← hW6, ← HM5.out.2]; exact Boxed.new _ _ _
    have hsz6 : W6.heap.size = K + 1 := by rw [← hW6, ← HM5.out.2]; simp
    have hEK : B1 < K ∧ E < K ∧ ∀ g' o', q' = some ⟨g', o', none⟩ → g' < K := by
      rw [← hK]
      exact ⟨Nat.lt_trans HEI.out.1 HE3.out, HE3.out, fun g' o' e => HQ3.out _ e⟩
    have hED : Ed 0 none 0 0 none 0 0 0 0 q' nc c' (Sk K) E code W6 := ⟨fun j v e => cell_of HM6.out.e e, HM6.out.c, fun k e => by rw [show k = K from e]; omega, fun e => by have : E = K := e; omega, fun i hi g' o' e e2 => by have := hEK.2.2 g' o' e; have : g' = K := e2; omega⟩
    have hSq := edges_stops 0 none 0 0 none 0 0 0 0 q' nc c' (5 - 1) (sk_below K) hED hn HMm.out.1 HMm.out.2 (by omega)
    have hel : (edgK code code.length).length ≤ 400 := by have := edgK_len code code.length; omega
    have HEK := Lib.hid hEK
    have HSQ := Lib.hid hSq
    have HK6 := Lib.hid hK6
    have HEL := Lib.hid hel
    have HSZ6 := Lib.hid hsz6
    clear g0 hK6 hED hSq hel hEK hsz6 HM5 HM HEI HQ3 HE3 HEf HL HI HFN
    have HW6 := Lib.hid hW6
    have HKe := Lib.hid hK
    clear hW6 hK
    by_cases hs : s < 1
    · rw [if_pos hs] at hW5
      have HW5 := Lib.hid hW5
      clear hW5
      gi_wp2_with fail
      try rw [HW5.out]
      try rw [HW6.out]
      try rw [HKe.out]
      clear HW5 HW6 HKe g1 g2 hfn
      have hS6 : W6.heap.size = K + 1 := HSZ6.out
      refine wpIn_rangeFunc_ownF rfl (by omega) (gf := 40) (lb := #[.pointer (some ⟨E, 0, none⟩)]) rfl trivial (enters_of Try.func40 (by kernel_rfl) rfl) HSQ.out (fun h k => h.trans k) (fun W l o o' h1 h2 h3 _ => sk_put (n := W6.heap.size) (by omega) W l o o' h1 h2 h3) (Below.refl _ _) (fun _ => rfl)
        (fun (pre : List (Nat × Nat)) W => Boxed W K 3 (.int .i64 (pre.length : Nat)) ∧ Gm w (fnC lv qp np cp qr nr cr lo stk qc nc cc) (fnC lv qp' np cp' qr' nr cr' lo stk (some ⟨g, o, none⟩) nc cL) (fZ (.slice q' nc c')) B1 E g o nc q' code s1 W)
        (fun c _ W => c = .exit 0 ∧ Boxed W K 3 (.int .i64 s1) ∧ Gm w (fnC lv qp np cp qr nr cr lo stk qc nc cc) (fnC lv qp' np cp' qr' nr cr' lo stk (some ⟨g, o, none⟩) nc cL) (fZ (.slice q' nc c')) B1 E g o nc q' code s1 W)
        (OwnFrom.and (Own.from (boxed_own _ _ _) _) fun _ _ _ _ h hg hr => h.grown hg (fun r e => (hr r e).1) (by have := HEK.out; refine ⟨by omega, by omega, fun g' o' e => ?_⟩; have := HEK.out.2.2 g' o' e; omega))
        (fun c => fun _ A B row hs hg hr => ⟨hs.1, (OwnFrom.and (Own.from (boxed_own (β := List (Nat × Nat)) K 3 (fun _ => .int .i64 s1)) W6.heap.size) (fun _ _ _ _ h hg hr => Gm.grown h hg (fun r e => (hr r e).1) (by have := HEK.out; refine ⟨by omega, by omega, fun g' o' e => ?_⟩; have := HEK.out.2.2 g' o' e; omega))) [] A B row hs.2 hg hr⟩)
        ⟨HK6.out, HM6.out⟩
        (fun x => { tmps := #[fnV lv qp np cp qr nr cr lo stk qc nc cc, .int .i64 s, .pointer (some ⟨w.heap.size, 0, none⟩), .pointer (some ⟨w.heap.size + 1, 0, none⟩), .bool false, .int .i64 nc, .pointer (some ⟨B1, 0, none⟩), .func (.func 40) #[] #[.pointer (some ⟨E, 0, none⟩)], .pointer (some ⟨K, 0, none⟩), undef, undef, undef, undef, undef, undef, undef, undef, .pointer (some ⟨w.heap.size, 5, none⟩), .slice qc nc cc, .int .i64 nc, .int .i64 nc, .bool (decide ((200 : Int) < nc)), undef, .agg #[.int .u64 lv, .slice qp np cp, .slice qr nr cr, .int .i64 lo, .int .i64 stk, .slice qc nc cc], fnV lv qp' np cp' qr' nr cr' lo stk (some ⟨g, o, none⟩) nc cL, fnV lv qp' np cp' qr' nr cr' lo stk (some ⟨g, o, none⟩) nc cL, .func (.func 40) #[] #[.pointer (some ⟨E, 0, none⟩)], .func (.func 40) #[] #[.pointer (some ⟨E, 0, none⟩)], .bool false, .int .i64 s, .bool true, .func (.func 40) #[] #[.pointer (some ⟨E, 0, none⟩)], .int .i64 (x.1 : Nat), .int .i64 (x.2 : Nat), undef, undef, undef, undef, undef, undef, undef, undef, undef, undef, undef, undef, undef, undef, undef, undef, undef, undef, undef, undef, undef, undef, undef, undef, undef, undef, undef, undef, undef, undef, undef, undef, undef, undef, undef, undef, undef, undef, undef, undef, undef, undef, undef, undef, undef, undef, undef, undef, undef, undef, undef, undef, undef, undef, undef, undef, undef, undef, undef, undef, undef, undef, undef, undef, undef], defers := [] }) ?assign ?body ?done ?stop
      case assign =>
        intro l x W K hK
        gi_wp2
        exact hK
      case body =>
        rintro l pre x W ⟨hb, hG⟩ hlt
        have hel := HEL.out
        have hpl : (pre.length : Int) + 1 ≤ 401 := by omega
        have hKU : w.heap.size + 1 < K := by have := HEK.out; have := hG.d; omega
        have c1 := hb.cell
        have c2 := hb.frozen
        have c3 := cell_of hG.u (j := 0) rfl
        have hch := Chg.setCell (S := fun k => k = K) (p := ⟨K, 0, none⟩) (Chg.refl _ W) (.inl rfl) (.int .i64 ((pre.length : Int) + 1))
        have hGn := hG.other hch (fun k e => by obtain ⟨e1, e2, e3⟩ := HEK.out; have e : k = K := e; refine ⟨by omega, by omega, fun g' o' e' => by have := e3 g' o' e'; omega⟩)
        have hbn := hb.set (.int .i64 ((pre.length : Int) + 1))
        have HKn := Lib.hid (show KeepsOthers W (W.setCell ⟨K, 0, none⟩ (.int .i64 ((pre.length : Int) + 1))) ∧ KpS (Sk K) W (W.setCell ⟨K, 0, none⟩ (.int .i64 ((pre.length : Int) + 1))) from ⟨KeepsOthers.setCell _ _ _, sk_set _ hb.lt⟩)
        have HGn := Lib.hid hGn
        have HBn := Lib.hid hbn
        clear hch hGn hbn hb hG hlt hel
        by_cases hk : (pre.length : Int) + 1 = s1
        · have hkb : ((pre.length : Int) + 1 == s1) = true := by simpa using hk
          have HK := Lib.hid hk
          clear hk
          gi_wp2
          exact ⟨HKn.out.1, rfl, by rw [← HK.out]; exact HBn.out, HGn.out⟩
        · have hkb : ((pre.length : Int) + 1 == s1) = false := by simpa using hk
          clear hk
          gi_wp2
          exact ⟨HKn.out.1, HKn.out.2, by rw [List.length_append]; exact HBn.out, HGn.out⟩
      case' done =>
        rintro D xs W hD hS ⟨hb, hG⟩ hK
        obtain ⟨kk, HRs, HKK⟩ : ∃ kk, Hid (Rs w (fnC lv qp np cp qr nr cr lo stk qc nc cc) (fnC lv qp' np cp' qr' nr cr' lo stk (some ⟨g, o, none⟩) nc cL) (fZ (.slice q' nc c')) B1 E g o nc q' code s1 K D kk W) ∧ Hid (kk = s1 ∨ kk = ((edgK code code.length).length : Nat)) := ⟨_, Lib.hid ⟨hG, hb, hK, by have := hG.d; have := HEK.out; omega, by have := hG.d; have := HEK.out; omega⟩, Lib.hid (.inr (by rw [hS]))⟩
        have HDw := Lib.hid (show w.heap.size ≤ D by have := hG.d; have := HEK.out; have := HSZ6.out; omega)
        clear hb hG hK hS
      case' stop =>
        rintro D cc pre W hD _ ⟨rfl, hb, hG⟩ hK
        obtain ⟨kk, HRs, HKK⟩ : ∃ kk, Hid (Rs w (fnC lv qp np cp qr nr cr lo stk qc nc cc) (fnC lv qp' np cp' qr' nr cr' lo stk (some ⟨g, o, none⟩) nc cL) (fZ (.slice q' nc c')) B1 E g o nc q' code s1 K D kk W) ∧ Hid (kk = s1 ∨ kk = ((edgK code code.length).length : Nat)) := ⟨_, Lib.hid ⟨hG, hb, hK, by have := hG.d; have := HEK.out; omega, by have := hG.d; have := HEK.out; omega⟩, Lib.hid (.inl rfl)⟩
        have HDw := Lib.hid (show w.heap.size ≤ D by have := hG.d; have := HEK.out; have := HSZ6.out; omega)
        clear hb hG hK
      all_goals
        gi_wp2_with fail
        gi_loopw [9] (fun t wr => ∃ i : Nat, i ≤ nc ∧ t = .int .i64 i ∧ Hid (Rs w (fnC lv qp np cp qr nr cr lo stk qc nc cc) (fnC lv qp' np cp' qr' nr cr' lo stk (some ⟨g, o, none⟩) nc cL) (fZ (.slice q' nc c')) B1 E g o nc q' code s1 K D kk wr)) (fun t _ => nc - (intOf t).toNat)
        case atStart => exact ⟨0, by omega, rfl, HRs⟩
        case round =>
          clear HRs
          obtain ⟨i, hi, rfl, HR⟩ := hrel
          have h5 := cell_of HR.out.m.i (j := 5) rfl
          by_cases hlt : i < nc
          · have hii : (i : Int) < (nc : Int) := by omega
            obtain ⟨u1, hu1⟩ := HR.out.m.l.cell (j := i * 2) (by omega)
            obtain ⟨u2, hu2⟩ := HR.out.m.l.cell (j := i * 2 + 1) (by omega)
            rw [show o + (i * 2 + 1) = o + i * 2 + 1 from rfl] at hu2
            have hf1 := HR.out.m.l.free (o + i * 2)
            have hf2 := HR.out.m.l.free (o + i * 2 + 1)
            have HRn := Lib.hid ((HR.out.put (o + i * 2) (.int .i64 46)).put (o + i * 2 + 1) (.int .i64 0))
            gi_wp2
            exact ⟨⟨i + 1, by omega, rfl, HRn⟩, by simp only [intOf]; omega⟩
          · obtain rfl : nc = i := by omega
            clear hi hlt
            obtain ⟨B2, hB2⟩ : ∃ B, wr.heap.size = B := ⟨_, rfl⟩
            have HBB : Hid (B1 < B2 ∧ E < B2 ∧ (∀ g' o', q' = some ⟨g', o', none⟩ → g' < B2) ∧ K < B2 ∧ D < B2) := Lib.hid (by
              rw [← hB2]
              have e1 := HR.out.k.lt
              have e2 := heap_lt HR.out.d
              obtain ⟨e3, e4, e5⟩ := HEK.out
              exact ⟨by omega, by omega, fun g' o' e => by have := e5 g' o' e; omega, e1, e2⟩)
            have HBs := Lib.hid (show B2 ≤ wr.heap.size by omega)
            clear hB2
            gi_wp2_with fail
            gi_loopw [10, 11] (fun v t wr => ∃ a : Nat, a ≤ nc ∧ t = .int .i64 a ∧ Hid (Rs w (fnC lv qp np cp qr nr cr lo stk qc nc cc) (fnC lv qp' np cp' qr' nr cr' lo stk (some ⟨g, o, none⟩) nc cL) (fZ (.slice q' nc c')) B1 E g o nc q' code s1 K D kk wr) ∧ Hid (OwnI B2 wr v (fl2 (edgK code a))) ∧ Hid (B2 ≤ wr.heap.size)) (fun _ t _ => nc - (intOf t).toNat)
            case atStart => exact ⟨0, by omega, rfl, HR, Lib.hid (World.ownsRow_nil _ _ _ _), HBs⟩
            case round =>
              clear HR h5 HBs
              obtain ⟨a, ha, rfl, HR, HV, HBs⟩ := hrel
              by_cases hlt : a < nc
              · have hai : (a : Int) < (nc : Int) := by omega
                have g0 := HR.out.m.f.cell (j := 0) rfl
                have g1 := HR.out.m.f.cell (j := 1) rfl
                have g2 := HR.out.m.f.cell (j := 2) rfl
                have g3 := HR.out.m.f.cell (j := 3) rfl
                have g4 := HR.out.m.f.cell (j := 4) rfl
                have g5 := HR.out.m.f.cell (j := 5) rfl
                gi_wp2_with fail
                refine ⟨trivial, (callsIn_wide.2 (HNx.out wr HR.out.m.b (a : Nat))).mono ?_⟩
                rintro e V2 ⟨vl, rfl, hO, hb⟩
                obtain ⟨ql, cl, rfl⟩ := own_shape hO
                have HR2 := Lib.hid (HR.out.later hb)
                have HS2 := Lib.hid (Nat.le_trans HBs.out hb.size)
                have HV2 := Lib.hid (own_chg HV.out (Below.chg hb (Nat.le_refl _) (fun _ => False)) (fun _ _ e => e))
                have HO2 := Lib.hid (own_base hO (Nat.zero_le _))
                have HD2 := Lib.hid (fun k (e : Value.ownBlock u10 = some k) g' o' (e' : ql = some ⟨g', o', none⟩) => (show g' ≠ k from by
                  have e1 := (HV.out.lt k e).2
                  have e2 := (hO.lt g' (by rw [e']; rfl)).1
                  omega))
                obtain ⟨nl, hnl⟩ : ∃ nl, (nxt code (a : Int)).length = nl := ⟨_, rfl⟩
                have HNL := Lib.hid hnl
                rw [hnl] at HO2 ⊢
                clear hO hb g0 g1 g2 g3 g4 g5 HR HV hnl HBs
                have hnl2 : nl ≤ 2 := by rw [← HNL.out]; exact nxt_len code (a : Int)
                gi_wp2_with fail
                gi_loopw [10, 13] (fun v t wr => ∃ k : Nat, k ≤ nl ∧ t = .int .i64 k ∧ Hid (Rs w (fnC lv qp np cp qr nr cr lo stk qc nc cc) (fnC lv qp' np cp' qr' nr cr' lo stk (some ⟨g, o, none⟩) nc cL) (fZ (.slice q' nc c')) B1 E g o nc q' code s1 K D kk wr) ∧ Hid (OwnI B2 wr v (fl2 (edgK code a ++ ((nxt code (a : Int)).take k).map fun (y : Nat) => (a, y)))) ∧ Hid (wr.ownsRow 0 3 1 (.slice ql nl cl) nl (cI (nxt code (a : Int)))) ∧ Hid (∀ k', v.ownBlock = some k' → ∀ g' o', ql = some ⟨g', o', none⟩ → g' ≠ k') ∧ Hid (B2 ≤ wr.heap.size)) (fun _ t _ => nl - (intOf t).toNat)
                case atStart => exact ⟨0, by omega, rfl, HR2, Lib.hid (by rw [List.take_zero, List.map_nil, List.append_nil]; exact HV2.out), HO2, HD2, HS2⟩
                case round =>
                  clear HR2 HV2 HO2 HD2 HS2
                  obtain ⟨k, hk, rfl, HR, HV, HO, HD, HBs⟩ := hrel
                  by_cases hlt : k < nl
                  · have hki : (k : Int) < (nl : Int) := by omega
                    have hO' : OwnI 0 wr (.slice ql nl cl) (nxt code (a : Int)) := by unfold OwnI; rw [HNL.out]; exact HO.out
                    obtain ⟨gl, e0, hcl, _, hnc1, hmx, _, hgl⟩ := hO'.at HNL.out.symm k hlt
                    subst e0
                    obtain ⟨i0, hi, hz0, hz1, hz2⟩ := infoN
                    obtain ⟨qv, cv, e0⟩ := own_shape HV.out
                    obtain ⟨b, hb⟩ : ∃ b, (nxt code (a : Int)).getD k 0 = b := ⟨_, rfl⟩
                    have hbk : (nxt code (a : Int))[k]? = some b := by
                      rw [← hb, List.getD_eq_getElem?_getD, List.getElem?_eq_getElem (by rw [HNL.out]; exact hlt)]
                      rfl
                    rw [hb] at hcl
                    subst e0
                    obtain ⟨m, hm'⟩ : ∃ m, (fl2 (edgK code a ++ ((nxt code (a : Int)).take k).map fun (y : Nat) => (a, y))).length = m := ⟨_, rfl⟩
                    have hmb : m ≤ 1000 := by
                      rw [← hm', fl2_len, List.length_append, List.length_map]
                      have e1 := edgK_len code a
                      have e2 := List.length_take_le k (nxt code (a : Int))
                      omega
                    have hr0 : wr.ownsRow B2 3 1 (.slice qv m cv) m (cI (fl2 (edgK code a ++ ((nxt code (a : Int)).take k).map fun (y : Nat) => (a, y)))) := by have := HV.out; unfold OwnI at this; rw [hm'] at this; exact this
                    rw [hm'] at HD ⊢
                    have HR0 := Lib.hid hr0
                    have HMM := Lib.hid hm'
                    have HBK := Lib.hid hbk
                    have hBs := HBs.out
                    clear hO' hb hbk HV hm' hr0
                    gi_wp2_with (gi_at_builtin; refine wpListIn_append_own_at _ rfl _ _ 31 rfl B2 3 i0 _ 1 8 und_N hi hz0 hz1 hz2 rfl (by decide) _ _ _ rfl (HR0.out.alloc _) ⟨wr.heap.size, 0, none⟩ 2 2 [.int .i64 (a : Nat), .int .i64 (b : Nat)] rfl rfl (row_new wr [.int .i64 (a : Nat), .int .i64 (b : Nat)] 3) (by intro u hu; simp at hu; rcases hu with rfl | rfl <;> rfl) (by unfold maxLen; omega) (by omega) (by simp; omega) ?_)
                    intro v' w9 hown9 hgrow9 _ hat9
                    obtain ⟨qw, cw, rfl⟩ := own_shape hown9
                    have HR9 := Lib.hid ((HR.out.later (below_al _)).grown hgrow9 (fun r e => (HR0.out.lt r e).1) HBB.out)
                    have HV9 : Hid (OwnI B2 w9 (.slice qw (m + 2) cw) (fl2 (edgK code a ++ ((nxt code (a : Int)).take (k + 1)).map fun (y : Nat) => (a, y)))) := Lib.hid (by
                      unfold OwnI
                      rw [edgK_part HBK.out, fl2_snoc, List.length_append, HMM.out, cI_app]
                      rw [← List.map_take] at hown9
                      exact hown9)
                    have HO9 := Lib.hid (own_chg (own_chg HO.out (Below.chg (below_al _) (Nat.le_refl _) (fun _ => False)) (fun _ _ e => e)) (grown_chg hgrow9 (S := fun k' => (Value.slice qv m cv).ownBlock = some k') (fun k' e => .inl e)) (fun k' e e2 => HD.out k' e2 gl 0 rfl (by injection e)))
                    have HD9 : Hid (∀ k', (Value.slice qw (m + 2) cw).ownBlock = some k' → ∀ g' o', (some ⟨gl, 0, none⟩ : Option Addr) = some ⟨g', o', none⟩ → g' ≠ k') := Lib.hid (by
                      intro k' e g' o' e'
                      injection e' with e'
                      injection e' with e' _ _
                      subst e'
                      rcases hat9 with h | h
                      · exact HD.out k' (by rw [← h]; exact e) gl 0 rfl
                      · rw [h] at e; injection e with e; omega)
                    have HS9 : Hid (B2 ≤ w9.heap.size) := Lib.hid (by have := hgrow9.size; rw [World.size_alloc] at this; omega)
                    clear hown9 hgrow9 hat9 hBs HBs HR HO HD HR0 HMM HBK hcl hmb
                    gi_wp2
                    exact ⟨⟨k + 1, by omega, rfl, HR9, HV9, HO9, HD9, HS9⟩, by simp only [intOf]; omega⟩
                  · obtain rfl : nl = k := by omega
                    have HV3 : Hid (OwnI B2 wr u10 (fl2 (edgK code (a + 1)))) := Lib.hid (by have := HV.out; rw [← HNL.out, edgK_full] at this; exact this)
                    clear HV HO HD hnl2
                    gi_wp2
                    exact ⟨⟨a + 1, by omega, rfl, HR, HV3, HBs⟩, by simp only [intOf]; omega⟩
              · obtain rfl : nc = a := by omega
                obtain ⟨qw, cw, e0⟩ := own_shape HV.out
                subst e0
                obtain ⟨ln, hln⟩ : ∃ ln, (fl2 (edgK code nc)).length = ln := ⟨_, rfl⟩
                have HLN := Lib.hid hln
                have HV' : Hid (wr.ownsRow B2 3 1 (.slice qw ln cw) ln (cI (fl2 (edgK code nc)))) := Lib.hid (by rw [← hln]; exact HV.out)
                rw [hln]
                clear hln HV
                gi_wp2_with fail
                obtain ⟨G, hG⟩ : ∃ G, wr.heap.size = G := ⟨_, rfl⟩
                obtain ⟨W7, hW7⟩ : ∃ W7, wr.alloc (.cells #[.slice none 0 0] 31) = W7 := ⟨_, rfl⟩
                have hBG : B1 < G ∧ E < G ∧ (∀ g' o', q' = some ⟨g', o', none⟩ → g' < G) ∧ K < G ∧ D < G := by
                  obtain ⟨e1, e2, e3, e4, e5⟩ := HBB.out
                  have := HBs.out
                  rw [hG] at this
                  exact ⟨by omega, by omega, fun g' o' e => by have := e3 g' o' e; omega, by omega, by omega⟩
                have HBG := Lib.hid hBG
                have hb7 : Below wr.heap.size wr W7 := by rw [← hW7]; exact below_al _
                have hR7 := HR.out.later hb7
                have hV7 := own_chg HV'.out (Below.chg hb7 (Nat.le_refl _) (fun _ => False)) (fun _ _ e => e)
                have HWB := Lib.hid (show ∀ k, (Value.slice qw ln cw).ownBlock = some k → k < G from fun k e => by have := (HV'.out.lt k e).2; omega)
                have hbG : Boxed W7 G 31 (.slice none 0 0) := by rw [← hW7, ← hG]; exact Boxed.new _ _ _
                have hs7 : W7.heap.size = G + 1 := by rw [← hW7, ← hG]; simp
                have hno : ∀ k, Sb G W7 k → k = G := by
                  rintro k (e | ⟨v, e1, e2⟩)
                  · exact e
                  · rw [hbG.cell] at e1; injection e1 with e1; subst e1; cases e2
                have hED : Ed 0 none 0 0 none 0 0 0 0 q' nc c' (Sb G) E code W7 := ⟨fun j v e => cell_of hR7.m.e e, hR7.m.c, fun k e => by rw [hno k e]; omega, fun e => by have := hno _ e; omega, fun i hi g' o' e e2 => by have := hBG.2.2.1 g' o' e; have := hno _ e2; omega⟩
                have hSq := edges_stops 0 none 0 0 none 0 0 0 0 q' nc c' (5 - 1) (sb_below G) hED hn HMm.out.1 HMm.out.2 (by omega)
                rw [hG]
                rw [hW7]
                clear hW7 hED hno HR HV' HBs HSQ HK6 HM6
                obtain ⟨i0, hi, hz0, hz1, hz2⟩ := infoN
                refine wpIn_rangeFunc_ownF rfl (by omega) (gf := 40) (lb := #[.pointer (some ⟨E, 0, none⟩)]) rfl trivial (enters_of Try.func40 (by kernel_rfl) rfl) hSq (fun h k => h.trans k) (fun W l o o' h1 h2 h3 _ => sb_put (n := W7.heap.size) (by omega) W l o o' h1 h2 h3) (Below.refl _ _) (fun _ => rfl)
                  (fun (pre : List (Nat × Nat)) W => (∃ v, Boxed W G 31 v ∧ W.ownsRow G 3 1 v (fl2 pre).length (cI (fl2 pre)) ∧ ∃ q c, v = .slice q (fl2 pre).length c) ∧ (Rs w (fnC lv qp np cp qr nr cr lo stk qc nc cc) (fnC lv qp' np cp' qr' nr cr' lo stk (some ⟨g, o, none⟩) nc cL) (fZ (.slice q' nc c')) B1 E g o nc q' code s1 K D kk W ∧ W.ownsRow B2 3 1 (.slice qw ln cw) ln (cI (fl2 (edgK code nc))) ∧ G < W.heap.size))
                  (fun _ _ _ => False)
                  (OwnFrom.and (Own.from (holdsRow_own _ _ _ _ _ _ _ _) _) fun _ _ _ _ h hg hr => ⟨h.1.grown hg (fun r e => (hr r e).1) (by obtain ⟨e1, e2, e3, e4, e5⟩ := HBG.out; exact ⟨by omega, by omega, fun g' o' e => by have := e3 g' o' e; omega, by omega, by omega⟩), own_chg h.2.1 (grown_chg hg (S := fun k => W7.heap.size ≤ k) (fun k e => .inl (hr k e).1)) (fun k e e2 => by have := HWB.out k e; have : W7.heap.size ≤ k := e2; omega), Nat.lt_of_lt_of_le h.2.2 hg.size⟩)
                  (fun _ _ _ _ _ hs _ _ => hs)
                  ⟨⟨_, hbG, World.ownsRow_nil _ _ _ _, ⟨_, _, rfl⟩⟩, hR7, hV7, by omega⟩
                  ?_ ?_ ?_ ?_ ?_
                rotate_left
                · -- assign
                  intro l x W K hK
                  gi_wp2
                  exact hK
                · -- body
                  rintro l pre x W ⟨⟨v, hv, hrow, ⟨q, c, rfl⟩⟩, hR, hV, hGW⟩ hlt
                  have hc2 := hv.cell
                  have hlen : (fl2 pre).length + 2 ≤ 1000 := by rw [fl2_len]; have := HEL.out; omega
                  obtain ⟨m, hm'⟩ : ∃ m, (fl2 pre).length = m := ⟨_, rfl⟩
                  have HMM := Lib.hid hm'
                  rw [hm'] at hrow hv hc2 hlen
                  have hBs := Nat.le_of_lt hGW
                  have HR := Lib.hid hR
                  have HV := Lib.hid hV
                  clear hm' hR hV hlt
                  gi_wp2_with (gi_at_builtin; refine wpListIn_append_own_at _ rfl _ _ 31 rfl G 3 i0 _ 1 8 und_N hi hz0 hz1 hz2 rfl (by decide) _ _ _ rfl (hrow.alloc _) ⟨W.heap.size, 0, none⟩ 2 2 [.int .i64 (x.1 : Nat), .int .i64 (x.2 : Nat)] rfl rfl (row_new W [.int .i64 (x.1 : Nat), .int .i64 (x.2 : Nat)] 3) (by intro u hu; simp at hu; rcases hu with rfl | rfl <;> rfl) (by unfold maxLen; omega) (by omega) (by simp; omega) ?_)
                  intro v' w9 hown9 hgrow9 _ hat9
                  obtain ⟨g', cap', rfl⟩ := ownsRow_succ hown9
                  obtain ⟨hv1, hv2, hr2, hk2, hb2⟩ := hv.appended (by decide) hrow hBs (Nat.le_refl _) hown9 hgrow9
                  have hKp := sb_append hv hrow hown9 hgrow9 hat9 hv2
                  have HFIN := Lib.hid (show KeepsOthers W (w9.setCell ⟨G, 0, none⟩ (.slice (some ⟨g', 0, none⟩) (m + 2) cap')) ∧ KpS (Sb G) W (w9.setCell ⟨G, 0, none⟩ (.slice (some ⟨g', 0, none⟩) (m + 2) cap')) ∧ ((∃ v, Boxed (w9.setCell ⟨G, 0, none⟩ (.slice (some ⟨g', 0, none⟩) (m + 2) cap')) G 31 v ∧ ((w9.setCell ⟨G, 0, none⟩ (.slice (some ⟨g', 0, none⟩) (m + 2) cap'))).ownsRow G 3 1 v (fl2 (pre ++ [x])).length (cI (fl2 (pre ++ [x]))) ∧ ∃ q c, v = .slice q (fl2 (pre ++ [x])).length c) ∧ (Rs w (fnC lv qp np cp qr nr cr lo stk qc nc cc) (fnC lv qp' np cp' qr' nr cr' lo stk (some ⟨g, o, none⟩) nc cL) (fZ (.slice q' nc c')) B1 E g o nc q' code s1 K D kk (w9.setCell ⟨G, 0, none⟩ (.slice (some ⟨g', 0, none⟩) (m + 2) cap')) ∧ ((w9.setCell ⟨G, 0, none⟩ (.slice (some ⟨g', 0, none⟩) (m + 2) cap'))).ownsRow B2 3 1 (.slice qw ln cw) ln (cI (fl2 (edgK code nc))) ∧ G < ((w9.setCell ⟨G, 0, none⟩ (.slice (some ⟨g', 0, none⟩) (m + 2) cap'))).heap.size)) from
                    ⟨hk2, hKp, ⟨_, hv2, by rw [fl2_snoc, List.length_append, HMM.out, cI_app]; exact hr2, ⟨_, _, by rw [fl2_snoc, List.length_append, HMM.out]; rfl⟩⟩, HR.out.under hb2 hKp.size HBG.out, own_chg HV.out (S := fun k => G ≤ k) ⟨hb2.os, hb2.tape, hb2.output, hKp.size, fun k _ hn => hb2.block k (by omega)⟩ (fun k e e2 => by have := HWB.out k e; have : G ≤ k := e2; omega), Nat.lt_of_lt_of_le hGW hKp.size⟩)
                  have hc9 := hv1.cell
                  have hf9 := hv1.frozen
                  clear hv1 hv2 hr2 hk2 hb2 hKp hown9 hgrow9 hat9 hc2
                  gi_wp2
                  exact HFIN.out
                · -- done
                  rintro D2 xs W hD2 hS ⟨⟨v, hv, hrow, ⟨q, c, rfl⟩⟩, hR, hV, hGW⟩ hK2
                  obtain rfl : edgK code nc = xs := by rw [hS, hn]
                  rw [HLN.out] at hv hrow
                  have hc2 := hv.cell
                  have HGO := Lib.hid (show OwnI G W (.slice q ln c) (fl2 (edgK code nc)) by unfold OwnI; rw [HLN.out]; exact hrow)
                  have HWO := Lib.hid (show OwnI B2 W (.slice qw ln cw) (fl2 (edgK code nc)) by unfold OwnI; rw [HLN.out]; exact hV)
                  have c1 := hR.k.cell
                  have c3 := cell_of hR.m.u (j := 0) rfl
                  have HD1 := Lib.hid hR.d
                  have HD2 := Lib.hid hK2
                  have HBW := Lib.hid hR.m.b
                  try rw [HLN.out]
                  clear hv hrow hV hR hK2 hS hGW
                  gi_wp2_with fail
                  refine ⟨trivial, (callsIn_wide.2 (ints_true HGO.out.re HWO.out.re)).mono ?_⟩
                  rintro e w4 ⟨rfl, hw⟩
                  obtain ⟨j, rfl⟩ := hw
                  have d1 : (W.drewN j).cell? ⟨K, 0, none⟩ = some (.int .i64 kk) := c1
                  have d3 : (W.drewN j).cell? ⟨w.heap.size + 1, 0, none⟩ = some (.int .i64 s1) := c3
                  have HD1' : Hid ((W.drewN j).heap[D]? = some (.deferred (some []))) := Lib.hid HD1.out
                  have HD2' : Hid ((W.drewN j).heap[D2]? = some (.deferred (some []))) := Lib.hid HD2.out
                  have HBW' := Lib.hid (below_drN HBW.out j)
                  have hDD : D ≠ D2 := fun e => by
                    have := HBG.out.2.2.2.2
                    omega
                  have HDD := Lib.hid hDD
                  have HDw2 := Lib.hid (show w.heap.size ≤ D2 by have := HDw.out; have := HBG.out.2.2.2.2; omega)
                  obtain ⟨W9, hW9⟩ : ∃ W9, W.drewN j = W9 := ⟨_, rfl⟩
                  rw [hW9] at d1 d3 HD1' HD2' HBW' ⊢
                  clear hW9 hDD c1 c3 hc2 HD1 HD2 HBW HGO HWO
                  have hkb : (kk == s1) = true ∨ ((kk == s1) = false ∧ (2 * kk == (ln : Int)) = true ∧ kk ≤ 400 ∧ 0 ≤ kk) := by
                    by_cases hks : kk = s1
                    · exact .inl (by simpa using hks)
                    · refine .inr ⟨by simpa using hks, ?_⟩
                      have e1 := HKK.out.resolve_left hks
                      have e2 := HLN.out
                      have e3 := HEL.out
                      rw [fl2_len] at e2
                      rw [hn] at e1 e3
                      refine ⟨by simp; omega, by omega, by omega⟩
                  rcases hkb with hkb | ⟨hkb, hkl, hk4, hk0⟩
                  · gi_wp2_with fail
                    refine ⟨trivial, (callsIn_wide.2 (HAW.out W9)).mono ?_⟩
                    rintro e w5 ⟨rfl, hb5⟩
                    have HB5 := Lib.hid hb5
                    clear hb5
                    gi_wp2
                    have k2 : w5.heap[D2]? = some (.deferred (some [])) := (HB5.out.block _ (heap_lt HD2'.out)).trans HD2'.out
                    have k1 : w5.heap[D]? = some (.deferred (some [])) := (HB5.out.block _ (heap_lt HD1'.out)).trans HD1'.out
                    have k3 : (w5.putObj D2 (.deferred none)).heap[D]? = some (.deferred (some [])) := by
                      simp only [World.putObj]
                      rw [Array.getElem?_setIfInBounds_ne (fun e => HDD.out e.symm)]
                      exact k1
                    refine ⟨by simp, .inl ⟨_, _, rfl, run_takeDeferred k2, ?_⟩⟩
                    refine ⟨by simp, .inl ⟨_, _, rfl, run_takeDeferred k3, ?_⟩⟩
                    refine ⟨_, results_tmp rfl _ _ _, ?_⟩
                    have b5 : Below w.heap.size w w5 := HBW'.out.trans (HB5.out.mono HBW'.out.size)
                    exact ⟨rfl, (b5.trans (belowK_b (w := w) (Nat.le_refl _) w5 D2 _ _ HDw2.out k2 rfl rfl)).trans (belowK_b (w := w) (Nat.le_refl _) _ D _ _ HDw.out k3 rfl rfl)⟩
                  · gi_wp2_with fail
                    refine ⟨trivial, (callsIn_wide.2 (HAW.out W9)).mono ?_⟩
                    rintro e w5 ⟨rfl, hb5⟩
                    have HB5 := Lib.hid hb5
                    clear hb5
                    gi_wp2
                    have k2 : w5.heap[D2]? = some (.deferred (some [])) := (HB5.out.block _ (heap_lt HD2'.out)).trans HD2'.out
                    have k1 : w5.heap[D]? = some (.deferred (some [])) := (HB5.out.block _ (heap_lt HD1'.out)).trans HD1'.out
                    have k3 : (w5.putObj D2 (.deferred none)).heap[D]? = some (.deferred (some [])) := by
                      simp only [World.putObj]
                      rw [Array.getElem?_setIfInBounds_ne (fun e => HDD.out e.symm)]
                      exact k1
                    refine ⟨by simp, .inl ⟨_, _, rfl, run_takeDeferred k2, ?_⟩⟩
                    refine ⟨by simp, .inl ⟨_, _, rfl, run_takeDeferred k3, ?_⟩⟩
                    refine ⟨_, results_tmp rfl _ _ _, ?_⟩
                    have b5 : Below w.heap.size w w5 := HBW'.out.trans (HB5.out.mono HBW'.out.size)
                    exact ⟨rfl, (b5.trans (belowK_b (w := w) (Nat.le_refl _) w5 D2 _ _ HDw2.out k2 rfl rfl)).trans (belowK_b (w := w) (Nat.le_refl _) _ D _ _ HDw.out k3 rfl rfl)⟩
                · -- stop
                  rintro D cc pre W _ _ h _
                  exact h.elim
    · rw [if_neg hs] at hW5
      have HW5 := Lib.hid hW5
      clear hW5
      gi_wp2_with fail
      try rw [HKe.out]
      try rw [HW5.out]
      try rw [HW6.out]
      clear HW5 HW6 HKe g1 g2 hfn
      have hS6 : W6.heap.size = K + 1 := HSZ6.out
      refine wpIn_rangeFunc_ownF rfl (by omega) (gf := 40) (lb := #[.pointer (some ⟨E, 0, none⟩)]) rfl trivial (enters_of Try.func40 (by kernel_rfl) rfl) HSQ.out (fun h k => h.trans k) (fun W l o o' h1 h2 h3 _ => sk_put (n := W6.heap.size) (by omega) W l o o' h1 h2 h3) (Below.refl _ _) (fun _ => rfl)
        (fun (pre : List (Nat × Nat)) W => Boxed W K 3 (.int .i64 (pre.length : Nat)) ∧ Gm w (fnC lv qp np cp qr nr cr lo stk qc nc cc) (fnC lv qp' np cp' qr' nr cr' lo stk (some ⟨g, o, none⟩) nc cL) (fZ (.slice q' nc c')) B1 E g o nc q' code s1 W)
        (fun c _ W => c = .exit 0 ∧ Boxed W K 3 (.int .i64 s1) ∧ Gm w (fnC lv qp np cp qr nr cr lo stk qc nc cc) (fnC lv qp' np cp' qr' nr cr' lo stk (some ⟨g, o, none⟩) nc cL) (fZ (.slice q' nc c')) B1 E g o nc q' code s1 W)
        (OwnFrom.and (Own.from (boxed_own _ _ _) _) fun _ _ _ _ h hg hr => h.grown hg (fun r e => (hr r e).1) (by have := HEK.out; refine ⟨by omega, by omega, fun g' o' e => ?_⟩; have := HEK.out.2.2 g' o' e; omega))
        (fun c => fun _ A B row hs hg hr => ⟨hs.1, (OwnFrom.and (Own.from (boxed_own (β := List (Nat × Nat)) K 3 (fun _ => .int .i64 s1)) W6.heap.size) (fun _ _ _ _ h hg hr => Gm.grown h hg (fun r e => (hr r e).1) (by have := HEK.out; refine ⟨by omega, by omega, fun g' o' e => ?_⟩; have := HEK.out.2.2 g' o' e; omega))) [] A B row hs.2 hg hr⟩)
        ⟨HK6.out, HM6.out⟩
        (fun x => { tmps := #[fnV lv qp np cp qr nr cr lo stk qc nc cc, .int .i64 s, .pointer (some ⟨w.heap.size, 0, none⟩), .pointer (some ⟨w.heap.size + 1, 0, none⟩), .bool false, .int .i64 nc, .pointer (some ⟨B1, 0, none⟩), .func (.func 40) #[] #[.pointer (some ⟨E, 0, none⟩)], .pointer (some ⟨K, 0, none⟩), undef, undef, undef, undef, undef, undef, undef, undef, .pointer (some ⟨w.heap.size, 5, none⟩), .slice qc nc cc, .int .i64 nc, .int .i64 nc, .bool (decide ((200 : Int) < nc)), undef, .agg #[.int .u64 lv, .slice qp np cp, .slice qr nr cr, .int .i64 lo, .int .i64 stk, .slice qc nc cc], fnV lv qp' np cp' qr' nr cr' lo stk (some ⟨g, o, none⟩) nc cL, fnV lv qp' np cp' qr' nr cr' lo stk (some ⟨g, o, none⟩) nc cL, .func (.func 40) #[] #[.pointer (some ⟨E, 0, none⟩)], .func (.func 40) #[] #[.pointer (some ⟨E, 0, none⟩)], .bool false, .int .i64 s, .bool (decide (s < 1)), .func (.func 40) #[] #[.pointer (some ⟨E, 0, none⟩)], .int .i64 (x.1 : Nat), .int .i64 (x.2 : Nat), undef, undef, undef, undef, undef, undef, undef, undef, undef, undef, undef, undef, undef, undef, undef, undef, undef, undef, undef, undef, undef, undef, undef, undef, undef, undef, undef, undef, undef, undef, undef, undef, undef, undef, undef, undef, undef, undef, undef, undef, undef, undef, undef, undef, undef, undef, undef, undef, undef, undef, undef, undef, undef, undef, undef, undef, undef, undef, undef, undef, undef, undef, undef, undef, undef], defers := [] }) ?assign2 ?body2 ?done2 ?stop2
      case assign2 =>
        intro l x W K hK
        gi_wp2
        exact hK
      case body2 =>
        rintro l pre x W ⟨hb, hG⟩ hlt
        have hel := HEL.out
        have hpl : (pre.length : Int) + 1 ≤ 401 := by omega
        have hKU : w.heap.size + 1 < K := by have := HEK.out; have := hG.d; omega
        have c1 := hb.cell
        have c2 := hb.frozen
        have c3 := cell_of hG.u (j := 0) rfl
        have hch := Chg.setCell (S := fun k => k = K) (p := ⟨K, 0, none⟩) (Chg.refl _ W) (.inl rfl) (.int .i64 ((pre.length : Int) + 1))
        have hGn := hG.other hch (fun k e => by obtain ⟨e1, e2, e3⟩ := HEK.out; have e : k = K := e; refine ⟨by omega, by omega, fun g' o' e' => by have := e3 g' o' e'; omega⟩)
        have hbn := hb.set (.int .i64 ((pre.length : Int) + 1))
        have HKn := Lib.hid (show KeepsOthers W (W.setCell ⟨K, 0, none⟩ (.int .i64 ((pre.length : Int) + 1))) ∧ KpS (Sk K) W (W.setCell ⟨K, 0, none⟩ (.int .i64 ((pre.length : Int) + 1))) from ⟨KeepsOthers.setCell _ _ _, sk_set _ hb.lt⟩)
        have HGn := Lib.hid hGn
        have HBn := Lib.hid hbn
        clear hch hGn hbn hb hG hlt hel
        by_cases hk : (pre.length : Int) + 1 = s1
        · have hkb : ((pre.length : Int) + 1 == s1) = true := by simpa using hk
          have HK := Lib.hid hk
          clear hk
          gi_wp2
          exact ⟨HKn.out.1, rfl, by rw [← HK.out]; exact HBn.out, HGn.out⟩
        · have hkb : ((pre.length : Int) + 1 == s1) = false := by simpa using hk
          clear hk
          gi_wp2
          exact ⟨HKn.out.1, HKn.out.2, by rw [List.length_append]; exact HBn.out, HGn.out⟩
      case' done2 =>
        rintro D xs W hD hS ⟨hb, hG⟩ hK
        obtain ⟨kk, HRs, HKK⟩ : ∃ kk, Hid (Rs w (fnC lv qp np cp qr nr cr lo stk qc nc cc) (fnC lv qp' np cp' qr' nr cr' lo stk (some ⟨g, o, none⟩) nc cL) (fZ (.slice q' nc c')) B1 E g o nc q' code s1 K D kk W) ∧ Hid (kk = s1 ∨ kk = ((edgK code code.length).length : Nat)) := ⟨_, Lib.hid ⟨hG, hb, hK, by have := hG.d; have := HEK.out; omega, by have := hG.d; have := HEK.out; omega⟩, Lib.hid (.inr (by rw [hS]))⟩
        have HDw := Lib.hid (show w.heap.size ≤ D by have := hG.d; have := HEK.out; have := HSZ6.out; omega)
        clear hb hG hK hS
      case' stop2 =>
        rintro D cc pre W hD _ ⟨rfl, hb, hG⟩ hK
        obtain ⟨kk, HRs, HKK⟩ : ∃ kk, Hid (Rs w (fnC lv qp np cp qr nr cr lo stk qc nc cc) (fnC lv qp' np cp' qr' nr cr' lo stk (some ⟨g, o, none⟩) nc cL) (fZ (.slice q' nc c')) B1 E g o nc q' code s1 K D kk W) ∧ Hid (kk = s1 ∨ kk = ((edgK code code.length).length : Nat)) := ⟨_, Lib.hid ⟨hG, hb, hK, by have := hG.d; have := HEK.out; omega, by have := hG.d; have := HEK.out; omega⟩, Lib.hid (.inl rfl)⟩
        have HDw := Lib.hid (show w.heap.size ≤ D by have := hG.d; have := HEK.out; have := HSZ6.out; omega)
        clear hb hG hK
      all_goals
        gi_wp2_with fail
        gi_loopw [9] (fun t wr => ∃ i : Nat, i ≤ nc ∧ t = .int .i64 i ∧ Hid (Rs w (fnC lv qp np cp qr nr cr lo stk qc nc cc) (fnC lv qp' np cp' qr' nr cr' lo stk (some ⟨g, o, none⟩) nc cL) (fZ (.slice q' nc c')) B1 E g o nc q' code s1 K D kk wr)) (fun t _ => nc - (intOf t).toNat)
        case atStart => exact ⟨0, by omega, rfl, HRs⟩
        case round =>
          clear HRs
          obtain ⟨i, hi, rfl, HR⟩ := hrel
          have h5 := cell_of HR.out.m.i (j := 5) rfl
          by_cases hlt : i < nc
          · have hii : (i : Int) < (nc : Int) := by omega
            obtain ⟨u1, hu1⟩ := HR.out.m.l.cell (j := i * 2) (by omega)
            obtain ⟨u2, hu2⟩ := HR.out.m.l.cell (j := i * 2 + 1) (by omega)
            rw [show o + (i * 2 + 1) = o + i * 2 + 1 from rfl] at hu2
            have hf1 := HR.out.m.l.free (o + i * 2)
            have hf2 := HR.out.m.l.free (o + i * 2 + 1)
            have HRn := Lib.hid ((HR.out.put (o + i * 2) (.int .i64 46)).put (o + i * 2 + 1) (.int .i64 0))
            gi_wp2
            exact ⟨⟨i + 1, by omega, rfl, HRn⟩, by simp only [intOf]; omega⟩
          · obtain rfl : nc = i := by omega
            clear hi hlt
            obtain ⟨B2, hB2⟩ : ∃ B, wr.heap.size = B := ⟨_, rfl⟩
            have HBB : Hid (B1 < B2 ∧ E < B2 ∧ (∀ g' o', q' = some ⟨g', o', none⟩ → g' < B2) ∧ K < B2 ∧ D < B2) := Lib.hid (by
              rw [← hB2]
              have e1 := HR.out.k.lt
              have e2 := heap_lt HR.out.d
              obtain ⟨e3, e4, e5⟩ := HEK.out
              exact ⟨by omega, by omega, fun g' o' e => by have := e5 g' o' e; omega, e1, e2⟩)
            have HBs := Lib.hid (show B2 ≤ wr.heap.size by omega)
            clear hB2
            gi_wp2_with fail
            gi_loopw [10, 11] (fun v t wr => ∃ a : Nat, a ≤ nc ∧ t = .int .i64 a ∧ Hid (Rs w (fnC lv qp np cp qr nr cr lo stk qc nc cc) (fnC lv qp' np cp' qr' nr cr' lo stk (some ⟨g, o, none⟩) nc cL) (fZ (.slice q' nc c')) B1 E g o nc q' code s1 K D kk wr) ∧ Hid (OwnI B2 wr v (fl2 (edgK code a))) ∧ Hid (B2 ≤ wr.heap.size)) (fun _ t _ => nc - (intOf t).toNat)
            case atStart => exact ⟨0, by omega, rfl, HR, Lib.hid (World.ownsRow_nil _ _ _ _), HBs⟩
            case round =>
              clear HR h5 HBs
              obtain ⟨a, ha, rfl, HR, HV, HBs⟩ := hrel
              by_cases hlt : a < nc
              · have hai : (a : Int) < (nc : Int) := by omega
                have g0 := HR.out.m.f.cell (j := 0) rfl
                have g1 := HR.out.m.f.cell (j := 1) rfl
                have g2 := HR.out.m.f.cell (j := 2) rfl
                have g3 := HR.out.m.f.cell (j := 3) rfl
                have g4 := HR.out.m.f.cell (j := 4) rfl
                have g5 := HR.out.m.f.cell (j := 5) rfl
                gi_wp2_with fail
                refine ⟨trivial, (callsIn_wide.2 (HNx.out wr HR.out.m.b (a : Nat))).mono ?_⟩
                rintro e V2 ⟨vl, rfl, hO, hb⟩
                obtain ⟨ql, cl, rfl⟩ := own_shape hO
                have HR2 := Lib.hid (HR.out.later hb)
                have HS2 := Lib.hid (Nat.le_trans HBs.out hb.size)
                have HV2 := Lib.hid (own_chg HV.out (Below.chg hb (Nat.le_refl _) (fun _ => False)) (fun _ _ e => e))
                have HO2 := Lib.hid (own_base hO (Nat.zero_le _))
                have HD2 := Lib.hid (fun k (e : Value.ownBlock u10 = some k) g' o' (e' : ql = some ⟨g', o', none⟩) => (show g' ≠ k from by
                  have e1 := (HV.out.lt k e).2
                  have e2 := (hO.lt g' (by rw [e']; rfl)).1
                  omega))
                obtain ⟨nl, hnl⟩ : ∃ nl, (nxt code (a : Int)).length = nl := ⟨_, rfl⟩
                have HNL := Lib.hid hnl
                rw [hnl] at HO2 ⊢
                clear hO hb g0 g1 g2 g3 g4 g5 HR HV hnl HBs
                have hnl2 : nl ≤ 2 := by rw [← HNL.out]; exact nxt_len code (a : Int)
                gi_wp2_with fail
                gi_loopw [10, 13] (fun v t wr => ∃ k : Nat, k ≤ nl ∧ t = .int .i64 k ∧ Hid (Rs w (fnC lv qp np cp qr nr cr lo stk qc nc cc) (fnC lv qp' np cp' qr' nr cr' lo stk (some ⟨g, o, none⟩) nc cL) (fZ (.slice q' nc c')) B1 E g o nc q' code s1 K D kk wr) ∧ Hid (OwnI B2 wr v (fl2 (edgK code a ++ ((nxt code (a : Int)).take k).map fun (y : Nat) => (a, y)))) ∧ Hid (wr.ownsRow 0 3 1 (.slice ql nl cl) nl (cI (nxt code (a : Int)))) ∧ Hid (∀ k', v.ownBlock = some k' → ∀ g' o', ql = some ⟨g', o', none⟩ → g' ≠ k') ∧ Hid (B2 ≤ wr.heap.size)) (fun _ t _ => nl - (intOf t).toNat)
                case atStart => exact ⟨0, by omega, rfl, HR2, Lib.hid (by rw [List.take_zero, List.map_nil, List.append_nil]; exact HV2.out), HO2, HD2, HS2⟩
                case round =>
                  clear HR2 HV2 HO2 HD2 HS2
                  obtain ⟨k, hk, rfl, HR, HV, HO, HD, HBs⟩ := hrel
                  by_cases hlt : k < nl
                  · have hki : (k : Int) < (nl : Int) := by omega
                    have hO' : OwnI 0 wr (.slice ql nl cl) (nxt code (a : Int)) := by unfold OwnI; rw [HNL.out]; exact HO.out
                    obtain ⟨gl, e0, hcl, _, hnc1, hmx, _, hgl⟩ := hO'.at HNL.out.symm k hlt
                    subst e0
                    obtain ⟨i0, hi, hz0, hz1, hz2⟩ := infoN
                    obtain ⟨qv, cv, e0⟩ := own_shape HV.out
                    obtain ⟨b, hb⟩ : ∃ b, (nxt code (a : Int)).getD k 0 = b := ⟨_, rfl⟩
                    have hbk : (nxt code (a : Int))[k]? = some b := by
                      rw [← hb, List.getD_eq_getElem?_getD, List.getElem?_eq_getElem (by rw [HNL.out]; exact hlt)]
                      rfl
                    rw [hb] at hcl
                    subst e0
                    obtain ⟨m, hm'⟩ : ∃ m, (fl2 (edgK code a ++ ((nxt code (a : Int)).take k).map fun (y : Nat) => (a, y))).length = m := ⟨_, rfl⟩
                    have hmb : m ≤ 1000 := by
                      rw [← hm', fl2_len, List.length_append, List.length_map]
                      have e1 := edgK_len code a
                      have e2 := List.length_take_le k (nxt code (a : Int))
                      omega
                    have hr0 : wr.ownsRow B2 3 1 (.slice qv m cv) m (cI (fl2 (edgK code a ++ ((nxt code (a : Int)).take k).map fun (y : Nat) => (a, y)))) := by have := HV.out; unfold OwnI at this; rw [hm'] at this; exact this
                    rw [hm'] at HD ⊢
                    have HR0 := Lib.hid hr0
                    have HMM := Lib.hid hm'
                    have HBK := Lib.hid hbk
                    have hBs := HBs.out
                    clear hO' hb hbk HV hm' hr0
                    gi_wp2_with (gi_at_builtin; refine wpListIn_append_own_at _ rfl _ _ 31 rfl B2 3 i0 _ 1 8 und_N hi hz0 hz1 hz2 rfl (by decide) _ _ _ rfl (HR0.out.alloc _) ⟨wr.heap.size, 0, none⟩ 2 2 [.int .i64 (a : Nat), .int .i64 (b : Nat)] rfl rfl (row_new wr [.int .i64 (a : Nat), .int .i64 (b : Nat)] 3) (by intro u hu; simp at hu; rcases hu with rfl | rfl <;> rfl) (by unfold maxLen; omega) (by omega) (by simp; omega) ?_)
                    intro v' w9 hown9 hgrow9 _ hat9
                    obtain ⟨qw, cw, rfl⟩ := own_shape hown9
                    have HR9 := Lib.hid ((HR.out.later (below_al _)).grown hgrow9 (fun r e => (HR0.out.lt r e).1) HBB.out)
                    have HV9 : Hid (OwnI B2 w9 (.slice qw (m + 2) cw) (fl2 (edgK code a ++ ((nxt code (a : Int)).take (k + 1)).map fun (y : Nat) => (a, y)))) := Lib.hid (by
                      unfold OwnI
                      rw [edgK_part HBK.out, fl2_snoc, List.length_append, HMM.out, cI_app]
                      rw [← List.map_take] at hown9
                      exact hown9)
                    have HO9 := Lib.hid (own_chg (own_chg HO.out (Below.chg (below_al _) (Nat.le_refl _) (fun _ => False)) (fun _ _ e => e)) (grown_chg hgrow9 (S := fun k' => (Value.slice qv m cv).ownBlock = some k') (fun k' e => .inl e)) (fun k' e e2 => HD.out k' e2 gl 0 rfl (by injection e)))
                    have HD9 : Hid (∀ k', (Value.slice qw (m + 2) cw).ownBlock = some k' → ∀ g' o', (some ⟨gl, 0, none⟩ : Option Addr) = some ⟨g', o', none⟩ → g' ≠ k') := Lib.hid (by
                      intro k' e g' o' e'
                      injection e' with e'
                      injection e' with e' _ _
                      subst e'
                      rcases hat9 with h | h
                      · exact HD.out k' (by rw [← h]; exact e) gl 0 rfl
                      · rw [h] at e; injection e with e; omega)
                    have HS9 : Hid (B2 ≤ w9.heap.size) := Lib.hid (by have := hgrow9.size; rw [World.size_alloc] at this; omega)
                    clear hown9 hgrow9 hat9 hBs HBs HR HO HD HR0 HMM HBK hcl hmb
                    gi_wp2
                    exact ⟨⟨k + 1, by omega, rfl, HR9, HV9, HO9, HD9, HS9⟩, by simp only [intOf]; omega⟩
                  · obtain rfl : nl = k := by omega
                    have HV3 : Hid (OwnI B2 wr u10 (fl2 (edgK code (a + 1)))) := Lib.hid (by have := HV.out; rw [← HNL.out, edgK_full] at this; exact this)
                    clear HV HO HD hnl2
                    gi_wp2
                    exact ⟨⟨a + 1, by omega, rfl, HR, HV3, HBs⟩, by simp only [intOf]; omega⟩
              · obtain rfl : nc = a := by omega
                obtain ⟨qw, cw, e0⟩ := own_shape HV.out
                subst e0
                obtain ⟨ln, hln⟩ : ∃ ln, (fl2 (edgK code nc)).length = ln := ⟨_, rfl⟩
                have HLN := Lib.hid hln
                have HV' : Hid (wr.ownsRow B2 3 1 (.slice qw ln cw) ln (cI (fl2 (edgK code nc)))) := Lib.hid (by rw [← hln]; exact HV.out)
                rw [hln]
                clear hln HV
                gi_wp2_with fail
                obtain ⟨G, hG⟩ : ∃ G, wr.heap.size = G := ⟨_, rfl⟩
                obtain ⟨W7, hW7⟩ : ∃ W7, wr.alloc (.cells #[.slice none 0 0] 31) = W7 := ⟨_, rfl⟩
                have hBG : B1 < G ∧ E < G ∧ (∀ g' o', q' = some ⟨g', o', none⟩ → g' < G) ∧ K < G ∧ D < G := by
                  obtain ⟨e1, e2, e3, e4, e5⟩ := HBB.out
                  have := HBs.out
                  rw [hG] at this
                  exact ⟨by omega, by omega, fun g' o' e => by have := e3 g' o' e; omega, by omega, by omega⟩
                have HBG := Lib.hid hBG
                have hb7 : Below wr.heap.size wr W7 := by rw [← hW7]; exact below_al _
                have hR7 := HR.out.later hb7
                have hV7 := own_chg HV'.out (Below.chg hb7 (Nat.le_refl _) (fun _ => False)) (fun _ _ e => e)
                have HWB := Lib.hid (show ∀ k, (Value.slice qw ln cw).ownBlock = some k → k < G from fun k e => by have := (HV'.out.lt k e).2; omega)
                have hbG : Boxed W7 G 31 (.slice none 0 0) := by rw [← hW7, ← hG]; exact Boxed.new _ _ _
                have hs7 : W7.heap.size = G + 1 := by rw [← hW7, ← hG]; simp
                have hno : ∀ k, Sb G W7 k → k = G := by
                  rintro k (e | ⟨v, e1, e2⟩)
                  · exact e
                  · rw [hbG.cell] at e1; injection e1 with e1; subst e1; cases e2
                have hED : Ed 0 none 0 0 none 0 0 0 0 q' nc c' (Sb G) E code W7 := ⟨fun j v e => cell_of hR7.m.e e, hR7.m.c, fun k e => by rw [hno k e]; omega, fun e => by have := hno _ e; omega, fun i hi g' o' e e2 => by have := hBG.2.2.1 g' o' e; have := hno _ e2; omega⟩
                have hSq := edges_stops 0 none 0 0 none 0 0 0 0 q' nc c' (5 - 1) (sb_below G) hED hn HMm.out.1 HMm.out.2 (by omega)
                rw [hG]
                rw [hW7]
                clear hW7 hED hno HR HV' HBs HSQ HK6 HM6
                obtain ⟨i0, hi, hz0, hz1, hz2⟩ := infoN
                refine wpIn_rangeFunc_ownF rfl (by omega) (gf := 40) (lb := #[.pointer (some ⟨E, 0, none⟩)]) rfl trivial (enters_of Try.func40 (by kernel_rfl) rfl) hSq (fun h k => h.trans k) (fun W l o o' h1 h2 h3 _ => sb_put (n := W7.heap.size) (by omega) W l o o' h1 h2 h3) (Below.refl _ _) (fun _ => rfl)
                  (fun (pre : List (Nat × Nat)) W => (∃ v, Boxed W G 31 v ∧ W.ownsRow G 3 1 v (fl2 pre).length (cI (fl2 pre)) ∧ ∃ q c, v = .slice q (fl2 pre).length c) ∧ (Rs w (fnC lv qp np cp qr nr cr lo stk qc nc cc) (fnC lv qp' np cp' qr' nr cr' lo stk (some ⟨g, o, none⟩) nc cL) (fZ (.slice q' nc c')) B1 E g o nc q' code s1 K D kk W ∧ W.ownsRow B2 3 1 (.slice qw ln cw) ln (cI (fl2 (edgK code nc))) ∧ G < W.heap.size))
                  (fun _ _ _ => False)
                  (OwnFrom.and (Own.from (holdsRow_own _ _ _ _ _ _ _ _) _) fun _ _ _ _ h hg hr => ⟨h.1.grown hg (fun r e => (hr r e).1) (by obtain ⟨e1, e2, e3, e4, e5⟩ := HBG.out; exact ⟨by omega, by omega, fun g' o' e => by have := e3 g' o' e; omega, by omega, by omega⟩), own_chg h.2.1 (grown_chg hg (S := fun k => W7.heap.size ≤ k) (fun k e => .inl (hr k e).1)) (fun k e e2 => by have := HWB.out k e; have : W7.heap.size ≤ k := e2; omega), Nat.lt_of_lt_of_le h.2.2 hg.size⟩)
                  (fun _ _ _ _ _ hs _ _ => hs)
                  ⟨⟨_, hbG, World.ownsRow_nil _ _ _ _, ⟨_, _, rfl⟩⟩, hR7, hV7, by omega⟩
                  ?_ ?_ ?_ ?_ ?_
                rotate_left
                · -- assign
                  intro l x W K hK
                  gi_wp2
                  exact hK
                · -- body
                  rintro l pre x W ⟨⟨v, hv, hrow, ⟨q, c, rfl⟩⟩, hR, hV, hGW⟩ hlt
                  have hc2 := hv.cell
                  have hlen : (fl2 pre).length + 2 ≤ 1000 := by rw [fl2_len]; have := HEL.out; omega
                  obtain ⟨m, hm'⟩ : ∃ m, (fl2 pre).length = m := ⟨_, rfl⟩
                  have HMM := Lib.hid hm'
                  rw [hm'] at hrow hv hc2 hlen
                  have hBs := Nat.le_of_lt hGW
                  have HR := Lib.hid hR
                  have HV := Lib.hid hV
                  clear hm' hR hV hlt
                  gi_wp2_with (gi_at_builtin; refine wpListIn_append_own_at _ rfl _ _ 31 rfl G 3 i0 _ 1 8 und_N hi hz0 hz1 hz2 rfl (by decide) _ _ _ rfl (hrow.alloc _) ⟨W.heap.size, 0, none⟩ 2 2 [.int .i64 (x.1 : Nat), .int .i64 (x.2 : Nat)] rfl rfl (row_new W [.int .i64 (x.1 : Nat), .int .i64 (x.2 : Nat)] 3) (by intro u hu; simp at hu; rcases hu with rfl | rfl <;> rfl) (by unfold maxLen; omega) (by omega) (by simp; omega) ?_)
                  intro v' w9 hown9 hgrow9 _ hat9
                  obtain ⟨g', cap', rfl⟩ := ownsRow_succ hown9
                  obtain ⟨hv1, hv2, hr2, hk2, hb2⟩ := hv.appended (by decide) hrow hBs (Nat.le_refl _) hown9 hgrow9
                  have hKp := sb_append hv hrow hown9 hgrow9 hat9 hv2
                  have HFIN := Lib.hid (show KeepsOthers W (w9.setCell ⟨G, 0, none⟩ (.slice (some ⟨g', 0, none⟩) (m + 2) cap')) ∧ KpS (Sb G) W (w9.setCell ⟨G, 0, none⟩ (.slice (some ⟨g', 0, none⟩) (m + 2) cap')) ∧ ((∃ v, Boxed (w9.setCell ⟨G, 0, none⟩ (.slice (some ⟨g', 0, none⟩) (m + 2) cap')) G 31 v ∧ ((w9.setCell ⟨G, 0, none⟩ (.slice (some ⟨g', 0, none⟩) (m + 2) cap'))).ownsRow G 3 1 v (fl2 (pre ++ [x])).length (cI (fl2 (pre ++ [x]))) ∧ ∃ q c, v = .slice q (fl2 (pre ++ [x])).length c) ∧ (Rs w (fnC lv qp np cp qr nr cr lo stk qc nc cc) (fnC lv qp' np cp' qr' nr cr' lo stk (some ⟨g, o, none⟩) nc cL) (fZ (.slice q' nc c')) B1 E g o nc q' code s1 K D kk (w9.setCell ⟨G, 0, none⟩ (.slice (some ⟨g', 0, none⟩) (m + 2) cap')) ∧ ((w9.setCell ⟨G, 0, none⟩ (.slice (some ⟨g', 0, none⟩) (m + 2) cap'))).ownsRow B2 3 1 (.slice qw ln cw) ln (cI (fl2 (edgK code nc))) ∧ G < ((w9.setCell ⟨G, 0, none⟩ (.slice (some ⟨g', 0, none⟩) (m + 2) cap'))).heap.size)) from
                    ⟨hk2, hKp, ⟨_, hv2, by rw [fl2_snoc, List.length_append, HMM.out, cI_app]; exact hr2, ⟨_, _, by rw [fl2_snoc, List.length_append, HMM.out]; rfl⟩⟩, HR.out.under hb2 hKp.size HBG.out, own_chg HV.out (S := fun k => G ≤ k) ⟨hb2.os, hb2.tape, hb2.output, hKp.size, fun k _ hn => hb2.block k (by omega)⟩ (fun k e e2 => by have := HWB.out k e; have : G ≤ k := e2; omega), Nat.lt_of_lt_of_le hGW hKp.size⟩)
                  have hc9 := hv1.cell
                  have hf9 := hv1.frozen
                  clear hv1 hv2 hr2 hk2 hb2 hKp hown9 hgrow9 hat9 hc2
                  gi_wp2
                  exact HFIN.out
                · -- done
                  rintro D2 xs W hD2 hS ⟨⟨v, hv, hrow, ⟨q, c, rfl⟩⟩, hR, hV, hGW⟩ hK2
                  obtain rfl : edgK code nc = xs := by rw [hS, hn]
                  rw [HLN.out] at hv hrow
                  have hc2 := hv.cell
                  have HGO := Lib.hid (show OwnI G W (.slice q ln c) (fl2 (edgK code nc)) by unfold OwnI; rw [HLN.out]; exact hrow)
                  have HWO := Lib.hid (show OwnI B2 W (.slice qw ln cw) (fl2 (edgK code nc)) by unfold OwnI; rw [HLN.out]; exact hV)
                  have c1 := hR.k.cell
                  have c3 := cell_of hR.m.u (j := 0) rfl
                  have HD1 := Lib.hid hR.d
                  have HD2 := Lib.hid hK2
                  have HBW := Lib.hid hR.m.b
                  try rw [HLN.out]
                  clear hv hrow hV hR hK2 hS hGW
                  gi_wp2_with fail
                  refine ⟨trivial, (callsIn_wide.2 (ints_true HGO.out.re HWO.out.re)).mono ?_⟩
                  rintro e w4 ⟨rfl, hw⟩
                  obtain ⟨j, rfl⟩ := hw
                  have d1 : (W.drewN j).cell? ⟨K, 0, none⟩ = some (.int .i64 kk) := c1
                  have d3 : (W.drewN j).cell? ⟨w.heap.size + 1, 0, none⟩ = some (.int .i64 s1) := c3
                  have HD1' : Hid ((W.drewN j).heap[D]? = some (.deferred (some []))) := Lib.hid HD1.out
                  have HD2' : Hid ((W.drewN j).heap[D2]? = some (.deferred (some []))) := Lib.hid HD2.out
                  have HBW' := Lib.hid (below_drN HBW.out j)
                  have hDD : D ≠ D2 := fun e => by
                    have := HBG.out.2.2.2.2
                    omega
                  have HDD := Lib.hid hDD
                  have HDw2 := Lib.hid (show w.heap.size ≤ D2 by have := HDw.out; have := HBG.out.2.2.2.2; omega)
                  obtain ⟨W9, hW9⟩ : ∃ W9, W.drewN j = W9 := ⟨_, rfl⟩
                  rw [hW9] at d1 d3 HD1' HD2' HBW' ⊢
                  clear hW9 hDD c1 c3 hc2 HD1 HD2 HBW HGO HWO
                  have hkb : (kk == s1) = true ∨ ((kk == s1) = false ∧ (2 * kk == (ln : Int)) = true ∧ kk ≤ 400 ∧ 0 ≤ kk) := by
                    by_cases hks : kk = s1
                    · exact .inl (by simpa using hks)
                    · refine .inr ⟨by simpa using hks, ?_⟩
                      have e1 := HKK.out.resolve_left hks
                      have e2 := HLN.out
                      have e3 := HEL.out
                      rw [fl2_len] at e2
                      rw [hn] at e1 e3
                      refine ⟨by simp; omega, by omega, by omega⟩
                  rcases hkb with hkb | ⟨hkb, hkl, hk4, hk0⟩
                  · gi_wp2_with fail
                    refine ⟨trivial, (callsIn_wide.2 (HAW.out W9)).mono ?_⟩
                    rintro e w5 ⟨rfl, hb5⟩
                    have HB5 := Lib.hid hb5
                    clear hb5
                    gi_wp2
                    have k2 : w5.heap[D2]? = some (.deferred (some [])) := (HB5.out.block _ (heap_lt HD2'.out)).trans HD2'.out
                    have k1 : w5.heap[D]? = some (.deferred (some [])) := (HB5.out.block _ (heap_lt HD1'.out)).trans HD1'.out
                    have k3 : (w5.putObj D2 (.deferred none)).heap[D]? = some (.deferred (some [])) := by
                      simp only [World.putObj]
                      rw [Array.getElem?_setIfInBounds_ne (fun e => HDD.out e.symm)]
                      exact k1
                    refine ⟨by simp, .inl ⟨_, _, rfl, run_takeDeferred k2, ?_⟩⟩
                    refine ⟨by simp, .inl ⟨_, _, rfl, run_takeDeferred k3, ?_⟩⟩
                    refine ⟨_, results_tmp rfl _ _ _, ?_⟩
                    have b5 : Below w.heap.size w w5 := HBW'.out.trans (HB5.out.mono HBW'.out.size)
                    exact ⟨rfl, (b5.trans (belowK_b (w := w) (Nat.le_refl _) w5 D2 _ _ HDw2.out k2 rfl rfl)).trans (belowK_b (w := w) (Nat.le_refl _) _ D _ _ HDw.out k3 rfl rfl)⟩
                  · gi_wp2_with fail
                    refine ⟨trivial, (callsIn_wide.2 (HAW.out W9)).mono ?_⟩
                    rintro e w5 ⟨rfl, hb5⟩
                    have HB5 := Lib.hid hb5
                    clear hb5
                    gi_wp2
                    have k2 : w5.heap[D2]? = some (.deferred (some [])) := (HB5.out.block _ (heap_lt HD2'.out)).trans HD2'.out
                    have k1 : w5.heap[D]? = some (.deferred (some [])) := (HB5.out.block _ (heap_lt HD1'.out)).trans HD1'.out
                    have k3 : (w5.putObj D2 (.deferred none)).heap[D]? = some (.deferred (some [])) := by
                      simp only [World.putObj]
                      rw [Array.getElem?_setIfInBounds_ne (fun e => HDD.out e.symm)]
                      exact k1
                    refine ⟨by simp, .inl ⟨_, _, rfl, run_takeDeferred k2, ?_⟩⟩
                    refine ⟨by simp, .inl ⟨_, _, rfl, run_takeDeferred k3, ?_⟩⟩
                    refine ⟨_, results_tmp rfl _ _ _, ?_⟩
                    have b5 : Below w.heap.size w w5 := HBW'.out.trans (HB5.out.mono HBW'.out.size)
                    exact ⟨rfl, (b5.trans (belowK_b (w := w) (Nat.le_refl _) w5 D2 _ _ HDw2.out k2 rfl rfl)).trans (belowK_b (w := w) (Nat.le_refl _) _ D _ _ HDw.out k3 rfl rfl)⟩
                · -- stop
                  rintro D cc pre W _ _ h _
                  exact h.elim
  · have h200i : (200 : Int) < nc := by omega
    clear HL HI HEf HFN HNx h200
    gi_wp2_with fail
    obtain ⟨W0, hW⟩ : ∃ W, (w.alloc (.cells (fnC lv qp np cp qr nr cr lo stk qc nc cc) 27)).alloc (.cells #[.int .i64 s] 3) = W := ⟨_, rfl⟩
    have HB0 := Lib.hid (show Below w.heap.size w W0 by rw [← hW]; exact bl_al (below_al _) _)
    try rw [hW]
    clear hW
    refine ⟨trivial, (callsIn_wide.2 (HAW.out W0)).mono ?_⟩
    rintro e w5 ⟨rfl, hb5⟩
    have HB5 := Lib.hid hb5
    clear hb5
    gi_wp2
    refine ⟨_, results_tmp rfl _ _ _, ?_⟩
    exact ⟨rfl, HB0.out.trans (HB5.out.mono HB0.out.size)⟩
end
theorem edges_law {w : World} {cs : List Value} {f : FnM} (h : FnR1 false (wC w) cs f) (s : Int) : Calls Try.prog 4 #[.agg cs.toArray, .int .i64 s] w fun e w' => e = .returned (.bool true) ∧ Below w.heap.size w w' := by
  have h0 := h
  obtain ⟨vp, vr, vc, rfl, hp, hr, hc⟩ := h
  obtain ⟨qp, cp, rfl⟩ := slx_shape hp
  obtain ⟨qr, cr, rfl⟩ := slx_shape hr
  obtain ⟨qc, cc, rfl⟩ := slx_shape hc
  have hcc : f.code.length ≤ cc ∧ cc ≤ maxLen := by
    obtain ⟨_, c', _, e, _, _, _, _, h6, _, h8⟩ := hc
    injection e with _ _ e
    subst e
    exact ⟨h8, h6⟩
  exact edges_walk _ _ _ _ _ _ _ _ _ _ _ _ h0 rfl rfl hc.cells hcc.1 hcc.2 s
end Go.Proofs.Ythgcnlccikpmaaa
