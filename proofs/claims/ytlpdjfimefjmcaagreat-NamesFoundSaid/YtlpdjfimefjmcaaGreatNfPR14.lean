/- NamesFound walked: in a source without a fault every use is found, as what it must be, and no two names are one. (Written by a program.) -/
import Derived.Test.YtlpdjfimefjmcaaGreatNfPR12
import Derived.Test.YtlpdjfimefjmcaaGreatNfPR13
namespace Go.Proofs.YtlpdjfimefjmcaaGreat
open Go Go.RowKit Go.Proofs.Mm

section
variable {W : World} {s : SoZ} {q1 : Option Addr} {c1 : Nat} {q2 : Option Addr} {c2 : Nat} {q3 : Option Addr} {c3 : Nat} {q4 : Option Addr} {c4 : Nat} {q5 : Option Addr} {c5 : Nat}
set_option maxRecDepth 100000 in
set_option maxHeartbeats 8000000 in
theorem nfound_p (h : SrcO false (wC W) s q1 c1 q2 c2 q3 c3 q4 c4 q5 c5) (hsm : SmallZ s) :
    Calls Tryz.prog 3 #[.agg (srV s q1 c1 q2 c2 q3 c3 q4 c4 q5 c5)] W (RetB (.bool true) W) := by
  have HO := Lib.hid h
  have HSM := Lib.hid hsm
  have HSR := Lib.hid (fun (w : World) (hb : Below W.heap.size W w) => show SrcR false (wC w) (.agg #[.slice q1 s.principals.length c1, .slice q2 s.globals.length c2, .slice q3 s.arrays.length c3, .slice q4 s.channels.length c4, .slice q5 s.funcs.length c5]) s from SrcR.le ⟨_, _, _, _, _, rfl, h.pr, h.gl, h.ar, h.ch, h.fn⟩ (below_cle hb))
  have HFI := Lib.hid (fun (w : World) (hb : Below W.heap.size W w) (f : Int) (nm : ByteArray) => find_p (W := w) h (below_cle hb) f nm)
  have HGL := Lib.hid h.gl.cells
  have HAR := Lib.hid h.ar.cells
  have HCH := Lib.hid h.ch.cells
  have HFN := Lib.hid h.fn.cells
  have hneq := neFlt
  clear h hsm
  obtain ⟨i1, hi1, hz1, hs1, hb1⟩ := infoSr
  unfold srV
  obtain ⟨n1, hn1⟩ : ∃ n, s.principals.length = n := ⟨_, rfl⟩
  obtain ⟨n2, hn2⟩ : ∃ n, s.globals.length = n := ⟨_, rfl⟩
  obtain ⟨n3, hn3⟩ : ∃ n, s.arrays.length = n := ⟨_, rfl⟩
  obtain ⟨n4, hn4⟩ : ∃ n, s.channels.length = n := ⟨_, rfl⟩
  obtain ⟨n5, hn5⟩ : ∃ n, s.funcs.length = n := ⟨_, rfl⟩
  rw [hn1, hn2, hn3, hn4, hn5] at HSR HFI
  rw [hn1, hn2, hn3, hn4, hn5]
  have HN1 := Lib.hid hn1
  have HN2 := Lib.hid hn2
  have HN3 := Lib.hid hn3
  have HN4 := Lib.hid hn4
  have HN5 := Lib.hid hn5
  clear hn1 hn2 hn3 hn4 hn5
  obtain ⟨b, hb⟩ : ∃ b, W.heap.size = b := ⟨_, rfl⟩
  go_enter Tryz.func3, Tryz.ntmps3
  go_wp2_with fail
  have HJ := Lib.hid (InB.new' (w := W) #[.slice q1 n1 c1, .slice q2 n2 c2, .slice q3 n3 c3, .slice q4 n4 c4, .slice q5 n5 c5] 27 hb)
  have HB0 := Lib.hid (show Below W.heap.size W (W.alloc (.cells #[.slice q1 n1 c1, .slice q2 n2 c2, .slice q3 n3 c3, .slice q4 n4 c4, .slice q5 n5 c5] 27)) from bl_al (Below.refl _ _) _)
  try rw [hb]
  generalize W.alloc (.cells #[.slice q1 n1 c1, .slice q2 n2 c2, .slice q3 n3 c3, .slice q4 n4 c4, .slice q5 n5 c5] 27) = w0 at *
  clear hb
  go_at_call 5
  refine (known_p _).mono ?_
  rintro e w1 ⟨rfl, hb1'⟩
  have HB1 := Lib.hid (bl_tr HB0.out hb1')
  have HJ1 := Lib.hid (HJ.out.le hb1')
  clear hb1' HJ HB0
  have k0 := HJ1.out.cell (j := 0) rfl
  have k1 := HJ1.out.cell (j := 1) rfl
  have k2 := HJ1.out.cell (j := 2) rfl
  have k3 := HJ1.out.cell (j := 3) rfl
  have k4 := HJ1.out.cell (j := 4) rfl
  go_wp2_with fail
  go_at_call 7
  refine (lentSource_any (HSR.out _ HB1.out) (m := fun _ => none) (fun k o e => by cases e)).mono ?_
  rintro e w2 ⟨v2, m2, rfl, hb2, -, hH2, hS2⟩
  obtain ⟨p1, d1, p2, d2, p3, d3, p4, d4, p5, d5, rfl, hO2⟩ := hS2.opened
  have HB2 := Lib.hid (bl_tr HB1.out hb2)
  have HJ2 := Lib.hid (HJ1.out.le hb2)
  have HCK := Lib.hid (check_p hO2 (has_cle hH2) HSM.out)
  clear k0 k1 k2 k3 k4 hb2 hH2 hS2 hO2 HJ1 HB1
  unfold srV at HCK
  have HFD := Lib.hid (show chkZ nstZ s = (0, 0, 0) → Found s ∧ ∀ f (hf : f < s.funcs.length), ∀ x ∈ s.funcs[f].body, x.exprs.length ≤ 8 ∧ ∀ e ∈ x.exprs, e.length ≤ 48 from fun hz => ⟨found hz, found_us hz⟩)
  generalize chkZ nstZ s = R at *
  rw [HN1.out, HN2.out, HN3.out, HN4.out, HN5.out] at HCK
  rw [HN1.out, HN2.out, HN3.out, HN4.out, HN5.out]
  go_wp2_with fail
  go_at_call 6
  refine HCK.out.mono ?_
  rintro e w3 ⟨rfl, hb3⟩
  have HB3 := Lib.hid (bl_tr HB2.out hb3)
  have HJ3 := Lib.hid (HJ2.out.le hb3)
  clear hb3 HCK HJ2 HB2
  obtain ⟨ra, rb, rc⟩ := R
  unfold flA
  by_cases hz : ra = 0 ∧ rb = 0 ∧ rc = 0
  case neg =>
    have hzb : (ra == 0 && (rb == 0 && rc == 0)) = false := by
      rw [Bool.eq_false_iff]
      intro h9
      simp only [Bool.and_eq_true, beq_iff_eq] at h9
      exact hz h9
    clear hz HFD
    go_wp2
    try go_ret
    exact ⟨rfl, HB3.out⟩
  obtain ⟨rfl, rfl, rfl⟩ := hz
  have HFO := Lib.hid (HFD.out rfl).1
  have HUS := Lib.hid (HFD.out rfl).2
  clear HFD
  have hz2 : n2 ≤ 32 := by have := HFO.out.sz.2.1; rw [HN2.out] at this; exact this
  have hz3 : n3 ≤ 16 := by have := HFO.out.sz.2.2.1; rw [HN3.out] at this; exact this
  have hz4 : n4 ≤ 16 := by have := HFO.out.sz.2.2.2.1; rw [HN4.out] at this; exact this
  have hz5 : n5 ≤ 32 := by have := HFO.out.sz.2.2.2.2; rw [HN5.out] at this; exact this
  go_wp2_with fail
  have HROW := Lib.hid (World.ownsRow_nil w3 w3.heap.size 9 1)
  have HBV := Lib.hid (Below.refl w3.heap.size w3)
  go_loopw [3, 4] (fun l i wr => ∃ (j : Nat) (q : Option Addr) (c : Nat), j ≤ n2 ∧ i = .int .i64 j ∧ l = .slice q j c ∧ Hid (Below w3.heap.size w3 wr) ∧ Hid (wr.ownsRow w3.heap.size 9 1 (.slice q j c) j (strs ((s.globals.map DeZ.name).take j)))) (fun _ i _ => n2 - (intOf i).toNat)
  case atStart => exact ⟨0, none, 0, Nat.zero_le _, rfl, rfl, HBV, Lib.hid (by rw [List.take_zero]; exact HROW.out)⟩
  case round =>
    as_aux_lemma =>
      obtain ⟨j, q, c, hj, rfl, rfl, HB, HR⟩ := hrel
      have HBW := Lib.hid (bl_tr HB3.out HB.out)
      have k1 := (HJ3.out.le HB.out).cell (j := 1) (v := .slice q2 n2 c2) rfl
      have hbl := (HJ3.out.le HB.out).lt
      by_cases hlt : j < n2
      · as_aux_lemma =>
          have hj1 : j < s.globals.length := by rw [HN2.out]; exact hlt
          obtain ⟨g, o, rfl, a0, -, -⟩ := HGL.out j hj1
          have e0 := below_cle HBW.out _ _ a0
          unfold wC at e0
          have hglt : g < wr.heap.size := World.block_lt_of_cell? _ _ e0
          have HTK := Lib.hid (show (s.globals.map DeZ.name).take (j + 1) = ((s.globals.map DeZ.name).take j) ++ [s.globals[j].name] by
            rw [List.take_succ_eq_append_getElem (by rw [List.length_map]; exact hj1), List.getElem_map])
          clear a0
          generalize s.globals[j].name = nm at *
          clear hj1
          have hji : (j : Int) < (n2 : Int) := by omega
          have hnew := row_new wr [.string nm] 9
          have hone : ∀ u ∈ [Value.string nm], u.oneCell' = true := by intro u hu; rw [List.mem_singleton.1 hu]; rfl
          have hsz := HB.out.size
          have HB1 := Lib.hid (bl_al HB.out (.cells #[.string nm] 9))
          have hrow1 := HR.out.alloc (.cells #[.string nm] 9)
          go_wp2_with (at_builtin; refine wpList_append_own _ rfl _ _ 22 rfl w3.heap.size 9 i1 _ 1 16 und_strs hi1 hz1 hs1 hb1 rfl (by decide) _ j (strs ((s.globals.map DeZ.name).take j)) rfl hrow1 ⟨wr.heap.size, 0, none⟩ 1 1 [.string nm] rfl rfl hnew hone (by unfold maxLen; omega) (by omega) (by simp <;> omega) ?_)
          intro v3 w3 hR3 hg3 _
          obtain ⟨q3, c3, rfl⟩ := own_shape hR3
          have HB3 := Lib.hid (grown_below HB1.out HB1.out.size hg3 (fun j hj => (hrow1.lt j hj).1))
          have HR3 := Lib.hid hR3
          clear hg3 hrow1 hnew hR3 hone
          go_wp2
          exact ⟨⟨j + 1, q3, c3, by omega, by go_num, rfl, HB3, Lib.hid (by rw [HTK.out, strs_snoc]; exact HR3.out)⟩, by simp [intOf]; omega⟩
      · obtain rfl : n2 = j := by omega
        have HRX := Lib.hid (show wr.ownsRow w3.heap.size 9 1 (.slice q n2 c) n2 (strs (s.globals.map DeZ.name)) by
          have h9 := HR.out
          rwa [List.take_of_length_le (by rw [List.length_map, HN2.out]; exact Nat.le_refl _)] at h9)
        clear HR hlt hj HROW HBV
        go_wp2_with fail
        clear k1 hbl
        obtain ⟨w4, h9⟩ : ∃ w, w = wr := ⟨_, rfl⟩
        subst h9
        obtain ⟨x1, h9⟩ : ∃ x, x = q := ⟨_, rfl⟩
        subst h9
        obtain ⟨y1, h9⟩ : ∃ x, x = c := ⟨_, rfl⟩
        subst h9
        have HBV := HB
        clear HB
        have hmm1 : n2 ≤ 32 := hz2
        have hm1 := hz2
        obtain ⟨L1, hL⟩ : ∃ L, L = s.globals.map DeZ.name := ⟨_, rfl⟩
        rw [← hL] at HRX
        have HL1 := Lib.hid hL
        have HROW := HRX
        clear hL HRX hm1 HBW
        go_loopw [3, 5] (fun l i wr => ∃ (j : Nat) (q : Option Addr) (c : Nat), j ≤ n3 ∧ i = .int .i64 j ∧ l = .slice q (n2 + j) c ∧ Hid (Below w3.heap.size w3 wr) ∧ Hid (wr.ownsRow w3.heap.size 9 1 (.slice q (n2 + j) c) (n2 + j) (strs (L1 ++ (s.arrays.map ArZ.name).take j)))) (fun _ i _ => n3 - (intOf i).toNat)
        case atStart => exact ⟨0, x1, y1, Nat.zero_le _, rfl, rfl, HBV, Lib.hid (by rw [List.take_zero, List.append_nil]; exact HROW.out)⟩
        case round =>
          as_aux_lemma =>
            obtain ⟨j, q, c, hj, rfl, rfl, HB, HR⟩ := hrel
            have HBW := Lib.hid (bl_tr HB3.out HB.out)
            have k2 := (HJ3.out.le HB.out).cell (j := 2) (v := .slice q3 n3 c3) rfl
            have hbl := (HJ3.out.le HB.out).lt
            by_cases hlt : j < n3
            · as_aux_lemma =>
                have hj1 : j < s.arrays.length := by rw [HN3.out]; exact hlt
                obtain ⟨g, o, rfl, a0, -, -, -⟩ := HAR.out j hj1
                have e0 := below_cle HBW.out _ _ a0
                unfold wC at e0
                have hglt : g < wr.heap.size := World.block_lt_of_cell? _ _ e0
                have HTK := Lib.hid (show L1 ++ (s.arrays.map ArZ.name).take (j + 1) = (L1 ++ (s.arrays.map ArZ.name).take j) ++ [s.arrays[j].name] by
                  rw [List.take_succ_eq_append_getElem (by rw [List.length_map]; exact hj1), List.getElem_map, List.append_assoc])
                clear a0
                generalize s.arrays[j].name = nm at *
                clear hj1
                have hji : (j : Int) < (n3 : Int) := by omega
                have hnew := row_new wr [.string nm] 9
                have hone : ∀ u ∈ [Value.string nm], u.oneCell' = true := by intro u hu; rw [List.mem_singleton.1 hu]; rfl
                have hsz := HB.out.size
                have HB1 := Lib.hid (bl_al HB.out (.cells #[.string nm] 9))
                have hrow1 := HR.out.alloc (.cells #[.string nm] 9)
                go_wp2_with (at_builtin; refine wpList_append_own _ rfl _ _ 22 rfl w3.heap.size 9 i1 _ 1 16 und_strs hi1 hz1 hs1 hb1 rfl (by decide) _ (n2 + j) (strs (L1 ++ (s.arrays.map ArZ.name).take j)) rfl hrow1 ⟨wr.heap.size, 0, none⟩ 1 1 [.string nm] rfl rfl hnew hone (by unfold maxLen; omega) (by omega) (by simp <;> omega) ?_)
                intro v3 w3 hR3 hg3 _
                obtain ⟨q3, c3, rfl⟩ := own_shape hR3
                have HB3 := Lib.hid (grown_below HB1.out HB1.out.size hg3 (fun j hj => (hrow1.lt j hj).1))
                have HR3 := Lib.hid hR3
                clear hg3 hrow1 hnew hR3 hone
                go_wp2
                exact ⟨⟨j + 1, q3, c3, by omega, by go_num, rfl, HB3, Lib.hid (by rw [HTK.out, strs_snoc]; exact HR3.out)⟩, by simp [intOf]; omega⟩
            · obtain rfl : n3 = j := by omega
              have HRX := Lib.hid (show wr.ownsRow w3.heap.size 9 1 (.slice q (n2 + n3) c) (n2 + n3) (strs (L1 ++ s.arrays.map ArZ.name)) by
                have h9 := HR.out
                rwa [List.take_of_length_le (by rw [List.length_map, HN3.out]; exact Nat.le_refl _)] at h9)
              clear HR hlt hj HROW HBV
              go_wp2_with fail
              clear k2 hbl
              obtain ⟨w5, h9⟩ : ∃ w, w = wr := ⟨_, rfl⟩
              subst h9
              obtain ⟨x2, h9⟩ : ∃ x, x = q := ⟨_, rfl⟩
              subst h9
              obtain ⟨y2, h9⟩ : ∃ x, x = c := ⟨_, rfl⟩
              subst h9
              have HBV := HB
              clear HB
              obtain ⟨m2, hm2⟩ : ∃ m, (n2 + n3) = m := ⟨_, rfl⟩
              rw [hm2] at HRX ⊢
              have hmm2 : m2 ≤ 48 := by omega
              obtain ⟨L2, hL⟩ : ∃ L, L = L1 ++ s.arrays.map ArZ.name := ⟨_, rfl⟩
              rw [← hL] at HRX
              have HL2 := Lib.hid hL
              have HROW := HRX
              clear hL HRX hm2 HBW
              go_loopw [3, 6] (fun l i wr => ∃ (j : Nat) (q : Option Addr) (c : Nat), j ≤ n4 ∧ i = .int .i64 j ∧ l = .slice q (m2 + j) c ∧ Hid (Below w3.heap.size w3 wr) ∧ Hid (wr.ownsRow w3.heap.size 9 1 (.slice q (m2 + j) c) (m2 + j) (strs (L2 ++ (s.channels.map DeZ.name).take j)))) (fun _ i _ => n4 - (intOf i).toNat)
              case atStart => exact ⟨0, x2, y2, Nat.zero_le _, rfl, rfl, HBV, Lib.hid (by rw [List.take_zero, List.append_nil]; exact HROW.out)⟩
              case round =>
                as_aux_lemma =>
                  obtain ⟨j, q, c, hj, rfl, rfl, HB, HR⟩ := hrel
                  have HBW := Lib.hid (bl_tr HB3.out HB.out)
                  have k3 := (HJ3.out.le HB.out).cell (j := 3) (v := .slice q4 n4 c4) rfl
                  have hbl := (HJ3.out.le HB.out).lt
                  by_cases hlt : j < n4
                  · as_aux_lemma =>
                      have hj1 : j < s.channels.length := by rw [HN4.out]; exact hlt
                      obtain ⟨g, o, rfl, a0, -, -⟩ := HCH.out j hj1
                      have e0 := below_cle HBW.out _ _ a0
                      unfold wC at e0
                      have hglt : g < wr.heap.size := World.block_lt_of_cell? _ _ e0
                      have HTK := Lib.hid (show L2 ++ (s.channels.map DeZ.name).take (j + 1) = (L2 ++ (s.channels.map DeZ.name).take j) ++ [s.channels[j].name] by
                        rw [List.take_succ_eq_append_getElem (by rw [List.length_map]; exact hj1), List.getElem_map, List.append_assoc])
                      clear a0
                      generalize s.channels[j].name = nm at *
                      clear hj1
                      have hji : (j : Int) < (n4 : Int) := by omega
                      have hnew := row_new wr [.string nm] 9
                      have hone : ∀ u ∈ [Value.string nm], u.oneCell' = true := by intro u hu; rw [List.mem_singleton.1 hu]; rfl
                      have hsz := HB.out.size
                      have HB1 := Lib.hid (bl_al HB.out (.cells #[.string nm] 9))
                      have hrow1 := HR.out.alloc (.cells #[.string nm] 9)
                      go_wp2_with (at_builtin; refine wpList_append_own _ rfl _ _ 22 rfl w3.heap.size 9 i1 _ 1 16 und_strs hi1 hz1 hs1 hb1 rfl (by decide) _ (m2 + j) (strs (L2 ++ (s.channels.map DeZ.name).take j)) rfl hrow1 ⟨wr.heap.size, 0, none⟩ 1 1 [.string nm] rfl rfl hnew hone (by unfold maxLen; omega) (by omega) (by simp <;> omega) ?_)
                      intro v3 w3 hR3 hg3 _
                      obtain ⟨q3, c3, rfl⟩ := own_shape hR3
                      have HB3 := Lib.hid (grown_below HB1.out HB1.out.size hg3 (fun j hj => (hrow1.lt j hj).1))
                      have HR3 := Lib.hid hR3
                      clear hg3 hrow1 hnew hR3 hone
                      go_wp2
                      exact ⟨⟨j + 1, q3, c3, by omega, by go_num, rfl, HB3, Lib.hid (by rw [HTK.out, strs_snoc]; exact HR3.out)⟩, by simp [intOf]; omega⟩
                  · obtain rfl : n4 = j := by omega
                    have HRX := Lib.hid (show wr.ownsRow w3.heap.size 9 1 (.slice q (m2 + n4) c) (m2 + n4) (strs (L2 ++ s.channels.map DeZ.name)) by
                      have h9 := HR.out
                      rwa [List.take_of_length_le (by rw [List.length_map, HN4.out]; exact Nat.le_refl _)] at h9)
                    clear HR hlt hj HROW HBV
                    go_wp2_with fail
                    clear k3 hbl
                    obtain ⟨w6, h9⟩ : ∃ w, w = wr := ⟨_, rfl⟩
                    subst h9
                    obtain ⟨x3, h9⟩ : ∃ x, x = q := ⟨_, rfl⟩
                    subst h9
                    obtain ⟨y3, h9⟩ : ∃ x, x = c := ⟨_, rfl⟩
                    subst h9
                    have HBV := HB
                    clear HB
                    obtain ⟨m3, hm3⟩ : ∃ m, (m2 + n4) = m := ⟨_, rfl⟩
                    rw [hm3] at HRX ⊢
                    have hmm3 : m3 ≤ 64 := by omega
                    obtain ⟨L3, hL⟩ : ∃ L, L = L2 ++ s.channels.map DeZ.name := ⟨_, rfl⟩
                    rw [← hL] at HRX
                    have HL3 := Lib.hid hL
                    have HROW := HRX
                    clear hL HRX hm3 HBW
                    go_loopw [3, 7] (fun l i wr => ∃ (j : Nat) (q : Option Addr) (c : Nat), j ≤ n5 ∧ i = .int .i64 j ∧ l = .slice q (m3 + j) c ∧ Hid (Below w3.heap.size w3 wr) ∧ Hid (wr.ownsRow w3.heap.size 9 1 (.slice q (m3 + j) c) (m3 + j) (strs (L3 ++ (s.funcs.map FnZ.name).take j)))) (fun _ i _ => n5 - (intOf i).toNat)
                    case atStart => exact ⟨0, x3, y3, Nat.zero_le _, rfl, rfl, HBV, Lib.hid (by rw [List.take_zero, List.append_nil]; exact HROW.out)⟩
                    case round =>
                      as_aux_lemma =>
                        obtain ⟨j, q, c, hj, rfl, rfl, HB, HR⟩ := hrel
                        have HBW := Lib.hid (bl_tr HB3.out HB.out)
                        have k4 := (HJ3.out.le HB.out).cell (j := 4) (v := .slice q5 n5 c5) rfl
                        have hbl := (HJ3.out.le HB.out).lt
                        by_cases hlt : j < n5
                        · as_aux_lemma =>
                            have hj1 : j < s.funcs.length := by rw [HN5.out]; exact hlt
                            obtain ⟨g, o, _, _, _, _, _, _, _, _, rfl, a0, -, -, -, -, -, -⟩ := HFN.out j hj1
                            have e0 := below_cle HBW.out _ _ a0
                            unfold wC at e0
                            have hglt : g < wr.heap.size := World.block_lt_of_cell? _ _ e0
                            have HTK := Lib.hid (show L3 ++ (s.funcs.map FnZ.name).take (j + 1) = (L3 ++ (s.funcs.map FnZ.name).take j) ++ [s.funcs[j].name] by
                              rw [List.take_succ_eq_append_getElem (by rw [List.length_map]; exact hj1), List.getElem_map, List.append_assoc])
                            clear a0
                            generalize s.funcs[j].name = nm at *
                            clear hj1
                            have hji : (j : Int) < (n5 : Int) := by omega
                            have hnew := row_new wr [.string nm] 9
                            have hone : ∀ u ∈ [Value.string nm], u.oneCell' = true := by intro u hu; rw [List.mem_singleton.1 hu]; rfl
                            have hsz := HB.out.size
                            have HB1 := Lib.hid (bl_al HB.out (.cells #[.string nm] 9))
                            have hrow1 := HR.out.alloc (.cells #[.string nm] 9)
                            go_wp2_with (at_builtin; refine wpList_append_own _ rfl _ _ 22 rfl w3.heap.size 9 i1 _ 1 16 und_strs hi1 hz1 hs1 hb1 rfl (by decide) _ (m3 + j) (strs (L3 ++ (s.funcs.map FnZ.name).take j)) rfl hrow1 ⟨wr.heap.size, 0, none⟩ 1 1 [.string nm] rfl rfl hnew hone (by unfold maxLen; omega) (by omega) (by simp <;> omega) ?_)
                            intro v3 w3 hR3 hg3 _
                            obtain ⟨q3, c3, rfl⟩ := own_shape hR3
                            have HB3 := Lib.hid (grown_below HB1.out HB1.out.size hg3 (fun j hj => (hrow1.lt j hj).1))
                            have HR3 := Lib.hid hR3
                            clear hg3 hrow1 hnew hR3 hone
                            go_wp2
                            exact ⟨⟨j + 1, q3, c3, by omega, by go_num, rfl, HB3, Lib.hid (by rw [HTK.out, strs_snoc]; exact HR3.out)⟩, by simp [intOf]; omega⟩
                        · obtain rfl : n5 = j := by omega
                          have HRX := Lib.hid (show wr.ownsRow w3.heap.size 9 1 (.slice q (m3 + n5) c) (m3 + n5) (strs (L3 ++ s.funcs.map FnZ.name)) by
                            have h9 := HR.out
                            rwa [List.take_of_length_le (by rw [List.length_map, HN5.out]; exact Nat.le_refl _)] at h9)
                          clear HR hlt hj HROW HBV
                          go_wp2_with fail
                          clear k4 hbl
                          obtain ⟨w7, h9⟩ : ∃ w, w = wr := ⟨_, rfl⟩
                          subst h9
                          obtain ⟨x4, h9⟩ : ∃ x, x = q := ⟨_, rfl⟩
                          subst h9
                          obtain ⟨y4, h9⟩ : ∃ x, x = c := ⟨_, rfl⟩
                          subst h9
                          have HBV := HB
                          clear HB
                          obtain ⟨m4, hm4⟩ : ∃ m, (m3 + n5) = m := ⟨_, rfl⟩
                          rw [hm4] at HRX ⊢
                          have hmm4 : m4 ≤ 96 := by omega
                          obtain ⟨L4, hL⟩ : ∃ L, L = L3 ++ s.funcs.map FnZ.name := ⟨_, rfl⟩
                          rw [← hL] at HRX
                          have HL4 := Lib.hid hL
                          have HROW := HRX
                          clear hL HRX hm4 HBW
                          have HALL := Lib.hid (show w7.ownsRow w3.heap.size 9 1 (.slice x4 m4 y4) m4 (strs (allZ s)) by
                            have h9 := HROW.out
                            rw [HL4.out, HL3.out, HL2.out, HL1.out] at h9
                            unfold allZ
                            simpa [List.append_assoc] using h9)
                          clear HROW HL1 HL2 HL3 HL4
                          have HBV7 := Lib.hid (bl_tr HB3.out HBV.out)
                          have HJ7 := Lib.hid (HJ3.out.le HBV.out)
                          clear hz2 hz3 hz4 hmm1 hmm2 hmm3
                          obtain ⟨vA, hvA⟩ : ∃ v, Value.slice x4 m4 y4 = v := ⟨_, rfl⟩
                          have HVA := Lib.hid hvA.symm
                          rw [hvA]
                          clear hvA
                          go_loopw [8] (fun i wr => ∃ f : Nat, f ≤ n5 ∧ i = .int .i64 f ∧ Hid (Below w7.heap.size w7 wr)) (fun i _ => n5 - (intOf i).toNat)
                          case atStart => exact ⟨0, Nat.zero_le _, rfl, Lib.hid (Below.refl _ _)⟩
                          case round =>
                            as_aux_lemma =>
                              obtain ⟨f, hf, rfl, HB⟩ := hrel
                              obtain ⟨v0, h9⟩ : ∃ w, w = wr := ⟨_, rfl⟩
                              subst h9
                              have HJV := Lib.hid (HJ7.out.le HB.out)
                              have k4 := HJV.out.cell (j := 4) (v := .slice q5 n5 c5) rfl
                              have hbl := HJV.out.lt
                              by_cases hlt : f < n5
                              · have hf1 : f < s.funcs.length := by rw [HN5.out]; exact hlt
                                have HBV0 := Lib.hid (bl_tr HBV7.out HB.out)
                                have HBf := HB
                                obtain ⟨g, o, qp, cp, qr, cr, qv, cv, qb, cb, rfl, a0, a1, a2, a3, a4, a5, hfl⟩ := HFN.out f hf1
                                obtain ⟨-, hp, -, hv, hbd⟩ := hfl
                                have HND := Lib.hid (names_nodup HFO.out hf1)
                                have HBO := Lib.hid (HFO.out.bo f hf1)
                                have HUX := Lib.hid (HUS.out f hf1)
                                have HSD := Lib.hid (HSM.out _ (List.getElem_mem hf1))
                                have hfz := HFO.out.fz f hf1
                                have HA2 := Lib.hid a2
                                have HA4 := Lib.hid a4
                                have HA5 := Lib.hid a5
                                have HP := Lib.hid hp.cells
                                have HV := Lib.hid hv.cells
                                have HBD := Lib.hid hbd.cells
                                clear a0 a1 a2 a3 a4 a5 hp hv hbd
                                obtain ⟨D, hD⟩ : ∃ D, s.funcs[f] = D := ⟨_, rfl⟩
                                rw [hD] at HND HBO HUX HSD hfz HA2 HA4 HA5 HP HV HBD
                                clear hD hf1
                                obtain ⟨np, hnp⟩ : ∃ n, D.params.length = n := ⟨_, rfl⟩
                                obtain ⟨nv, hnv⟩ : ∃ n, D.vars.length = n := ⟨_, rfl⟩
                                obtain ⟨nb, hnb⟩ : ∃ n, D.body.length = n := ⟨_, rfl⟩
                                rw [hnp] at HA2 hfz
                                rw [hnv] at HA4 hfz
                                rw [hnb] at HA5 hfz
                                have HNP := Lib.hid hnp
                                have HNV := Lib.hid hnv
                                have HNB := Lib.hid hnb
                                clear hnp hnv hnb
                                obtain ⟨hfz1, hfz2, hfz3⟩ := hfz
                                have HC := Lib.hid (fun (w : World) (hw : Below v0.heap.size v0 w) => show w.cell? ⟨b, 4, none⟩ = some (.slice (some ⟨g, o, none⟩) n5 c5) ∧ w.cell? ⟨g, o + f * 6 + 2, none⟩ = some (.slice qp np cp) ∧ w.cell? ⟨g, o + f * 6 + 4, none⟩ = some (.slice qv nv cv) ∧ w.cell? ⟨g, o + f * 6 + 5, none⟩ = some (.slice qb nb cb) ∧ b < w.heap.size ∧ g < w.heap.size from by
                                  have hle := below_cle (bl_tr HBV0.out hw)
                                  have e2 := hle _ _ HA2.out
                                  unfold wC at e2
                                  exact ⟨(HJV.out.le hw).cell rfl, e2, hle _ _ HA4.out, hle _ _ HA5.out, (HJV.out.le hw).lt, World.block_lt_of_cell? _ _ e2⟩)
                                clear HA2 HA4 HA5
                                have hfi : (f : Int) < (n5 : Int) := by omega
                                have hrow0 := own_empty v0 9 1
                                obtain ⟨ht1, ht2, ht3, ht4⟩ := own_take ((own_bel HALL.out HB.out).alloc (.cells #[] 9))
                                have HBa := Lib.hid (bl_al (Below.refl v0.heap.size v0) (.cells #[] 9))
                                go_wp2_with (at_builtin; refine wpList_append_rd2 rfl _ _ 22 rfl v0.heap.size 9 i1 _ 1 16 und_strs hi1 hz1 hs1 hb1 rfl (by decide) _ 0 [] rfl hrow0 x4 m4 y4 (strs (allZ s)) HVA.out ht1 ht2 ht3 ht4 (strs_one _) (by unfold maxLen; omega) (by omega) (by simp) ?_)
                                intro v6 w6 hR6 hg6
                                obtain ⟨ql, cl, rfl⟩ := own_shape hR6
                                try simp only [Nat.zero_add, List.nil_append] at hR6
                                try simp only [Nat.zero_add]
                                have HBV := Lib.hid (grown_below HBa.out HBa.out.size hg6 (fun j hj => (hrow0.lt j hj).1))
                                have HROW := Lib.hid hR6
                                clear hR6 hg6 hrow0 ht1 ht2 ht3 ht4 k4 hbl
                                go_wp2_with fail
                                go_loopw [9, 10] (fun l i wr => ∃ (j : Nat) (q : Option Addr) (c : Nat), j ≤ np ∧ i = .int .i64 j ∧ l = .slice q (m4 + j) c ∧ Hid (Below v0.heap.size v0 wr) ∧ Hid (wr.ownsRow v0.heap.size 9 1 (.slice q (m4 + j) c) (m4 + j) (strs (allZ s ++ (D.params.map DeZ.name).take j)))) (fun _ i _ => np - (intOf i).toNat)
                                case atStart => exact ⟨0, ql, cl, Nat.zero_le _, rfl, rfl, HBV, Lib.hid (by rw [List.take_zero, List.append_nil]; exact HROW.out)⟩
                                case round =>
                                  as_aux_lemma =>
                                    obtain ⟨j, q, c, hj, rfl, rfl, HB, HR⟩ := hrel
                                    have HBW := Lib.hid (bl_tr HBV0.out HB.out)
                                    obtain ⟨k4, e2, e4, e5, hbl, hgl⟩ := HC.out _ HB.out
                                    by_cases hlt : j < np
                                    · as_aux_lemma =>
                                        have hj1 : j < D.params.length := by rw [HNP.out]; exact hlt
                                        obtain ⟨g, o, rfl, a0, -, -⟩ := HP.out j hj1
                                        have e0 := below_cle HBW.out _ _ a0
                                        unfold wC at e0
                                        have hglt : g < wr.heap.size := World.block_lt_of_cell? _ _ e0
                                        have HTK := Lib.hid (show allZ s ++ (D.params.map DeZ.name).take (j + 1) = (allZ s ++ (D.params.map DeZ.name).take j) ++ [D.params[j].name] by
                                          rw [List.take_succ_eq_append_getElem (by rw [List.length_map]; exact hj1), List.getElem_map, List.append_assoc])
                                        clear a0
                                        generalize D.params[j].name = nm at *
                                        clear hj1
                                        have hji : (j : Int) < (np : Int) := by omega
                                        have hnew := row_new wr [.string nm] 9
                                        have hone : ∀ u ∈ [Value.string nm], u.oneCell' = true := by intro u hu; rw [List.mem_singleton.1 hu]; rfl
                                        have hsz := HB.out.size
                                        have HB1 := Lib.hid (bl_al HB.out (.cells #[.string nm] 9))
                                        have hrow1 := HR.out.alloc (.cells #[.string nm] 9)
                                        go_wp2_with (at_builtin; refine wpList_append_own _ rfl _ _ 22 rfl v0.heap.size 9 i1 _ 1 16 und_strs hi1 hz1 hs1 hb1 rfl (by decide) _ (m4 + j) (strs (allZ s ++ (D.params.map DeZ.name).take j)) rfl hrow1 ⟨wr.heap.size, 0, none⟩ 1 1 [.string nm] rfl rfl hnew hone (by unfold maxLen; omega) (by omega) (by simp <;> omega) ?_)
                                        intro v3 w3 hR3 hg3 _
                                        obtain ⟨q3, c3, rfl⟩ := own_shape hR3
                                        have HB3 := Lib.hid (grown_below HB1.out HB1.out.size hg3 (fun j hj => (hrow1.lt j hj).1))
                                        have HR3 := Lib.hid hR3
                                        clear hg3 hrow1 hnew hR3 hone
                                        go_wp2
                                        exact ⟨⟨j + 1, q3, c3, by omega, by go_num, rfl, HB3, Lib.hid (by rw [HTK.out, strs_snoc]; exact HR3.out)⟩, by simp [intOf]; omega⟩
                                    · obtain rfl : np = j := by omega
                                      have HRX := Lib.hid (show wr.ownsRow v0.heap.size 9 1 (.slice q (m4 + np) c) (m4 + np) (strs (allZ s ++ D.params.map DeZ.name)) by
                                        have h9 := HR.out
                                        rwa [List.take_of_length_le (by rw [List.length_map, HNP.out]; exact Nat.le_refl _)] at h9)
                                      clear HR hlt hj HROW HBV
                                      go_wp2_with fail
                                      clear k4 e2 e4 e5 hbl hgl
                                      obtain ⟨w8, h9⟩ : ∃ w, w = wr := ⟨_, rfl⟩
                                      subst h9
                                      obtain ⟨x5, h9⟩ : ∃ x, x = q := ⟨_, rfl⟩
                                      subst h9
                                      obtain ⟨y5, h9⟩ : ∃ x, x = c := ⟨_, rfl⟩
                                      subst h9
                                      have HBV := HB
                                      clear HB
                                      obtain ⟨m5, h9⟩ : ∃ m, m4 + np = m := ⟨_, rfl⟩
                                      rw [h9] at HRX ⊢
                                      have hbm5 : m5 ≤ 104 := by omega
                                      clear h9
                                      obtain ⟨L5, hL⟩ : ∃ L, L = allZ s ++ D.params.map DeZ.name := ⟨_, rfl⟩
                                      rw [← hL] at HRX
                                      have HL5 := Lib.hid hL
                                      have HROW := HRX
                                      clear hL HRX HBW
                                      go_loopw [9, 11] (fun l i wr => ∃ (j : Nat) (q : Option Addr) (c : Nat), j ≤ nv ∧ i = .int .i64 j ∧ l = .slice q (m5 + j) c ∧ Hid (Below v0.heap.size v0 wr) ∧ Hid (wr.ownsRow v0.heap.size 9 1 (.slice q (m5 + j) c) (m5 + j) (strs (L5 ++ (D.vars.map DeZ.name).take j)))) (fun _ i _ => nv - (intOf i).toNat)
                                      case atStart => exact ⟨0, x5, y5, Nat.zero_le _, rfl, rfl, HBV, Lib.hid (by rw [List.take_zero, List.append_nil]; exact HROW.out)⟩
                                      case round =>
                                        as_aux_lemma =>
                                          obtain ⟨j, q, c, hj, rfl, rfl, HB, HR⟩ := hrel
                                          have HBW := Lib.hid (bl_tr HBV0.out HB.out)
                                          obtain ⟨k4, e2, e4, e5, hbl, hgl⟩ := HC.out _ HB.out
                                          by_cases hlt : j < nv
                                          · as_aux_lemma =>
                                              have hj1 : j < D.vars.length := by rw [HNV.out]; exact hlt
                                              obtain ⟨g, o, rfl, a0, -, -⟩ := HV.out j hj1
                                              have e0 := below_cle HBW.out _ _ a0
                                              unfold wC at e0
                                              have hglt : g < wr.heap.size := World.block_lt_of_cell? _ _ e0
                                              have HTK := Lib.hid (show L5 ++ (D.vars.map DeZ.name).take (j + 1) = (L5 ++ (D.vars.map DeZ.name).take j) ++ [D.vars[j].name] by
                                                rw [List.take_succ_eq_append_getElem (by rw [List.length_map]; exact hj1), List.getElem_map, List.append_assoc])
                                              clear a0
                                              generalize D.vars[j].name = nm at *
                                              clear hj1
                                              have hji : (j : Int) < (nv : Int) := by omega
                                              have hnew := row_new wr [.string nm] 9
                                              have hone : ∀ u ∈ [Value.string nm], u.oneCell' = true := by intro u hu; rw [List.mem_singleton.1 hu]; rfl
                                              have hsz := HB.out.size
                                              have HB1 := Lib.hid (bl_al HB.out (.cells #[.string nm] 9))
                                              have hrow1 := HR.out.alloc (.cells #[.string nm] 9)
                                              go_wp2_with (at_builtin; refine wpList_append_own _ rfl _ _ 22 rfl v0.heap.size 9 i1 _ 1 16 und_strs hi1 hz1 hs1 hb1 rfl (by decide) _ (m5 + j) (strs (L5 ++ (D.vars.map DeZ.name).take j)) rfl hrow1 ⟨wr.heap.size, 0, none⟩ 1 1 [.string nm] rfl rfl hnew hone (by unfold maxLen; omega) (by omega) (by simp <;> omega) ?_)
                                              intro v3 w3 hR3 hg3 _
                                              obtain ⟨q3, c3, rfl⟩ := own_shape hR3
                                              have HB3 := Lib.hid (grown_below HB1.out HB1.out.size hg3 (fun j hj => (hrow1.lt j hj).1))
                                              have HR3 := Lib.hid hR3
                                              clear hg3 hrow1 hnew hR3 hone
                                              go_wp2
                                              exact ⟨⟨j + 1, q3, c3, by omega, by go_num, rfl, HB3, Lib.hid (by rw [HTK.out, strs_snoc]; exact HR3.out)⟩, by simp [intOf]; omega⟩
                                          · obtain rfl : nv = j := by omega
                                            have HRX := Lib.hid (show wr.ownsRow v0.heap.size 9 1 (.slice q (m5 + nv) c) (m5 + nv) (strs (L5 ++ D.vars.map DeZ.name)) by
                                              have h9 := HR.out
                                              rwa [List.take_of_length_le (by rw [List.length_map, HNV.out]; exact Nat.le_refl _)] at h9)
                                            clear HR hlt hj HROW HBV
                                            go_wp2_with fail
                                            clear k4 e2 e4 e5 hbl hgl
                                            obtain ⟨w9, h9⟩ : ∃ w, w = wr := ⟨_, rfl⟩
                                            subst h9
                                            obtain ⟨x6, h9⟩ : ∃ x, x = q := ⟨_, rfl⟩
                                            subst h9
                                            obtain ⟨y6, h9⟩ : ∃ x, x = c := ⟨_, rfl⟩
                                            subst h9
                                            have HBV := HB
                                            clear HB
                                            obtain ⟨m6, h9⟩ : ∃ m, m5 + nv = m := ⟨_, rfl⟩
                                            rw [h9] at HRX ⊢
                                            have hbm6 : m6 ≤ 136 := by omega
                                            clear h9
                                            obtain ⟨L6, hL⟩ : ∃ L, L = L5 ++ D.vars.map DeZ.name := ⟨_, rfl⟩
                                            rw [← hL] at HRX
                                            have HL6 := Lib.hid hL
                                            have HROW := HRX
                                            clear hL HRX HBW
                                            have HLN := Lib.hid (show L6 = namesZ s D by rw [HL6.out, HL5.out]; unfold namesZ; rw [List.map_append, List.append_assoc])
                                            have HRW := Lib.hid (show w9.ownsRow v0.heap.size 9 1 (.slice x6 m6 y6) m6 (strs L6) from HROW.out)
                                            have HLL := Lib.hid (own_len HRW.out)
                                            have HNO := Lib.hid (show L6.Nodup by rw [HLN.out]; exact HND.out.1)
                                            have HNA := Lib.hid (show ∀ n ∈ L6, nameZ n = true by rw [HLN.out]; exact HND.out.2)
                                            have HLC := Lib.hid (fun (w : World) (hw : Below w9.heap.size w9 w) (j : Nat) (hj : j < L6.length) => own_str (own_bel HRW.out hw) hj)
                                            clear HROW HL5 HL6 HND HLN HRW
                                            go_loopw [12] (fun i wr => ∃ i0 : Nat, i0 ≤ m6 ∧ i = .int .i64 i0 ∧ Hid (Below w9.heap.size w9 wr)) (fun i _ => m6 - (intOf i).toNat)
                                            case atStart => exact ⟨0, Nat.zero_le _, rfl, Lib.hid (Below.refl _ _)⟩
                                            case round =>
                                              as_aux_lemma =>
                                                obtain ⟨i0, hi0, rfl, HB⟩ := hrel
                                                obtain ⟨w10, h9⟩ : ∃ w, w = wr := ⟨_, rfl⟩
                                                subst h9
                                                by_cases hlt : i0 < m6
                                                · as_aux_lemma =>
                                                    have hi1 : i0 < L6.length := by rw [HLL.out]; exact hlt
                                                    obtain ⟨gl, rfl, -⟩ := HLC.out _ HB.out i0 hi1
                                                    have HLD := Lib.hid (fun (w : World) (hw : Below w9.heap.size w9 w) (j : Nat) (hj : j < L6.length) => show w.cell? ⟨gl, j, none⟩ = some (.string L6[j]) from by
                                                      obtain ⟨g', e, h⟩ := HLC.out w hw j hj
                                                      injection e with e
                                                      injection e with e
                                                      subst e
                                                      exact h)
                                                    have hii : (i0 : Int) < (m6 : Int) := by omega
                                                    have HI1 := Lib.hid hi1
                                                    clear hi1
                                                    go_wp2_with fail
                                                    go_loopw [13] (fun k wr => ∃ k0 : Nat, k0 ≤ i0 ∧ k = .int .i64 k0 ∧ Hid (Below w9.heap.size w9 wr)) (fun k _ => i0 - (intOf k).toNat)
                                                    case atStart => exact ⟨0, Nat.zero_le _, rfl, HB⟩
                                                    case round =>
                                                      as_aux_lemma =>
                                                        obtain ⟨k0, hk0, rfl, HB2⟩ := hrel
                                                        by_cases hlk : k0 < i0
                                                        · have hk1 : k0 < L6.length := Nat.lt_trans hlk HI1.out
                                                          have r0 := HLD.out _ HB2.out i0 HI1.out
                                                          have r1 := HLD.out _ HB2.out k0 hk1
                                                          have hne : L6[i0]'HI1.out ≠ L6[k0] := fun e => by
                                                            have := (List.pairwise_iff_getElem.1 HNO.out) k0 i0 hk1 HI1.out hlk
                                                            exact this e.symm
                                                          generalize L6[i0]'HI1.out = na at *
                                                          generalize L6[k0] = nc at *
                                                          have hab : (na.toList == nc.toList) = false := by rw [str_dec]; exact decide_eq_false hne
                                                          have hgl2 := World.block_lt_of_cell? _ _ r0
                                                          have hki : (k0 : Int) < (i0 : Int) := by omega
                                                          have hkm : (k0 : Int) < (m6 : Int) := by omega
                                                          clear hne hk1
                                                          go_wp2_with fail
                                                          go_quiet (fail)
                                                          go_wp2
                                                          exact ⟨⟨k0 + 1, by omega, by go_num, Lib.hid (bl_dN HB2.out _)⟩, by simp [intOf]; omega⟩
                                                        · obtain rfl : i0 = k0 := by omega
                                                          have r0 := HLD.out _ HB2.out i0 HI1.out
                                                          have HNM := Lib.hid (HNA.out _ (List.getElem_mem HI1.out))
                                                          generalize L6[i0]'HI1.out = na at *
                                                          have hgl2 := World.block_lt_of_cell? _ _ r0
                                                          go_wp2_with fail
                                                          go_at_call 8
                                                          refine (name_p na _).mono ?_
                                                          rintro e w' ⟨rfl, rfl⟩
                                                          rw [HNM.out]
                                                          go_wp2
                                                          exact ⟨⟨i0 + 1, by omega, by go_num, HB2⟩, by simp [intOf]; omega⟩
                                                · obtain rfl : m6 = i0 := by omega
                                                  have HBV9 := Lib.hid (bl_tr HBV.out HB.out)
                                                  clear HLC HNA HNO HLL HB hlt hi0 HBV
                                                  go_wp2_with fail
                                                  go_loopw [14] (fun i wr => ∃ i0 : Nat, i0 ≤ nb ∧ i = .int .i64 i0 ∧ Hid (Below v0.heap.size v0 wr)) (fun i _ => nb - (intOf i).toNat)
                                                  case atStart => exact ⟨0, Nat.zero_le _, rfl, HBV9⟩
                                                  case round =>
                                                    as_aux_lemma =>
                                                      obtain ⟨i0, hi0, rfl, HB⟩ := hrel
                                                      obtain ⟨w10, h9⟩ : ∃ w, w = wr := ⟨_, rfl⟩
                                                      subst h9
                                                      obtain ⟨k4, e2, e4, e5, hbl, hgl⟩ := HC.out _ HB.out
                                                      by_cases hlt : i0 < nb
                                                      · as_aux_lemma =>
                                                          have hi1 : i0 < D.body.length := by rw [HNB.out]; exact hlt
                                                          obtain ⟨gb, ob, qt, ct, qe, ce, rfl, b0, b1, b2, b3, ht, he⟩ := HBD.out i0 hi1
                                                          have HBW := Lib.hid (bl_tr HBV0.out HB.out)
                                                          have hle := below_cle HBW.out
                                                          have y0 := hle _ _ b0
                                                          have y1 := hle _ _ b1
                                                          have y2 := hle _ _ b2
                                                          have y3 := hle _ _ b3
                                                          unfold wC at y0 y1 y2 y3
                                                          have hgb := World.block_lt_of_cell? _ _ y0
                                                          have HKI := Lib.hid (fun (w : World) (hw : Below W.heap.size W w) (hok : UsOk D.body[i0]) => kinds_p (W := w) D.body[i0] ht he (below_cle hw) hok)
                                                          have HFT := Lib.hid (fun (w : World) (hw : Below W.heap.size W w) => fits_p (W := w) D.body[i0] ht he (below_cle hw))
                                                          have HOK := Lib.hid (show UsOk D.body[i0] from ⟨HSD.out _ (List.getElem_mem hi1), (HUX.out _ (List.getElem_mem hi1)).1, (HUX.out _ (List.getElem_mem hi1)).2⟩)
                                                          have HUU := Lib.hid (HBO.out _ (List.getElem_mem hi1))
                                                          have HUZL := Lib.hid (usesZ_len HOK.out)
                                                          clear b0 b1 b2 b3 ht he hle
                                                          unfold stA at HKI
                                                          unfold stV at HFT
                                                          generalize D.body[i0] = x at *
                                                          clear hi1
                                                          obtain ⟨kd, xn, ts, es⟩ := x
                                                          simp only at y0 y1 y2 y3 HKI HFT
                                                          generalize ts.length = nt at *
                                                          generalize es.length = ne at *
                                                          have hji : (i0 : Int) < (nb : Int) := by omega
                                                          go_wp2_with fail
                                                          have HX := Lib.hid (InB.new w10 #[.int .i64 kd, .string xn, .slice qt nt ct, .slice qe ne ce] 47)
                                                          have HB9 := Lib.hid (bl_al HB.out (.cells #[.int .i64 kd, .string xn, .slice qt nt ct, .slice qe ne ce] 47))
                                                          obtain ⟨bx, hbx⟩ : ∃ bx, w10.heap.size = bx := ⟨_, rfl⟩
                                                          rw [hbx] at HX ⊢
                                                          clear hbx
                                                          generalize w10.alloc (.cells #[.int .i64 kd, .string xn, .slice qt nt ct, .slice qe ne ce] 47) = w11 at *
                                                          clear k4 e2 e4 e5 hbl hgl y0 y1 y2 y3 hgb
                                                          go_at_call 9
                                                          refine (HKI.out _ (bl_tr HBV0.out HB9.out) HOK.out).mono ?_
                                                          rintro e w12 ⟨l, k, w00, rfl, hbw, h2⟩
                                                          unfold TwoU at h2
                                                          obtain ⟨qu, cu, rfl⟩ := own_shape h2.one
                                                          obtain ⟨qk, ck, rfl⟩ := own_shape h2.two
                                                          have hb12 := bl_tr hbw h2.below
                                                          have HB12 := Lib.hid (bl_tr HB9.out hb12)
                                                          have HX2 := Lib.hid (HX.out.le hb12)
                                                          have HU1 := Lib.hid (fun (w : World) (hw : Below w12.heap.size w12 w) (j : Nat) (hj : j < (usesZ ⟨kd, xn, ts, es⟩).length) => own_use (own_bel h2.one hw) hj)
                                                          have HU2 := Lib.hid (fun (w : World) (hw : Below w12.heap.size w12 w) (j : Nat) (hj : j < (usesZ ⟨kd, xn, ts, es⟩).length) => own_kd (own_bel h2.two hw) hj)
                                                          clear hbw h2 hb12 HX HKI HOK
                                                          obtain ⟨hft, hus⟩ := HUU.out
                                                          have HUS2 := Lib.hid hus
                                                          have HF9 := Lib.hid (fun (w : World) (hw : Below W.heap.size W w) => show Calls Tryz.prog 11 #[.agg #[.int .i64 kd, .string xn, .slice qt nt ct, .slice qe ne ce]] w (RetB (.bool true) w) from by rw [← hft]; exact HFT.out w hw)
                                                          clear hft hus HUU HFT
                                                          generalize usesZ ⟨kd, xn, ts, es⟩ = U at *
                                                          obtain ⟨nu, hnu⟩ : ∃ nu, U.length = nu := ⟨_, rfl⟩
                                                          have HNU := Lib.hid hnu
                                                          have hnub : nu ≤ 8796093022337 := by rw [← hnu]; exact HUZL.out
                                                          rw [hnu]
                                                          clear hnu
                                                          go_wp2_with fail
                                                          go_loopw [18] (fun i wr => ∃ k0 : Nat, k0 ≤ nu ∧ i = .int .i64 k0 ∧ Hid (Below w12.heap.size w12 wr)) (fun i _ => nu - (intOf i).toNat)
                                                          case atStart => exact ⟨0, Nat.zero_le _, rfl, Lib.hid (Below.refl _ _)⟩
                                                          case round =>
                                                            as_aux_lemma =>
                                                              obtain ⟨k0, hk0, rfl, HBu⟩ := hrel
                                                              obtain ⟨w13, h9⟩ : ∃ w, w = wr := ⟨_, rfl⟩
                                                              subst h9
                                                              have HBF := Lib.hid (bl_tr HB12.out HBu.out)
                                                              have HX3 := Lib.hid (HX2.out.le HBu.out)
                                                              by_cases hlk : k0 < nu
                                                              · have hk1 : k0 < U.length := by rw [HNU.out]; exact hlk
                                                                obtain ⟨gu, rfl, hu⟩ := HU1.out _ HBu.out k0 hk1
                                                                obtain ⟨gk, rfl, hkd⟩ := HU2.out _ HBu.out k0 hk1
                                                                obtain ⟨kf, nf, hfnd, hmay⟩ := HUS2.out _ (List.getElem_mem hk1)
                                                                obtain ⟨ma, mb, hk2, hmm⟩ := may_of hmay
                                                                rw [hk2] at hkd
                                                                have z0 := hkd 0 _ (by decide) rfl
                                                                have z1 := hkd 1 _ (by decide) rfl
                                                                rw [Nat.add_zero] at z0
                                                                have HFF := Lib.hid (fun (w : World) (hw : Below W.heap.size W w) => HFI.out w hw f U[k0].1)
                                                                rw [hfnd] at HFF
                                                                clear hkd hk2 hmay hfnd
                                                                generalize U[k0] = u at *
                                                                obtain ⟨un, uk⟩ := u
                                                                simp only [refV] at hu HFF
                                                                clear hk1
                                                                have hki : (k0 : Int) < (nu : Int) := by omega
                                                                have HBZ := Lib.hid (bl_tr HBV0.out HBF.out)
                                                                have HJZ := Lib.hid ((HJV.out.le HBF.out))
                                                                have HS := Lib.hid (fun (w : World) (hw : Below w13.heap.size w13 w) => show w.cell? ⟨b, 0, none⟩ = some (.slice q1 n1 c1) ∧ w.cell? ⟨b, 1, none⟩ = some (.slice q2 n2 c2) ∧ w.cell? ⟨b, 2, none⟩ = some (.slice q3 n3 c3) ∧ w.cell? ⟨b, 3, none⟩ = some (.slice q4 n4 c4) ∧ w.cell? ⟨b, 4, none⟩ = some (.slice (some ⟨g, o, none⟩) n5 c5) ∧ w.cell? ⟨gu, k0, none⟩ = some (.string un) ∧ w.cell? ⟨gk, k0 * 2, none⟩ = some (.int .i64 (ma : Int)) ∧ w.cell? ⟨gk, k0 * 2 + 1, none⟩ = some (.int .i64 (mb : Int)) from
                                                                  ⟨(HJZ.out.le hw).cell rfl, (HJZ.out.le hw).cell rfl, (HJZ.out.le hw).cell rfl, (HJZ.out.le hw).cell rfl, (HJZ.out.le hw).cell rfl, cell_b hu hw, cell_b z0 hw, cell_b z1 hw⟩)
                                                                clear hu z0 z1
                                                                obtain ⟨g0, g1, g2, g3, g4, g5, g6, g7⟩ := HS.out _ (Below.refl _ _)
                                                                have hgu := World.block_lt_of_cell? _ _ g5
                                                                have hgk := World.block_lt_of_cell? _ _ g6
                                                                have hbl := HJZ.out.lt
                                                                go_wp2_with fail
                                                                go_region_with (first | (go_at_call 10; refine (HFF.out _ (bl_tr HBZ.out (by repeat (first | exact Below.refl _ _ | refine bl_al ?_ _ | refine bl_dr ?_ | refine bl_dN ?_ _)))).mono ?_; rintro e ws ⟨rfl, hbs⟩; try (have hib : InB ws w13.heap.size #[.int .i64 0, .int .i64 0] 52 := (InB.new w13.drew #[.int .i64 0, .int .i64 0] 52).le hbs; have v0' := hib.cell (j := 0) rfl; have v1' := hib.cell (j := 1) rfl; have v2' := free_of (j := 0) hib; have v3' := free_of (j := 1) hib; have v4' := hib.lt)))
                                                                all_goals
                                                                  first
                                                                  | (have hq9 := v4'
                                                                     have HWS := Lib.hid (show Below w13.heap.size w13 ws from bl_tr (bl_al (bl_dr (Below.refl _ _)) _) hbs)
                                                                     obtain ⟨-, -, -, -, -, -, r6, r7⟩ := HS.out _ HWS.out
                                                                     have hgk2 := World.block_lt_of_cell? _ _ r6
                                                                     clear g0 g1 g2 g3 g4 g5 g6 g7 hbs
                                                                     rcases hmm with hm | ⟨hm, hm2⟩
                                                                     · as_aux_lemma =>
                                                                         have hd1 : ((kf : Int) != (ma : Int)) = false := by simp [hm]
                                                                         clear hm
                                                                         go_wp2_with fail
                                                                         go_quiet (fail)
                                                                         go_wp2
                                                                         have HFN := Lib.hid (bl_tr HBu.out (bl_dN ((HWS.out.setCell (p := ⟨w13.heap.size, 0, none⟩) (Nat.le_refl _) (.int .i64 (kf : Int))).setCell (p := ⟨w13.heap.size, 1, none⟩) (Nat.le_refl _) (.int .i64 (nf : Int))) nq))
                                                                         refine ⟨⟨k0 + 1, by omega, by go_num, HFN⟩, ?_⟩
                                                                         simp [intOf]
                                                                         omega
                                                                     · as_aux_lemma =>
                                                                         have hd1 : ((kf : Int) != (ma : Int)) = true := by simp; omega
                                                                         have hd2 : ((kf : Int) != (mb : Int)) = false := by simp [hm2]
                                                                         clear hm hm2
                                                                         go_wp2_with fail
                                                                         go_quiet (fail)
                                                                         go_wp2
                                                                         have HFN := Lib.hid (bl_tr HBu.out (bl_dN ((HWS.out.setCell (p := ⟨w13.heap.size, 0, none⟩) (Nat.le_refl _) (.int .i64 (kf : Int))).setCell (p := ⟨w13.heap.size, 1, none⟩) (Nat.le_refl _) (.int .i64 (nf : Int))) nq))
                                                                         refine ⟨⟨k0 + 1, by omega, by go_num, HFN⟩, ?_⟩
                                                                         simp [intOf]
                                                                         omega)
                                                                  | (have HWS := Lib.hid (show Below w13.heap.size w13 ws from bl_tr (bl_dr (Below.refl _ _)) hbs)
                                                                     obtain ⟨-, -, -, -, -, -, r6, r7⟩ := HS.out _ HWS.out
                                                                     have hgk2 := World.block_lt_of_cell? _ _ r6
                                                                     clear g0 g1 g2 g3 g4 g5 g6 g7 hbs
                                                                     rcases hmm with hm | ⟨hm, hm2⟩
                                                                     · as_aux_lemma =>
                                                                         have hd1 : ((kf : Int) != (ma : Int)) = false := by simp [hm]
                                                                         clear hm
                                                                         go_wp2_with fail
                                                                         go_quiet (fail)
                                                                         go_wp2
                                                                         have HFN := Lib.hid (bl_tr HBu.out (bl_dN (bl_al HWS.out (.cells #[.int .i64 (kf : Int), .int .i64 (nf : Int)] 52)) nq))
                                                                         refine ⟨⟨k0 + 1, by omega, by go_num, HFN⟩, ?_⟩
                                                                         simp [intOf]
                                                                         omega
                                                                     · as_aux_lemma =>
                                                                         have hd1 : ((kf : Int) != (ma : Int)) = true := by simp; omega
                                                                         have hd2 : ((kf : Int) != (mb : Int)) = false := by simp [hm2]
                                                                         clear hm hm2
                                                                         go_wp2_with fail
                                                                         go_quiet (fail)
                                                                         go_wp2
                                                                         have HFN := Lib.hid (bl_tr HBu.out (bl_dN (bl_al HWS.out (.cells #[.int .i64 (kf : Int), .int .i64 (nf : Int)] 52)) nq))
                                                                         refine ⟨⟨k0 + 1, by omega, by go_num, HFN⟩, ?_⟩
                                                                         simp [intOf]
                                                                         omega)
                                                              · obtain rfl : nu = k0 := by omega
                                                                have y0 := HX3.out.cell (j := 0) (v := .int .i64 kd) rfl
                                                                have y1 := HX3.out.cell (j := 1) (v := .string xn) rfl
                                                                have y2 := HX3.out.cell (j := 2) (v := .slice qt nt ct) rfl
                                                                have y3 := HX3.out.cell (j := 3) (v := .slice qe ne ce) rfl
                                                                have hbx := HX3.out.lt
                                                                go_wp2_with fail
                                                                go_at_call 11
                                                                refine (HF9.out _ (bl_tr HBV0.out HBF.out)).mono ?_
                                                                rintro e w14 ⟨rfl, hb14⟩
                                                                have HB14 := Lib.hid (bl_tr HBF.out hb14)
                                                                clear y0 y1 y2 y3 hbx hb14
                                                                go_wp2
                                                                exact ⟨⟨i0 + 1, by omega, by go_num, HB14⟩, by simp [intOf]; omega⟩
                                                      · obtain rfl : nb = i0 := by omega
                                                        go_wp2
                                                        exact ⟨⟨f + 1, by omega, by go_num, Lib.hid (bl_tr HBf.out HB.out)⟩, by simp [intOf]; omega⟩
                              · obtain rfl : n5 = f := by omega
                                go_wp2
                                try go_ret
                                exact ⟨rfl, bl_tr HBV7.out HB.out⟩
end
end Go.Proofs.YtlpdjfimefjmcaaGreat
