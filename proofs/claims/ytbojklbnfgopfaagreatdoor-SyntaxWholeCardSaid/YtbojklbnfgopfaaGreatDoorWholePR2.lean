/- SyntaxAhead: the walk. -/
import Derived.Test.YtbojklbnfgopfaaGreatDoorWholePR1
namespace Go.Proofs.YtbojklbnfgopfaaGreatDoor
open Go Go.RowKit Go.Proofs.Mm

theorem own_rd {w : World} {B size n c : Nat} {E : TypeId} {q : Option Addr} {xs : List Value} (h : w.ownsRow B E size (.slice q n c) n xs) : RdR w q xs := by
  rcases h.2 with ⟨h1, h2⟩ | ⟨g, cap, cur, h1, _, hg, h4, h5, h6, h7⟩
  · left
    have := h.1
    rw [h2, Nat.zero_mul] at this
    exact List.eq_nil_of_length_eq_zero this
  · right
    injection h1 with h1 _ _
    refine ⟨g, h1, fun j u hu => cell_of hg ?_⟩
    rw [← h7, List.getElem?_take] at hu
    split at hu
    · simpa using hu
    · cases hu
theorem rd_tok {w : World} {q : Option Addr} {l : List It} (h : RdR w q (tokCells l)) (j : Nat) (hj : j < l.length) : ∃ g, q = some ⟨g, 0, none⟩ ∧ w.cell? ⟨g, j * 4, none⟩ = some (.int .i64 (l[j].k : Nat)) ∧ w.cell? ⟨g, j * 4 + 1, none⟩ = some (.string l[j].t) ∧ w.cell? ⟨g, j * 4 + 2, none⟩ = some (.int .i64 (l[j].v : Nat)) ∧ w.cell? ⟨g, j * 4 + 3, none⟩ = some (.int .i64 (l[j].a : Nat)) := by
  rw [Nat.mul_comm j 4]
  obtain ⟨a1, a2, a3, a4⟩ := tokCells_at l j hj
  rcases h with h | ⟨g, h1, h2⟩
  · rw [h] at a1; simp at a1
  · exact ⟨g, h1, h2 _ _ a1, h2 _ _ a2, h2 _ _ a3, h2 _ _ a4⟩
/-- Which faults are the grammar's. -/
def GrE (er : Nat) : Prop := er = 50 ∨ er = 10 ∨ er = 74 ∨ er = 51
set_option maxRecDepth 100000 in
set_option maxHeartbeats 8000000 in
theorem ahead_any (s more : ByteArray) (hmore : more.size ≤ 140737488355328) (w : World) (hE : Env w) : Calls Tryz.prog 6 #[.string s, .string more] w fun e w' => e = .returned (.bool true) ∧ Below w.heap.size w w' := by
  have HK := Lib.hid (known_any w hE)
  have HE := Lib.hid hE
  clear hE
  go_enter Tryz.func6, Tryz.ntmps6
  go_wp2_with (go_at_call 10; refine HK.out.mono ?_; rintro e w1 ⟨rfl, hb1⟩)
  have hE1 := HE.out.below hb1 HE.out.lt
  go_at_call 7
  refine (parse_any s w1 hE1 (has0 _)).mono ?_
  rintro e w2 hpr
  obtain ⟨hb2, ⟨er, a, hs, rfl⟩ | ⟨so, q1, c1, q2, c2, q3, c3, q4, c4, q5, c5, m1, hs, rfl, g1, g2, g3⟩⟩ := hpr.cases
  · by_cases her : GrE er
    · have HW2 := Lib.hid (hb1.trans (hb2.mono hb1.size))
      have HS := Lib.hid hs
      have HB3 := Lib.hid ((HW2.out.alloc HW2.out.size srZ).alloc (by simp; have := HW2.out.size; omega) (.cells #[.int .i64 (er : Nat), .int .i64 (-1), .int .i64 (a : Nat)] 30))
      have HE3 := Lib.hid (HE.out.below HB3.out HE.out.lt)
      have HF3 := Lib.hid (show ((w2.alloc srZ).alloc (.cells #[.int .i64 (er : Nat), .int .i64 (-1), .int .i64 (a : Nat)] 30)).heap[w2.heap.size + 1]? = some (.cells #[.int .i64 (er : Nat), .int .i64 (-1), .int .i64 (a : Nat)] 30 (0, 0)) from by
        have := World.alloc_heap_new (w2.alloc srZ) (.cells #[.int .i64 (er : Nat), .int .i64 (-1), .int .i64 (a : Nat)] 30)
        rwa [World.size_alloc] at this)
      clear hpr hb1 hb2 hs
      rcases her with her | her | her | her
      · have d1 : ((er : Int) != 50) = false := by rw [her]; rfl
        have d2 := trivial
        have d3 := trivial
        have d4 := trivial
        have HER := Lib.hid her
        clear her
        go_wp2_with fail
        go_at_call 13
        refine (scan_any s _ HE3.out).mono ?_
        rintro e w4 ⟨hb4, ⟨ys, q, c, hy, hy0, rfl, hrow⟩ | ⟨pr, x, hp, hx, rfl⟩⟩
        · obtain ⟨k, hk, hr, ha⟩ := src_err hy hy0 HS.out
          have hws := ws_of hy hy0
          have hlen := hws.2
          have hss := (all_short hy hy0).1
          have HRD := Lib.hid (own_rd hrow)
          have HF4 := Lib.hid ((hb4.block _ (heap_lt HF3.out)).trans HF3.out)
          have HB4 := Lib.hid (HB3.out.trans (hb4.mono HB3.out.size))
          have HY := Lib.hid (And.intro hy (And.intro hy0 hr))
          have HP1 := Lib.hid (fun i (h : i < ys.length) => place_one (k := k) hy hy0 h)
          have HP2 := Lib.hid (fun i (h : i < ys.length) => (its_place hy hy0 i h).2.1)
          have hal : a ≤ s.size := by
            rw [ha]
            rcases Nat.lt_or_ge k ys.length with h | h
            · have e : tk ys s.size k = ys[k] := by unfold tk; rw [List.getD_eq_getElem?_getD, List.getElem?_eq_getElem h]; rfl
              rw [e]; have := (its_place hy hy0 k h).2.1; omega
            · rw [tk_end ys s.size h]; exact Nat.le_refl _
          have HA := Lib.hid ha
          obtain ⟨E, hEE⟩ : ∃ E, a + (tk ys s.size k).t.size = E := ⟨_, rfl⟩
          have HEE := Lib.hid hEE
          clear hb4 hrow hy hy0 hr hws HF3 HB3 HE3 HW2 ha hEE d1 d2 d3 d4
          obtain ⟨y0, y1, y2, _⟩ := three_cells HF4.out
          go_wp2_with fail
          go_loopw [10, 11] (fun e i wr => ∃ j nq : Nat, j ≤ ys.length ∧ i = .int .i64 j ∧ e = .int .i64 (if k < j then (E : Int) else -1) ∧ wr = w4.drewN nq) (fun _ i _ => ys.length - (intOf i).toNat)
          case atStart => exact ⟨0, 0, Nat.zero_le _, rfl, by rw [if_neg (Nat.not_lt_zero _)], rfl⟩
          case round =>
            obtain ⟨j, nq, hj, rfl, rfl, rfl⟩ := hrel
            by_cases hlt : j < ys.length
            · obtain ⟨g, rfl, b0, b1, b2, b3⟩ := rd_tok HRD.out j hlt
              have hone := HP1.out j hlt
              have hin := HP2.out j hlt
              have hji : (j : Int) < (ys.length : Int) := by omega
              by_cases hjk : j = k
              · have hE2 : E = ys[j].a + ys[j].t.size := by
                  rw [← HEE.out, HA.out, ← hone.2 hjk]
                  congr 1
                  have : tk ys s.size k = ys[j] := by subst hjk; unfold tk; rw [List.getD_eq_getElem?_getD, List.getElem?_eq_getElem hlt]; rfl
                  rw [this]
                have e1 : (((ys[j].a : Nat) : Int) == ((a : Nat) : Int)) = true := by rw [HA.out, ← hone.2 hjk]; simp
                have e3 : (if k < j + 1 then (E : Int) else -1) = ((ys[j].a + ys[j].t.size : Nat) : Int) := by rw [if_pos (by omega), hE2]
                have HX3 := Lib.hid e3
                clear e3 hE2 hone hjk
                generalize ys[j].a = aj at *
                generalize ys[j].t = tj at *
                generalize (if k < j then (E : Int) else -1) = ev at *
                have hb1 : aj ≤ 65536 := by omega
                have hb2 : tj.size ≤ 65536 := by omega
                go_wp2_with fail
                go_quiet (fail)
                go_wp2_with fail
                go_quiet (fail)
                go_wp2_with fail
                refine ⟨⟨j + 1, _, by omega, by go_num, ?_, rfl⟩, by simp [intOf]; omega⟩
                rw [HX3.out]; go_num
              · have e1 : (((ys[j].a : Nat) : Int) == ((a : Nat) : Int)) = false := by
                  rw [beq_eq_false_iff_ne]; intro e; exact hjk (hone.1 (by rw [← HA.out]; omega))
                have e3 : (if k < j + 1 then (E : Int) else -1) = if k < j then (E : Int) else -1 := by
                  by_cases h : k < j
                  · rw [if_pos h, if_pos (by omega)]
                  · rw [if_neg h, if_neg (by omega)]
                have HX3 := Lib.hid e3
                clear e3 hone hjk
                generalize ys[j].a = aj at *
                generalize (if k < j then (E : Int) else -1) = ev at *
                go_wp2_with fail
                go_quiet (fail)
                go_wp2_with fail
                exact ⟨⟨j + 1, _, by omega, by go_num, by rw [HX3.out], rfl⟩, by simp [intOf]; omega⟩
            · have hjn : ¬ (j : Int) < (ys.length : Int) := by omega
              by_cases hkn : k < ys.length
              · rw [if_pos (show k < j by omega)]
                have hE0 : ¬ (E : Int) < 0 := by omega
                have hEs : E ≤ s.size := by
                  rw [← HEE.out, HA.out]
                  have e : tk ys s.size k = ys[k] := by unfold tk; rw [List.getD_eq_getElem?_getD, List.getElem?_eq_getElem hkn]; rfl
                  rw [e]; exact HP2.out k hkn
                go_wp2_with fail
                have ho : bl (s.extract 0 E ++ ⟨#[32]⟩ ++ more) = (bl s).take E ++ 32 :: bl more := by
                  rw [bl_append, bl_append, bl_extract, List.drop_zero]
                  simp [bl]
                have hWj : Below w.heap.size w (w4.drewN nq) := Go.below_drewN HB4.out nq
                have hEj := HE.out.below hWj HE.out.lt
                have HFj := Lib.hid (show (w4.drewN nq).heap[w2.heap.size + 1]? = _ from HF4.out)
                have HBj := Lib.hid hWj
                have HAK := Lib.hid (show a = ys[k].a from by
                  rw [HA.out]; unfold tk; rw [List.getD_eq_getElem?_getD, List.getElem?_eq_getElem hkn]; rfl)
                have HEK := Lib.hid (show E = ys[k].a + ys[k].t.size from by
                  rw [← HEE.out, HAK.out]; unfold tk; rw [List.getD_eq_getElem?_getD, List.getElem?_eq_getElem hkn]; rfl)
                have HO := Lib.hid ho
                clear ho hWj y0 y1 y2
                generalize s.extract 0 E ++ ⟨#[32]⟩ ++ more = o at *
                generalize w4.drewN nq = W5 at *
                go_at_call 13
                refine (scan_any o _ hEj).mono ?_
                rintro e w6 ⟨hb6, hsc⟩
                have hB6 := HBj.out.trans (hb6.mono HBj.out.size)
                have hE6 := HE.out.below hB6 HE.out.lt
                have HF6 := Lib.hid ((hb6.block _ (heap_lt HFj.out)).trans HFj.out)
                have HB6 := Lib.hid hB6
                clear hb6 HFj HBj hB6
                have HPA := Lib.hid (parse_any o _ hE6 (has0 _))
                rcases hsc with ⟨zs, qz, cz, hz, hz0, rfl, _⟩ | ⟨pr, x, hp, hx, rfl⟩
                · have hsame := ahead_same (more := more) HY.out.1 HY.out.2.1 HY.out.2.2 hkn (by rw [HO.out, HEK.out]) hz hz0
                  rw [← HAK.out] at hsame
                  have hos := (all_short hz hz0).1
                  have hgt : ¬ (65536 : Int) < ((o.size : Nat) : Int) := by omega
                  have hgt2 : decide (((o.size : Nat) : Int) > 65536) = false := by simp; omega
                  have hgt3 : decide ((65536 : Int) < ((o.size : Nat) : Int)) = false := by simp; omega
                  have HSM := Lib.hid hsame
                  clear hsame hz hz0
                  go_wp2_with fail
                  go_at_call 7
                  refine HPA.out.mono ?_
                  rintro e w7 hpr
                  obtain ⟨hb7, ⟨er', a', hs', rfl⟩ | ⟨so, q1, c1, q2, c2, q3, c3, q4, c4, q5, c5, m1, hs', rfl, g1, g2, g3⟩⟩ := hpr.cases
                  · obtain ⟨rfl, rfl⟩ : er' = er ∧ a' = a := by
                      have := hs'.symm.trans HSM.out
                      injection this with this
                      injection this with t1 t2
                      exact ⟨t1, t2⟩
                    have HB7 := Lib.hid (HB6.out.trans (hb7.mono HB6.out.size))
                    have hF7 := (hb7.block _ (heap_lt HF6.out)).trans HF6.out
                    have hF8 := heap_new _ (.cells #[.int .i64 (er' : Nat), .int .i64 (-1), .int .i64 (a' : Nat)] 30) (heap_new _ srZ hF7)
                    obtain ⟨u0, u1, u2, _⟩ := three_cells hF8
                    unfold srZ at u0 u1 u2
                    have e5 : (((er' : Nat) : Int) == ((er' : Nat) : Int)) = true := by simp
                    have e6 : (((a' : Nat) : Int) == ((a' : Nat) : Int)) = true := by simp
                    clear hpr hb7 hs' hF7 hF8 HF6 HB6
                    go_wp2_with fail
                    go_ret
                    exact ⟨rfl, (HB7.out.alloc HB7.out.size _).alloc (by simp; have := HB7.out.size; omega) _⟩
                  · exfalso
                    have := hs'.symm.trans HSM.out
                    cases this
                · have hxe : (((x.e : Nat) : Int) != 0) = true := by simp; omega
                  clear hp hx
                  go_wp2_with fail
                  go_at_call 7
                  refine HPA.out.mono ?_
                  rintro e w7 hpr
                  obtain ⟨hb7, ⟨er', a', hs', rfl⟩ | ⟨so, q1, c1, q2, c2, q3, c3, q4, c4, q5, c5, m1, hs', rfl, g1, g2, g3⟩⟩ := hpr.cases
                  · have HB7 := Lib.hid (HB6.out.trans (hb7.mono HB6.out.size))
                    clear hpr hb7 hs' HF6 HB6
                    go_wp2_with fail
                    go_ret
                    exact ⟨rfl, (HB7.out.alloc HB7.out.size _).alloc (by simp; have := HB7.out.size; omega) _⟩
                  · have HB7 := Lib.hid (HB6.out.trans (hb7.mono HB6.out.size))
                    clear hpr hb7 hs' HF6 HB6 g1 g2 g3
                    go_wp2_with fail
                    go_ret
                    exact ⟨rfl, (HB7.out.alloc HB7.out.size _).alloc (by simp; have := HB7.out.size; omega) _⟩
              · rw [if_neg (show ¬ k < j by omega)]
                have e1 : (((a : Nat) : Int) == ((s.size : Nat) : Int)) = true := by rw [HA.out, tk_end ys s.size (by omega)]; simp
                go_wp2_with fail
                go_ret
                exact ⟨rfl, Go.below_drewN HB4.out _⟩
        · exfalso
          have h1 := fault_kind (faultOf_some hp hx)
          have h2 := (scan_err_res hp hx).symm.trans HS.out
          injection h2 with h2
          injection h2 with h2 _
          simp only at h1
          have := HER.out
          omega
      · have d1 : ((er : Int) != 50) = true := by rw [her]; rfl
        have d2 : ((er : Int) != 10) = false := by rw [her]; rfl
        have d3 := trivial
        have d4 := trivial
        have HER := Lib.hid her
        clear her
        go_wp2_with fail
        go_at_call 13
        refine (scan_any s _ HE3.out).mono ?_
        rintro e w4 ⟨hb4, ⟨ys, q, c, hy, hy0, rfl, hrow⟩ | ⟨pr, x, hp, hx, rfl⟩⟩
        · obtain ⟨k, hk, hr, ha⟩ := src_err hy hy0 HS.out
          have hws := ws_of hy hy0
          have hlen := hws.2
          have hss := (all_short hy hy0).1
          have HRD := Lib.hid (own_rd hrow)
          have HF4 := Lib.hid ((hb4.block _ (heap_lt HF3.out)).trans HF3.out)
          have HB4 := Lib.hid (HB3.out.trans (hb4.mono HB3.out.size))
          have HY := Lib.hid (And.intro hy (And.intro hy0 hr))
          have HP1 := Lib.hid (fun i (h : i < ys.length) => place_one (k := k) hy hy0 h)
          have HP2 := Lib.hid (fun i (h : i < ys.length) => (its_place hy hy0 i h).2.1)
          have hal : a ≤ s.size := by
            rw [ha]
            rcases Nat.lt_or_ge k ys.length with h | h
            · have e : tk ys s.size k = ys[k] := by unfold tk; rw [List.getD_eq_getElem?_getD, List.getElem?_eq_getElem h]; rfl
              rw [e]; have := (its_place hy hy0 k h).2.1; omega
            · rw [tk_end ys s.size h]; exact Nat.le_refl _
          have HA := Lib.hid ha
          obtain ⟨E, hEE⟩ : ∃ E, a + (tk ys s.size k).t.size = E := ⟨_, rfl⟩
          have HEE := Lib.hid hEE
          clear hb4 hrow hy hy0 hr hws HF3 HB3 HE3 HW2 ha hEE d1 d2 d3 d4
          obtain ⟨y0, y1, y2, _⟩ := three_cells HF4.out
          go_wp2_with fail
          go_loopw [10, 11] (fun e i wr => ∃ j nq : Nat, j ≤ ys.length ∧ i = .int .i64 j ∧ e = .int .i64 (if k < j then (E : Int) else -1) ∧ wr = w4.drewN nq) (fun _ i _ => ys.length - (intOf i).toNat)
          case atStart => exact ⟨0, 0, Nat.zero_le _, rfl, by rw [if_neg (Nat.not_lt_zero _)], rfl⟩
          case round =>
            obtain ⟨j, nq, hj, rfl, rfl, rfl⟩ := hrel
            by_cases hlt : j < ys.length
            · obtain ⟨g, rfl, b0, b1, b2, b3⟩ := rd_tok HRD.out j hlt
              have hone := HP1.out j hlt
              have hin := HP2.out j hlt
              have hji : (j : Int) < (ys.length : Int) := by omega
              by_cases hjk : j = k
              · have hE2 : E = ys[j].a + ys[j].t.size := by
                  rw [← HEE.out, HA.out, ← hone.2 hjk]
                  congr 1
                  have : tk ys s.size k = ys[j] := by subst hjk; unfold tk; rw [List.getD_eq_getElem?_getD, List.getElem?_eq_getElem hlt]; rfl
                  rw [this]
                have e1 : (((ys[j].a : Nat) : Int) == ((a : Nat) : Int)) = true := by rw [HA.out, ← hone.2 hjk]; simp
                have e3 : (if k < j + 1 then (E : Int) else -1) = ((ys[j].a + ys[j].t.size : Nat) : Int) := by rw [if_pos (by omega), hE2]
                have HX3 := Lib.hid e3
                clear e3 hE2 hone hjk
                generalize ys[j].a = aj at *
                generalize ys[j].t = tj at *
                generalize (if k < j then (E : Int) else -1) = ev at *
                have hb1 : aj ≤ 65536 := by omega
                have hb2 : tj.size ≤ 65536 := by omega
                go_wp2_with fail
                go_quiet (fail)
                go_wp2_with fail
                go_quiet (fail)
                go_wp2_with fail
                refine ⟨⟨j + 1, _, by omega, by go_num, ?_, rfl⟩, by simp [intOf]; omega⟩
                rw [HX3.out]; go_num
              · have e1 : (((ys[j].a : Nat) : Int) == ((a : Nat) : Int)) = false := by
                  rw [beq_eq_false_iff_ne]; intro e; exact hjk (hone.1 (by rw [← HA.out]; omega))
                have e3 : (if k < j + 1 then (E : Int) else -1) = if k < j then (E : Int) else -1 := by
                  by_cases h : k < j
                  · rw [if_pos h, if_pos (by omega)]
                  · rw [if_neg h, if_neg (by omega)]
                have HX3 := Lib.hid e3
                clear e3 hone hjk
                generalize ys[j].a = aj at *
                generalize (if k < j then (E : Int) else -1) = ev at *
                go_wp2_with fail
                go_quiet (fail)
                go_wp2_with fail
                exact ⟨⟨j + 1, _, by omega, by go_num, by rw [HX3.out], rfl⟩, by simp [intOf]; omega⟩
            · have hjn : ¬ (j : Int) < (ys.length : Int) := by omega
              by_cases hkn : k < ys.length
              · rw [if_pos (show k < j by omega)]
                have hE0 : ¬ (E : Int) < 0 := by omega
                have hEs : E ≤ s.size := by
                  rw [← HEE.out, HA.out]
                  have e : tk ys s.size k = ys[k] := by unfold tk; rw [List.getD_eq_getElem?_getD, List.getElem?_eq_getElem hkn]; rfl
                  rw [e]; exact HP2.out k hkn
                go_wp2_with fail
                have ho : bl (s.extract 0 E ++ ⟨#[32]⟩ ++ more) = (bl s).take E ++ 32 :: bl more := by
                  rw [bl_append, bl_append, bl_extract, List.drop_zero]
                  simp [bl]
                have hWj : Below w.heap.size w (w4.drewN nq) := Go.below_drewN HB4.out nq
                have hEj := HE.out.below hWj HE.out.lt
                have HFj := Lib.hid (show (w4.drewN nq).heap[w2.heap.size + 1]? = _ from HF4.out)
                have HBj := Lib.hid hWj
                have HAK := Lib.hid (show a = ys[k].a from by
                  rw [HA.out]; unfold tk; rw [List.getD_eq_getElem?_getD, List.getElem?_eq_getElem hkn]; rfl)
                have HEK := Lib.hid (show E = ys[k].a + ys[k].t.size from by
                  rw [← HEE.out, HAK.out]; unfold tk; rw [List.getD_eq_getElem?_getD, List.getElem?_eq_getElem hkn]; rfl)
                have HO := Lib.hid ho
                clear ho hWj y0 y1 y2
                generalize s.extract 0 E ++ ⟨#[32]⟩ ++ more = o at *
                generalize w4.drewN nq = W5 at *
                go_at_call 13
                refine (scan_any o _ hEj).mono ?_
                rintro e w6 ⟨hb6, hsc⟩
                have hB6 := HBj.out.trans (hb6.mono HBj.out.size)
                have hE6 := HE.out.below hB6 HE.out.lt
                have HF6 := Lib.hid ((hb6.block _ (heap_lt HFj.out)).trans HFj.out)
                have HB6 := Lib.hid hB6
                clear hb6 HFj HBj hB6
                have HPA := Lib.hid (parse_any o _ hE6 (has0 _))
                rcases hsc with ⟨zs, qz, cz, hz, hz0, rfl, _⟩ | ⟨pr, x, hp, hx, rfl⟩
                · have hsame := ahead_same (more := more) HY.out.1 HY.out.2.1 HY.out.2.2 hkn (by rw [HO.out, HEK.out]) hz hz0
                  rw [← HAK.out] at hsame
                  have hos := (all_short hz hz0).1
                  have hgt : ¬ (65536 : Int) < ((o.size : Nat) : Int) := by omega
                  have hgt2 : decide (((o.size : Nat) : Int) > 65536) = false := by simp; omega
                  have hgt3 : decide ((65536 : Int) < ((o.size : Nat) : Int)) = false := by simp; omega
                  have HSM := Lib.hid hsame
                  clear hsame hz hz0
                  go_wp2_with fail
                  go_at_call 7
                  refine HPA.out.mono ?_
                  rintro e w7 hpr
                  obtain ⟨hb7, ⟨er', a', hs', rfl⟩ | ⟨so, q1, c1, q2, c2, q3, c3, q4, c4, q5, c5, m1, hs', rfl, g1, g2, g3⟩⟩ := hpr.cases
                  · obtain ⟨rfl, rfl⟩ : er' = er ∧ a' = a := by
                      have := hs'.symm.trans HSM.out
                      injection this with this
                      injection this with t1 t2
                      exact ⟨t1, t2⟩
                    have HB7 := Lib.hid (HB6.out.trans (hb7.mono HB6.out.size))
                    have hF7 := (hb7.block _ (heap_lt HF6.out)).trans HF6.out
                    have hF8 := heap_new _ (.cells #[.int .i64 (er' : Nat), .int .i64 (-1), .int .i64 (a' : Nat)] 30) (heap_new _ srZ hF7)
                    obtain ⟨u0, u1, u2, _⟩ := three_cells hF8
                    unfold srZ at u0 u1 u2
                    have e5 : (((er' : Nat) : Int) == ((er' : Nat) : Int)) = true := by simp
                    have e6 : (((a' : Nat) : Int) == ((a' : Nat) : Int)) = true := by simp
                    clear hpr hb7 hs' hF7 hF8 HF6 HB6
                    go_wp2_with fail
                    go_ret
                    exact ⟨rfl, (HB7.out.alloc HB7.out.size _).alloc (by simp; have := HB7.out.size; omega) _⟩
                  · exfalso
                    have := hs'.symm.trans HSM.out
                    cases this
                · have hxe : (((x.e : Nat) : Int) != 0) = true := by simp; omega
                  clear hp hx
                  go_wp2_with fail
                  go_at_call 7
                  refine HPA.out.mono ?_
                  rintro e w7 hpr
                  obtain ⟨hb7, ⟨er', a', hs', rfl⟩ | ⟨so, q1, c1, q2, c2, q3, c3, q4, c4, q5, c5, m1, hs', rfl, g1, g2, g3⟩⟩ := hpr.cases
                  · have HB7 := Lib.hid (HB6.out.trans (hb7.mono HB6.out.size))
                    clear hpr hb7 hs' HF6 HB6
                    go_wp2_with fail
                    go_ret
                    exact ⟨rfl, (HB7.out.alloc HB7.out.size _).alloc (by simp; have := HB7.out.size; omega) _⟩
                  · have HB7 := Lib.hid (HB6.out.trans (hb7.mono HB6.out.size))
                    clear hpr hb7 hs' HF6 HB6 g1 g2 g3
                    go_wp2_with fail
                    go_ret
                    exact ⟨rfl, (HB7.out.alloc HB7.out.size _).alloc (by simp; have := HB7.out.size; omega) _⟩
              · rw [if_neg (show ¬ k < j by omega)]
                have e1 : (((a : Nat) : Int) == ((s.size : Nat) : Int)) = true := by rw [HA.out, tk_end ys s.size (by omega)]; simp
                go_wp2_with fail
                go_ret
                exact ⟨rfl, Go.below_drewN HB4.out _⟩
        · exfalso
          have h1 := fault_kind (faultOf_some hp hx)
          have h2 := (scan_err_res hp hx).symm.trans HS.out
          injection h2 with h2
          injection h2 with h2 _
          simp only at h1
          have := HER.out
          omega
      · have d1 : ((er : Int) != 50) = true := by rw [her]; rfl
        have d2 : ((er : Int) != 10) = true := by rw [her]; rfl
        have d3 : ((er : Int) != 74) = false := by rw [her]; rfl
        have d4 := trivial
        have HER := Lib.hid her
        clear her
        go_wp2_with fail
        go_at_call 13
        refine (scan_any s _ HE3.out).mono ?_
        rintro e w4 ⟨hb4, ⟨ys, q, c, hy, hy0, rfl, hrow⟩ | ⟨pr, x, hp, hx, rfl⟩⟩
        · obtain ⟨k, hk, hr, ha⟩ := src_err hy hy0 HS.out
          have hws := ws_of hy hy0
          have hlen := hws.2
          have hss := (all_short hy hy0).1
          have HRD := Lib.hid (own_rd hrow)
          have HF4 := Lib.hid ((hb4.block _ (heap_lt HF3.out)).trans HF3.out)
          have HB4 := Lib.hid (HB3.out.trans (hb4.mono HB3.out.size))
          have HY := Lib.hid (And.intro hy (And.intro hy0 hr))
          have HP1 := Lib.hid (fun i (h : i < ys.length) => place_one (k := k) hy hy0 h)
          have HP2 := Lib.hid (fun i (h : i < ys.length) => (its_place hy hy0 i h).2.1)
          have hal : a ≤ s.size := by
            rw [ha]
            rcases Nat.lt_or_ge k ys.length with h | h
            · have e : tk ys s.size k = ys[k] := by unfold tk; rw [List.getD_eq_getElem?_getD, List.getElem?_eq_getElem h]; rfl
              rw [e]; have := (its_place hy hy0 k h).2.1; omega
            · rw [tk_end ys s.size h]; exact Nat.le_refl _
          have HA := Lib.hid ha
          obtain ⟨E, hEE⟩ : ∃ E, a + (tk ys s.size k).t.size = E := ⟨_, rfl⟩
          have HEE := Lib.hid hEE
          clear hb4 hrow hy hy0 hr hws HF3 HB3 HE3 HW2 ha hEE d1 d2 d3 d4
          obtain ⟨y0, y1, y2, _⟩ := three_cells HF4.out
          go_wp2_with fail
          go_loopw [10, 11] (fun e i wr => ∃ j nq : Nat, j ≤ ys.length ∧ i = .int .i64 j ∧ e = .int .i64 (if k < j then (E : Int) else -1) ∧ wr = w4.drewN nq) (fun _ i _ => ys.length - (intOf i).toNat)
          case atStart => exact ⟨0, 0, Nat.zero_le _, rfl, by rw [if_neg (Nat.not_lt_zero _)], rfl⟩
          case round =>
            obtain ⟨j, nq, hj, rfl, rfl, rfl⟩ := hrel
            by_cases hlt : j < ys.length
            · obtain ⟨g, rfl, b0, b1, b2, b3⟩ := rd_tok HRD.out j hlt
              have hone := HP1.out j hlt
              have hin := HP2.out j hlt
              have hji : (j : Int) < (ys.length : Int) := by omega
              by_cases hjk : j = k
              · have hE2 : E = ys[j].a + ys[j].t.size := by
                  rw [← HEE.out, HA.out, ← hone.2 hjk]
                  congr 1
                  have : tk ys s.size k = ys[j] := by subst hjk; unfold tk; rw [List.getD_eq_getElem?_getD, List.getElem?_eq_getElem hlt]; rfl
                  rw [this]
                have e1 : (((ys[j].a : Nat) : Int) == ((a : Nat) : Int)) = true := by rw [HA.out, ← hone.2 hjk]; simp
                have e3 : (if k < j + 1 then (E : Int) else -1) = ((ys[j].a + ys[j].t.size : Nat) : Int) := by rw [if_pos (by omega), hE2]
                have HX3 := Lib.hid e3
                clear e3 hE2 hone hjk
                generalize ys[j].a = aj at *
                generalize ys[j].t = tj at *
                generalize (if k < j then (E : Int) else -1) = ev at *
                have hb1 : aj ≤ 65536 := by omega
                have hb2 : tj.size ≤ 65536 := by omega
                go_wp2_with fail
                go_quiet (fail)
                go_wp2_with fail
                go_quiet (fail)
                go_wp2_with fail
                refine ⟨⟨j + 1, _, by omega, by go_num, ?_, rfl⟩, by simp [intOf]; omega⟩
                rw [HX3.out]; go_num
              · have e1 : (((ys[j].a : Nat) : Int) == ((a : Nat) : Int)) = false := by
                  rw [beq_eq_false_iff_ne]; intro e; exact hjk (hone.1 (by rw [← HA.out]; omega))
                have e3 : (if k < j + 1 then (E : Int) else -1) = if k < j then (E : Int) else -1 := by
                  by_cases h : k < j
                  · rw [if_pos h, if_pos (by omega)]
                  · rw [if_neg h, if_neg (by omega)]
                have HX3 := Lib.hid e3
                clear e3 hone hjk
                generalize ys[j].a = aj at *
                generalize (if k < j then (E : Int) else -1) = ev at *
                go_wp2_with fail
                go_quiet (fail)
                go_wp2_with fail
                exact ⟨⟨j + 1, _, by omega, by go_num, by rw [HX3.out], rfl⟩, by simp [intOf]; omega⟩
            · have hjn : ¬ (j : Int) < (ys.length : Int) := by omega
              by_cases hkn : k < ys.length
              · rw [if_pos (show k < j by omega)]
                have hE0 : ¬ (E : Int) < 0 := by omega
                have hEs : E ≤ s.size := by
                  rw [← HEE.out, HA.out]
                  have e : tk ys s.size k = ys[k] := by unfold tk; rw [List.getD_eq_getElem?_getD, List.getElem?_eq_getElem hkn]; rfl
                  rw [e]; exact HP2.out k hkn
                go_wp2_with fail
                have ho : bl (s.extract 0 E ++ ⟨#[32]⟩ ++ more) = (bl s).take E ++ 32 :: bl more := by
                  rw [bl_append, bl_append, bl_extract, List.drop_zero]
                  simp [bl]
                have hWj : Below w.heap.size w (w4.drewN nq) := Go.below_drewN HB4.out nq
                have hEj := HE.out.below hWj HE.out.lt
                have HFj := Lib.hid (show (w4.drewN nq).heap[w2.heap.size + 1]? = _ from HF4.out)
                have HBj := Lib.hid hWj
                have HAK := Lib.hid (show a = ys[k].a from by
                  rw [HA.out]; unfold tk; rw [List.getD_eq_getElem?_getD, List.getElem?_eq_getElem hkn]; rfl)
                have HEK := Lib.hid (show E = ys[k].a + ys[k].t.size from by
                  rw [← HEE.out, HAK.out]; unfold tk; rw [List.getD_eq_getElem?_getD, List.getElem?_eq_getElem hkn]; rfl)
                have HO := Lib.hid ho
                clear ho hWj y0 y1 y2
                generalize s.extract 0 E ++ ⟨#[32]⟩ ++ more = o at *
                generalize w4.drewN nq = W5 at *
                go_at_call 13
                refine (scan_any o _ hEj).mono ?_
                rintro e w6 ⟨hb6, hsc⟩
                have hB6 := HBj.out.trans (hb6.mono HBj.out.size)
                have hE6 := HE.out.below hB6 HE.out.lt
                have HF6 := Lib.hid ((hb6.block _ (heap_lt HFj.out)).trans HFj.out)
                have HB6 := Lib.hid hB6
                clear hb6 HFj HBj hB6
                have HPA := Lib.hid (parse_any o _ hE6 (has0 _))
                rcases hsc with ⟨zs, qz, cz, hz, hz0, rfl, _⟩ | ⟨pr, x, hp, hx, rfl⟩
                · have hsame := ahead_same (more := more) HY.out.1 HY.out.2.1 HY.out.2.2 hkn (by rw [HO.out, HEK.out]) hz hz0
                  rw [← HAK.out] at hsame
                  have hos := (all_short hz hz0).1
                  have hgt : ¬ (65536 : Int) < ((o.size : Nat) : Int) := by omega
                  have hgt2 : decide (((o.size : Nat) : Int) > 65536) = false := by simp; omega
                  have hgt3 : decide ((65536 : Int) < ((o.size : Nat) : Int)) = false := by simp; omega
                  have HSM := Lib.hid hsame
                  clear hsame hz hz0
                  go_wp2_with fail
                  go_at_call 7
                  refine HPA.out.mono ?_
                  rintro e w7 hpr
                  obtain ⟨hb7, ⟨er', a', hs', rfl⟩ | ⟨so, q1, c1, q2, c2, q3, c3, q4, c4, q5, c5, m1, hs', rfl, g1, g2, g3⟩⟩ := hpr.cases
                  · obtain ⟨rfl, rfl⟩ : er' = er ∧ a' = a := by
                      have := hs'.symm.trans HSM.out
                      injection this with this
                      injection this with t1 t2
                      exact ⟨t1, t2⟩
                    have HB7 := Lib.hid (HB6.out.trans (hb7.mono HB6.out.size))
                    have hF7 := (hb7.block _ (heap_lt HF6.out)).trans HF6.out
                    have hF8 := heap_new _ (.cells #[.int .i64 (er' : Nat), .int .i64 (-1), .int .i64 (a' : Nat)] 30) (heap_new _ srZ hF7)
                    obtain ⟨u0, u1, u2, _⟩ := three_cells hF8
                    unfold srZ at u0 u1 u2
                    have e5 : (((er' : Nat) : Int) == ((er' : Nat) : Int)) = true := by simp
                    have e6 : (((a' : Nat) : Int) == ((a' : Nat) : Int)) = true := by simp
                    clear hpr hb7 hs' hF7 hF8 HF6 HB6
                    go_wp2_with fail
                    go_ret
                    exact ⟨rfl, (HB7.out.alloc HB7.out.size _).alloc (by simp; have := HB7.out.size; omega) _⟩
                  · exfalso
                    have := hs'.symm.trans HSM.out
                    cases this
                · have hxe : (((x.e : Nat) : Int) != 0) = true := by simp; omega
                  clear hp hx
                  go_wp2_with fail
                  go_at_call 7
                  refine HPA.out.mono ?_
                  rintro e w7 hpr
                  obtain ⟨hb7, ⟨er', a', hs', rfl⟩ | ⟨so, q1, c1, q2, c2, q3, c3, q4, c4, q5, c5, m1, hs', rfl, g1, g2, g3⟩⟩ := hpr.cases
                  · have HB7 := Lib.hid (HB6.out.trans (hb7.mono HB6.out.size))
                    clear hpr hb7 hs' HF6 HB6
                    go_wp2_with fail
                    go_ret
                    exact ⟨rfl, (HB7.out.alloc HB7.out.size _).alloc (by simp; have := HB7.out.size; omega) _⟩
                  · have HB7 := Lib.hid (HB6.out.trans (hb7.mono HB6.out.size))
                    clear hpr hb7 hs' HF6 HB6 g1 g2 g3
                    go_wp2_with fail
                    go_ret
                    exact ⟨rfl, (HB7.out.alloc HB7.out.size _).alloc (by simp; have := HB7.out.size; omega) _⟩
              · rw [if_neg (show ¬ k < j by omega)]
                have e1 : (((a : Nat) : Int) == ((s.size : Nat) : Int)) = true := by rw [HA.out, tk_end ys s.size (by omega)]; simp
                go_wp2_with fail
                go_ret
                exact ⟨rfl, Go.below_drewN HB4.out _⟩
        · exfalso
          have h1 := fault_kind (faultOf_some hp hx)
          have h2 := (scan_err_res hp hx).symm.trans HS.out
          injection h2 with h2
          injection h2 with h2 _
          simp only at h1
          have := HER.out
          omega
      · have d1 : ((er : Int) != 50) = true := by rw [her]; rfl
        have d2 : ((er : Int) != 10) = true := by rw [her]; rfl
        have d3 : ((er : Int) != 74) = true := by rw [her]; rfl
        have d4 : ((er : Int) != 51) = false := by rw [her]; rfl
        have HER := Lib.hid her
        clear her
        go_wp2_with fail
        go_at_call 13
        refine (scan_any s _ HE3.out).mono ?_
        rintro e w4 ⟨hb4, ⟨ys, q, c, hy, hy0, rfl, hrow⟩ | ⟨pr, x, hp, hx, rfl⟩⟩
        · obtain ⟨k, hk, hr, ha⟩ := src_err hy hy0 HS.out
          have hws := ws_of hy hy0
          have hlen := hws.2
          have hss := (all_short hy hy0).1
          have HRD := Lib.hid (own_rd hrow)
          have HF4 := Lib.hid ((hb4.block _ (heap_lt HF3.out)).trans HF3.out)
          have HB4 := Lib.hid (HB3.out.trans (hb4.mono HB3.out.size))
          have HY := Lib.hid (And.intro hy (And.intro hy0 hr))
          have HP1 := Lib.hid (fun i (h : i < ys.length) => place_one (k := k) hy hy0 h)
          have HP2 := Lib.hid (fun i (h : i < ys.length) => (its_place hy hy0 i h).2.1)
          have hal : a ≤ s.size := by
            rw [ha]
            rcases Nat.lt_or_ge k ys.length with h | h
            · have e : tk ys s.size k = ys[k] := by unfold tk; rw [List.getD_eq_getElem?_getD, List.getElem?_eq_getElem h]; rfl
              rw [e]; have := (its_place hy hy0 k h).2.1; omega
            · rw [tk_end ys s.size h]; exact Nat.le_refl _
          have HA := Lib.hid ha
          obtain ⟨E, hEE⟩ : ∃ E, a + (tk ys s.size k).t.size = E := ⟨_, rfl⟩
          have HEE := Lib.hid hEE
          clear hb4 hrow hy hy0 hr hws HF3 HB3 HE3 HW2 ha hEE d1 d2 d3 d4
          obtain ⟨y0, y1, y2, _⟩ := three_cells HF4.out
          go_wp2_with fail
          go_loopw [10, 11] (fun e i wr => ∃ j nq : Nat, j ≤ ys.length ∧ i = .int .i64 j ∧ e = .int .i64 (if k < j then (E : Int) else -1) ∧ wr = w4.drewN nq) (fun _ i _ => ys.length - (intOf i).toNat)
          case atStart => exact ⟨0, 0, Nat.zero_le _, rfl, by rw [if_neg (Nat.not_lt_zero _)], rfl⟩
          case round =>
            obtain ⟨j, nq, hj, rfl, rfl, rfl⟩ := hrel
            by_cases hlt : j < ys.length
            · obtain ⟨g, rfl, b0, b1, b2, b3⟩ := rd_tok HRD.out j hlt
              have hone := HP1.out j hlt
              have hin := HP2.out j hlt
              have hji : (j : Int) < (ys.length : Int) := by omega
              by_cases hjk : j = k
              · have hE2 : E = ys[j].a + ys[j].t.size := by
                  rw [← HEE.out, HA.out, ← hone.2 hjk]
                  congr 1
                  have : tk ys s.size k = ys[j] := by subst hjk; unfold tk; rw [List.getD_eq_getElem?_getD, List.getElem?_eq_getElem hlt]; rfl
                  rw [this]
                have e1 : (((ys[j].a : Nat) : Int) == ((a : Nat) : Int)) = true := by rw [HA.out, ← hone.2 hjk]; simp
                have e3 : (if k < j + 1 then (E : Int) else -1) = ((ys[j].a + ys[j].t.size : Nat) : Int) := by rw [if_pos (by omega), hE2]
                have HX3 := Lib.hid e3
                clear e3 hE2 hone hjk
                generalize ys[j].a = aj at *
                generalize ys[j].t = tj at *
                generalize (if k < j then (E : Int) else -1) = ev at *
                have hb1 : aj ≤ 65536 := by omega
                have hb2 : tj.size ≤ 65536 := by omega
                go_wp2_with fail
                go_quiet (fail)
                go_wp2_with fail
                go_quiet (fail)
                go_wp2_with fail
                refine ⟨⟨j + 1, _, by omega, by go_num, ?_, rfl⟩, by simp [intOf]; omega⟩
                rw [HX3.out]; go_num
              · have e1 : (((ys[j].a : Nat) : Int) == ((a : Nat) : Int)) = false := by
                  rw [beq_eq_false_iff_ne]; intro e; exact hjk (hone.1 (by rw [← HA.out]; omega))
                have e3 : (if k < j + 1 then (E : Int) else -1) = if k < j then (E : Int) else -1 := by
                  by_cases h : k < j
                  · rw [if_pos h, if_pos (by omega)]
                  · rw [if_neg h, if_neg (by omega)]
                have HX3 := Lib.hid e3
                clear e3 hone hjk
                generalize ys[j].a = aj at *
                generalize (if k < j then (E : Int) else -1) = ev at *
                go_wp2_with fail
                go_quiet (fail)
                go_wp2_with fail
                exact ⟨⟨j + 1, _, by omega, by go_num, by rw [HX3.out], rfl⟩, by simp [intOf]; omega⟩
            · have hjn : ¬ (j : Int) < (ys.length : Int) := by omega
              by_cases hkn : k < ys.length
              · rw [if_pos (show k < j by omega)]
                have hE0 : ¬ (E : Int) < 0 := by omega
                have hEs : E ≤ s.size := by
                  rw [← HEE.out, HA.out]
                  have e : tk ys s.size k = ys[k] := by unfold tk; rw [List.getD_eq_getElem?_getD, List.getElem?_eq_getElem hkn]; rfl
                  rw [e]; exact HP2.out k hkn
                go_wp2_with fail
                have ho : bl (s.extract 0 E ++ ⟨#[32]⟩ ++ more) = (bl s).take E ++ 32 :: bl more := by
                  rw [bl_append, bl_append, bl_extract, List.drop_zero]
                  simp [bl]
                have hWj : Below w.heap.size w (w4.drewN nq) := Go.below_drewN HB4.out nq
                have hEj := HE.out.below hWj HE.out.lt
                have HFj := Lib.hid (show (w4.drewN nq).heap[w2.heap.size + 1]? = _ from HF4.out)
                have HBj := Lib.hid hWj
                have HAK := Lib.hid (show a = ys[k].a from by
                  rw [HA.out]; unfold tk; rw [List.getD_eq_getElem?_getD, List.getElem?_eq_getElem hkn]; rfl)
                have HEK := Lib.hid (show E = ys[k].a + ys[k].t.size from by
                  rw [← HEE.out, HAK.out]; unfold tk; rw [List.getD_eq_getElem?_getD, List.getElem?_eq_getElem hkn]; rfl)
                have HO := Lib.hid ho
                clear ho hWj y0 y1 y2
                generalize s.extract 0 E ++ ⟨#[32]⟩ ++ more = o at *
                generalize w4.drewN nq = W5 at *
                go_at_call 13
                refine (scan_any o _ hEj).mono ?_
                rintro e w6 ⟨hb6, hsc⟩
                have hB6 := HBj.out.trans (hb6.mono HBj.out.size)
                have hE6 := HE.out.below hB6 HE.out.lt
                have HF6 := Lib.hid ((hb6.block _ (heap_lt HFj.out)).trans HFj.out)
                have HB6 := Lib.hid hB6
                clear hb6 HFj HBj hB6
                have HPA := Lib.hid (parse_any o _ hE6 (has0 _))
                rcases hsc with ⟨zs, qz, cz, hz, hz0, rfl, _⟩ | ⟨pr, x, hp, hx, rfl⟩
                · have hsame := ahead_same (more := more) HY.out.1 HY.out.2.1 HY.out.2.2 hkn (by rw [HO.out, HEK.out]) hz hz0
                  rw [← HAK.out] at hsame
                  have hos := (all_short hz hz0).1
                  have hgt : ¬ (65536 : Int) < ((o.size : Nat) : Int) := by omega
                  have hgt2 : decide (((o.size : Nat) : Int) > 65536) = false := by simp; omega
                  have hgt3 : decide ((65536 : Int) < ((o.size : Nat) : Int)) = false := by simp; omega
                  have HSM := Lib.hid hsame
                  clear hsame hz hz0
                  go_wp2_with fail
                  go_at_call 7
                  refine HPA.out.mono ?_
                  rintro e w7 hpr
                  obtain ⟨hb7, ⟨er', a', hs', rfl⟩ | ⟨so, q1, c1, q2, c2, q3, c3, q4, c4, q5, c5, m1, hs', rfl, g1, g2, g3⟩⟩ := hpr.cases
                  · obtain ⟨rfl, rfl⟩ : er' = er ∧ a' = a := by
                      have := hs'.symm.trans HSM.out
                      injection this with this
                      injection this with t1 t2
                      exact ⟨t1, t2⟩
                    have HB7 := Lib.hid (HB6.out.trans (hb7.mono HB6.out.size))
                    have hF7 := (hb7.block _ (heap_lt HF6.out)).trans HF6.out
                    have hF8 := heap_new _ (.cells #[.int .i64 (er' : Nat), .int .i64 (-1), .int .i64 (a' : Nat)] 30) (heap_new _ srZ hF7)
                    obtain ⟨u0, u1, u2, _⟩ := three_cells hF8
                    unfold srZ at u0 u1 u2
                    have e5 : (((er' : Nat) : Int) == ((er' : Nat) : Int)) = true := by simp
                    have e6 : (((a' : Nat) : Int) == ((a' : Nat) : Int)) = true := by simp
                    clear hpr hb7 hs' hF7 hF8 HF6 HB6
                    go_wp2_with fail
                    go_ret
                    exact ⟨rfl, (HB7.out.alloc HB7.out.size _).alloc (by simp; have := HB7.out.size; omega) _⟩
                  · exfalso
                    have := hs'.symm.trans HSM.out
                    cases this
                · have hxe : (((x.e : Nat) : Int) != 0) = true := by simp; omega
                  clear hp hx
                  go_wp2_with fail
                  go_at_call 7
                  refine HPA.out.mono ?_
                  rintro e w7 hpr
                  obtain ⟨hb7, ⟨er', a', hs', rfl⟩ | ⟨so, q1, c1, q2, c2, q3, c3, q4, c4, q5, c5, m1, hs', rfl, g1, g2, g3⟩⟩ := hpr.cases
                  · have HB7 := Lib.hid (HB6.out.trans (hb7.mono HB6.out.size))
                    clear hpr hb7 hs' HF6 HB6
                    go_wp2_with fail
                    go_ret
                    exact ⟨rfl, (HB7.out.alloc HB7.out.size _).alloc (by simp; have := HB7.out.size; omega) _⟩
                  · have HB7 := Lib.hid (HB6.out.trans (hb7.mono HB6.out.size))
                    clear hpr hb7 hs' HF6 HB6 g1 g2 g3
                    go_wp2_with fail
                    go_ret
                    exact ⟨rfl, (HB7.out.alloc HB7.out.size _).alloc (by simp; have := HB7.out.size; omega) _⟩
              · rw [if_neg (show ¬ k < j by omega)]
                have e1 : (((a : Nat) : Int) == ((s.size : Nat) : Int)) = true := by rw [HA.out, tk_end ys s.size (by omega)]; simp
                go_wp2_with fail
                go_ret
                exact ⟨rfl, Go.below_drewN HB4.out _⟩
        · exfalso
          have h1 := fault_kind (faultOf_some hp hx)
          have h2 := (scan_err_res hp hx).symm.trans HS.out
          injection h2 with h2
          injection h2 with h2 _
          simp only at h1
          have := HER.out
          omega
    · have HB := Lib.hid (hb1.trans (hb2.mono hb1.size))
      have d1 : ((er : Int) != 50) = true := by unfold GrE at her; rw [bne_iff_ne]; omega
      have d2 : ((er : Int) != 10) = true := by unfold GrE at her; rw [bne_iff_ne]; omega
      have d3 : ((er : Int) != 74) = true := by unfold GrE at her; rw [bne_iff_ne]; omega
      have d4 : ((er : Int) != 51) = true := by unfold GrE at her; rw [bne_iff_ne]; omega
      clear hpr hb1 hb2 hs her
      go_wp2_with fail
      go_ret
      exact ⟨rfl, (HB.out.alloc HB.out.size _).alloc (by simp; have := HB.out.size; omega) _⟩
  · have HB := Lib.hid (hb1.trans (hb2.mono hb1.size))
    clear hpr hb1 hb2 hs g1 g2 g3
    go_wp2_with fail
    go_ret
    exact ⟨rfl, (HB.out.alloc HB.out.size _).alloc (by simp; have := HB.out.size; omega) _⟩
end Go.Proofs.YtbojklbnfgopfaaGreatDoor
