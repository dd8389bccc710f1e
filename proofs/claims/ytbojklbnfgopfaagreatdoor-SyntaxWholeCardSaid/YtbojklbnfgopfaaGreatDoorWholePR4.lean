/- SyntaxWhole: the law's walk. -/
import Derived.Test.YtbojklbnfgopfaaGreatDoorWholePR3
import Derived.Test.YtbojklbnfgopfaaGreatDoorWholePR2
import Derived.Test.YtbojklbnfgopfaaGreatDoorWholePR1
namespace Go.Proofs.YtbojklbnfgopfaaGreatDoor
open Go Go.RowKit Go.Proofs.Mm

theorem has_below {w w' : World} {m : Mem} (h : Has w m) (hb : Below w.heap.size w w') : Has w' m := fun k o e => (hb.block k (heap_lt (h k o e))).trans (h k o e)
theorem body_of {w : World} {m : Mem} {q : Option Addr} {l : List Syn.St} {cs : List Value} (h : RdR w q cs) (he : Enc (StM m) cs l) : BodyR w q (l.map fun s => (s.kind : Int)) := by
  intro j z hz
  rw [List.getElem?_map] at hz
  obtain ⟨hj, e⟩ : ∃ hj : j < l.length, (l[j].kind : Int) = z := by
    cases hl : l[j]? with
    | none => rw [hl] at hz; cases hz
    | some x =>
      obtain ⟨hj, e⟩ := List.getElem?_eq_some_iff.1 hl
      rw [hl] at hz
      injection hz with hz
      exact ⟨hj, by rw [e]; exact hz⟩
  obtain ⟨g, q1, c1, q2, c2, rfl, a1, a2, a3, a4, _⟩ := rd_st h he j hj
  exact ⟨g, _, _, _, _, _, _, _, rfl, by rw [← e]; exact a1, a2, a3, a4⟩
theorem kinds_of (l : List Syn.St) : (l.map fun s => (s.kind : Int)).map Int.toNat = l.map Syn.St.kind := by
  rw [List.map_map]
  congr 1
set_option maxRecDepth 100000 in
set_option maxHeartbeats 40000000 in
theorem synwhole_any (s : ByteArray) (w : World) (hE : Env w) : Calls Tryz.prog 4 #[.string s] w fun e w' => e = .returned (.bool true) ∧ Below w.heap.size w w' := by
  have HK := Lib.hid (known_any w hE)
  have HE := Lib.hid hE
  clear hE
  go_enter Tryz.func4, Tryz.ntmps4
  go_wp2_with (go_at_call 10; refine HK.out.mono ?_; rintro e w1 ⟨rfl, hb1⟩)
  have hE1 := HE.out.below hb1 HE.out.lt
  go_at_call 7
  refine (parse_any s w1 hE1 (has0 _)).mono ?_
  rintro e w2 hpr
  obtain ⟨hb2, ⟨er, a, hs, rfl⟩ | ⟨so, q1, c1, q2, c2, q3, c3, q4, c4, q5, c5, m1, hs, rfl, g1, g2, g3⟩⟩ := hpr.cases
  · obtain ⟨h0, ha⟩ := src_bad hs
    have HW2 := Lib.hid (hb1.trans (hb2.mono hb1.size))
    have e1 : ((er : Int) == 0) = false := by simp; omega
    have e2 : ((er : Int) != 0) = true := by simp; omega
    have e3 : (a : Int) ≤ (s.size : Int) := by omega
    have e4 : (0 : Int) ≤ (a : Int) := by omega
    clear hpr hb1 hb2 hs
    go_wp2_with fail
    go_ret
    exact ⟨rfl, (HW2.out.alloc HW2.out.size _).alloc (by simp; have := HW2.out.size; omega) _⟩
  · have HW2 := Lib.hid (hb1.trans (hb2.mono hb1.size))
    have HG := Lib.hid (src_fns hs)
    have HS := Lib.hid (SoM.rows g1)
    have HM := Lib.hid g3
    clear hpr hb1 hb2 hs g1 g2 g3
    go_wp2_with fail
    have hb3 : ((w2.alloc (.cells #[.slice q1 so.principals.length c1, .slice q2 so.globals.length c2, .slice q3 so.arrays.length c3, .slice q4 so.channels.length c4, .slice q5 so.funcs.length c5] 27)).alloc (.cells #[.int .i64 0, .int .i64 0, .int .i64 0] 30)).cell? ⟨w2.heap.size, 4, none⟩ = some (.slice q5 so.funcs.length c5) :=
      cell_of (heap_new _ _ (World.alloc_heap_new w2 _)) rfl
    have hlt3 : w2.heap.size < ((w2.alloc (.cells #[.slice q1 so.principals.length c1, .slice q2 so.globals.length c2, .slice q3 so.arrays.length c3, .slice q4 so.channels.length c4, .slice q5 so.funcs.length c5] 27)).alloc (.cells #[.int .i64 0, .int .i64 0, .int .i64 0] 30)).heap.size := by simp; omega
    have hbw : Below w.heap.size w ((w2.alloc (.cells #[.slice q1 so.principals.length c1, .slice q2 so.globals.length c2, .slice q3 so.arrays.length c3, .slice q4 so.channels.length c4, .slice q5 so.funcs.length c5] 27)).alloc (.cells #[.int .i64 0, .int .i64 0, .int .i64 0] 30)) := (HW2.out.alloc HW2.out.size _).alloc (by simp; have := HW2.out.size; omega) _
    have hm0 : Has ((w2.alloc (.cells #[.slice q1 so.principals.length c1, .slice q2 so.globals.length c2, .slice q3 so.arrays.length c3, .slice q4 so.channels.length c4, .slice q5 so.funcs.length c5] 27)).alloc (.cells #[.int .i64 0, .int .i64 0, .int .i64 0] 30)) m1 := HM.out.chg (((Chg.refl (fun _ => False) w2).alloc _).alloc _) (fun _ e => e.elim)
    generalize (w2.alloc (.cells #[.slice q1 so.principals.length c1, .slice q2 so.globals.length c2, .slice q3 so.arrays.length c3, .slice q4 so.channels.length c4, .slice q5 so.funcs.length c5] 27)).alloc (.cells #[.int .i64 0, .int .i64 0, .int .i64 0] 30) = W0 at *
    obtain ⟨b3, hb3'⟩ : ∃ b3, w2.heap.size = b3 := ⟨_, rfl⟩
    rw [hb3'] at hb3 hlt3 ⊢
    have H4 := Lib.hid hb3
    have HLT := Lib.hid hlt3
    have HBW := Lib.hid hbw
    have HM0 := Lib.hid hm0
    obtain ⟨csf, hrf, hef⟩ := HS.out.f
    have HRF := Lib.hid hrf
    have HEF := Lib.hid hef
    obtain ⟨nf, hnf⟩ : ∃ nf, so.funcs.length = nf := ⟨_, rfl⟩
    have HNF := Lib.hid hnf
    rw [hnf] at H4 ⊢
    have hnfm : nf ≤ 9223372036854775807 := by rw [← hnf]; exact row_max HRF.out
    clear hnf hb3 hlt3 hbw hm0 HW2 HM HS hrf hef hb3'
    go_loopw [5] (fun i wr => ∃ k : Nat, k ≤ nf ∧ i = .int .i64 k ∧ Hid (Below W0.heap.size W0 wr)) (fun i _ => nf - (intOf i).toNat)
    case atStart => exact ⟨0, Nat.zero_le _, rfl, Lib.hid (Below.refl _ _)⟩
    case round =>
      obtain ⟨i, hi, rfl, HB⟩ := hrel
      have c4 := (HB.out.cell (p := ⟨b3, 4, none⟩) HLT.out).trans H4.out
      have hb3l : b3 < wr.heap.size := Nat.lt_of_lt_of_le HLT.out HB.out.size
      by_cases hlt : i < nf
      · have hii : (i : Int) < (nf : Int) := by omega
        have hmw := has_below HM0.out HB.out
        have hki : i < so.funcs.length := by rw [HNF.out]; exact hlt
        obtain ⟨g, p1, d1, p2, d2, p3, d3, p4, d4, rfl, f1, f2, f3, f4, f5, f6, hfs⟩ := rd_fn (RowM.rd HRF.out hmw) HEF.out i hki
        have HGI := Lib.hid (HG.out _ (List.getElem_mem hki))
        obtain ⟨csb, hrb, heb⟩ := hfs.b
        have hRB := RowM.rd hrb hmw
        have HMW := Lib.hid hmw
        generalize so.funcs[i] = fi at *
        have HEB := Lib.hid heb
        have HRB := Lib.hid hRB
        have HEN := Lib.hid (ends_any (w := wr) (c := d4) (n := fi.body.length) (fi.body.map fun s => (s.kind : Int)) (by simp) (body_of hRB heb) (by have := HGI.out.len; omega))
        clear hfs hrb heb hRB hmw
        go_wp2_with fail
        go_at_call 11
        refine HEN.out.mono ?_
        rintro e w3 ⟨hb3, hr⟩
        rw [kinds_of] at hr
        obtain ⟨⟨es, ls⟩, hes⟩ := Option.isSome_iff_exists.1 HGI.out.ends
        rw [hes] at hr
        obtain ⟨v5, k5, v6, k6, _, rfl, _, _, _, _⟩ := hr
        have HB3 := Lib.hid (HB.out.trans (hb3.mono HB.out.size))
        have HMW3 := Lib.hid (has_below HMW.out hb3)
        obtain ⟨nb, hnb⟩ : ∃ nb, fi.body.length = nb := ⟨_, rfl⟩
        have HNB := Lib.hid hnb
        rw [hnb]
        have hpos : 0 < nb := by rw [← hnb]; exact HGI.out.pos
        have hbig : nb ≤ 65538 := by rw [← hnb]; exact HGI.out.len
        have HRB3 := Lib.hid (show RdR w3 p4 csb from by
          rcases HRB.out with h | ⟨g, hq, h⟩
          · exact .inl h
          · exact .inr ⟨g, hq, fun j u hu => (hb3.cell (World.block_lt_of_cell? _ _ (h j u hu))).trans (h j u hu)⟩)
        have hb3l3 : b3 < w3.heap.size := Nat.lt_of_lt_of_le hb3l hb3.size
        have hpos' : ((nb : Int) == 0) = false := by simp; omega
        clear hes hb3 HEN hnb HRB HMW HB c4 f1 f2 f3 f4 f5 f6 hb3l
        go_wp2_with fail
        go_loopw [10] (fun i wr => ∃ k : Nat, k ≤ nb ∧ i = .int .i64 k ∧ wr = w3) (fun i _ => nb - (intOf i).toNat)
        case atStart => exact ⟨0, Nat.zero_le _, rfl, rfl⟩
        case round =>
          obtain ⟨k, hk, rfl, rfl⟩ := hrel
          by_cases hkl : k < nb
          · have hkk : (k : Int) < (nb : Int) := by omega
            have hkb : k < fi.body.length := by rw [HNB.out]; exact hkl
            obtain ⟨g', t1, tc1, x1, xc1, rfl, a1, a2, a3, a4, _, a6⟩ := rd_st HRB3.out HEB.out k hkb
            obtain ⟨csx, hrx, hex⟩ := a6
            have HRX := Lib.hid (RowM.rd hrx HMW3.out)
            have HEX := Lib.hid hex
            have hlast := HGI.out.last k hkb
            rw [HNB.out] at hlast
            have hlow := HGI.out.low k hkb
            have hone := HGI.out.one k hkb
            have htwo := HGI.out.two k hkb
            have hnone := HGI.out.none k hkb
            have htgt := HGI.out.target k hkb
            have HWH := Lib.hid (HGI.out.whole k hkb)
            have HXM := Lib.hid (row_max hrx)
            clear hrx hex
            generalize fi.body[k].kind = kd at *
            generalize sb fi.body[k].name = nm at *
            generalize fi.body[k].targets.length = tl at *
            generalize fi.body[k].exprs = ex at *
            obtain ⟨el, hel⟩ : ∃ el, ex.length = el := ⟨_, rfl⟩
            have HEL := Lib.hid hel
            rw [hel] at a4 hone htwo hnone
            have HWT := Lib.hid (fun (n : Nat) (h : n < ex.length) => rd_ex HMW3.out HRX.out HEX.out n h)
            clear hel
            have hkd : kd = 1 ∨ kd = 2 ∨ kd = 3 ∨ kd = 4 ∨ kd = 5 ∨ kd = 6 ∨ kd = 7 ∨ kd = 8 ∨ kd = 9 := by omega
            have hkn : ((k : Int) == (nb : Int) - 1) = decide (kd = 9) := by
              by_cases h : kd = 9
              · have := hlast.1 h
                simp [h]; omega
              · have : ¬ k = nb - 1 := fun e => h (hlast.2 e)
                simp [h]; omega
            clear hlast hlow
            have hform : (kd = 1 ∧ el = 1 ∧ tl = 1) ∨ (kd = 2 ∧ el = 2) ∨ (kd = 3 ∧ el = 1) ∨ kd = 4 ∨ (kd = 5 ∧ el = 1) ∨ (kd = 6 ∧ el = 0) ∨ (kd = 7 ∧ el = 1) ∨ (kd = 8 ∧ el = 0) ∨ kd = 9 := by
              rcases hkd with rfl | rfl | rfl | rfl | rfl | rfl | rfl | rfl | rfl
              · exact .inl ⟨rfl, hone (by simp), htgt rfl⟩
              · exact .inr (.inl ⟨rfl, htwo rfl⟩)
              · exact .inr (.inr (.inl ⟨rfl, hone (by simp)⟩))
              · exact .inr (.inr (.inr (.inl rfl)))
              · exact .inr (.inr (.inr (.inr (.inl ⟨rfl, hone (by simp)⟩))))
              · exact .inr (.inr (.inr (.inr (.inr (.inl ⟨rfl, hnone (by simp)⟩)))))
              · exact .inr (.inr (.inr (.inr (.inr (.inr (.inl ⟨rfl, hone (by simp)⟩))))))
              · exact .inr (.inr (.inr (.inr (.inr (.inr (.inr (.inl ⟨rfl, hnone (by simp)⟩)))))))
              · exact .inr (.inr (.inr (.inr (.inr (.inr (.inr (.inr rfl)))))))
            have helm : el ≤ 9223372036854775807 := by rw [← HEL.out]; exact HXM.out
            clear hone htwo hnone htgt hkd
            rcases hform with ⟨rfl, rfl, rfl⟩ | ⟨rfl, rfl⟩ | ⟨rfl, rfl⟩ | rfl | ⟨rfl, rfl⟩ | ⟨rfl, rfl⟩ | ⟨rfl, rfl⟩ | ⟨rfl, rfl⟩ | rfl
            all_goals
              go_wp2_with fail
              go_loopw [12] (fun i wr' => ∃ x : Nat, x ≤ ex.length ∧ i = .int .i64 x ∧ wr' = wr) (fun i _ => ex.length - (intOf i).toNat)
              case atStart => exact ⟨0, Nat.zero_le _, rfl, rfl⟩
              case round =>
                obtain ⟨x, hx, rfl, rfl⟩ := hrel
                by_cases hxl : x < ex.length
                · have hxl' := hxl
                  rw [HEL.out] at hxl'
                  first
                  | (exfalso; clear HWT HWH; omega)
                  | (obtain ⟨g3, q', c', rfl, y1, y2, y3⟩ := HWT.out x hxl
                     have HWL := Lib.hid (whole_true (c := c') (ex[x]) rfl y2 (HWH.out _ (List.getElem_mem _)) y3)
                     have hxx := Int.ofNat_lt.2 hxl'
                     have HXL := Lib.hid hxl
                     clear y2
                     go_wp2_with (go_at_call 12; refine HWL.out.mono ?_; rintro e w9 ⟨rfl, rfl⟩)
                     exact ⟨⟨x + 1, HXL.out, by go_num, trivial⟩, by have := HXL.out; simp [intOf]; omega⟩)
                · have hxe : x = ex.length := by omega
                  rw [HEL.out] at hxe
                  subst hxe
                  clear hxl hx
                  go_wp2_with fail
                  exact ⟨⟨k + 1, by omega, by go_num, trivial⟩, by simp [intOf]; omega⟩
          · go_wp2_with fail
            exact ⟨⟨i + 1, by omega, by go_num, HB3⟩, by simp [intOf]; omega⟩
      · obtain rfl : i = nf := by omega
        go_wp2_with fail
        go_ret
        exact ⟨rfl, HBW.out.trans (HB.out.mono HBW.out.size)⟩
end Go.Proofs.YtbojklbnfgopfaaGreatDoor
