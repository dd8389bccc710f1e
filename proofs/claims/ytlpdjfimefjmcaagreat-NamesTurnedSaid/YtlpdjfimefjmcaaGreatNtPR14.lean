/- NamesTurned walked: another name everywhere changes no fault. (Written by a program.) -/
import Derived.Test.YtlpdjfimefjmcaaGreatNtPR12
import Derived.Test.YtlpdjfimefjmcaaGreatNtPR13
import Derived.Deep.CutRange
namespace Go.Proofs.YtlpdjfimefjmcaaGreat
open Go Go.RowKit Go.Proofs.Mm

section
variable {W : World} {s : SoZ} {q1 : Option Addr} {c1 : Nat} {q2 : Option Addr} {c2 : Nat} {q3 : Option Addr} {c3 : Nat} {q4 : Option Addr} {c4 : Nat} {q5 : Option Addr} {c5 : Nat}
set_option maxRecDepth 100000 in
set_option maxHeartbeats 8000000 in
theorem nturned_p (h : SrcO false (wC W) s q1 c1 q2 c2 q3 c3 q4 c4 q5 c5) (hsm : SmallZ s) (fr : ByteArray) :
    Calls Tryz.prog 4 #[.agg (srV s q1 c1 q2 c2 q3 c3 q4 c4 q5 c5), .string fr] W (RetB (.bool true) W) := by
  have HSM := Lib.hid hsm
  have HSR := Lib.hid (fun (w : World) (hb : Below W.heap.size W w) => show SrcR false (wC w) (.agg #[.slice q1 s.principals.length c1, .slice q2 s.globals.length c2, .slice q3 s.arrays.length c3, .slice q4 s.channels.length c4, .slice q5 s.funcs.length c5]) s from SrcR.le ⟨_, _, _, _, _, rfl, h.pr, h.gl, h.ar, h.ch, h.fn⟩ (below_cle hb))
  have HCK := Lib.hid (fun (w : World) (hb : Below W.heap.size W w) => check_p (W := w) h (below_cle hb) hsm)
  have heq := eqFlB
  have hl2 := slx_len h.gl
  have hl3 := slx_len h.ar
  have hl4 := slx_len h.ch
  have hl5 := slx_len h.fn
  have hl1 := slx_len h.pr
  clear h hsm
  unfold srV at HCK ⊢
  obtain ⟨n1, hn1⟩ : ∃ n, s.principals.length = n := ⟨_, rfl⟩
  obtain ⟨n2, hn2⟩ : ∃ n, s.globals.length = n := ⟨_, rfl⟩
  obtain ⟨n3, hn3⟩ : ∃ n, s.arrays.length = n := ⟨_, rfl⟩
  obtain ⟨n4, hn4⟩ : ∃ n, s.channels.length = n := ⟨_, rfl⟩
  obtain ⟨n5, hn5⟩ : ∃ n, s.funcs.length = n := ⟨_, rfl⟩
  rw [hn1, hn2, hn3, hn4, hn5] at HSR HCK
  rw [hn1, hn2, hn3, hn4, hn5]
  rw [hn1] at hl1
  rw [hn2] at hl2
  rw [hn3] at hl3
  rw [hn4] at hl4
  rw [hn5] at hl5
  have HN1 := Lib.hid hn1
  have HN2 := Lib.hid hn2
  have HN3 := Lib.hid hn3
  have HN4 := Lib.hid hn4
  have HN5 := Lib.hid hn5
  clear hn1 hn2 hn3 hn4 hn5
  obtain ⟨b, hb⟩ : ∃ b, W.heap.size = b := ⟨_, rfl⟩
  go_enter Tryz.func4, Tryz.ntmps4
  go_wp2_with fail
  obtain ⟨b3, hb3⟩ : ∃ b3, b + 1 = b3 := ⟨_, rfl⟩
  have hj0 := (InB.new' (w := W) #[.slice q1 n1 c1, .slice q2 n2 c2, .slice q3 n3 c3, .slice q4 n4 c4, .slice q5 n5 c5] 27 hb).le (bl_al (Below.refl _ _) (.cells #[.string fr] 9))
  have hj3 := InB.new' (w := W.alloc (.cells #[.slice q1 n1 c1, .slice q2 n2 c2, .slice q3 n3 c3, .slice q4 n4 c4, .slice q5 n5 c5] 27)) #[.string fr] 9 (b := b3) (by rw [← hb3, ← hb]; simp)
  have hB0 := bl_al (bl_al (Below.refl W.heap.size W) (.cells #[.slice q1 n1 c1, .slice q2 n2 c2, .slice q3 n3 c3, .slice q4 n4 c4, .slice q5 n5 c5] 27)) (.cells #[.string fr] 9)
  try rw [hb]
  try rw [hb3]
  have HBN := Lib.hid hb
  have HBN3 := Lib.hid hb3
  generalize (W.alloc (.cells #[.slice q1 n1 c1, .slice q2 n2 c2, .slice q3 n3 c3, .slice q4 n4 c4, .slice q5 n5 c5] 27)).alloc (.cells #[.string fr] 9) = w0 at *
  have HJ := Lib.hid hj0
  have HJ3 := Lib.hid hj3
  have HB0 := Lib.hid hB0
  clear hb hb3 hj0 hj3 hB0
  go_at_call 5
  refine (known_p _).mono ?_
  rintro e w1 ⟨rfl, hb1'⟩
  have HB1 := Lib.hid (bl_tr HB0.out hb1')
  have HJ1 := Lib.hid (HJ.out.le hb1')
  have HJ13 := Lib.hid (HJ3.out.le hb1')
  clear hb1' HJ HB0 HJ3
  have kf := HJ13.out.cell (j := 0) rfl
  go_wp2_with fail
  go_at_call 8
  refine (name_p fr _).mono ?_
  rintro e w' ⟨rfl, rfl⟩
  obtain ⟨nf, hnf⟩ : ∃ nf, nameZ fr = nf := ⟨_, rfl⟩
  have HNF := Lib.hid hnf
  rw [hnf]
  clear hnf kf
  cases nf
  case false =>
    go_wp2
    try go_ret
    exact ⟨rfl, HB1.out⟩
  have k0 := HJ1.out.cell (j := 0) rfl
  have k1 := HJ1.out.cell (j := 1) rfl
  have k2 := HJ1.out.cell (j := 2) rfl
  have k3 := HJ1.out.cell (j := 3) rfl
  have k4 := HJ1.out.cell (j := 4) rfl
  go_wp2_with fail
  go_at_call 7
  refine (lentSource_sep (HSR.out _ HB1.out)).mono ?_
  rintro e w2 ⟨p1, d1, p2, d2, p3, d3, p4, d4, p5, d5, mP, mG, mH, mA, mF, rfl, hb2, hsep, hS1, hS2, hS3, hS4, hS5⟩
  clear k0 k1 k2 k3 k4
  obtain ⟨m, hHm, lG, lH, lA, lF, hnew, hap⟩ := sep_join hsep
  have hHP := hsep.hP
  have HJ2 := Lib.hid (HJ1.out.le hb2)
  have HJ23 := Lib.hid (HJ13.out.le hb2)
  have HB2 := Lib.hid (bl_tr HB1.out hb2)
  rw [HN1.out] at hS1
  rw [HN2.out] at hS2
  rw [HN3.out] at hS3
  rw [HN4.out] at hS4
  rw [HN5.out] at hS5
  rw [HN1.out, HN2.out, HN3.out, HN4.out, HN5.out]
  have HS1 := Lib.hid hS1
  have HS2 := Lib.hid (hS2.le (mle_cle lG))
  have HS3 := Lib.hid (hS3.le (mle_cle lA))
  have HS4 := Lib.hid (hS4.le (mle_cle lH))
  have HS5 := Lib.hid (hS5.le (mle_cle lF))
  have HGL := Lib.hid HS2.out.cells
  have HAR := Lib.hid HS3.out.cells
  have HCH := Lib.hid HS4.out.cells
  have HFN := Lib.hid HS5.out.cells
  have HPR := Lib.hid HS1.out.cells
  obtain ⟨b5, hb5⟩ : ∃ b5, w2.heap.size = b5 := ⟨_, rfl⟩
  have hw1 : w1.heap.size ≤ b5 := by rw [← hb5]; exact hb2.size
  have hws := HB1.out.size
  have hlb := HJ1.out.lt
  have hlb3 := HJ13.out.lt
  go_upto_region 8 with fail
  obtain ⟨b6, hb6⟩ : ∃ b6, b5 + 1 = b6 := ⟨_, rfl⟩
  have hj5 := (InB.new' (w := w2) #[.slice p1 n1 d1, .slice p2 n2 d2, .slice p3 n3 d3, .slice p4 n4 d4, .slice p5 n5 d5] 27 hb5).le (bl_al (Below.refl _ _) (.cells #[.bool false] 4))
  have hj6 := InB.new' (w := w2.alloc (.cells #[.slice p1 n1 d1, .slice p2 n2 d2, .slice p3 n3 d3, .slice p4 n4 d4, .slice p5 n5 d5] 27)) #[.bool false] 4 (b := b6) (by rw [← hb6, ← hb5]; simp)
  have hBV := bl_al (bl_al (Below.refl w2.heap.size w2) (.cells #[.slice p1 n1 d1, .slice p2 n2 d2, .slice p3 n3 d3, .slice p4 n4 d4, .slice p5 n5 d5] 27)) (.cells #[.bool false] 4)
  try rw [hb5]
  try rw [hb6]
  generalize (w2.alloc (.cells #[.slice p1 n1 d1, .slice p2 n2 d2, .slice p3 n3 d3, .slice p4 n4 d4, .slice p5 n5 d5] 27)).alloc (.cells #[.bool false] 4) = V0 at *
  have hm5 : m b5 = none := hHm.lt (by omega)
  have hm6 : m b6 = none := hHm.lt (by omega)
  have hmlt : ∀ k o, m k = some o → k < b5 := fun k o e => by
    have := heap_lt (hHm k o e)
    omega
  have HNE := Lib.hid (show ¬ b3 = b6 ∧ ¬ b5 = b6 by omega)
  have hHV := has_grown hHm hBV
  have hHPV := has_grown hHP hBV
  have HT := Lib.hid (show TI fr b6 m (fun _ => False) false V0 from ⟨⟨fun a v hL => .inl (has_cle hHV _ _ hL), fun a n hD => hD.elim⟩, hj6, fun a v hL => has_free hHV hL, fun a v hL => by
    have := has_cle hHV _ _ hL
    exact World.block_lt_of_cell? _ _ this, hm6⟩)
  have hsW : W.heap.size ≤ V0.heap.size := by
    have := hBV.size; omega
  have HBB := Lib.hid (fun (w : World) (hc : Chg (Wr m b6) V0 w) => show InB w b5 #[.slice p1 n1 d1, .slice p2 n2 d2, .slice p3 n3 d3, .slice p4 n4 d4, .slice p5 n5 d5] 27 ∧ InB w b #[.slice q1 n1 c1, .slice q2 n2 c2, .slice q3 n3 c3, .slice q4 n4 c4, .slice q5 n5 c5] 27 ∧ w.cell? ⟨b3, 0, none⟩ = some (.string fr) ∧ Has w mP ∧ Below W.heap.size W w from by
    have hq : ∀ k, m k = none → ¬ k = b6 → ¬ Wr m b6 k := fun k h1 h2 h3 => by
      rcases h3 with h3 | h3
      · exact h3 h1
      · exact h2 h3
    have hk := HBN.out
    have hk3 := HBN3.out
    refine ⟨hc.heap hj5 (hq _ hm5 (by omega)), hc.heap (HJ2.out.le hBV) (hq _ (hnew _ hlb) (by omega)), ?_, fun k o e => hc.heap (hHPV k o e) (hq _ (hap k o e) (fun e2 => ?_)), (bl_tr HB2.out hBV).trans (hc.below hsW fun i hi => ?_)⟩
    · have h9 : InB w b3 #[.string fr] 9 := hc.heap (HJ23.out.le hBV) (hq _ (hnew _ hlb3) (by omega))
      exact h9.cell rfl
    · have := heap_lt (hHP k o e)
      omega
    · rcases hi with hi | hi
      · by_cases hlt : i < w1.heap.size
        · exact absurd (hnew i hlt) hi
        · omega
      · omega)
  have HCW := Lib.hid (Chg.refl (Wr m b6) V0)
  have HBX := Lib.hid (fun (w : World) (hc : Chg (Wr m b6) V0 w) (k : Nat) (hk : m k ≠ none ∨ k = b6) => show k ≤ b6 from by
    rcases hk with hk | hk
    · cases e : m k with
      | none => exact absurd e hk
      | some o => have := hmlt k o e; omega
    · omega)
  have hit0 : (false : Bool) = false := rfl
  clear hsep hS1 hS2 hS3 hS4 hS5 hHm lG lH lA lF hnew hap hHP hb2 hb5 hb6 hw1 hlb hlb3 hj5 hj6 hBV hm5 hm6 hmlt hHV hHPV hsW hit0 HJ1 HJ13 HB1 HJ2 HJ23 HB2 hws
  have hl1' : n1 < 9223372036854775807 := by omega
  have hl2' : n2 < 9223372036854775807 := by omega
  have hl3' : n3 < 9223372036854775807 := by omega
  have hl4' : n4 < 9223372036854775807 := by omega
  have hl5' : n5 < 9223372036854775807 := by omega
  clear hl1 hl2 hl3 hl4 hl5
  go_wp2_with fail
  go_loopw [8] (fun i wr => ∃ (j : Nat) (hit : Bool), j ≤ n1 ∧ i = .int .i64 j ∧ Hid (TI fr b6 m (fun _ => False) hit wr) ∧ Hid (Chg (Wr m b6) V0 wr)) (fun i _ => n1 - (intOf i).toNat)
  case atStart => exact ⟨0, false, Nat.zero_le _, rfl, HT, HCW⟩
  case round =>
    as_aux_lemma =>
      clear HT HCW
      obtain ⟨j, hit, hj, rfl, HT, HCW⟩ := hrel
      obtain ⟨V, h9⟩ : ∃ w, w = wr := ⟨_, rfl⟩
      subst h9
      have k0 := (HBB.out _ HCW.out).1.cell (j := 0) (v := .slice p1 n1 d1) rfl
      have hbl := (HBB.out _ HCW.out).1.lt
      have h6 := cell_of (j := 0) HT.out.hit6 rfl
      have f6 := free_of (j := 0) HT.out.hit6
      have hl6 := cell_lt h6
      by_cases hlt : j < n1
      · as_aux_lemma =>
          have hj1 : j < s.principals.length := by rw [HN1.out]; exact hlt
          obtain ⟨g, o, rfl, a0⟩ := HPR.out j hj1
          have e0 := has_cle (HBB.out _ HCW.out).2.2.2.1 _ _ a0
          unfold wC at e0
          have hglt := World.block_lt_of_cell? _ _ e0
          clear a0
          generalize s.principals[j] = pn at *
          clear hj1
          have hji : (j : Int) < (n1 : Int) := by omega
          obtain ⟨d, hd⟩ : ∃ d, (pn.toList == [122, 122, 113, 113, 95, 49]) = d := ⟨_, rfl⟩
          have HTM := Lib.hid (HT.out.mark d)
          have HCX := Lib.hid (show Chg (Wr m b6) V (V.setCell ⟨b6, 0, none⟩ (.bool (hit || d))) from (Chg.refl _ V).setCell (.inl (.inr rfl)) _)
          cases hit <;> cases d
          all_goals
            simp only [Bool.false_or, Bool.true_or] at HTM HCX
            go_wp2
            exact ⟨⟨j + 1, _, by omega, by go_num, HTM, Lib.hid (HCW.out.then HCX.out)⟩, by simp [intOf]; omega⟩
      · obtain rfl : n1 = j := by omega
        go_wp2_with fail
        clear k0 hbl h6 f6 hl6 hlt hj
        go_loopw [9] (fun i wr => ∃ (j : Nat) (D : Addr → Prop) (hit : Bool), j ≤ n2 ∧ i = .int .i64 j ∧ Hid (TI fr b6 m D hit wr) ∧ Hid (Pos D p2 j 2 0) ∧ Hid (∀ a, (fun _ => False) a → D a) ∧ Hid (Chg (Wr m b6) V0 wr)) (fun i _ => n2 - (intOf i).toNat)
        case atStart => exact ⟨0, (fun _ => False), hit, Nat.zero_le _, rfl, HT, Lib.hid Pos.zero, Lib.hid (fun _ h => h), HCW⟩
        case round =>
          as_aux_lemma =>
            clear HT HCW
            obtain ⟨j, D, hit, hj, rfl, HT, HP, HM, HCW⟩ := hrel
            obtain ⟨V, h9⟩ : ∃ w, w = wr := ⟨_, rfl⟩
            subst h9
            have k1 := (HBB.out _ HCW.out).1.cell (j := 1) (v := .slice p2 n2 d2) rfl
            by_cases hlt : j < n2
            · as_aux_lemma =>
                have hj1 : j < s.globals.length := by rw [HN2.out]; exact hlt
                obtain ⟨g, o, rfl, a0, -, -⟩ := HGL.out j hj1
                have hji : (j : Int) < (n2 : Int) := by omega
                obtain ⟨cur, hc, hcc, hct⟩ := HT.out.tw.cur a0
                have f0 := HT.out.free _ _ a0
                have hlt0 := HT.out.lt _ _ a0
                have hx6 : ¬ (g = b6) := fun e => mC_ne a0 (by show m g = none; rw [e]; exact HT.out.m6)
                obtain ⟨h2, hh2⟩ : ∃ h2, (hit || decide (cur = twN)) = h2 := ⟨_, rfl⟩
                obtain ⟨R, hR⟩ : ∃ R, ren fr twN cur = R := ⟨_, rfl⟩
                have HTI := Lib.hid (show TI fr b6 m (fun b => D b ∨ b = ⟨g, o + j * 2, none⟩) h2 ((V.setCell ⟨b6, 0, none⟩ (.bool h2)).setCell ⟨g, o + j * 2, none⟩ (.string R)).drew by rw [← hh2, ← hR]; exact (HT.out.turn a0 hc hcc hct).drew)
                have HCX := Lib.hid (show Chg (Wr m b6) V ((V.setCell ⟨b6, 0, none⟩ (.bool h2)).setCell ⟨g, o + j * 2, none⟩ (.string R)).drew from (((Chg.refl _ V).setCell (p := ⟨b6, 0, none⟩) (.inl (.inr rfl)) _).setCell (p := ⟨g, o + j * 2, none⟩) (.inl (.inl (mC_ne a0))) _).drew)
                have HTP := Lib.hid (show Calls Tryz.prog 12 #[.string cur, .pointer (some ⟨b6, 0, none⟩), .pointer (some ⟨b3, 0, none⟩)] V.drew fun e w' => e = .returned (.string R) ∧ V.drew.setCell ⟨b6, 0, none⟩ (.bool h2) = w' by rw [← hh2, ← hR]; exact turn_p cur fr hit b6 b3 _ (cell_of HT.out.hit6 rfl) (free_of HT.out.hit6) (HBB.out _ HCW.out).2.2.1 HNE.out.1)
                have HK0 := Lib.hid (show Kq b6 ⟨g, o + j * 2, none⟩ V V from Kq.start hc f0)
                have HK6 := Lib.hid (fun (w : World) (u : Value) (h : Kq b6 ⟨g, o + j * 2, none⟩ V w) => h.six hx6 u)
                have HKA := Lib.hid (fun (w : World) (s : ByteArray) (h : Kq b6 ⟨g, o + j * 2, none⟩ V w) => h.self s)
                have HS := Lib.hid (fun (w : World) (hw : Kq b6 ⟨g, o + j * 2, none⟩ V w) => show w.cell? ⟨b5, 1, none⟩ = some (.slice (some ⟨g, o, none⟩) n2 d2) ∧ w.cell? ⟨g, o + j * 2, none⟩ = some (.string (nmAt w ⟨g, o + j * 2, none⟩)) ∧ w.frozen? ⟨g, o + j * 2, none⟩ = false from ⟨hw.rd k1 HNE.out.2 hc (fun _ e => by cases e), hw.str, hw.free⟩)
                have hn1 : nmAt V ⟨g, o + j * 2, none⟩ = cur := nmAt_of hc
                have hn2 : nmAt V.drew ⟨g, o + j * 2, none⟩ = cur := nmAt_of hc
                have hlx0 := World.block_lt_of_cell? _ _ k1
                clear hh2 hR hcc hct
                go_wp2_with fail
                refine wp_region_held_drew (S := fun w => w.cell? ⟨b5, 1, none⟩ = some (.slice (some ⟨g, o, none⟩) n2 d2) ∧ w.cell? ⟨g, o + j * 2, none⟩ = some (.string (nmAt w ⟨g, o + j * 2, none⟩)) ∧ w.frozen? ⟨g, o + j * 2, none⟩ = false) (by kernel_rfl) (HS.out _ (Kq.drew HK0.out)) (fun hHeld => ?_)
                refine wpAnyH_take (i := 0) (v := ?_) rfl (by kernel_rfl) (by kernel_rfl) (by kernel_rfl) (fun _ _ _ h => h) (Or.inl ⟨by rfl, ?_⟩) (by assumption) ?_
                rotate_left
                · intro w hSw
                  try dsimp only at hSw
                  go_simp
                  try with_reducible rfl
                try simp only [Act.put, List.getElem_toArray, List.getElem_cons_zero, List.getElem_cons_succ, List.setIfInBounds_toArray, List.set_cons_zero, List.set_cons_succ]
                refine wpAnyH_take (i := 1) (v := ?_) rfl (by kernel_rfl) (by kernel_rfl) (by kernel_rfl) (fun _ _ _ h => h) (Or.inl ⟨by rfl, ?_⟩) (by assumption) ?_
                rotate_left
                · intro w hSw
                  try dsimp only at hSw
                  go_simp
                  try with_reducible rfl
                try simp only [Act.put, List.getElem_toArray, List.getElem_cons_zero, List.getElem_cons_succ, List.setIfInBounds_toArray, List.set_cons_zero, List.set_cons_succ]
                refine wpAnyH_take (i := 2) (v := ?_) rfl (by kernel_rfl) (by kernel_rfl) (by kernel_rfl) (fun _ _ _ h => h) (Or.inl ⟨by rfl, ?_⟩) (by assumption) ?_
                rotate_left
                · intro w hSw
                  try dsimp only at hSw
                  go_simp
                  try with_reducible rfl
                try simp only [Act.put, List.getElem_toArray, List.getElem_cons_zero, List.getElem_cons_succ, List.setIfInBounds_toArray, List.set_cons_zero, List.set_cons_succ]
                refine wpAnyH_take (i := 3) (v := ?_) rfl (by kernel_rfl) (by kernel_rfl) (by kernel_rfl) (fun _ _ _ h => h) (Or.inl ⟨by rfl, ?_⟩) (by assumption) ?_
                rotate_left
                · intro w hSw
                  try dsimp only at hSw
                  go_simp
                  try with_reducible rfl
                try simp only [Act.put, List.getElem_toArray, List.getElem_cons_zero, List.getElem_cons_succ, List.setIfInBounds_toArray, List.set_cons_zero, List.set_cons_succ]
                refine wpAnyH_take (i := 4) (v := ?_) rfl (by kernel_rfl) (by kernel_rfl) (by kernel_rfl) (fun _ _ _ h => h) (Or.inl ⟨by rfl, ?_⟩) (by assumption) ?_
                rotate_left
                · intro w hSw
                  try dsimp only at hSw
                  go_simp
                  try with_reducible rfl
                try simp only [Act.put, List.getElem_toArray, List.getElem_cons_zero, List.getElem_cons_succ, List.setIfInBounds_toArray, List.set_cons_zero, List.set_cons_succ]
                refine wpAnyH_take (i := 5) (v := ?_) rfl (by kernel_rfl) (by kernel_rfl) (by kernel_rfl) (fun _ _ _ h => h) (Or.inl ⟨by rfl, ?_⟩) (by assumption) ?_
                rotate_left
                · intro w hSw
                  try dsimp only at hSw
                  go_simp
                  try with_reducible rfl
                try simp only [Act.put, List.getElem_toArray, List.getElem_cons_zero, List.getElem_cons_succ, List.setIfInBounds_toArray, List.set_cons_zero, List.set_cons_succ]
                refine wpAnyH_take (i := 6) (v := ?_) rfl (by kernel_rfl) (by kernel_rfl) (by kernel_rfl) (fun _ _ _ h => h) (Or.inl ⟨by rfl, ?_⟩) (by assumption) ?_
                rotate_left
                · intro w hSw
                  try dsimp only at hSw
                  go_simp
                  try with_reducible rfl
                try simp only [Act.put, List.getElem_toArray, List.getElem_cons_zero, List.getElem_cons_succ, List.setIfInBounds_toArray, List.set_cons_zero, List.set_cons_succ]
                refine wpAnyH_take (i := 7) (v := ?_) rfl (by kernel_rfl) (by kernel_rfl) (by kernel_rfl) (fun _ _ _ h => h) (Or.inl ⟨by rfl, ?_⟩) (by assumption) ?_
                rotate_left
                · intro w hSw
                  try dsimp only at hSw
                  go_simp
                  try with_reducible rfl
                try simp only [Act.put, List.getElem_toArray, List.getElem_cons_zero, List.getElem_cons_succ, List.setIfInBounds_toArray, List.set_cons_zero, List.set_cons_succ]
                refine wpAnyH_take (i := 8) (v := ?_) rfl (by kernel_rfl) (by kernel_rfl) (by kernel_rfl) (fun _ _ _ h => h) (Or.inl ⟨by rfl, ?_⟩) (by assumption) ?_
                rotate_left
                · intro w hSw
                  try dsimp only at hSw
                  go_simp
                  try with_reducible rfl
                try simp only [Act.put, List.getElem_toArray, List.getElem_cons_zero, List.getElem_cons_succ, List.setIfInBounds_toArray, List.set_cons_zero, List.set_cons_succ]
                refine wpAnyH_ready (rs := [9]) (by kernel_rfl) (by simp) ?_
                refine AllReadyH.cons rfl (fun K hK => ?_) AllReadyH.nil
                go_simp
                refine hK.out _ _ (by refine HS.out _ ?_; repeat (first | exact HK0.out | refine Kq.drew ?_ | refine Kq.drewN ?_ _ | refine HK6.out _ _ ?_ | refine HKA.out _ _ ?_)) (fun hHeld => ?_)
                clear hK K
                try simp only [Act.put, List.getElem_toArray, List.getElem_cons_zero, List.getElem_cons_succ, List.setIfInBounds_toArray, List.set_cons_zero, List.set_cons_succ]
                refine wpAnyH_ready (rs := [10]) (by kernel_rfl) (by simp) ?_
                refine AllReadyH.cons rfl (fun K hK => ?_) AllReadyH.nil
                go_simp
                go_at_call 12
                refine HTP.out.mono ?_
                rintro e w' ⟨rfl, rfl⟩
                refine hK.out _ _ (by refine HS.out _ ?_; repeat (first | exact HK0.out | refine Kq.drew ?_ | refine Kq.drewN ?_ _ | refine HK6.out _ _ ?_ | refine HKA.out _ _ ?_)) (fun hHeld => ?_)
                clear hK K
                try simp only [Act.put, List.getElem_toArray, List.getElem_cons_zero, List.getElem_cons_succ, List.setIfInBounds_toArray, List.set_cons_zero, List.set_cons_succ]
                refine wpAnyH_take (i := 11) (v := ?_) rfl (by kernel_rfl) (by kernel_rfl) (by kernel_rfl) (fun _ _ _ h => h) (Or.inl ⟨by rfl, ?_⟩) (by assumption) ?_
                rotate_left
                · intro w hSw
                  try dsimp only at hSw
                  go_simp
                  try with_reducible rfl
                try simp only [Act.put, List.getElem_toArray, List.getElem_cons_zero, List.getElem_cons_succ, List.setIfInBounds_toArray, List.set_cons_zero, List.set_cons_succ]
                refine wpAnyH_take (i := 12) (v := ?_) rfl (by kernel_rfl) (by kernel_rfl) (by kernel_rfl) (fun _ _ _ h => h) (Or.inl ⟨by rfl, ?_⟩) (by assumption) ?_
                rotate_left
                · intro w hSw
                  try dsimp only at hSw
                  go_simp
                  try with_reducible rfl
                try simp only [Act.put, List.getElem_toArray, List.getElem_cons_zero, List.getElem_cons_succ, List.setIfInBounds_toArray, List.set_cons_zero, List.set_cons_succ]
                refine wpAnyH_ready (rs := [13]) (by kernel_rfl) (by simp) ?_
                refine AllReadyH.cons rfl (fun K hK => ?_) AllReadyH.nil
                go_simp
                refine hK.out _ _ (by refine HS.out _ ?_; repeat (first | exact HK0.out | refine Kq.drew ?_ | refine Kq.drewN ?_ _ | refine HK6.out _ _ ?_ | refine HKA.out _ _ ?_)) (fun hHeld => ?_)
                clear hK K
                try simp only [Act.put, List.getElem_toArray, List.getElem_cons_zero, List.getElem_cons_succ, List.setIfInBounds_toArray, List.set_cons_zero, List.set_cons_succ]
                refine wpAnyH_done (by kernel_rfl) ?_ _
                go_wp2_with fail
                exact ⟨⟨j + 1, _, h2, by omega, by go_num, HTI, Lib.hid HP.out.snoc, Lib.hid (fun a h => .inl (HM.out a h)), Lib.hid (HCW.out.then HCX.out)⟩, by simp [intOf]; omega⟩
            · obtain rfl : n2 = j := by omega
              obtain ⟨D1, hD⟩ : ∃ D', D' = D := ⟨_, rfl⟩
              subst hD
              have HhPG := HP
              have HM1 := HM
              go_wp2_with fail
              clear k1 hlt hj HP HM
              go_loopw [10] (fun i wr => ∃ (j : Nat) (D : Addr → Prop) (hit : Bool), j ≤ n3 ∧ i = .int .i64 j ∧ Hid (TI fr b6 m D hit wr) ∧ Hid (Pos D p3 j 3 0) ∧ Hid (∀ a, D1 a → D a) ∧ Hid (Chg (Wr m b6) V0 wr)) (fun i _ => n3 - (intOf i).toNat)
              case atStart => exact ⟨0, D1, hit, Nat.zero_le _, rfl, HT, Lib.hid Pos.zero, Lib.hid (fun _ h => h), HCW⟩
              case round =>
                as_aux_lemma =>
                  clear HT HCW
                  obtain ⟨j, D, hit, hj, rfl, HT, HP, HM, HCW⟩ := hrel
                  obtain ⟨V, h9⟩ : ∃ w, w = wr := ⟨_, rfl⟩
                  subst h9
                  have k2 := (HBB.out _ HCW.out).1.cell (j := 2) (v := .slice p3 n3 d3) rfl
                  by_cases hlt : j < n3
                  · as_aux_lemma =>
                      have hj1 : j < s.arrays.length := by rw [HN3.out]; exact hlt
                      obtain ⟨g, o, rfl, a0, -, -, -⟩ := HAR.out j hj1
                      have hji : (j : Int) < (n3 : Int) := by omega
                      obtain ⟨cur, hc, hcc, hct⟩ := HT.out.tw.cur a0
                      have f0 := HT.out.free _ _ a0
                      have hlt0 := HT.out.lt _ _ a0
                      have hx6 : ¬ (g = b6) := fun e => mC_ne a0 (by show m g = none; rw [e]; exact HT.out.m6)
                      obtain ⟨h2, hh2⟩ : ∃ h2, (hit || decide (cur = twN)) = h2 := ⟨_, rfl⟩
                      obtain ⟨R, hR⟩ : ∃ R, ren fr twN cur = R := ⟨_, rfl⟩
                      have HTI := Lib.hid (show TI fr b6 m (fun b => D b ∨ b = ⟨g, o + j * 3, none⟩) h2 ((V.setCell ⟨b6, 0, none⟩ (.bool h2)).setCell ⟨g, o + j * 3, none⟩ (.string R)).drew by rw [← hh2, ← hR]; exact (HT.out.turn a0 hc hcc hct).drew)
                      have HCX := Lib.hid (show Chg (Wr m b6) V ((V.setCell ⟨b6, 0, none⟩ (.bool h2)).setCell ⟨g, o + j * 3, none⟩ (.string R)).drew from (((Chg.refl _ V).setCell (p := ⟨b6, 0, none⟩) (.inl (.inr rfl)) _).setCell (p := ⟨g, o + j * 3, none⟩) (.inl (.inl (mC_ne a0))) _).drew)
                      have HTP := Lib.hid (show Calls Tryz.prog 12 #[.string cur, .pointer (some ⟨b6, 0, none⟩), .pointer (some ⟨b3, 0, none⟩)] V.drew fun e w' => e = .returned (.string R) ∧ V.drew.setCell ⟨b6, 0, none⟩ (.bool h2) = w' by rw [← hh2, ← hR]; exact turn_p cur fr hit b6 b3 _ (cell_of HT.out.hit6 rfl) (free_of HT.out.hit6) (HBB.out _ HCW.out).2.2.1 HNE.out.1)
                      have HK0 := Lib.hid (show Kq b6 ⟨g, o + j * 3, none⟩ V V from Kq.start hc f0)
                      have HK6 := Lib.hid (fun (w : World) (u : Value) (h : Kq b6 ⟨g, o + j * 3, none⟩ V w) => h.six hx6 u)
                      have HKA := Lib.hid (fun (w : World) (s : ByteArray) (h : Kq b6 ⟨g, o + j * 3, none⟩ V w) => h.self s)
                      have HS := Lib.hid (fun (w : World) (hw : Kq b6 ⟨g, o + j * 3, none⟩ V w) => show w.cell? ⟨b5, 2, none⟩ = some (.slice (some ⟨g, o, none⟩) n3 d3) ∧ w.cell? ⟨g, o + j * 3, none⟩ = some (.string (nmAt w ⟨g, o + j * 3, none⟩)) ∧ w.frozen? ⟨g, o + j * 3, none⟩ = false from ⟨hw.rd k2 HNE.out.2 hc (fun _ e => by cases e), hw.str, hw.free⟩)
                      have hn1 : nmAt V ⟨g, o + j * 3, none⟩ = cur := nmAt_of hc
                      have hn2 : nmAt V.drew ⟨g, o + j * 3, none⟩ = cur := nmAt_of hc
                      have hlx0 := World.block_lt_of_cell? _ _ k2
                      clear hh2 hR hcc hct
                      go_wp2_with fail
                      refine wp_region_held_drew (S := fun w => w.cell? ⟨b5, 2, none⟩ = some (.slice (some ⟨g, o, none⟩) n3 d3) ∧ w.cell? ⟨g, o + j * 3, none⟩ = some (.string (nmAt w ⟨g, o + j * 3, none⟩)) ∧ w.frozen? ⟨g, o + j * 3, none⟩ = false) (by kernel_rfl) (HS.out _ (Kq.drew HK0.out)) (fun hHeld => ?_)
                      refine wpAnyH_take (i := 0) (v := ?_) rfl (by kernel_rfl) (by kernel_rfl) (by kernel_rfl) (fun _ _ _ h => h) (Or.inl ⟨by rfl, ?_⟩) (by assumption) ?_
                      rotate_left
                      · intro w hSw
                        try dsimp only at hSw
                        go_simp
                        try with_reducible rfl
                      try simp only [Act.put, List.getElem_toArray, List.getElem_cons_zero, List.getElem_cons_succ, List.setIfInBounds_toArray, List.set_cons_zero, List.set_cons_succ]
                      refine wpAnyH_take (i := 1) (v := ?_) rfl (by kernel_rfl) (by kernel_rfl) (by kernel_rfl) (fun _ _ _ h => h) (Or.inl ⟨by rfl, ?_⟩) (by assumption) ?_
                      rotate_left
                      · intro w hSw
                        try dsimp only at hSw
                        go_simp
                        try with_reducible rfl
                      try simp only [Act.put, List.getElem_toArray, List.getElem_cons_zero, List.getElem_cons_succ, List.setIfInBounds_toArray, List.set_cons_zero, List.set_cons_succ]
                      refine wpAnyH_take (i := 2) (v := ?_) rfl (by kernel_rfl) (by kernel_rfl) (by kernel_rfl) (fun _ _ _ h => h) (Or.inl ⟨by rfl, ?_⟩) (by assumption) ?_
                      rotate_left
                      · intro w hSw
                        try dsimp only at hSw
                        go_simp
                        try with_reducible rfl
                      try simp only [Act.put, List.getElem_toArray, List.getElem_cons_zero, List.getElem_cons_succ, List.setIfInBounds_toArray, List.set_cons_zero, List.set_cons_succ]
                      refine wpAnyH_take (i := 3) (v := ?_) rfl (by kernel_rfl) (by kernel_rfl) (by kernel_rfl) (fun _ _ _ h => h) (Or.inl ⟨by rfl, ?_⟩) (by assumption) ?_
                      rotate_left
                      · intro w hSw
                        try dsimp only at hSw
                        go_simp
                        try with_reducible rfl
                      try simp only [Act.put, List.getElem_toArray, List.getElem_cons_zero, List.getElem_cons_succ, List.setIfInBounds_toArray, List.set_cons_zero, List.set_cons_succ]
                      refine wpAnyH_take (i := 4) (v := ?_) rfl (by kernel_rfl) (by kernel_rfl) (by kernel_rfl) (fun _ _ _ h => h) (Or.inl ⟨by rfl, ?_⟩) (by assumption) ?_
                      rotate_left
                      · intro w hSw
                        try dsimp only at hSw
                        go_simp
                        try with_reducible rfl
                      try simp only [Act.put, List.getElem_toArray, List.getElem_cons_zero, List.getElem_cons_succ, List.setIfInBounds_toArray, List.set_cons_zero, List.set_cons_succ]
                      refine wpAnyH_take (i := 5) (v := ?_) rfl (by kernel_rfl) (by kernel_rfl) (by kernel_rfl) (fun _ _ _ h => h) (Or.inl ⟨by rfl, ?_⟩) (by assumption) ?_
                      rotate_left
                      · intro w hSw
                        try dsimp only at hSw
                        go_simp
                        try with_reducible rfl
                      try simp only [Act.put, List.getElem_toArray, List.getElem_cons_zero, List.getElem_cons_succ, List.setIfInBounds_toArray, List.set_cons_zero, List.set_cons_succ]
                      refine wpAnyH_take (i := 6) (v := ?_) rfl (by kernel_rfl) (by kernel_rfl) (by kernel_rfl) (fun _ _ _ h => h) (Or.inl ⟨by rfl, ?_⟩) (by assumption) ?_
                      rotate_left
                      · intro w hSw
                        try dsimp only at hSw
                        go_simp
                        try with_reducible rfl
                      try simp only [Act.put, List.getElem_toArray, List.getElem_cons_zero, List.getElem_cons_succ, List.setIfInBounds_toArray, List.set_cons_zero, List.set_cons_succ]
                      refine wpAnyH_take (i := 7) (v := ?_) rfl (by kernel_rfl) (by kernel_rfl) (by kernel_rfl) (fun _ _ _ h => h) (Or.inl ⟨by rfl, ?_⟩) (by assumption) ?_
                      rotate_left
                      · intro w hSw
                        try dsimp only at hSw
                        go_simp
                        try with_reducible rfl
                      try simp only [Act.put, List.getElem_toArray, List.getElem_cons_zero, List.getElem_cons_succ, List.setIfInBounds_toArray, List.set_cons_zero, List.set_cons_succ]
                      refine wpAnyH_take (i := 8) (v := ?_) rfl (by kernel_rfl) (by kernel_rfl) (by kernel_rfl) (fun _ _ _ h => h) (Or.inl ⟨by rfl, ?_⟩) (by assumption) ?_
                      rotate_left
                      · intro w hSw
                        try dsimp only at hSw
                        go_simp
                        try with_reducible rfl
                      try simp only [Act.put, List.getElem_toArray, List.getElem_cons_zero, List.getElem_cons_succ, List.setIfInBounds_toArray, List.set_cons_zero, List.set_cons_succ]
                      refine wpAnyH_ready (rs := [9]) (by kernel_rfl) (by simp) ?_
                      refine AllReadyH.cons rfl (fun K hK => ?_) AllReadyH.nil
                      go_simp
                      refine hK.out _ _ (by refine HS.out _ ?_; repeat (first | exact HK0.out | refine Kq.drew ?_ | refine Kq.drewN ?_ _ | refine HK6.out _ _ ?_ | refine HKA.out _ _ ?_)) (fun hHeld => ?_)
                      clear hK K
                      try simp only [Act.put, List.getElem_toArray, List.getElem_cons_zero, List.getElem_cons_succ, List.setIfInBounds_toArray, List.set_cons_zero, List.set_cons_succ]
                      refine wpAnyH_ready (rs := [10]) (by kernel_rfl) (by simp) ?_
                      refine AllReadyH.cons rfl (fun K hK => ?_) AllReadyH.nil
                      go_simp
                      go_at_call 12
                      refine HTP.out.mono ?_
                      rintro e w' ⟨rfl, rfl⟩
                      refine hK.out _ _ (by refine HS.out _ ?_; repeat (first | exact HK0.out | refine Kq.drew ?_ | refine Kq.drewN ?_ _ | refine HK6.out _ _ ?_ | refine HKA.out _ _ ?_)) (fun hHeld => ?_)
                      clear hK K
                      try simp only [Act.put, List.getElem_toArray, List.getElem_cons_zero, List.getElem_cons_succ, List.setIfInBounds_toArray, List.set_cons_zero, List.set_cons_succ]
                      refine wpAnyH_take (i := 11) (v := ?_) rfl (by kernel_rfl) (by kernel_rfl) (by kernel_rfl) (fun _ _ _ h => h) (Or.inl ⟨by rfl, ?_⟩) (by assumption) ?_
                      rotate_left
                      · intro w hSw
                        try dsimp only at hSw
                        go_simp
                        try with_reducible rfl
                      try simp only [Act.put, List.getElem_toArray, List.getElem_cons_zero, List.getElem_cons_succ, List.setIfInBounds_toArray, List.set_cons_zero, List.set_cons_succ]
                      refine wpAnyH_take (i := 12) (v := ?_) rfl (by kernel_rfl) (by kernel_rfl) (by kernel_rfl) (fun _ _ _ h => h) (Or.inl ⟨by rfl, ?_⟩) (by assumption) ?_
                      rotate_left
                      · intro w hSw
                        try dsimp only at hSw
                        go_simp
                        try with_reducible rfl
                      try simp only [Act.put, List.getElem_toArray, List.getElem_cons_zero, List.getElem_cons_succ, List.setIfInBounds_toArray, List.set_cons_zero, List.set_cons_succ]
                      refine wpAnyH_ready (rs := [13]) (by kernel_rfl) (by simp) ?_
                      refine AllReadyH.cons rfl (fun K hK => ?_) AllReadyH.nil
                      go_simp
                      refine hK.out _ _ (by refine HS.out _ ?_; repeat (first | exact HK0.out | refine Kq.drew ?_ | refine Kq.drewN ?_ _ | refine HK6.out _ _ ?_ | refine HKA.out _ _ ?_)) (fun hHeld => ?_)
                      clear hK K
                      try simp only [Act.put, List.getElem_toArray, List.getElem_cons_zero, List.getElem_cons_succ, List.setIfInBounds_toArray, List.set_cons_zero, List.set_cons_succ]
                      refine wpAnyH_done (by kernel_rfl) ?_ _
                      go_wp2_with fail
                      exact ⟨⟨j + 1, _, h2, by omega, by go_num, HTI, Lib.hid HP.out.snoc, Lib.hid (fun a h => .inl (HM.out a h)), Lib.hid (HCW.out.then HCX.out)⟩, by simp [intOf]; omega⟩
                  · obtain rfl : n3 = j := by omega
                    obtain ⟨D2, hD⟩ : ∃ D', D' = D := ⟨_, rfl⟩
                    subst hD
                    have HhPA := HP
                    have HM2 := HM
                    go_wp2_with fail
                    clear k2 hlt hj HP HM
                    go_loopw [11] (fun i wr => ∃ (j : Nat) (D : Addr → Prop) (hit : Bool), j ≤ n4 ∧ i = .int .i64 j ∧ Hid (TI fr b6 m D hit wr) ∧ Hid (Pos D p4 j 2 0) ∧ Hid (∀ a, D2 a → D a) ∧ Hid (Chg (Wr m b6) V0 wr)) (fun i _ => n4 - (intOf i).toNat)
                    case atStart => exact ⟨0, D2, hit, Nat.zero_le _, rfl, HT, Lib.hid Pos.zero, Lib.hid (fun _ h => h), HCW⟩
                    case round =>
                      as_aux_lemma =>
                        clear HT HCW
                        obtain ⟨j, D, hit, hj, rfl, HT, HP, HM, HCW⟩ := hrel
                        obtain ⟨V, h9⟩ : ∃ w, w = wr := ⟨_, rfl⟩
                        subst h9
                        have k3 := (HBB.out _ HCW.out).1.cell (j := 3) (v := .slice p4 n4 d4) rfl
                        by_cases hlt : j < n4
                        · as_aux_lemma =>
                            have hj1 : j < s.channels.length := by rw [HN4.out]; exact hlt
                            obtain ⟨g, o, rfl, a0, -, -⟩ := HCH.out j hj1
                            have hji : (j : Int) < (n4 : Int) := by omega
                            obtain ⟨cur, hc, hcc, hct⟩ := HT.out.tw.cur a0
                            have f0 := HT.out.free _ _ a0
                            have hlt0 := HT.out.lt _ _ a0
                            have hx6 : ¬ (g = b6) := fun e => mC_ne a0 (by show m g = none; rw [e]; exact HT.out.m6)
                            obtain ⟨h2, hh2⟩ : ∃ h2, (hit || decide (cur = twN)) = h2 := ⟨_, rfl⟩
                            obtain ⟨R, hR⟩ : ∃ R, ren fr twN cur = R := ⟨_, rfl⟩
                            have HTI := Lib.hid (show TI fr b6 m (fun b => D b ∨ b = ⟨g, o + j * 2, none⟩) h2 ((V.setCell ⟨b6, 0, none⟩ (.bool h2)).setCell ⟨g, o + j * 2, none⟩ (.string R)).drew by rw [← hh2, ← hR]; exact (HT.out.turn a0 hc hcc hct).drew)
                            have HCX := Lib.hid (show Chg (Wr m b6) V ((V.setCell ⟨b6, 0, none⟩ (.bool h2)).setCell ⟨g, o + j * 2, none⟩ (.string R)).drew from (((Chg.refl _ V).setCell (p := ⟨b6, 0, none⟩) (.inl (.inr rfl)) _).setCell (p := ⟨g, o + j * 2, none⟩) (.inl (.inl (mC_ne a0))) _).drew)
                            have HTP := Lib.hid (show Calls Tryz.prog 12 #[.string cur, .pointer (some ⟨b6, 0, none⟩), .pointer (some ⟨b3, 0, none⟩)] V.drew fun e w' => e = .returned (.string R) ∧ V.drew.setCell ⟨b6, 0, none⟩ (.bool h2) = w' by rw [← hh2, ← hR]; exact turn_p cur fr hit b6 b3 _ (cell_of HT.out.hit6 rfl) (free_of HT.out.hit6) (HBB.out _ HCW.out).2.2.1 HNE.out.1)
                            have HK0 := Lib.hid (show Kq b6 ⟨g, o + j * 2, none⟩ V V from Kq.start hc f0)
                            have HK6 := Lib.hid (fun (w : World) (u : Value) (h : Kq b6 ⟨g, o + j * 2, none⟩ V w) => h.six hx6 u)
                            have HKA := Lib.hid (fun (w : World) (s : ByteArray) (h : Kq b6 ⟨g, o + j * 2, none⟩ V w) => h.self s)
                            have HS := Lib.hid (fun (w : World) (hw : Kq b6 ⟨g, o + j * 2, none⟩ V w) => show w.cell? ⟨b5, 3, none⟩ = some (.slice (some ⟨g, o, none⟩) n4 d4) ∧ w.cell? ⟨g, o + j * 2, none⟩ = some (.string (nmAt w ⟨g, o + j * 2, none⟩)) ∧ w.frozen? ⟨g, o + j * 2, none⟩ = false from ⟨hw.rd k3 HNE.out.2 hc (fun _ e => by cases e), hw.str, hw.free⟩)
                            have hn1 : nmAt V ⟨g, o + j * 2, none⟩ = cur := nmAt_of hc
                            have hn2 : nmAt V.drew ⟨g, o + j * 2, none⟩ = cur := nmAt_of hc
                            have hlx0 := World.block_lt_of_cell? _ _ k3
                            clear hh2 hR hcc hct
                            go_wp2_with fail
                            refine wp_region_held_drew (S := fun w => w.cell? ⟨b5, 3, none⟩ = some (.slice (some ⟨g, o, none⟩) n4 d4) ∧ w.cell? ⟨g, o + j * 2, none⟩ = some (.string (nmAt w ⟨g, o + j * 2, none⟩)) ∧ w.frozen? ⟨g, o + j * 2, none⟩ = false) (by kernel_rfl) (HS.out _ (Kq.drew HK0.out)) (fun hHeld => ?_)
                            refine wpAnyH_take (i := 0) (v := ?_) rfl (by kernel_rfl) (by kernel_rfl) (by kernel_rfl) (fun _ _ _ h => h) (Or.inl ⟨by rfl, ?_⟩) (by assumption) ?_
                            rotate_left
                            · intro w hSw
                              try dsimp only at hSw
                              go_simp
                              try with_reducible rfl
                            try simp only [Act.put, List.getElem_toArray, List.getElem_cons_zero, List.getElem_cons_succ, List.setIfInBounds_toArray, List.set_cons_zero, List.set_cons_succ]
                            refine wpAnyH_take (i := 1) (v := ?_) rfl (by kernel_rfl) (by kernel_rfl) (by kernel_rfl) (fun _ _ _ h => h) (Or.inl ⟨by rfl, ?_⟩) (by assumption) ?_
                            rotate_left
                            · intro w hSw
                              try dsimp only at hSw
                              go_simp
                              try with_reducible rfl
                            try simp only [Act.put, List.getElem_toArray, List.getElem_cons_zero, List.getElem_cons_succ, List.setIfInBounds_toArray, List.set_cons_zero, List.set_cons_succ]
                            refine wpAnyH_take (i := 2) (v := ?_) rfl (by kernel_rfl) (by kernel_rfl) (by kernel_rfl) (fun _ _ _ h => h) (Or.inl ⟨by rfl, ?_⟩) (by assumption) ?_
                            rotate_left
                            · intro w hSw
                              try dsimp only at hSw
                              go_simp
                              try with_reducible rfl
                            try simp only [Act.put, List.getElem_toArray, List.getElem_cons_zero, List.getElem_cons_succ, List.setIfInBounds_toArray, List.set_cons_zero, List.set_cons_succ]
                            refine wpAnyH_take (i := 3) (v := ?_) rfl (by kernel_rfl) (by kernel_rfl) (by kernel_rfl) (fun _ _ _ h => h) (Or.inl ⟨by rfl, ?_⟩) (by assumption) ?_
                            rotate_left
                            · intro w hSw
                              try dsimp only at hSw
                              go_simp
                              try with_reducible rfl
                            try simp only [Act.put, List.getElem_toArray, List.getElem_cons_zero, List.getElem_cons_succ, List.setIfInBounds_toArray, List.set_cons_zero, List.set_cons_succ]
                            refine wpAnyH_take (i := 4) (v := ?_) rfl (by kernel_rfl) (by kernel_rfl) (by kernel_rfl) (fun _ _ _ h => h) (Or.inl ⟨by rfl, ?_⟩) (by assumption) ?_
                            rotate_left
                            · intro w hSw
                              try dsimp only at hSw
                              go_simp
                              try with_reducible rfl
                            try simp only [Act.put, List.getElem_toArray, List.getElem_cons_zero, List.getElem_cons_succ, List.setIfInBounds_toArray, List.set_cons_zero, List.set_cons_succ]
                            refine wpAnyH_take (i := 5) (v := ?_) rfl (by kernel_rfl) (by kernel_rfl) (by kernel_rfl) (fun _ _ _ h => h) (Or.inl ⟨by rfl, ?_⟩) (by assumption) ?_
                            rotate_left
                            · intro w hSw
                              try dsimp only at hSw
                              go_simp
                              try with_reducible rfl
                            try simp only [Act.put, List.getElem_toArray, List.getElem_cons_zero, List.getElem_cons_succ, List.setIfInBounds_toArray, List.set_cons_zero, List.set_cons_succ]
                            refine wpAnyH_take (i := 6) (v := ?_) rfl (by kernel_rfl) (by kernel_rfl) (by kernel_rfl) (fun _ _ _ h => h) (Or.inl ⟨by rfl, ?_⟩) (by assumption) ?_
                            rotate_left
                            · intro w hSw
                              try dsimp only at hSw
                              go_simp
                              try with_reducible rfl
                            try simp only [Act.put, List.getElem_toArray, List.getElem_cons_zero, List.getElem_cons_succ, List.setIfInBounds_toArray, List.set_cons_zero, List.set_cons_succ]
                            refine wpAnyH_take (i := 7) (v := ?_) rfl (by kernel_rfl) (by kernel_rfl) (by kernel_rfl) (fun _ _ _ h => h) (Or.inl ⟨by rfl, ?_⟩) (by assumption) ?_
                            rotate_left
                            · intro w hSw
                              try dsimp only at hSw
                              go_simp
                              try with_reducible rfl
                            try simp only [Act.put, List.getElem_toArray, List.getElem_cons_zero, List.getElem_cons_succ, List.setIfInBounds_toArray, List.set_cons_zero, List.set_cons_succ]
                            refine wpAnyH_take (i := 8) (v := ?_) rfl (by kernel_rfl) (by kernel_rfl) (by kernel_rfl) (fun _ _ _ h => h) (Or.inl ⟨by rfl, ?_⟩) (by assumption) ?_
                            rotate_left
                            · intro w hSw
                              try dsimp only at hSw
                              go_simp
                              try with_reducible rfl
                            try simp only [Act.put, List.getElem_toArray, List.getElem_cons_zero, List.getElem_cons_succ, List.setIfInBounds_toArray, List.set_cons_zero, List.set_cons_succ]
                            refine wpAnyH_ready (rs := [9]) (by kernel_rfl) (by simp) ?_
                            refine AllReadyH.cons rfl (fun K hK => ?_) AllReadyH.nil
                            go_simp
                            refine hK.out _ _ (by refine HS.out _ ?_; repeat (first | exact HK0.out | refine Kq.drew ?_ | refine Kq.drewN ?_ _ | refine HK6.out _ _ ?_ | refine HKA.out _ _ ?_)) (fun hHeld => ?_)
                            clear hK K
                            try simp only [Act.put, List.getElem_toArray, List.getElem_cons_zero, List.getElem_cons_succ, List.setIfInBounds_toArray, List.set_cons_zero, List.set_cons_succ]
                            refine wpAnyH_ready (rs := [10]) (by kernel_rfl) (by simp) ?_
                            refine AllReadyH.cons rfl (fun K hK => ?_) AllReadyH.nil
                            go_simp
                            go_at_call 12
                            refine HTP.out.mono ?_
                            rintro e w' ⟨rfl, rfl⟩
                            refine hK.out _ _ (by refine HS.out _ ?_; repeat (first | exact HK0.out | refine Kq.drew ?_ | refine Kq.drewN ?_ _ | refine HK6.out _ _ ?_ | refine HKA.out _ _ ?_)) (fun hHeld => ?_)
                            clear hK K
                            try simp only [Act.put, List.getElem_toArray, List.getElem_cons_zero, List.getElem_cons_succ, List.setIfInBounds_toArray, List.set_cons_zero, List.set_cons_succ]
                            refine wpAnyH_take (i := 11) (v := ?_) rfl (by kernel_rfl) (by kernel_rfl) (by kernel_rfl) (fun _ _ _ h => h) (Or.inl ⟨by rfl, ?_⟩) (by assumption) ?_
                            rotate_left
                            · intro w hSw
                              try dsimp only at hSw
                              go_simp
                              try with_reducible rfl
                            try simp only [Act.put, List.getElem_toArray, List.getElem_cons_zero, List.getElem_cons_succ, List.setIfInBounds_toArray, List.set_cons_zero, List.set_cons_succ]
                            refine wpAnyH_take (i := 12) (v := ?_) rfl (by kernel_rfl) (by kernel_rfl) (by kernel_rfl) (fun _ _ _ h => h) (Or.inl ⟨by rfl, ?_⟩) (by assumption) ?_
                            rotate_left
                            · intro w hSw
                              try dsimp only at hSw
                              go_simp
                              try with_reducible rfl
                            try simp only [Act.put, List.getElem_toArray, List.getElem_cons_zero, List.getElem_cons_succ, List.setIfInBounds_toArray, List.set_cons_zero, List.set_cons_succ]
                            refine wpAnyH_ready (rs := [13]) (by kernel_rfl) (by simp) ?_
                            refine AllReadyH.cons rfl (fun K hK => ?_) AllReadyH.nil
                            go_simp
                            refine hK.out _ _ (by refine HS.out _ ?_; repeat (first | exact HK0.out | refine Kq.drew ?_ | refine Kq.drewN ?_ _ | refine HK6.out _ _ ?_ | refine HKA.out _ _ ?_)) (fun hHeld => ?_)
                            clear hK K
                            try simp only [Act.put, List.getElem_toArray, List.getElem_cons_zero, List.getElem_cons_succ, List.setIfInBounds_toArray, List.set_cons_zero, List.set_cons_succ]
                            refine wpAnyH_done (by kernel_rfl) ?_ _
                            go_wp2_with fail
                            exact ⟨⟨j + 1, _, h2, by omega, by go_num, HTI, Lib.hid HP.out.snoc, Lib.hid (fun a h => .inl (HM.out a h)), Lib.hid (HCW.out.then HCX.out)⟩, by simp [intOf]; omega⟩
                        · obtain rfl : n4 = j := by omega
                          obtain ⟨D3, hD⟩ : ∃ D', D' = D := ⟨_, rfl⟩
                          subst hD
                          have HhPC := HP
                          have HM3 := HM
                          go_wp2_with fail
                          clear k3 hlt hj HP HM
                          go_loopw [12] (fun i wr => ∃ (j : Nat) (D : Addr → Prop) (hit : Bool), j ≤ n5 ∧ i = .int .i64 j ∧ Hid (TI fr b6 m D hit wr) ∧ Hid (FnK D (mC m) p5 s.funcs j) ∧ Hid (∀ a, D3 a → D a) ∧ Hid (Chg (Wr m b6) V0 wr)) (fun i _ => n5 - (intOf i).toNat)
                          case atStart => exact ⟨0, D3, hit, Nat.zero_le _, rfl, HT, Lib.hid FnK.zero, Lib.hid (fun _ h => h), HCW⟩
                          case round =>
                            as_aux_lemma =>
                              clear HT HCW
                              obtain ⟨j, D, hit, hj, rfl, HT, HFK, HM, HCW⟩ := hrel
                              obtain ⟨V, h9⟩ : ∃ w, w = wr := ⟨_, rfl⟩
                              subst h9
                              have k4 := (HBB.out _ HCW.out).1.cell (j := 4) (v := .slice p5 n5 d5) rfl
                              by_cases hlt : j < n5
                              · as_aux_lemma =>
                                  have hj1 : j < s.funcs.length := by rw [HN5.out]; exact hlt
                                  obtain ⟨g, o, qp, cp, qr, cr, qv, cv, qb, cb, rfl, a0, a1, a2, a3, a4, a5, hfl⟩ := HFN.out j hj1
                                  obtain ⟨-, hp, -, hv, hbd⟩ := hfl
                                  have hlp := slx_len hp
                                  have hlv := slx_len hv
                                  have hlb := slx_len hbd
                                  have HP := Lib.hid hp.cells
                                  have HV := Lib.hid hv.cells
                                  have HBD := Lib.hid hbd.cells
                                  have HA2 := Lib.hid a2
                                  have HA4 := Lib.hid a4
                                  have HA5 := Lib.hid a5
                                  obtain ⟨F, hF⟩ : ∃ F, s.funcs[j] = F := ⟨_, rfl⟩
                                  have HFF := Lib.hid (show ∀ hk : j < s.funcs.length, s.funcs[j] = F from fun _ => hF)
                                  rw [hF] at a0 hlp hlv hlb HP HV HBD HA2 HA4 HA5
                                  clear a1 a2 a3 a4 a5 hp hv hbd hF hj1
                                  obtain ⟨np, hnp⟩ : ∃ n, F.params.length = n := ⟨_, rfl⟩
                                  obtain ⟨nv, hnv⟩ : ∃ n, F.vars.length = n := ⟨_, rfl⟩
                                  obtain ⟨nb, hnb⟩ : ∃ n, F.body.length = n := ⟨_, rfl⟩
                                  rw [hnp] at hlp HA2
                                  rw [hnv] at hlv HA4
                                  rw [hnb] at hlb HA5
                                  have HNP := Lib.hid hnp
                                  have HNV := Lib.hid hnv
                                  have HNB := Lib.hid hnb
                                  have hlp' : np < 9223372036854775807 := by omega
                                  have hlv' : nv < 9223372036854775807 := by omega
                                  have hlb' : nb < 9223372036854775807 := by omega
                                  clear hnp hnv hnb hlp hlv hlb
                                  have HG6 := Lib.hid (show ¬ g = b6 from fun e => mC_ne a0 (by show m g = none; rw [e]; exact HT.out.m6))
                                  have hji : (j : Int) < (n5 : Int) := by omega
                                  obtain ⟨cur, hc, hcc, hct⟩ := HT.out.tw.cur a0
                                  have f0 := HT.out.free _ _ a0
                                  have hlt0 := HT.out.lt _ _ a0
                                  have hx6 : ¬ (g = b6) := fun e => mC_ne a0 (by show m g = none; rw [e]; exact HT.out.m6)
                                  obtain ⟨h2, hh2⟩ : ∃ h2, (hit || decide (cur = twN)) = h2 := ⟨_, rfl⟩
                                  obtain ⟨R, hR⟩ : ∃ R, ren fr twN cur = R := ⟨_, rfl⟩
                                  have HTI := Lib.hid (show TI fr b6 m (fun b => D b ∨ b = ⟨g, o + j * 6, none⟩) h2 ((V.setCell ⟨b6, 0, none⟩ (.bool h2)).setCell ⟨g, o + j * 6, none⟩ (.string R)).drew by rw [← hh2, ← hR]; exact (HT.out.turn a0 hc hcc hct).drew)
                                  have HCX := Lib.hid (show Chg (Wr m b6) V ((V.setCell ⟨b6, 0, none⟩ (.bool h2)).setCell ⟨g, o + j * 6, none⟩ (.string R)).drew from (((Chg.refl _ V).setCell (p := ⟨b6, 0, none⟩) (.inl (.inr rfl)) _).setCell (p := ⟨g, o + j * 6, none⟩) (.inl (.inl (mC_ne a0))) _).drew)
                                  have HTP := Lib.hid (show Calls Tryz.prog 12 #[.string cur, .pointer (some ⟨b6, 0, none⟩), .pointer (some ⟨b3, 0, none⟩)] V.drew fun e w' => e = .returned (.string R) ∧ V.drew.setCell ⟨b6, 0, none⟩ (.bool h2) = w' by rw [← hh2, ← hR]; exact turn_p cur fr hit b6 b3 _ (cell_of HT.out.hit6 rfl) (free_of HT.out.hit6) (HBB.out _ HCW.out).2.2.1 HNE.out.1)
                                  have HK0 := Lib.hid (show Kq b6 ⟨g, o + j * 6, none⟩ V V from Kq.start hc f0)
                                  have HK6 := Lib.hid (fun (w : World) (u : Value) (h : Kq b6 ⟨g, o + j * 6, none⟩ V w) => h.six hx6 u)
                                  have HKA := Lib.hid (fun (w : World) (s : ByteArray) (h : Kq b6 ⟨g, o + j * 6, none⟩ V w) => h.self s)
                                  have HS := Lib.hid (fun (w : World) (hw : Kq b6 ⟨g, o + j * 6, none⟩ V w) => show w.cell? ⟨b5, 4, none⟩ = some (.slice (some ⟨g, o, none⟩) n5 d5) ∧ w.cell? ⟨g, o + j * 6, none⟩ = some (.string (nmAt w ⟨g, o + j * 6, none⟩)) ∧ w.frozen? ⟨g, o + j * 6, none⟩ = false from ⟨hw.rd k4 HNE.out.2 hc (fun _ e => by cases e), hw.str, hw.free⟩)
                                  have hn1 : nmAt V ⟨g, o + j * 6, none⟩ = cur := nmAt_of hc
                                  have hn2 : nmAt V.drew ⟨g, o + j * 6, none⟩ = cur := nmAt_of hc
                                  have hlx0 := World.block_lt_of_cell? _ _ k4
                                  clear hh2 hR hcc hct
                                  go_wp2_with fail
                                  refine wp_region_held_drew (S := fun w => w.cell? ⟨b5, 4, none⟩ = some (.slice (some ⟨g, o, none⟩) n5 d5) ∧ w.cell? ⟨g, o + j * 6, none⟩ = some (.string (nmAt w ⟨g, o + j * 6, none⟩)) ∧ w.frozen? ⟨g, o + j * 6, none⟩ = false) (by kernel_rfl) (HS.out _ (Kq.drew HK0.out)) (fun hHeld => ?_)
                                  refine wpAnyH_take (i := 0) (v := ?_) rfl (by kernel_rfl) (by kernel_rfl) (by kernel_rfl) (fun _ _ _ h => h) (Or.inl ⟨by rfl, ?_⟩) (by assumption) ?_
                                  rotate_left
                                  · intro w hSw
                                    try dsimp only at hSw
                                    go_simp
                                    try with_reducible rfl
                                  try simp only [Act.put, List.getElem_toArray, List.getElem_cons_zero, List.getElem_cons_succ, List.setIfInBounds_toArray, List.set_cons_zero, List.set_cons_succ]
                                  refine wpAnyH_take (i := 1) (v := ?_) rfl (by kernel_rfl) (by kernel_rfl) (by kernel_rfl) (fun _ _ _ h => h) (Or.inl ⟨by rfl, ?_⟩) (by assumption) ?_
                                  rotate_left
                                  · intro w hSw
                                    try dsimp only at hSw
                                    go_simp
                                    try with_reducible rfl
                                  try simp only [Act.put, List.getElem_toArray, List.getElem_cons_zero, List.getElem_cons_succ, List.setIfInBounds_toArray, List.set_cons_zero, List.set_cons_succ]
                                  refine wpAnyH_take (i := 2) (v := ?_) rfl (by kernel_rfl) (by kernel_rfl) (by kernel_rfl) (fun _ _ _ h => h) (Or.inl ⟨by rfl, ?_⟩) (by assumption) ?_
                                  rotate_left
                                  · intro w hSw
                                    try dsimp only at hSw
                                    go_simp
                                    try with_reducible rfl
                                  try simp only [Act.put, List.getElem_toArray, List.getElem_cons_zero, List.getElem_cons_succ, List.setIfInBounds_toArray, List.set_cons_zero, List.set_cons_succ]
                                  refine wpAnyH_take (i := 3) (v := ?_) rfl (by kernel_rfl) (by kernel_rfl) (by kernel_rfl) (fun _ _ _ h => h) (Or.inl ⟨by rfl, ?_⟩) (by assumption) ?_
                                  rotate_left
                                  · intro w hSw
                                    try dsimp only at hSw
                                    go_simp
                                    try with_reducible rfl
                                  try simp only [Act.put, List.getElem_toArray, List.getElem_cons_zero, List.getElem_cons_succ, List.setIfInBounds_toArray, List.set_cons_zero, List.set_cons_succ]
                                  refine wpAnyH_take (i := 4) (v := ?_) rfl (by kernel_rfl) (by kernel_rfl) (by kernel_rfl) (fun _ _ _ h => h) (Or.inl ⟨by rfl, ?_⟩) (by assumption) ?_
                                  rotate_left
                                  · intro w hSw
                                    try dsimp only at hSw
                                    go_simp
                                    try with_reducible rfl
                                  try simp only [Act.put, List.getElem_toArray, List.getElem_cons_zero, List.getElem_cons_succ, List.setIfInBounds_toArray, List.set_cons_zero, List.set_cons_succ]
                                  refine wpAnyH_take (i := 5) (v := ?_) rfl (by kernel_rfl) (by kernel_rfl) (by kernel_rfl) (fun _ _ _ h => h) (Or.inl ⟨by rfl, ?_⟩) (by assumption) ?_
                                  rotate_left
                                  · intro w hSw
                                    try dsimp only at hSw
                                    go_simp
                                    try with_reducible rfl
                                  try simp only [Act.put, List.getElem_toArray, List.getElem_cons_zero, List.getElem_cons_succ, List.setIfInBounds_toArray, List.set_cons_zero, List.set_cons_succ]
                                  refine wpAnyH_take (i := 6) (v := ?_) rfl (by kernel_rfl) (by kernel_rfl) (by kernel_rfl) (fun _ _ _ h => h) (Or.inl ⟨by rfl, ?_⟩) (by assumption) ?_
                                  rotate_left
                                  · intro w hSw
                                    try dsimp only at hSw
                                    go_simp
                                    try with_reducible rfl
                                  try simp only [Act.put, List.getElem_toArray, List.getElem_cons_zero, List.getElem_cons_succ, List.setIfInBounds_toArray, List.set_cons_zero, List.set_cons_succ]
                                  refine wpAnyH_take (i := 7) (v := ?_) rfl (by kernel_rfl) (by kernel_rfl) (by kernel_rfl) (fun _ _ _ h => h) (Or.inl ⟨by rfl, ?_⟩) (by assumption) ?_
                                  rotate_left
                                  · intro w hSw
                                    try dsimp only at hSw
                                    go_simp
                                    try with_reducible rfl
                                  try simp only [Act.put, List.getElem_toArray, List.getElem_cons_zero, List.getElem_cons_succ, List.setIfInBounds_toArray, List.set_cons_zero, List.set_cons_succ]
                                  refine wpAnyH_take (i := 8) (v := ?_) rfl (by kernel_rfl) (by kernel_rfl) (by kernel_rfl) (fun _ _ _ h => h) (Or.inl ⟨by rfl, ?_⟩) (by assumption) ?_
                                  rotate_left
                                  · intro w hSw
                                    try dsimp only at hSw
                                    go_simp
                                    try with_reducible rfl
                                  try simp only [Act.put, List.getElem_toArray, List.getElem_cons_zero, List.getElem_cons_succ, List.setIfInBounds_toArray, List.set_cons_zero, List.set_cons_succ]
                                  refine wpAnyH_ready (rs := [9]) (by kernel_rfl) (by simp) ?_
                                  refine AllReadyH.cons rfl (fun K hK => ?_) AllReadyH.nil
                                  go_simp
                                  refine hK.out _ _ (by refine HS.out _ ?_; repeat (first | exact HK0.out | refine Kq.drew ?_ | refine Kq.drewN ?_ _ | refine HK6.out _ _ ?_ | refine HKA.out _ _ ?_)) (fun hHeld => ?_)
                                  clear hK K
                                  try simp only [Act.put, List.getElem_toArray, List.getElem_cons_zero, List.getElem_cons_succ, List.setIfInBounds_toArray, List.set_cons_zero, List.set_cons_succ]
                                  refine wpAnyH_ready (rs := [10]) (by kernel_rfl) (by simp) ?_
                                  refine AllReadyH.cons rfl (fun K hK => ?_) AllReadyH.nil
                                  go_simp
                                  go_at_call 12
                                  refine HTP.out.mono ?_
                                  rintro e w' ⟨rfl, rfl⟩
                                  refine hK.out _ _ (by refine HS.out _ ?_; repeat (first | exact HK0.out | refine Kq.drew ?_ | refine Kq.drewN ?_ _ | refine HK6.out _ _ ?_ | refine HKA.out _ _ ?_)) (fun hHeld => ?_)
                                  clear hK K
                                  try simp only [Act.put, List.getElem_toArray, List.getElem_cons_zero, List.getElem_cons_succ, List.setIfInBounds_toArray, List.set_cons_zero, List.set_cons_succ]
                                  refine wpAnyH_take (i := 11) (v := ?_) rfl (by kernel_rfl) (by kernel_rfl) (by kernel_rfl) (fun _ _ _ h => h) (Or.inl ⟨by rfl, ?_⟩) (by assumption) ?_
                                  rotate_left
                                  · intro w hSw
                                    try dsimp only at hSw
                                    go_simp
                                    try with_reducible rfl
                                  try simp only [Act.put, List.getElem_toArray, List.getElem_cons_zero, List.getElem_cons_succ, List.setIfInBounds_toArray, List.set_cons_zero, List.set_cons_succ]
                                  refine wpAnyH_take (i := 12) (v := ?_) rfl (by kernel_rfl) (by kernel_rfl) (by kernel_rfl) (fun _ _ _ h => h) (Or.inl ⟨by rfl, ?_⟩) (by assumption) ?_
                                  rotate_left
                                  · intro w hSw
                                    try dsimp only at hSw
                                    go_simp
                                    try with_reducible rfl
                                  try simp only [Act.put, List.getElem_toArray, List.getElem_cons_zero, List.getElem_cons_succ, List.setIfInBounds_toArray, List.set_cons_zero, List.set_cons_succ]
                                  refine wpAnyH_ready (rs := [13]) (by kernel_rfl) (by simp) ?_
                                  refine AllReadyH.cons rfl (fun K hK => ?_) AllReadyH.nil
                                  go_simp
                                  refine hK.out _ _ (by refine HS.out _ ?_; repeat (first | exact HK0.out | refine Kq.drew ?_ | refine Kq.drewN ?_ _ | refine HK6.out _ _ ?_ | refine HKA.out _ _ ?_)) (fun hHeld => ?_)
                                  clear hK K
                                  try simp only [Act.put, List.getElem_toArray, List.getElem_cons_zero, List.getElem_cons_succ, List.setIfInBounds_toArray, List.set_cons_zero, List.set_cons_succ]
                                  refine wpAnyH_done (by kernel_rfl) ?_ _
                                  go_wp2_with fail
                                  obtain ⟨V1, hV1⟩ : ∃ w, ((V.setCell ⟨b6, 0, none⟩ (.bool h2)).setCell ⟨g, o + j * 6, none⟩ (.string R)).drew = w := ⟨_, rfl⟩
                                  obtain ⟨DA, hD2⟩ : ∃ D', (fun b => D b ∨ b = ⟨g, o + j * 6, none⟩) = D' := ⟨_, rfl⟩
                                  have HDM := Lib.hid (show ∀ a, D a → DA a from fun a h => by rw [← hD2]; exact .inl h)
                                  have HDN := Lib.hid (show DA ⟨g, o + j * 6, none⟩ by rw [← hD2]; exact .inr rfl)
                                  rw [hV1, hD2] at HTI
                                  rw [hV1] at HCX ⊢
                                  clear hV1 hD2
                                  have HT := HTI
                                  have HCW := Lib.hid (HCW.out.then HCX.out)
                                  have HM := Lib.hid (fun a h => HDM.out a (HM.out a h))
                                  have HFK := Lib.hid (HFK.out.mono HDM.out)
                                  have HDA := HDN
                                  clear k4 hc f0 hlt0 hx6 a0 HTI HCX HTP HS hlx0 HDM HDN
                                  go_loopw [13] (fun i wr => ∃ (k : Nat) (D : Addr → Prop) (hit : Bool), k ≤ np ∧ i = .int .i64 k ∧ Hid (TI fr b6 m D hit wr) ∧ Hid (Pos D qp k 2 0) ∧ Hid (∀ a, DA a → D a) ∧ Hid (Chg (Wr m b6) V0 wr)) (fun i _ => np - (intOf i).toNat)
                                  case atStart => exact ⟨0, DA, h2, Nat.zero_le _, rfl, HT, Lib.hid Pos.zero, Lib.hid (fun _ h => h), HCW⟩
                                  case round =>
                                    as_aux_lemma =>
                                      clear HT HCW
                                      obtain ⟨k, D, hit, hk, rfl, HT, HPK, HMK, HCW⟩ := hrel
                                      obtain ⟨V, h9⟩ : ∃ w, w = wr := ⟨_, rfl⟩
                                      subst h9
                                      have k4 := (HBB.out _ HCW.out).1.cell (j := 4) (v := .slice (some ⟨g, o, none⟩) n5 d5) rfl
                                      have r2 := HT.out.tw.other HA2.out (fun _ e => by cases e)
                                      have hbl := (HBB.out _ HCW.out).1.lt
                                      have hgl := World.block_lt_of_cell? _ _ r2
                                      by_cases hlk : k < np
                                      · have hk1 : k < F.params.length := by rw [HNP.out]; exact hlk
                                        obtain ⟨g2, o2, rfl, a0, -, -⟩ := HP.out k hk1
                                        have hki : (k : Int) < (np : Int) := by omega
                                        obtain ⟨cur, hc, hcc, hct⟩ := HT.out.tw.cur a0
                                        have f0 := HT.out.free _ _ a0
                                        have hlt0 := HT.out.lt _ _ a0
                                        have hx6 : ¬ (g2 = b6) := fun e => mC_ne a0 (by show m g2 = none; rw [e]; exact HT.out.m6)
                                        obtain ⟨h2, hh2⟩ : ∃ h2, (hit || decide (cur = twN)) = h2 := ⟨_, rfl⟩
                                        obtain ⟨R, hR⟩ : ∃ R, ren fr twN cur = R := ⟨_, rfl⟩
                                        have HTI := Lib.hid (show TI fr b6 m (fun b => D b ∨ b = ⟨g2, o2 + k * 2, none⟩) h2 ((V.setCell ⟨b6, 0, none⟩ (.bool h2)).setCell ⟨g2, o2 + k * 2, none⟩ (.string R)).drew by rw [← hh2, ← hR]; exact (HT.out.turn a0 hc hcc hct).drew)
                                        have HCX := Lib.hid (show Chg (Wr m b6) V ((V.setCell ⟨b6, 0, none⟩ (.bool h2)).setCell ⟨g2, o2 + k * 2, none⟩ (.string R)).drew from (((Chg.refl _ V).setCell (p := ⟨b6, 0, none⟩) (.inl (.inr rfl)) _).setCell (p := ⟨g2, o2 + k * 2, none⟩) (.inl (.inl (mC_ne a0))) _).drew)
                                        have HTP := Lib.hid (show Calls Tryz.prog 12 #[.string cur, .pointer (some ⟨b6, 0, none⟩), .pointer (some ⟨b3, 0, none⟩)] V.drew fun e w' => e = .returned (.string R) ∧ V.drew.setCell ⟨b6, 0, none⟩ (.bool h2) = w' by rw [← hh2, ← hR]; exact turn_p cur fr hit b6 b3 _ (cell_of HT.out.hit6 rfl) (free_of HT.out.hit6) (HBB.out _ HCW.out).2.2.1 HNE.out.1)
                                        have HK0 := Lib.hid (show Kq b6 ⟨g2, o2 + k * 2, none⟩ V V from Kq.start hc f0)
                                        have HK6 := Lib.hid (fun (w : World) (u : Value) (h : Kq b6 ⟨g2, o2 + k * 2, none⟩ V w) => h.six hx6 u)
                                        have HKA := Lib.hid (fun (w : World) (s : ByteArray) (h : Kq b6 ⟨g2, o2 + k * 2, none⟩ V w) => h.self s)
                                        have HS := Lib.hid (fun (w : World) (hw : Kq b6 ⟨g2, o2 + k * 2, none⟩ V w) => show w.cell? ⟨b5, 4, none⟩ = some (.slice (some ⟨g, o, none⟩) n5 d5) ∧ w.cell? ⟨g, o + j * 6 + 2, none⟩ = some (.slice (some ⟨g2, o2, none⟩) np cp) ∧ w.cell? ⟨g2, o2 + k * 2, none⟩ = some (.string (nmAt w ⟨g2, o2 + k * 2, none⟩)) ∧ w.frozen? ⟨g2, o2 + k * 2, none⟩ = false from ⟨hw.rd k4 HNE.out.2 hc (fun _ e => by cases e), hw.rd r2 HG6.out hc (fun _ e => by cases e), hw.str, hw.free⟩)
                                        have hn1 : nmAt V ⟨g2, o2 + k * 2, none⟩ = cur := nmAt_of hc
                                        have hn2 : nmAt V.drew ⟨g2, o2 + k * 2, none⟩ = cur := nmAt_of hc
                                        have hlx0 := World.block_lt_of_cell? _ _ k4
                                        have hlx1 := World.block_lt_of_cell? _ _ r2
                                        clear hh2 hR hcc hct
                                        go_wp2_with fail
                                        refine wp_region_held_drew (S := fun w => w.cell? ⟨b5, 4, none⟩ = some (.slice (some ⟨g, o, none⟩) n5 d5) ∧ w.cell? ⟨g, o + j * 6 + 2, none⟩ = some (.slice (some ⟨g2, o2, none⟩) np cp) ∧ w.cell? ⟨g2, o2 + k * 2, none⟩ = some (.string (nmAt w ⟨g2, o2 + k * 2, none⟩)) ∧ w.frozen? ⟨g2, o2 + k * 2, none⟩ = false) (by kernel_rfl) (HS.out _ (Kq.drew HK0.out)) (fun hHeld => ?_)
                                        refine wpAnyH_take (i := 0) (v := ?_) rfl (by kernel_rfl) (by kernel_rfl) (by kernel_rfl) (fun _ _ _ h => h) (Or.inl ⟨by rfl, ?_⟩) (by assumption) ?_
                                        rotate_left
                                        · intro w hSw
                                          try dsimp only at hSw
                                          go_simp
                                          try with_reducible rfl
                                        try simp only [Act.put, List.getElem_toArray, List.getElem_cons_zero, List.getElem_cons_succ, List.setIfInBounds_toArray, List.set_cons_zero, List.set_cons_succ]
                                        refine wpAnyH_take (i := 1) (v := ?_) rfl (by kernel_rfl) (by kernel_rfl) (by kernel_rfl) (fun _ _ _ h => h) (Or.inl ⟨by rfl, ?_⟩) (by assumption) ?_
                                        rotate_left
                                        · intro w hSw
                                          try dsimp only at hSw
                                          go_simp
                                          try with_reducible rfl
                                        try simp only [Act.put, List.getElem_toArray, List.getElem_cons_zero, List.getElem_cons_succ, List.setIfInBounds_toArray, List.set_cons_zero, List.set_cons_succ]
                                        refine wpAnyH_take (i := 2) (v := ?_) rfl (by kernel_rfl) (by kernel_rfl) (by kernel_rfl) (fun _ _ _ h => h) (Or.inl ⟨by rfl, ?_⟩) (by assumption) ?_
                                        rotate_left
                                        · intro w hSw
                                          try dsimp only at hSw
                                          go_simp
                                          try with_reducible rfl
                                        try simp only [Act.put, List.getElem_toArray, List.getElem_cons_zero, List.getElem_cons_succ, List.setIfInBounds_toArray, List.set_cons_zero, List.set_cons_succ]
                                        refine wpAnyH_take (i := 3) (v := ?_) rfl (by kernel_rfl) (by kernel_rfl) (by kernel_rfl) (fun _ _ _ h => h) (Or.inl ⟨by rfl, ?_⟩) (by assumption) ?_
                                        rotate_left
                                        · intro w hSw
                                          try dsimp only at hSw
                                          go_simp
                                          try with_reducible rfl
                                        try simp only [Act.put, List.getElem_toArray, List.getElem_cons_zero, List.getElem_cons_succ, List.setIfInBounds_toArray, List.set_cons_zero, List.set_cons_succ]
                                        refine wpAnyH_take (i := 4) (v := ?_) rfl (by kernel_rfl) (by kernel_rfl) (by kernel_rfl) (fun _ _ _ h => h) (Or.inl ⟨by rfl, ?_⟩) (by assumption) ?_
                                        rotate_left
                                        · intro w hSw
                                          try dsimp only at hSw
                                          go_simp
                                          try with_reducible rfl
                                        try simp only [Act.put, List.getElem_toArray, List.getElem_cons_zero, List.getElem_cons_succ, List.setIfInBounds_toArray, List.set_cons_zero, List.set_cons_succ]
                                        refine wpAnyH_take (i := 5) (v := ?_) rfl (by kernel_rfl) (by kernel_rfl) (by kernel_rfl) (fun _ _ _ h => h) (Or.inl ⟨by rfl, ?_⟩) (by assumption) ?_
                                        rotate_left
                                        · intro w hSw
                                          try dsimp only at hSw
                                          go_simp
                                          try with_reducible rfl
                                        try simp only [Act.put, List.getElem_toArray, List.getElem_cons_zero, List.getElem_cons_succ, List.setIfInBounds_toArray, List.set_cons_zero, List.set_cons_succ]
                                        refine wpAnyH_take (i := 6) (v := ?_) rfl (by kernel_rfl) (by kernel_rfl) (by kernel_rfl) (fun _ _ _ h => h) (Or.inl ⟨by rfl, ?_⟩) (by assumption) ?_
                                        rotate_left
                                        · intro w hSw
                                          try dsimp only at hSw
                                          go_simp
                                          try with_reducible rfl
                                        try simp only [Act.put, List.getElem_toArray, List.getElem_cons_zero, List.getElem_cons_succ, List.setIfInBounds_toArray, List.set_cons_zero, List.set_cons_succ]
                                        refine wpAnyH_take (i := 7) (v := ?_) rfl (by kernel_rfl) (by kernel_rfl) (by kernel_rfl) (fun _ _ _ h => h) (Or.inl ⟨by rfl, ?_⟩) (by assumption) ?_
                                        rotate_left
                                        · intro w hSw
                                          try dsimp only at hSw
                                          go_simp
                                          try with_reducible rfl
                                        try simp only [Act.put, List.getElem_toArray, List.getElem_cons_zero, List.getElem_cons_succ, List.setIfInBounds_toArray, List.set_cons_zero, List.set_cons_succ]
                                        refine wpAnyH_take (i := 8) (v := ?_) rfl (by kernel_rfl) (by kernel_rfl) (by kernel_rfl) (fun _ _ _ h => h) (Or.inl ⟨by rfl, ?_⟩) (by assumption) ?_
                                        rotate_left
                                        · intro w hSw
                                          try dsimp only at hSw
                                          go_simp
                                          try with_reducible rfl
                                        try simp only [Act.put, List.getElem_toArray, List.getElem_cons_zero, List.getElem_cons_succ, List.setIfInBounds_toArray, List.set_cons_zero, List.set_cons_succ]
                                        refine wpAnyH_take (i := 9) (v := ?_) rfl (by kernel_rfl) (by kernel_rfl) (by kernel_rfl) (fun _ _ _ h => h) (Or.inl ⟨by rfl, ?_⟩) (by assumption) ?_
                                        rotate_left
                                        · intro w hSw
                                          try dsimp only at hSw
                                          go_simp
                                          try with_reducible rfl
                                        try simp only [Act.put, List.getElem_toArray, List.getElem_cons_zero, List.getElem_cons_succ, List.setIfInBounds_toArray, List.set_cons_zero, List.set_cons_succ]
                                        refine wpAnyH_take (i := 10) (v := ?_) rfl (by kernel_rfl) (by kernel_rfl) (by kernel_rfl) (fun _ _ _ h => h) (Or.inl ⟨by rfl, ?_⟩) (by assumption) ?_
                                        rotate_left
                                        · intro w hSw
                                          try dsimp only at hSw
                                          go_simp
                                          try with_reducible rfl
                                        try simp only [Act.put, List.getElem_toArray, List.getElem_cons_zero, List.getElem_cons_succ, List.setIfInBounds_toArray, List.set_cons_zero, List.set_cons_succ]
                                        refine wpAnyH_take (i := 11) (v := ?_) rfl (by kernel_rfl) (by kernel_rfl) (by kernel_rfl) (fun _ _ _ h => h) (Or.inl ⟨by rfl, ?_⟩) (by assumption) ?_
                                        rotate_left
                                        · intro w hSw
                                          try dsimp only at hSw
                                          go_simp
                                          try with_reducible rfl
                                        try simp only [Act.put, List.getElem_toArray, List.getElem_cons_zero, List.getElem_cons_succ, List.setIfInBounds_toArray, List.set_cons_zero, List.set_cons_succ]
                                        refine wpAnyH_take (i := 12) (v := ?_) rfl (by kernel_rfl) (by kernel_rfl) (by kernel_rfl) (fun _ _ _ h => h) (Or.inl ⟨by rfl, ?_⟩) (by assumption) ?_
                                        rotate_left
                                        · intro w hSw
                                          try dsimp only at hSw
                                          go_simp
                                          try with_reducible rfl
                                        try simp only [Act.put, List.getElem_toArray, List.getElem_cons_zero, List.getElem_cons_succ, List.setIfInBounds_toArray, List.set_cons_zero, List.set_cons_succ]
                                        refine wpAnyH_take (i := 13) (v := ?_) rfl (by kernel_rfl) (by kernel_rfl) (by kernel_rfl) (fun _ _ _ h => h) (Or.inl ⟨by rfl, ?_⟩) (by assumption) ?_
                                        rotate_left
                                        · intro w hSw
                                          try dsimp only at hSw
                                          go_simp
                                          try with_reducible rfl
                                        try simp only [Act.put, List.getElem_toArray, List.getElem_cons_zero, List.getElem_cons_succ, List.setIfInBounds_toArray, List.set_cons_zero, List.set_cons_succ]
                                        refine wpAnyH_take (i := 14) (v := ?_) rfl (by kernel_rfl) (by kernel_rfl) (by kernel_rfl) (fun _ _ _ h => h) (Or.inl ⟨by rfl, ?_⟩) (by assumption) ?_
                                        rotate_left
                                        · intro w hSw
                                          try dsimp only at hSw
                                          go_simp
                                          try with_reducible rfl
                                        try simp only [Act.put, List.getElem_toArray, List.getElem_cons_zero, List.getElem_cons_succ, List.setIfInBounds_toArray, List.set_cons_zero, List.set_cons_succ]
                                        refine wpAnyH_take (i := 15) (v := ?_) rfl (by kernel_rfl) (by kernel_rfl) (by kernel_rfl) (fun _ _ _ h => h) (Or.inl ⟨by rfl, ?_⟩) (by assumption) ?_
                                        rotate_left
                                        · intro w hSw
                                          try dsimp only at hSw
                                          go_simp
                                          try with_reducible rfl
                                        try simp only [Act.put, List.getElem_toArray, List.getElem_cons_zero, List.getElem_cons_succ, List.setIfInBounds_toArray, List.set_cons_zero, List.set_cons_succ]
                                        refine wpAnyH_take (i := 16) (v := ?_) rfl (by kernel_rfl) (by kernel_rfl) (by kernel_rfl) (fun _ _ _ h => h) (Or.inl ⟨by rfl, ?_⟩) (by assumption) ?_
                                        rotate_left
                                        · intro w hSw
                                          try dsimp only at hSw
                                          go_simp
                                          try with_reducible rfl
                                        try simp only [Act.put, List.getElem_toArray, List.getElem_cons_zero, List.getElem_cons_succ, List.setIfInBounds_toArray, List.set_cons_zero, List.set_cons_succ]
                                        refine wpAnyH_ready (rs := [17]) (by kernel_rfl) (by simp) ?_
                                        refine AllReadyH.cons rfl (fun K hK => ?_) AllReadyH.nil
                                        go_simp
                                        refine hK.out _ _ (by refine HS.out _ ?_; repeat (first | exact HK0.out | refine Kq.drew ?_ | refine Kq.drewN ?_ _ | refine HK6.out _ _ ?_ | refine HKA.out _ _ ?_)) (fun hHeld => ?_)
                                        clear hK K
                                        try simp only [Act.put, List.getElem_toArray, List.getElem_cons_zero, List.getElem_cons_succ, List.setIfInBounds_toArray, List.set_cons_zero, List.set_cons_succ]
                                        refine wpAnyH_ready (rs := [18]) (by kernel_rfl) (by simp) ?_
                                        refine AllReadyH.cons rfl (fun K hK => ?_) AllReadyH.nil
                                        go_simp
                                        go_at_call 12
                                        refine HTP.out.mono ?_
                                        rintro e w' ⟨rfl, rfl⟩
                                        refine hK.out _ _ (by refine HS.out _ ?_; repeat (first | exact HK0.out | refine Kq.drew ?_ | refine Kq.drewN ?_ _ | refine HK6.out _ _ ?_ | refine HKA.out _ _ ?_)) (fun hHeld => ?_)
                                        clear hK K
                                        try simp only [Act.put, List.getElem_toArray, List.getElem_cons_zero, List.getElem_cons_succ, List.setIfInBounds_toArray, List.set_cons_zero, List.set_cons_succ]
                                        refine wpAnyH_take (i := 19) (v := ?_) rfl (by kernel_rfl) (by kernel_rfl) (by kernel_rfl) (fun _ _ _ h => h) (Or.inl ⟨by rfl, ?_⟩) (by assumption) ?_
                                        rotate_left
                                        · intro w hSw
                                          try dsimp only at hSw
                                          go_simp
                                          try with_reducible rfl
                                        try simp only [Act.put, List.getElem_toArray, List.getElem_cons_zero, List.getElem_cons_succ, List.setIfInBounds_toArray, List.set_cons_zero, List.set_cons_succ]
                                        refine wpAnyH_take (i := 20) (v := ?_) rfl (by kernel_rfl) (by kernel_rfl) (by kernel_rfl) (fun _ _ _ h => h) (Or.inl ⟨by rfl, ?_⟩) (by assumption) ?_
                                        rotate_left
                                        · intro w hSw
                                          try dsimp only at hSw
                                          go_simp
                                          try with_reducible rfl
                                        try simp only [Act.put, List.getElem_toArray, List.getElem_cons_zero, List.getElem_cons_succ, List.setIfInBounds_toArray, List.set_cons_zero, List.set_cons_succ]
                                        refine wpAnyH_ready (rs := [21]) (by kernel_rfl) (by simp) ?_
                                        refine AllReadyH.cons rfl (fun K hK => ?_) AllReadyH.nil
                                        go_simp
                                        refine hK.out _ _ (by refine HS.out _ ?_; repeat (first | exact HK0.out | refine Kq.drew ?_ | refine Kq.drewN ?_ _ | refine HK6.out _ _ ?_ | refine HKA.out _ _ ?_)) (fun hHeld => ?_)
                                        clear hK K
                                        try simp only [Act.put, List.getElem_toArray, List.getElem_cons_zero, List.getElem_cons_succ, List.setIfInBounds_toArray, List.set_cons_zero, List.set_cons_succ]
                                        refine wpAnyH_done (by kernel_rfl) ?_ _
                                        go_wp2_with fail
                                        exact ⟨⟨k + 1, fun b => D b ∨ b = ⟨g2, o2 + k * 2, none⟩, h2, by omega, by go_num, HTI, Lib.hid HPK.out.snoc, Lib.hid (fun a h => .inl (HMK.out a h)), Lib.hid (HCW.out.then HCX.out)⟩, by simp [intOf]; omega⟩
                                      · obtain rfl : np = k := by omega
                                        obtain ⟨DB, hD⟩ : ∃ D', D' = D := ⟨_, rfl⟩
                                        subst hD
                                        have HPP := HPK
                                        have HM := Lib.hid (fun a h => HMK.out a (HM.out a h))
                                        have HFK := Lib.hid (HFK.out.mono HMK.out)
                                        have HDA := Lib.hid (HMK.out _ HDA.out)
                                        skip
                                        go_wp2_with fail
                                        clear k4 r2 hbl hgl hlk hk HPK HMK
                                        go_loopw [14] (fun i wr => ∃ (k : Nat) (D : Addr → Prop) (hit : Bool), k ≤ nv ∧ i = .int .i64 k ∧ Hid (TI fr b6 m D hit wr) ∧ Hid (Pos D qv k 2 0) ∧ Hid (∀ a, DB a → D a) ∧ Hid (Chg (Wr m b6) V0 wr)) (fun i _ => nv - (intOf i).toNat)
                                        case atStart => exact ⟨0, DB, hit, Nat.zero_le _, rfl, HT, Lib.hid Pos.zero, Lib.hid (fun _ h => h), HCW⟩
                                        case round =>
                                          as_aux_lemma =>
                                            clear HT HCW
                                            obtain ⟨k, D, hit, hk, rfl, HT, HPK, HMK, HCW⟩ := hrel
                                            obtain ⟨V, h9⟩ : ∃ w, w = wr := ⟨_, rfl⟩
                                            subst h9
                                            have k4 := (HBB.out _ HCW.out).1.cell (j := 4) (v := .slice (some ⟨g, o, none⟩) n5 d5) rfl
                                            have r2 := HT.out.tw.other HA4.out (fun _ e => by cases e)
                                            have hbl := (HBB.out _ HCW.out).1.lt
                                            have hgl := World.block_lt_of_cell? _ _ r2
                                            by_cases hlk : k < nv
                                            · have hk1 : k < F.vars.length := by rw [HNV.out]; exact hlk
                                              obtain ⟨g2, o2, rfl, a0, -, -⟩ := HV.out k hk1
                                              have hki : (k : Int) < (nv : Int) := by omega
                                              obtain ⟨cur, hc, hcc, hct⟩ := HT.out.tw.cur a0
                                              have f0 := HT.out.free _ _ a0
                                              have hlt0 := HT.out.lt _ _ a0
                                              have hx6 : ¬ (g2 = b6) := fun e => mC_ne a0 (by show m g2 = none; rw [e]; exact HT.out.m6)
                                              obtain ⟨h2, hh2⟩ : ∃ h2, (hit || decide (cur = twN)) = h2 := ⟨_, rfl⟩
                                              obtain ⟨R, hR⟩ : ∃ R, ren fr twN cur = R := ⟨_, rfl⟩
                                              have HTI := Lib.hid (show TI fr b6 m (fun b => D b ∨ b = ⟨g2, o2 + k * 2, none⟩) h2 ((V.setCell ⟨b6, 0, none⟩ (.bool h2)).setCell ⟨g2, o2 + k * 2, none⟩ (.string R)).drew by rw [← hh2, ← hR]; exact (HT.out.turn a0 hc hcc hct).drew)
                                              have HCX := Lib.hid (show Chg (Wr m b6) V ((V.setCell ⟨b6, 0, none⟩ (.bool h2)).setCell ⟨g2, o2 + k * 2, none⟩ (.string R)).drew from (((Chg.refl _ V).setCell (p := ⟨b6, 0, none⟩) (.inl (.inr rfl)) _).setCell (p := ⟨g2, o2 + k * 2, none⟩) (.inl (.inl (mC_ne a0))) _).drew)
                                              have HTP := Lib.hid (show Calls Tryz.prog 12 #[.string cur, .pointer (some ⟨b6, 0, none⟩), .pointer (some ⟨b3, 0, none⟩)] V.drew fun e w' => e = .returned (.string R) ∧ V.drew.setCell ⟨b6, 0, none⟩ (.bool h2) = w' by rw [← hh2, ← hR]; exact turn_p cur fr hit b6 b3 _ (cell_of HT.out.hit6 rfl) (free_of HT.out.hit6) (HBB.out _ HCW.out).2.2.1 HNE.out.1)
                                              have HK0 := Lib.hid (show Kq b6 ⟨g2, o2 + k * 2, none⟩ V V from Kq.start hc f0)
                                              have HK6 := Lib.hid (fun (w : World) (u : Value) (h : Kq b6 ⟨g2, o2 + k * 2, none⟩ V w) => h.six hx6 u)
                                              have HKA := Lib.hid (fun (w : World) (s : ByteArray) (h : Kq b6 ⟨g2, o2 + k * 2, none⟩ V w) => h.self s)
                                              have HS := Lib.hid (fun (w : World) (hw : Kq b6 ⟨g2, o2 + k * 2, none⟩ V w) => show w.cell? ⟨b5, 4, none⟩ = some (.slice (some ⟨g, o, none⟩) n5 d5) ∧ w.cell? ⟨g, o + j * 6 + 4, none⟩ = some (.slice (some ⟨g2, o2, none⟩) nv cv) ∧ w.cell? ⟨g2, o2 + k * 2, none⟩ = some (.string (nmAt w ⟨g2, o2 + k * 2, none⟩)) ∧ w.frozen? ⟨g2, o2 + k * 2, none⟩ = false from ⟨hw.rd k4 HNE.out.2 hc (fun _ e => by cases e), hw.rd r2 HG6.out hc (fun _ e => by cases e), hw.str, hw.free⟩)
                                              have hn1 : nmAt V ⟨g2, o2 + k * 2, none⟩ = cur := nmAt_of hc
                                              have hn2 : nmAt V.drew ⟨g2, o2 + k * 2, none⟩ = cur := nmAt_of hc
                                              have hlx0 := World.block_lt_of_cell? _ _ k4
                                              have hlx1 := World.block_lt_of_cell? _ _ r2
                                              clear hh2 hR hcc hct
                                              go_wp2_with fail
                                              refine wp_region_held_drew (S := fun w => w.cell? ⟨b5, 4, none⟩ = some (.slice (some ⟨g, o, none⟩) n5 d5) ∧ w.cell? ⟨g, o + j * 6 + 4, none⟩ = some (.slice (some ⟨g2, o2, none⟩) nv cv) ∧ w.cell? ⟨g2, o2 + k * 2, none⟩ = some (.string (nmAt w ⟨g2, o2 + k * 2, none⟩)) ∧ w.frozen? ⟨g2, o2 + k * 2, none⟩ = false) (by kernel_rfl) (HS.out _ (Kq.drew HK0.out)) (fun hHeld => ?_)
                                              refine wpAnyH_take (i := 0) (v := ?_) rfl (by kernel_rfl) (by kernel_rfl) (by kernel_rfl) (fun _ _ _ h => h) (Or.inl ⟨by rfl, ?_⟩) (by assumption) ?_
                                              rotate_left
                                              · intro w hSw
                                                try dsimp only at hSw
                                                go_simp
                                                try with_reducible rfl
                                              try simp only [Act.put, List.getElem_toArray, List.getElem_cons_zero, List.getElem_cons_succ, List.setIfInBounds_toArray, List.set_cons_zero, List.set_cons_succ]
                                              refine wpAnyH_take (i := 1) (v := ?_) rfl (by kernel_rfl) (by kernel_rfl) (by kernel_rfl) (fun _ _ _ h => h) (Or.inl ⟨by rfl, ?_⟩) (by assumption) ?_
                                              rotate_left
                                              · intro w hSw
                                                try dsimp only at hSw
                                                go_simp
                                                try with_reducible rfl
                                              try simp only [Act.put, List.getElem_toArray, List.getElem_cons_zero, List.getElem_cons_succ, List.setIfInBounds_toArray, List.set_cons_zero, List.set_cons_succ]
                                              refine wpAnyH_take (i := 2) (v := ?_) rfl (by kernel_rfl) (by kernel_rfl) (by kernel_rfl) (fun _ _ _ h => h) (Or.inl ⟨by rfl, ?_⟩) (by assumption) ?_
                                              rotate_left
                                              · intro w hSw
                                                try dsimp only at hSw
                                                go_simp
                                                try with_reducible rfl
                                              try simp only [Act.put, List.getElem_toArray, List.getElem_cons_zero, List.getElem_cons_succ, List.setIfInBounds_toArray, List.set_cons_zero, List.set_cons_succ]
                                              refine wpAnyH_take (i := 3) (v := ?_) rfl (by kernel_rfl) (by kernel_rfl) (by kernel_rfl) (fun _ _ _ h => h) (Or.inl ⟨by rfl, ?_⟩) (by assumption) ?_
                                              rotate_left
                                              · intro w hSw
                                                try dsimp only at hSw
                                                go_simp
                                                try with_reducible rfl
                                              try simp only [Act.put, List.getElem_toArray, List.getElem_cons_zero, List.getElem_cons_succ, List.setIfInBounds_toArray, List.set_cons_zero, List.set_cons_succ]
                                              refine wpAnyH_take (i := 4) (v := ?_) rfl (by kernel_rfl) (by kernel_rfl) (by kernel_rfl) (fun _ _ _ h => h) (Or.inl ⟨by rfl, ?_⟩) (by assumption) ?_
                                              rotate_left
                                              · intro w hSw
                                                try dsimp only at hSw
                                                go_simp
                                                try with_reducible rfl
                                              try simp only [Act.put, List.getElem_toArray, List.getElem_cons_zero, List.getElem_cons_succ, List.setIfInBounds_toArray, List.set_cons_zero, List.set_cons_succ]
                                              refine wpAnyH_take (i := 5) (v := ?_) rfl (by kernel_rfl) (by kernel_rfl) (by kernel_rfl) (fun _ _ _ h => h) (Or.inl ⟨by rfl, ?_⟩) (by assumption) ?_
                                              rotate_left
                                              · intro w hSw
                                                try dsimp only at hSw
                                                go_simp
                                                try with_reducible rfl
                                              try simp only [Act.put, List.getElem_toArray, List.getElem_cons_zero, List.getElem_cons_succ, List.setIfInBounds_toArray, List.set_cons_zero, List.set_cons_succ]
                                              refine wpAnyH_take (i := 6) (v := ?_) rfl (by kernel_rfl) (by kernel_rfl) (by kernel_rfl) (fun _ _ _ h => h) (Or.inl ⟨by rfl, ?_⟩) (by assumption) ?_
                                              rotate_left
                                              · intro w hSw
                                                try dsimp only at hSw
                                                go_simp
                                                try with_reducible rfl
                                              try simp only [Act.put, List.getElem_toArray, List.getElem_cons_zero, List.getElem_cons_succ, List.setIfInBounds_toArray, List.set_cons_zero, List.set_cons_succ]
                                              refine wpAnyH_take (i := 7) (v := ?_) rfl (by kernel_rfl) (by kernel_rfl) (by kernel_rfl) (fun _ _ _ h => h) (Or.inl ⟨by rfl, ?_⟩) (by assumption) ?_
                                              rotate_left
                                              · intro w hSw
                                                try dsimp only at hSw
                                                go_simp
                                                try with_reducible rfl
                                              try simp only [Act.put, List.getElem_toArray, List.getElem_cons_zero, List.getElem_cons_succ, List.setIfInBounds_toArray, List.set_cons_zero, List.set_cons_succ]
                                              refine wpAnyH_take (i := 8) (v := ?_) rfl (by kernel_rfl) (by kernel_rfl) (by kernel_rfl) (fun _ _ _ h => h) (Or.inl ⟨by rfl, ?_⟩) (by assumption) ?_
                                              rotate_left
                                              · intro w hSw
                                                try dsimp only at hSw
                                                go_simp
                                                try with_reducible rfl
                                              try simp only [Act.put, List.getElem_toArray, List.getElem_cons_zero, List.getElem_cons_succ, List.setIfInBounds_toArray, List.set_cons_zero, List.set_cons_succ]
                                              refine wpAnyH_take (i := 9) (v := ?_) rfl (by kernel_rfl) (by kernel_rfl) (by kernel_rfl) (fun _ _ _ h => h) (Or.inl ⟨by rfl, ?_⟩) (by assumption) ?_
                                              rotate_left
                                              · intro w hSw
                                                try dsimp only at hSw
                                                go_simp
                                                try with_reducible rfl
                                              try simp only [Act.put, List.getElem_toArray, List.getElem_cons_zero, List.getElem_cons_succ, List.setIfInBounds_toArray, List.set_cons_zero, List.set_cons_succ]
                                              refine wpAnyH_take (i := 10) (v := ?_) rfl (by kernel_rfl) (by kernel_rfl) (by kernel_rfl) (fun _ _ _ h => h) (Or.inl ⟨by rfl, ?_⟩) (by assumption) ?_
                                              rotate_left
                                              · intro w hSw
                                                try dsimp only at hSw
                                                go_simp
                                                try with_reducible rfl
                                              try simp only [Act.put, List.getElem_toArray, List.getElem_cons_zero, List.getElem_cons_succ, List.setIfInBounds_toArray, List.set_cons_zero, List.set_cons_succ]
                                              refine wpAnyH_take (i := 11) (v := ?_) rfl (by kernel_rfl) (by kernel_rfl) (by kernel_rfl) (fun _ _ _ h => h) (Or.inl ⟨by rfl, ?_⟩) (by assumption) ?_
                                              rotate_left
                                              · intro w hSw
                                                try dsimp only at hSw
                                                go_simp
                                                try with_reducible rfl
                                              try simp only [Act.put, List.getElem_toArray, List.getElem_cons_zero, List.getElem_cons_succ, List.setIfInBounds_toArray, List.set_cons_zero, List.set_cons_succ]
                                              refine wpAnyH_take (i := 12) (v := ?_) rfl (by kernel_rfl) (by kernel_rfl) (by kernel_rfl) (fun _ _ _ h => h) (Or.inl ⟨by rfl, ?_⟩) (by assumption) ?_
                                              rotate_left
                                              · intro w hSw
                                                try dsimp only at hSw
                                                go_simp
                                                try with_reducible rfl
                                              try simp only [Act.put, List.getElem_toArray, List.getElem_cons_zero, List.getElem_cons_succ, List.setIfInBounds_toArray, List.set_cons_zero, List.set_cons_succ]
                                              refine wpAnyH_take (i := 13) (v := ?_) rfl (by kernel_rfl) (by kernel_rfl) (by kernel_rfl) (fun _ _ _ h => h) (Or.inl ⟨by rfl, ?_⟩) (by assumption) ?_
                                              rotate_left
                                              · intro w hSw
                                                try dsimp only at hSw
                                                go_simp
                                                try with_reducible rfl
                                              try simp only [Act.put, List.getElem_toArray, List.getElem_cons_zero, List.getElem_cons_succ, List.setIfInBounds_toArray, List.set_cons_zero, List.set_cons_succ]
                                              refine wpAnyH_take (i := 14) (v := ?_) rfl (by kernel_rfl) (by kernel_rfl) (by kernel_rfl) (fun _ _ _ h => h) (Or.inl ⟨by rfl, ?_⟩) (by assumption) ?_
                                              rotate_left
                                              · intro w hSw
                                                try dsimp only at hSw
                                                go_simp
                                                try with_reducible rfl
                                              try simp only [Act.put, List.getElem_toArray, List.getElem_cons_zero, List.getElem_cons_succ, List.setIfInBounds_toArray, List.set_cons_zero, List.set_cons_succ]
                                              refine wpAnyH_take (i := 15) (v := ?_) rfl (by kernel_rfl) (by kernel_rfl) (by kernel_rfl) (fun _ _ _ h => h) (Or.inl ⟨by rfl, ?_⟩) (by assumption) ?_
                                              rotate_left
                                              · intro w hSw
                                                try dsimp only at hSw
                                                go_simp
                                                try with_reducible rfl
                                              try simp only [Act.put, List.getElem_toArray, List.getElem_cons_zero, List.getElem_cons_succ, List.setIfInBounds_toArray, List.set_cons_zero, List.set_cons_succ]
                                              refine wpAnyH_take (i := 16) (v := ?_) rfl (by kernel_rfl) (by kernel_rfl) (by kernel_rfl) (fun _ _ _ h => h) (Or.inl ⟨by rfl, ?_⟩) (by assumption) ?_
                                              rotate_left
                                              · intro w hSw
                                                try dsimp only at hSw
                                                go_simp
                                                try with_reducible rfl
                                              try simp only [Act.put, List.getElem_toArray, List.getElem_cons_zero, List.getElem_cons_succ, List.setIfInBounds_toArray, List.set_cons_zero, List.set_cons_succ]
                                              refine wpAnyH_ready (rs := [17]) (by kernel_rfl) (by simp) ?_
                                              refine AllReadyH.cons rfl (fun K hK => ?_) AllReadyH.nil
                                              go_simp
                                              refine hK.out _ _ (by refine HS.out _ ?_; repeat (first | exact HK0.out | refine Kq.drew ?_ | refine Kq.drewN ?_ _ | refine HK6.out _ _ ?_ | refine HKA.out _ _ ?_)) (fun hHeld => ?_)
                                              clear hK K
                                              try simp only [Act.put, List.getElem_toArray, List.getElem_cons_zero, List.getElem_cons_succ, List.setIfInBounds_toArray, List.set_cons_zero, List.set_cons_succ]
                                              refine wpAnyH_ready (rs := [18]) (by kernel_rfl) (by simp) ?_
                                              refine AllReadyH.cons rfl (fun K hK => ?_) AllReadyH.nil
                                              go_simp
                                              go_at_call 12
                                              refine HTP.out.mono ?_
                                              rintro e w' ⟨rfl, rfl⟩
                                              refine hK.out _ _ (by refine HS.out _ ?_; repeat (first | exact HK0.out | refine Kq.drew ?_ | refine Kq.drewN ?_ _ | refine HK6.out _ _ ?_ | refine HKA.out _ _ ?_)) (fun hHeld => ?_)
                                              clear hK K
                                              try simp only [Act.put, List.getElem_toArray, List.getElem_cons_zero, List.getElem_cons_succ, List.setIfInBounds_toArray, List.set_cons_zero, List.set_cons_succ]
                                              refine wpAnyH_take (i := 19) (v := ?_) rfl (by kernel_rfl) (by kernel_rfl) (by kernel_rfl) (fun _ _ _ h => h) (Or.inl ⟨by rfl, ?_⟩) (by assumption) ?_
                                              rotate_left
                                              · intro w hSw
                                                try dsimp only at hSw
                                                go_simp
                                                try with_reducible rfl
                                              try simp only [Act.put, List.getElem_toArray, List.getElem_cons_zero, List.getElem_cons_succ, List.setIfInBounds_toArray, List.set_cons_zero, List.set_cons_succ]
                                              refine wpAnyH_take (i := 20) (v := ?_) rfl (by kernel_rfl) (by kernel_rfl) (by kernel_rfl) (fun _ _ _ h => h) (Or.inl ⟨by rfl, ?_⟩) (by assumption) ?_
                                              rotate_left
                                              · intro w hSw
                                                try dsimp only at hSw
                                                go_simp
                                                try with_reducible rfl
                                              try simp only [Act.put, List.getElem_toArray, List.getElem_cons_zero, List.getElem_cons_succ, List.setIfInBounds_toArray, List.set_cons_zero, List.set_cons_succ]
                                              refine wpAnyH_ready (rs := [21]) (by kernel_rfl) (by simp) ?_
                                              refine AllReadyH.cons rfl (fun K hK => ?_) AllReadyH.nil
                                              go_simp
                                              refine hK.out _ _ (by refine HS.out _ ?_; repeat (first | exact HK0.out | refine Kq.drew ?_ | refine Kq.drewN ?_ _ | refine HK6.out _ _ ?_ | refine HKA.out _ _ ?_)) (fun hHeld => ?_)
                                              clear hK K
                                              try simp only [Act.put, List.getElem_toArray, List.getElem_cons_zero, List.getElem_cons_succ, List.setIfInBounds_toArray, List.set_cons_zero, List.set_cons_succ]
                                              refine wpAnyH_done (by kernel_rfl) ?_ _
                                              go_wp2_with fail
                                              exact ⟨⟨k + 1, fun b => D b ∨ b = ⟨g2, o2 + k * 2, none⟩, h2, by omega, by go_num, HTI, Lib.hid HPK.out.snoc, Lib.hid (fun a h => .inl (HMK.out a h)), Lib.hid (HCW.out.then HCX.out)⟩, by simp [intOf]; omega⟩
                                            · obtain rfl : nv = k := by omega
                                              obtain ⟨DC, hD⟩ : ∃ D', D' = D := ⟨_, rfl⟩
                                              subst hD
                                              have HPV := HPK
                                              have HM := Lib.hid (fun a h => HMK.out a (HM.out a h))
                                              have HFK := Lib.hid (HFK.out.mono HMK.out)
                                              have HDA := Lib.hid (HMK.out _ HDA.out)
                                              have HPP := Lib.hid (HPP.out.mono HMK.out)
                                              go_wp2_with fail
                                              clear k4 r2 hbl hgl hlk hk HPK HMK
                                              go_loopw [15] (fun i wr => ∃ (k : Nat) (D : Addr → Prop) (hit : Bool), k ≤ nb ∧ i = .int .i64 k ∧ Hid (TI fr b6 m D hit wr) ∧ Hid (StK D (mC m) qb F.body k) ∧ Hid (∀ a, DC a → D a) ∧ Hid (Chg (Wr m b6) V0 wr)) (fun i _ => nb - (intOf i).toNat)
                                              case atStart => exact ⟨0, DC, hit, Nat.zero_le _, rfl, HT, Lib.hid StK.zero, Lib.hid (fun _ h => h), HCW⟩
                                              case round =>
                                                as_aux_lemma =>
                                                  clear HT HCW
                                                  obtain ⟨i0, D, hit, hi0, rfl, HT, HSK, HMS, HCW⟩ := hrel
                                                  obtain ⟨V, h9⟩ : ∃ w, w = wr := ⟨_, rfl⟩
                                                  subst h9
                                                  have k4 := (HBB.out _ HCW.out).1.cell (j := 4) (v := .slice (some ⟨g, o, none⟩) n5 d5) rfl
                                                  have r5 := HT.out.tw.other HA5.out (fun _ e => by cases e)
                                                  have hbl := (HBB.out _ HCW.out).1.lt
                                                  have hgl := World.block_lt_of_cell? _ _ r5
                                                  by_cases hli : i0 < nb
                                                  · as_aux_lemma =>
                                                      have hi1 : i0 < F.body.length := by rw [HNB.out]; exact hli
                                                      obtain ⟨gb, ob, qt, ct, qe, ce, rfl, y0, y1, y2, y3, ht, he⟩ := HBD.out i0 hi1
                                                      have hlt1 := slx_len ht
                                                      have hle1 := slx_len he
                                                      have HTC := Lib.hid ht.cells
                                                      have HEC := Lib.hid he.cells
                                                      obtain ⟨X, hX⟩ : ∃ X, F.body[i0] = X := ⟨_, rfl⟩
                                                      have HXX := Lib.hid (show ∀ hk : i0 < F.body.length, F.body[i0] = X from fun _ => hX)
                                                      rw [hX] at y0 y1 y2 y3 hlt1 hle1 HTC HEC
                                                      clear ht he hX hi1
                                                      obtain ⟨nt, hnt⟩ : ∃ n, X.targets.length = n := ⟨_, rfl⟩
                                                      obtain ⟨ne, hne⟩ : ∃ n, X.exprs.length = n := ⟨_, rfl⟩
                                                      rw [hnt] at hlt1 y2
                                                      rw [hne] at hle1 y3
                                                      have HNT := Lib.hid hnt
                                                      have HNX := Lib.hid hne
                                                      have hlt1' : nt < 9223372036854775807 := by omega
                                                      have hle1' : ne < 9223372036854775807 := by omega
                                                      clear hnt hne hlt1 hle1
                                                      have HY1 := Lib.hid y1
                                                      have HY2 := Lib.hid y2
                                                      have HY3 := Lib.hid y3
                                                      obtain ⟨cx, e1, -, -⟩ := HT.out.tw.cur y1
                                                      have e0 := HT.out.tw.other y0 (fun _ e => by cases e)
                                                      have e2 := HT.out.tw.other y2 (fun _ e => by cases e)
                                                      have e3 := HT.out.tw.other y3 (fun _ e => by cases e)
                                                      have hgb := World.block_lt_of_cell? _ _ e0
                                                      generalize X.kind = xk at *
                                                      have hii : (i0 : Int) < (nb : Int) := by omega
                                                      have hl6 := cell_lt (cell_of (j := 0) HT.out.hit6 rfl)
                                                      obtain ⟨bx, hbx⟩ : ∃ bx, V.heap.size = bx := ⟨_, rfl⟩
                                                      have HXB := Lib.hid (show ¬ Wr m b6 bx from fun hw => by
                                                        have := HBX.out _ HCW.out bx hw
                                                        simp only at hl6
                                                        omega)
                                                      have HX := Lib.hid (InB.new' (w := V) #[.int .i64 xk, .string cx, .slice qt nt ct, .slice qe ne ce] 47 hbx)
                                                      have HT9 := Lib.hid (HT.out.alloc (.cells #[.int .i64 xk, .string cx, .slice qt nt ct, .slice qe ne ce] 47))
                                                      have HCW9 := Lib.hid (HCW.out.alloc (.cells #[.int .i64 xk, .string cx, .slice qt nt ct, .slice qe ne ce] 47))
                                                      go_upto_region 40 with fail
                                                      try rw [hbx]
                                                      obtain ⟨V9, hV9⟩ : ∃ V9, V.alloc (.cells #[.int .i64 xk, .string cx, .slice qt nt ct, .slice qe ne ce] 47) = V9 := ⟨_, rfl⟩
                                                      rw [hV9] at HX HT9 HCW9
                                                      try rw [hV9]
                                                      clear hV9 HT HCW e0 e1 e2 e3 hgb y0 y2 y3 k4 r5 hbl hgl hl6 hbx
                                                      have HT := HT9
                                                      have HCW := HCW9
                                                      have k4 := (HBB.out _ HCW.out).1.cell (j := 4) (v := .slice (some ⟨g, o, none⟩) n5 d5) rfl
                                                      have r5 := HT.out.tw.other HA5.out (fun _ e => by cases e)
                                                      obtain ⟨cur, hc, hcc, hct⟩ := HT.out.tw.cur y1
                                                      have f0 := HT.out.free _ _ y1
                                                      have hlt0 := HT.out.lt _ _ y1
                                                      have hx6 : ¬ (gb = b6) := fun e => mC_ne y1 (by show m gb = none; rw [e]; exact HT.out.m6)
                                                      obtain ⟨h2, hh2⟩ : ∃ h2, (hit || decide (cur = twN)) = h2 := ⟨_, rfl⟩
                                                      obtain ⟨R, hR⟩ : ∃ R, ren fr twN cur = R := ⟨_, rfl⟩
                                                      have HTI := Lib.hid (show TI fr b6 m (fun b => D b ∨ b = ⟨gb, ob + i0 * 4 + 1, none⟩) h2 ((V9.setCell ⟨b6, 0, none⟩ (.bool h2)).setCell ⟨gb, ob + i0 * 4 + 1, none⟩ (.string R)).drew by rw [← hh2, ← hR]; exact (HT.out.turn y1 hc hcc hct).drew)
                                                      have HCX := Lib.hid (show Chg (Wr m b6) V9 ((V9.setCell ⟨b6, 0, none⟩ (.bool h2)).setCell ⟨gb, ob + i0 * 4 + 1, none⟩ (.string R)).drew from (((Chg.refl _ V9).setCell (p := ⟨b6, 0, none⟩) (.inl (.inr rfl)) _).setCell (p := ⟨gb, ob + i0 * 4 + 1, none⟩) (.inl (.inl (mC_ne y1))) _).drew)
                                                      have HTP := Lib.hid (show Calls Tryz.prog 12 #[.string cur, .pointer (some ⟨b6, 0, none⟩), .pointer (some ⟨b3, 0, none⟩)] V9.drew fun e w' => e = .returned (.string R) ∧ V9.drew.setCell ⟨b6, 0, none⟩ (.bool h2) = w' by rw [← hh2, ← hR]; exact turn_p cur fr hit b6 b3 _ (cell_of HT.out.hit6 rfl) (free_of HT.out.hit6) (HBB.out _ HCW.out).2.2.1 HNE.out.1)
                                                      have HK0 := Lib.hid (show Kq b6 ⟨gb, ob + i0 * 4 + 1, none⟩ V9 V9 from Kq.start hc f0)
                                                      have HK6 := Lib.hid (fun (w : World) (u : Value) (h : Kq b6 ⟨gb, ob + i0 * 4 + 1, none⟩ V9 w) => h.six hx6 u)
                                                      have HKA := Lib.hid (fun (w : World) (s : ByteArray) (h : Kq b6 ⟨gb, ob + i0 * 4 + 1, none⟩ V9 w) => h.self s)
                                                      have HS := Lib.hid (fun (w : World) (hw : Kq b6 ⟨gb, ob + i0 * 4 + 1, none⟩ V9 w) => show w.cell? ⟨b5, 4, none⟩ = some (.slice (some ⟨g, o, none⟩) n5 d5) ∧ w.cell? ⟨g, o + j * 6 + 5, none⟩ = some (.slice (some ⟨gb, ob, none⟩) nb cb) ∧ w.cell? ⟨gb, ob + i0 * 4 + 1, none⟩ = some (.string (nmAt w ⟨gb, ob + i0 * 4 + 1, none⟩)) ∧ w.frozen? ⟨gb, ob + i0 * 4 + 1, none⟩ = false from ⟨hw.rd k4 HNE.out.2 hc (fun _ e => by cases e), hw.rd r5 HG6.out hc (fun _ e => by cases e), hw.str, hw.free⟩)
                                                      have hn1 : nmAt V9 ⟨gb, ob + i0 * 4 + 1, none⟩ = cur := nmAt_of hc
                                                      have hn2 : nmAt V9.drew ⟨gb, ob + i0 * 4 + 1, none⟩ = cur := nmAt_of hc
                                                      have hlx0 := World.block_lt_of_cell? _ _ k4
                                                      have hlx1 := World.block_lt_of_cell? _ _ r5
                                                      clear hh2 hR hcc hct
                                                      go_wp2_with fail
                                                      refine wp_region_held_drew (S := fun w => w.cell? ⟨b5, 4, none⟩ = some (.slice (some ⟨g, o, none⟩) n5 d5) ∧ w.cell? ⟨g, o + j * 6 + 5, none⟩ = some (.slice (some ⟨gb, ob, none⟩) nb cb) ∧ w.cell? ⟨gb, ob + i0 * 4 + 1, none⟩ = some (.string (nmAt w ⟨gb, ob + i0 * 4 + 1, none⟩)) ∧ w.frozen? ⟨gb, ob + i0 * 4 + 1, none⟩ = false) (by kernel_rfl) (HS.out _ (Kq.drew HK0.out)) (fun hHeld => ?_)
                                                      refine wpAnyH_take (i := 0) (v := ?_) rfl (by kernel_rfl) (by kernel_rfl) (by kernel_rfl) (fun _ _ _ h => h) (Or.inl ⟨by rfl, ?_⟩) (by assumption) ?_
                                                      rotate_left
                                                      · intro w hSw
                                                        try dsimp only at hSw
                                                        go_simp
                                                        try with_reducible rfl
                                                      try simp only [Act.put, List.getElem_toArray, List.getElem_cons_zero, List.getElem_cons_succ, List.setIfInBounds_toArray, List.set_cons_zero, List.set_cons_succ]
                                                      refine wpAnyH_take (i := 1) (v := ?_) rfl (by kernel_rfl) (by kernel_rfl) (by kernel_rfl) (fun _ _ _ h => h) (Or.inl ⟨by rfl, ?_⟩) (by assumption) ?_
                                                      rotate_left
                                                      · intro w hSw
                                                        try dsimp only at hSw
                                                        go_simp
                                                        try with_reducible rfl
                                                      try simp only [Act.put, List.getElem_toArray, List.getElem_cons_zero, List.getElem_cons_succ, List.setIfInBounds_toArray, List.set_cons_zero, List.set_cons_succ]
                                                      refine wpAnyH_take (i := 2) (v := ?_) rfl (by kernel_rfl) (by kernel_rfl) (by kernel_rfl) (fun _ _ _ h => h) (Or.inl ⟨by rfl, ?_⟩) (by assumption) ?_
                                                      rotate_left
                                                      · intro w hSw
                                                        try dsimp only at hSw
                                                        go_simp
                                                        try with_reducible rfl
                                                      try simp only [Act.put, List.getElem_toArray, List.getElem_cons_zero, List.getElem_cons_succ, List.setIfInBounds_toArray, List.set_cons_zero, List.set_cons_succ]
                                                      refine wpAnyH_take (i := 3) (v := ?_) rfl (by kernel_rfl) (by kernel_rfl) (by kernel_rfl) (fun _ _ _ h => h) (Or.inl ⟨by rfl, ?_⟩) (by assumption) ?_
                                                      rotate_left
                                                      · intro w hSw
                                                        try dsimp only at hSw
                                                        go_simp
                                                        try with_reducible rfl
                                                      try simp only [Act.put, List.getElem_toArray, List.getElem_cons_zero, List.getElem_cons_succ, List.setIfInBounds_toArray, List.set_cons_zero, List.set_cons_succ]
                                                      refine wpAnyH_take (i := 4) (v := ?_) rfl (by kernel_rfl) (by kernel_rfl) (by kernel_rfl) (fun _ _ _ h => h) (Or.inl ⟨by rfl, ?_⟩) (by assumption) ?_
                                                      rotate_left
                                                      · intro w hSw
                                                        try dsimp only at hSw
                                                        go_simp
                                                        try with_reducible rfl
                                                      try simp only [Act.put, List.getElem_toArray, List.getElem_cons_zero, List.getElem_cons_succ, List.setIfInBounds_toArray, List.set_cons_zero, List.set_cons_succ]
                                                      refine wpAnyH_take (i := 5) (v := ?_) rfl (by kernel_rfl) (by kernel_rfl) (by kernel_rfl) (fun _ _ _ h => h) (Or.inl ⟨by rfl, ?_⟩) (by assumption) ?_
                                                      rotate_left
                                                      · intro w hSw
                                                        try dsimp only at hSw
                                                        go_simp
                                                        try with_reducible rfl
                                                      try simp only [Act.put, List.getElem_toArray, List.getElem_cons_zero, List.getElem_cons_succ, List.setIfInBounds_toArray, List.set_cons_zero, List.set_cons_succ]
                                                      refine wpAnyH_take (i := 6) (v := ?_) rfl (by kernel_rfl) (by kernel_rfl) (by kernel_rfl) (fun _ _ _ h => h) (Or.inl ⟨by rfl, ?_⟩) (by assumption) ?_
                                                      rotate_left
                                                      · intro w hSw
                                                        try dsimp only at hSw
                                                        go_simp
                                                        try with_reducible rfl
                                                      try simp only [Act.put, List.getElem_toArray, List.getElem_cons_zero, List.getElem_cons_succ, List.setIfInBounds_toArray, List.set_cons_zero, List.set_cons_succ]
                                                      refine wpAnyH_take (i := 7) (v := ?_) rfl (by kernel_rfl) (by kernel_rfl) (by kernel_rfl) (fun _ _ _ h => h) (Or.inl ⟨by rfl, ?_⟩) (by assumption) ?_
                                                      rotate_left
                                                      · intro w hSw
                                                        try dsimp only at hSw
                                                        go_simp
                                                        try with_reducible rfl
                                                      try simp only [Act.put, List.getElem_toArray, List.getElem_cons_zero, List.getElem_cons_succ, List.setIfInBounds_toArray, List.set_cons_zero, List.set_cons_succ]
                                                      refine wpAnyH_take (i := 8) (v := ?_) rfl (by kernel_rfl) (by kernel_rfl) (by kernel_rfl) (fun _ _ _ h => h) (Or.inl ⟨by rfl, ?_⟩) (by assumption) ?_
                                                      rotate_left
                                                      · intro w hSw
                                                        try dsimp only at hSw
                                                        go_simp
                                                        try with_reducible rfl
                                                      try simp only [Act.put, List.getElem_toArray, List.getElem_cons_zero, List.getElem_cons_succ, List.setIfInBounds_toArray, List.set_cons_zero, List.set_cons_succ]
                                                      refine wpAnyH_take (i := 9) (v := ?_) rfl (by kernel_rfl) (by kernel_rfl) (by kernel_rfl) (fun _ _ _ h => h) (Or.inl ⟨by rfl, ?_⟩) (by assumption) ?_
                                                      rotate_left
                                                      · intro w hSw
                                                        try dsimp only at hSw
                                                        go_simp
                                                        try with_reducible rfl
                                                      try simp only [Act.put, List.getElem_toArray, List.getElem_cons_zero, List.getElem_cons_succ, List.setIfInBounds_toArray, List.set_cons_zero, List.set_cons_succ]
                                                      refine wpAnyH_take (i := 10) (v := ?_) rfl (by kernel_rfl) (by kernel_rfl) (by kernel_rfl) (fun _ _ _ h => h) (Or.inl ⟨by rfl, ?_⟩) (by assumption) ?_
                                                      rotate_left
                                                      · intro w hSw
                                                        try dsimp only at hSw
                                                        go_simp
                                                        try with_reducible rfl
                                                      try simp only [Act.put, List.getElem_toArray, List.getElem_cons_zero, List.getElem_cons_succ, List.setIfInBounds_toArray, List.set_cons_zero, List.set_cons_succ]
                                                      refine wpAnyH_take (i := 11) (v := ?_) rfl (by kernel_rfl) (by kernel_rfl) (by kernel_rfl) (fun _ _ _ h => h) (Or.inl ⟨by rfl, ?_⟩) (by assumption) ?_
                                                      rotate_left
                                                      · intro w hSw
                                                        try dsimp only at hSw
                                                        go_simp
                                                        try with_reducible rfl
                                                      try simp only [Act.put, List.getElem_toArray, List.getElem_cons_zero, List.getElem_cons_succ, List.setIfInBounds_toArray, List.set_cons_zero, List.set_cons_succ]
                                                      refine wpAnyH_take (i := 12) (v := ?_) rfl (by kernel_rfl) (by kernel_rfl) (by kernel_rfl) (fun _ _ _ h => h) (Or.inl ⟨by rfl, ?_⟩) (by assumption) ?_
                                                      rotate_left
                                                      · intro w hSw
                                                        try dsimp only at hSw
                                                        go_simp
                                                        try with_reducible rfl
                                                      try simp only [Act.put, List.getElem_toArray, List.getElem_cons_zero, List.getElem_cons_succ, List.setIfInBounds_toArray, List.set_cons_zero, List.set_cons_succ]
                                                      refine wpAnyH_take (i := 13) (v := ?_) rfl (by kernel_rfl) (by kernel_rfl) (by kernel_rfl) (fun _ _ _ h => h) (Or.inl ⟨by rfl, ?_⟩) (by assumption) ?_
                                                      rotate_left
                                                      · intro w hSw
                                                        try dsimp only at hSw
                                                        go_simp
                                                        try with_reducible rfl
                                                      try simp only [Act.put, List.getElem_toArray, List.getElem_cons_zero, List.getElem_cons_succ, List.setIfInBounds_toArray, List.set_cons_zero, List.set_cons_succ]
                                                      refine wpAnyH_take (i := 14) (v := ?_) rfl (by kernel_rfl) (by kernel_rfl) (by kernel_rfl) (fun _ _ _ h => h) (Or.inl ⟨by rfl, ?_⟩) (by assumption) ?_
                                                      rotate_left
                                                      · intro w hSw
                                                        try dsimp only at hSw
                                                        go_simp
                                                        try with_reducible rfl
                                                      try simp only [Act.put, List.getElem_toArray, List.getElem_cons_zero, List.getElem_cons_succ, List.setIfInBounds_toArray, List.set_cons_zero, List.set_cons_succ]
                                                      refine wpAnyH_take (i := 15) (v := ?_) rfl (by kernel_rfl) (by kernel_rfl) (by kernel_rfl) (fun _ _ _ h => h) (Or.inl ⟨by rfl, ?_⟩) (by assumption) ?_
                                                      rotate_left
                                                      · intro w hSw
                                                        try dsimp only at hSw
                                                        go_simp
                                                        try with_reducible rfl
                                                      try simp only [Act.put, List.getElem_toArray, List.getElem_cons_zero, List.getElem_cons_succ, List.setIfInBounds_toArray, List.set_cons_zero, List.set_cons_succ]
                                                      refine wpAnyH_take (i := 16) (v := ?_) rfl (by kernel_rfl) (by kernel_rfl) (by kernel_rfl) (fun _ _ _ h => h) (Or.inl ⟨by rfl, ?_⟩) (by assumption) ?_
                                                      rotate_left
                                                      · intro w hSw
                                                        try dsimp only at hSw
                                                        go_simp
                                                        try with_reducible rfl
                                                      try simp only [Act.put, List.getElem_toArray, List.getElem_cons_zero, List.getElem_cons_succ, List.setIfInBounds_toArray, List.set_cons_zero, List.set_cons_succ]
                                                      refine wpAnyH_ready (rs := [17]) (by kernel_rfl) (by simp) ?_
                                                      refine AllReadyH.cons rfl (fun K hK => ?_) AllReadyH.nil
                                                      go_simp
                                                      refine hK.out _ _ (by refine HS.out _ ?_; repeat (first | exact HK0.out | refine Kq.drew ?_ | refine Kq.drewN ?_ _ | refine HK6.out _ _ ?_ | refine HKA.out _ _ ?_)) (fun hHeld => ?_)
                                                      clear hK K
                                                      try simp only [Act.put, List.getElem_toArray, List.getElem_cons_zero, List.getElem_cons_succ, List.setIfInBounds_toArray, List.set_cons_zero, List.set_cons_succ]
                                                      refine wpAnyH_ready (rs := [18]) (by kernel_rfl) (by simp) ?_
                                                      refine AllReadyH.cons rfl (fun K hK => ?_) AllReadyH.nil
                                                      go_simp
                                                      go_at_call 12
                                                      refine HTP.out.mono ?_
                                                      rintro e w' ⟨rfl, rfl⟩
                                                      refine hK.out _ _ (by refine HS.out _ ?_; repeat (first | exact HK0.out | refine Kq.drew ?_ | refine Kq.drewN ?_ _ | refine HK6.out _ _ ?_ | refine HKA.out _ _ ?_)) (fun hHeld => ?_)
                                                      clear hK K
                                                      try simp only [Act.put, List.getElem_toArray, List.getElem_cons_zero, List.getElem_cons_succ, List.setIfInBounds_toArray, List.set_cons_zero, List.set_cons_succ]
                                                      refine wpAnyH_take (i := 19) (v := ?_) rfl (by kernel_rfl) (by kernel_rfl) (by kernel_rfl) (fun _ _ _ h => h) (Or.inl ⟨by rfl, ?_⟩) (by assumption) ?_
                                                      rotate_left
                                                      · intro w hSw
                                                        try dsimp only at hSw
                                                        go_simp
                                                        try with_reducible rfl
                                                      try simp only [Act.put, List.getElem_toArray, List.getElem_cons_zero, List.getElem_cons_succ, List.setIfInBounds_toArray, List.set_cons_zero, List.set_cons_succ]
                                                      refine wpAnyH_take (i := 20) (v := ?_) rfl (by kernel_rfl) (by kernel_rfl) (by kernel_rfl) (fun _ _ _ h => h) (Or.inl ⟨by rfl, ?_⟩) (by assumption) ?_
                                                      rotate_left
                                                      · intro w hSw
                                                        try dsimp only at hSw
                                                        go_simp
                                                        try with_reducible rfl
                                                      try simp only [Act.put, List.getElem_toArray, List.getElem_cons_zero, List.getElem_cons_succ, List.setIfInBounds_toArray, List.set_cons_zero, List.set_cons_succ]
                                                      refine wpAnyH_ready (rs := [21]) (by kernel_rfl) (by simp) ?_
                                                      refine AllReadyH.cons rfl (fun K hK => ?_) AllReadyH.nil
                                                      go_simp
                                                      refine hK.out _ _ (by refine HS.out _ ?_; repeat (first | exact HK0.out | refine Kq.drew ?_ | refine Kq.drewN ?_ _ | refine HK6.out _ _ ?_ | refine HKA.out _ _ ?_)) (fun hHeld => ?_)
                                                      clear hK K
                                                      try simp only [Act.put, List.getElem_toArray, List.getElem_cons_zero, List.getElem_cons_succ, List.setIfInBounds_toArray, List.set_cons_zero, List.set_cons_succ]
                                                      refine wpAnyH_done (by kernel_rfl) ?_ _
                                                      go_wp2_with fail
                                                      obtain ⟨V10, hV1⟩ : ∃ w, ((V9.setCell ⟨b6, 0, none⟩ (.bool h2)).setCell ⟨gb, ob + i0 * 4 + 1, none⟩ (.string R)).drew = w := ⟨_, rfl⟩
                                                      obtain ⟨DS, hD2⟩ : ∃ D', (fun b => D b ∨ b = ⟨gb, ob + i0 * 4 + 1, none⟩) = D' := ⟨_, rfl⟩
                                                      have HDM := Lib.hid (show ∀ a, D a → DS a from fun a h => by rw [← hD2]; exact .inl h)
                                                      have HDN := Lib.hid (show DS ⟨gb, ob + i0 * 4 + 1, none⟩ by rw [← hD2]; exact .inr rfl)
                                                      rw [hV1, hD2] at HTI
                                                      rw [hV1] at HCX ⊢
                                                      clear hV1 hD2
                                                      have HT := HTI
                                                      have HCW0 := Lib.hid (HCW.out.then HCX.out)
                                                      have HX0 := Lib.hid (show InB V10 bx #[.int .i64 xk, .string cx, .slice qt nt ct, .slice qe ne ce] 47 from HCX.out.heap HX.out HXB.out)
                                                      have HMS := Lib.hid (fun a h => HDM.out a (HMS.out a h))
                                                      have HSK := Lib.hid (HSK.out.mono HDM.out)
                                                      have HDS := HDN
                                                      have HCI := Lib.hid (Chg.refl (Wr m b6) V10)
                                                      clear k4 r5 hc f0 hlt0 hx6 y1 HTI HCX HTP HS hlx0 hlx1 HDM HDN HX HCW HCW9 HT9
                                                      go_loopw [17] (fun i wr => ∃ (k : Nat) (D : Addr → Prop) (hit : Bool), k ≤ nt ∧ i = .int .i64 k ∧ Hid (TI fr b6 m D hit wr) ∧ Hid (Pos D qt k 1 0) ∧ Hid (∀ a, DS a → D a) ∧ Hid (Chg (Wr m b6) V10 wr)) (fun i _ => nt - (intOf i).toNat)
                                                      case atStart => exact ⟨0, DS, h2, Nat.zero_le _, rfl, HT, Lib.hid Pos.zero, Lib.hid (fun _ h => h), HCI⟩
                                                      case round =>
                                                        as_aux_lemma =>
                                                          clear HT
                                                          obtain ⟨k, D, hit, hk, rfl, HT, HPK, HMK, HCI⟩ := hrel
                                                          obtain ⟨V, h9⟩ : ∃ w, w = wr := ⟨_, rfl⟩
                                                          subst h9
                                                          have HCW := Lib.hid (HCW0.out.then HCI.out)
                                                          have HXV := Lib.hid (show InB V bx #[.int .i64 xk, .string cx, .slice qt nt ct, .slice qe ne ce] 47 from HCI.out.heap HX0.out HXB.out)
                                                          have hbx6 : ¬ bx = b6 := fun e => HXB.out (.inr e)
                                                          have x2 := HXV.out.cell (j := 2) (v := .slice qt nt ct) rfl
                                                          have hxl := HXV.out.lt
                                                          by_cases hlk : k < nt
                                                          · have hk1 : k < X.targets.length := by rw [HNT.out]; exact hlk
                                                            obtain ⟨g2, o2, rfl, a0⟩ := HTC.out k hk1
                                                            have hki : (k : Int) < (nt : Int) := by omega
                                                            obtain ⟨cur, hc, hcc, hct⟩ := HT.out.tw.cur a0
                                                            have f0 := HT.out.free _ _ a0
                                                            have hlt0 := HT.out.lt _ _ a0
                                                            have hx6 : ¬ (g2 = b6) := fun e => mC_ne a0 (by show m g2 = none; rw [e]; exact HT.out.m6)
                                                            obtain ⟨h2, hh2⟩ : ∃ h2, (hit || decide (cur = twN)) = h2 := ⟨_, rfl⟩
                                                            obtain ⟨R, hR⟩ : ∃ R, ren fr twN cur = R := ⟨_, rfl⟩
                                                            have HTI := Lib.hid (show TI fr b6 m (fun b => D b ∨ b = ⟨g2, o2 + k, none⟩) h2 ((V.setCell ⟨b6, 0, none⟩ (.bool h2)).setCell ⟨g2, o2 + k, none⟩ (.string R)).drew by rw [← hh2, ← hR]; exact (HT.out.turn a0 hc hcc hct).drew)
                                                            have HCX := Lib.hid (show Chg (Wr m b6) V ((V.setCell ⟨b6, 0, none⟩ (.bool h2)).setCell ⟨g2, o2 + k, none⟩ (.string R)).drew from (((Chg.refl _ V).setCell (p := ⟨b6, 0, none⟩) (.inl (.inr rfl)) _).setCell (p := ⟨g2, o2 + k, none⟩) (.inl (.inl (mC_ne a0))) _).drew)
                                                            have HTP := Lib.hid (show Calls Tryz.prog 12 #[.string cur, .pointer (some ⟨b6, 0, none⟩), .pointer (some ⟨b3, 0, none⟩)] V.drew fun e w' => e = .returned (.string R) ∧ V.drew.setCell ⟨b6, 0, none⟩ (.bool h2) = w' by rw [← hh2, ← hR]; exact turn_p cur fr hit b6 b3 _ (cell_of HT.out.hit6 rfl) (free_of HT.out.hit6) (HBB.out _ HCW.out).2.2.1 HNE.out.1)
                                                            have HK0 := Lib.hid (show Kq b6 ⟨g2, o2 + k, none⟩ V V from Kq.start hc f0)
                                                            have HK6 := Lib.hid (fun (w : World) (u : Value) (h : Kq b6 ⟨g2, o2 + k, none⟩ V w) => h.six hx6 u)
                                                            have HKA := Lib.hid (fun (w : World) (s : ByteArray) (h : Kq b6 ⟨g2, o2 + k, none⟩ V w) => h.self s)
                                                            have HS := Lib.hid (fun (w : World) (hw : Kq b6 ⟨g2, o2 + k, none⟩ V w) => show w.cell? ⟨bx, 2, none⟩ = some (.slice (some ⟨g2, o2, none⟩) nt ct) ∧ w.cell? ⟨g2, o2 + k, none⟩ = some (.string (nmAt w ⟨g2, o2 + k, none⟩)) ∧ w.frozen? ⟨g2, o2 + k, none⟩ = false from ⟨hw.rd x2 hbx6 hc (fun _ e => by cases e), hw.str, hw.free⟩)
                                                            have hn1 : nmAt V ⟨g2, o2 + k, none⟩ = cur := nmAt_of hc
                                                            have hn2 : nmAt V.drew ⟨g2, o2 + k, none⟩ = cur := nmAt_of hc
                                                            have hlx0 := World.block_lt_of_cell? _ _ x2
                                                            clear hh2 hR hcc hct
                                                            go_wp2_with fail
                                                            refine wp_region_held_drew (S := fun w => w.cell? ⟨bx, 2, none⟩ = some (.slice (some ⟨g2, o2, none⟩) nt ct) ∧ w.cell? ⟨g2, o2 + k, none⟩ = some (.string (nmAt w ⟨g2, o2 + k, none⟩)) ∧ w.frozen? ⟨g2, o2 + k, none⟩ = false) (by kernel_rfl) (HS.out _ (Kq.drew HK0.out)) (fun hHeld => ?_)
                                                            refine wpAnyH_take (i := 0) (v := ?_) rfl (by kernel_rfl) (by kernel_rfl) (by kernel_rfl) (fun _ _ _ h => h) (Or.inl ⟨by rfl, ?_⟩) (by assumption) ?_
                                                            rotate_left
                                                            · intro w hSw
                                                              try dsimp only at hSw
                                                              go_simp
                                                              try with_reducible rfl
                                                            try simp only [Act.put, List.getElem_toArray, List.getElem_cons_zero, List.getElem_cons_succ, List.setIfInBounds_toArray, List.set_cons_zero, List.set_cons_succ]
                                                            refine wpAnyH_take (i := 1) (v := ?_) rfl (by kernel_rfl) (by kernel_rfl) (by kernel_rfl) (fun _ _ _ h => h) (Or.inl ⟨by rfl, ?_⟩) (by assumption) ?_
                                                            rotate_left
                                                            · intro w hSw
                                                              try dsimp only at hSw
                                                              go_simp
                                                              try with_reducible rfl
                                                            try simp only [Act.put, List.getElem_toArray, List.getElem_cons_zero, List.getElem_cons_succ, List.setIfInBounds_toArray, List.set_cons_zero, List.set_cons_succ]
                                                            refine wpAnyH_take (i := 2) (v := ?_) rfl (by kernel_rfl) (by kernel_rfl) (by kernel_rfl) (fun _ _ _ h => h) (Or.inl ⟨by rfl, ?_⟩) (by assumption) ?_
                                                            rotate_left
                                                            · intro w hSw
                                                              try dsimp only at hSw
                                                              go_simp
                                                              try with_reducible rfl
                                                            try simp only [Act.put, List.getElem_toArray, List.getElem_cons_zero, List.getElem_cons_succ, List.setIfInBounds_toArray, List.set_cons_zero, List.set_cons_succ]
                                                            refine wpAnyH_take (i := 3) (v := ?_) rfl (by kernel_rfl) (by kernel_rfl) (by kernel_rfl) (fun _ _ _ h => h) (Or.inl ⟨by rfl, ?_⟩) (by assumption) ?_
                                                            rotate_left
                                                            · intro w hSw
                                                              try dsimp only at hSw
                                                              go_simp
                                                              try with_reducible rfl
                                                            try simp only [Act.put, List.getElem_toArray, List.getElem_cons_zero, List.getElem_cons_succ, List.setIfInBounds_toArray, List.set_cons_zero, List.set_cons_succ]
                                                            refine wpAnyH_take (i := 4) (v := ?_) rfl (by kernel_rfl) (by kernel_rfl) (by kernel_rfl) (fun _ _ _ h => h) (Or.inl ⟨by rfl, ?_⟩) (by assumption) ?_
                                                            rotate_left
                                                            · intro w hSw
                                                              try dsimp only at hSw
                                                              go_simp
                                                              try with_reducible rfl
                                                            try simp only [Act.put, List.getElem_toArray, List.getElem_cons_zero, List.getElem_cons_succ, List.setIfInBounds_toArray, List.set_cons_zero, List.set_cons_succ]
                                                            refine wpAnyH_take (i := 5) (v := ?_) rfl (by kernel_rfl) (by kernel_rfl) (by kernel_rfl) (fun _ _ _ h => h) (Or.inl ⟨by rfl, ?_⟩) (by assumption) ?_
                                                            rotate_left
                                                            · intro w hSw
                                                              try dsimp only at hSw
                                                              go_simp
                                                              try with_reducible rfl
                                                            try simp only [Act.put, List.getElem_toArray, List.getElem_cons_zero, List.getElem_cons_succ, List.setIfInBounds_toArray, List.set_cons_zero, List.set_cons_succ]
                                                            refine wpAnyH_take (i := 6) (v := ?_) rfl (by kernel_rfl) (by kernel_rfl) (by kernel_rfl) (fun _ _ _ h => h) (Or.inl ⟨by rfl, ?_⟩) (by assumption) ?_
                                                            rotate_left
                                                            · intro w hSw
                                                              try dsimp only at hSw
                                                              go_simp
                                                              try with_reducible rfl
                                                            try simp only [Act.put, List.getElem_toArray, List.getElem_cons_zero, List.getElem_cons_succ, List.setIfInBounds_toArray, List.set_cons_zero, List.set_cons_succ]
                                                            refine wpAnyH_take (i := 7) (v := ?_) rfl (by kernel_rfl) (by kernel_rfl) (by kernel_rfl) (fun _ _ _ h => h) (Or.inl ⟨by rfl, ?_⟩) (by assumption) ?_
                                                            rotate_left
                                                            · intro w hSw
                                                              try dsimp only at hSw
                                                              go_simp
                                                              try with_reducible rfl
                                                            try simp only [Act.put, List.getElem_toArray, List.getElem_cons_zero, List.getElem_cons_succ, List.setIfInBounds_toArray, List.set_cons_zero, List.set_cons_succ]
                                                            refine wpAnyH_ready (rs := [8]) (by kernel_rfl) (by simp) ?_
                                                            refine AllReadyH.cons rfl (fun K hK => ?_) AllReadyH.nil
                                                            go_simp
                                                            refine hK.out _ _ (by refine HS.out _ ?_; repeat (first | exact HK0.out | refine Kq.drew ?_ | refine Kq.drewN ?_ _ | refine HK6.out _ _ ?_ | refine HKA.out _ _ ?_)) (fun hHeld => ?_)
                                                            clear hK K
                                                            try simp only [Act.put, List.getElem_toArray, List.getElem_cons_zero, List.getElem_cons_succ, List.setIfInBounds_toArray, List.set_cons_zero, List.set_cons_succ]
                                                            refine wpAnyH_ready (rs := [9]) (by kernel_rfl) (by simp) ?_
                                                            refine AllReadyH.cons rfl (fun K hK => ?_) AllReadyH.nil
                                                            go_simp
                                                            go_at_call 12
                                                            refine HTP.out.mono ?_
                                                            rintro e w' ⟨rfl, rfl⟩
                                                            refine hK.out _ _ (by refine HS.out _ ?_; repeat (first | exact HK0.out | refine Kq.drew ?_ | refine Kq.drewN ?_ _ | refine HK6.out _ _ ?_ | refine HKA.out _ _ ?_)) (fun hHeld => ?_)
                                                            clear hK K
                                                            try simp only [Act.put, List.getElem_toArray, List.getElem_cons_zero, List.getElem_cons_succ, List.setIfInBounds_toArray, List.set_cons_zero, List.set_cons_succ]
                                                            refine wpAnyH_take (i := 10) (v := ?_) rfl (by kernel_rfl) (by kernel_rfl) (by kernel_rfl) (fun _ _ _ h => h) (Or.inl ⟨by rfl, ?_⟩) (by assumption) ?_
                                                            rotate_left
                                                            · intro w hSw
                                                              try dsimp only at hSw
                                                              go_simp
                                                              try with_reducible rfl
                                                            try simp only [Act.put, List.getElem_toArray, List.getElem_cons_zero, List.getElem_cons_succ, List.setIfInBounds_toArray, List.set_cons_zero, List.set_cons_succ]
                                                            refine wpAnyH_ready (rs := [11]) (by kernel_rfl) (by simp) ?_
                                                            refine AllReadyH.cons rfl (fun K hK => ?_) AllReadyH.nil
                                                            go_simp
                                                            refine hK.out _ _ (by refine HS.out _ ?_; repeat (first | exact HK0.out | refine Kq.drew ?_ | refine Kq.drewN ?_ _ | refine HK6.out _ _ ?_ | refine HKA.out _ _ ?_)) (fun hHeld => ?_)
                                                            clear hK K
                                                            try simp only [Act.put, List.getElem_toArray, List.getElem_cons_zero, List.getElem_cons_succ, List.setIfInBounds_toArray, List.set_cons_zero, List.set_cons_succ]
                                                            refine wpAnyH_done (by kernel_rfl) ?_ _
                                                            go_wp2_with fail
                                                            exact ⟨⟨k + 1, fun b => D b ∨ b = ⟨g2, o2 + k, none⟩, h2, by omega, by go_num, HTI, Lib.hid HPK.out.snoc1, Lib.hid (fun a h => .inl (HMK.out a h)), Lib.hid (HCI.out.then HCX.out)⟩, by simp [intOf]; omega⟩
                                                          · obtain rfl : nt = k := by omega
                                                            obtain ⟨DT, hD⟩ : ∃ D', D' = D := ⟨_, rfl⟩
                                                            subst hD
                                                            have HPT := HPK
                                                            have HMS := Lib.hid (fun a h => HMK.out a (HMS.out a h))
                                                            have HSK := Lib.hid (HSK.out.mono HMK.out)
                                                            have HDS := Lib.hid (HMK.out _ HDS.out)
                                                            go_wp2_with fail
                                                            clear x2 hxl hlk hk HPK HMK HCW HXV hbx6
                                                            go_loopw [18] (fun i wr => ∃ (e0 : Nat) (D : Addr → Prop) (hit : Bool), e0 ≤ ne ∧ i = .int .i64 e0 ∧ Hid (TI fr b6 m D hit wr) ∧ Hid (ExK D (mC m) qe X.exprs e0) ∧ Hid (∀ a, DT a → D a) ∧ Hid (Chg (Wr m b6) V10 wr)) (fun i _ => ne - (intOf i).toNat)
                                                            case atStart => exact ⟨0, DT, hit, Nat.zero_le _, rfl, HT, Lib.hid ExK.zero, Lib.hid (fun _ h => h), HCI⟩
                                                            case round =>
                                                              as_aux_lemma =>
                                                                clear HT HCI
                                                                obtain ⟨e0, D, hit, he0, rfl, HT, HEK, HME, HCI⟩ := hrel
                                                                obtain ⟨V, h9⟩ : ∃ w, w = wr := ⟨_, rfl⟩
                                                                subst h9
                                                                have HXV := Lib.hid (show InB V bx #[.int .i64 xk, .string cx, .slice qt nt ct, .slice qe ne ce] 47 from HCI.out.heap HX0.out HXB.out)
                                                                have x3 := HXV.out.cell (j := 3) (v := .slice qe ne ce) rfl
                                                                have hxl := HXV.out.lt
                                                                by_cases hle : e0 < ne
                                                                · as_aux_lemma =>
                                                                    have hi1 : e0 < X.exprs.length := by rw [HNX.out]; exact hle
                                                                    obtain ⟨ge, oe, qx, cxx, rfl, z0, hx⟩ := HEC.out e0 hi1
                                                                    have hlx := slx_len hx
                                                                    have HXC := Lib.hid hx.cells
                                                                    obtain ⟨ex, hex⟩ : ∃ ex, X.exprs[e0] = ex := ⟨_, rfl⟩
                                                                    have HEX := Lib.hid (show ∀ hk : e0 < X.exprs.length, X.exprs[e0] = ex from fun _ => hex)
                                                                    rw [hex] at z0 hlx HXC
                                                                    clear hx hex hi1
                                                                    obtain ⟨nx, hnx⟩ : ∃ n, ex.length = n := ⟨_, rfl⟩
                                                                    rw [hnx] at hlx z0
                                                                    have HNXX := Lib.hid hnx
                                                                    have HZ0 := Lib.hid z0
                                                                    have HGE := Lib.hid (show ¬ ge = b6 from fun e => mC_ne z0 (by show m ge = none; rw [e]; exact HT.out.m6))
                                                                    have hlx' : nx < 9223372036854775807 := by omega
                                                                    clear hnx hlx z0
                                                                    have hei : (e0 : Int) < (ne : Int) := by omega
                                                                    go_wp2_with fail
                                                                    clear x3 hxl HXV
                                                                    go_loopw [19] (fun i wr => ∃ (k : Nat) (D2 : Addr → Prop) (hit : Bool), k ≤ nx ∧ i = .int .i64 k ∧ Hid (TI fr b6 m D2 hit wr) ∧ Hid (Pos D2 qx k 3 2) ∧ Hid (∀ a, D a → D2 a) ∧ Hid (Chg (Wr m b6) V10 wr)) (fun i _ => nx - (intOf i).toNat)
                                                                    case atStart => exact ⟨0, D, hit, Nat.zero_le _, rfl, HT, Lib.hid Pos.zero, Lib.hid (fun _ h => h), HCI⟩
                                                                    case round =>
                                                                      as_aux_lemma =>
                                                                        clear HT HCI
                                                                        obtain ⟨k, D2, hit, hk, rfl, HT, HPK, HMK, HCI⟩ := hrel
                                                                        obtain ⟨V, h9⟩ : ∃ w, w = wr := ⟨_, rfl⟩
                                                                        subst h9
                                                                        have HCW := Lib.hid (HCW0.out.then HCI.out)
                                                                        have HXV := Lib.hid (show InB V bx #[.int .i64 xk, .string cx, .slice qt nt ct, .slice (some ⟨ge, oe, none⟩) ne ce] 47 from HCI.out.heap HX0.out HXB.out)
                                                                        have hbx6 : ¬ bx = b6 := fun e => HXB.out (.inr e)
                                                                        have x3 := HXV.out.cell (j := 3) (v := .slice (some ⟨ge, oe, none⟩) ne ce) rfl
                                                                        have hxl := HXV.out.lt
                                                                        have z0 := HT.out.tw.other HZ0.out (fun _ e => by cases e)
                                                                        have hgl := World.block_lt_of_cell? _ _ z0
                                                                        by_cases hlk : k < nx
                                                                        · have hk1 : k < ex.length := by rw [HNXX.out]; exact hlk
                                                                          obtain ⟨g2, o2, rfl, -, -, a0⟩ := HXC.out k hk1
                                                                          have hki : (k : Int) < (nx : Int) := by omega
                                                                          obtain ⟨cur, hc, hcc, hct⟩ := HT.out.tw.cur a0
                                                                          have f0 := HT.out.free _ _ a0
                                                                          have hlt0 := HT.out.lt _ _ a0
                                                                          have hx6 : ¬ (g2 = b6) := fun e => mC_ne a0 (by show m g2 = none; rw [e]; exact HT.out.m6)
                                                                          obtain ⟨h2, hh2⟩ : ∃ h2, (hit || decide (cur = twN)) = h2 := ⟨_, rfl⟩
                                                                          obtain ⟨R, hR⟩ : ∃ R, ren fr twN cur = R := ⟨_, rfl⟩
                                                                          have HTI := Lib.hid (show TI fr b6 m (fun b => D2 b ∨ b = ⟨g2, o2 + k * 3 + 2, none⟩) h2 ((V.setCell ⟨b6, 0, none⟩ (.bool h2)).setCell ⟨g2, o2 + k * 3 + 2, none⟩ (.string R)).drew by rw [← hh2, ← hR]; exact (HT.out.turn a0 hc hcc hct).drew)
                                                                          have HCX := Lib.hid (show Chg (Wr m b6) V ((V.setCell ⟨b6, 0, none⟩ (.bool h2)).setCell ⟨g2, o2 + k * 3 + 2, none⟩ (.string R)).drew from (((Chg.refl _ V).setCell (p := ⟨b6, 0, none⟩) (.inl (.inr rfl)) _).setCell (p := ⟨g2, o2 + k * 3 + 2, none⟩) (.inl (.inl (mC_ne a0))) _).drew)
                                                                          have HTP := Lib.hid (show Calls Tryz.prog 12 #[.string cur, .pointer (some ⟨b6, 0, none⟩), .pointer (some ⟨b3, 0, none⟩)] V.drew fun e w' => e = .returned (.string R) ∧ V.drew.setCell ⟨b6, 0, none⟩ (.bool h2) = w' by rw [← hh2, ← hR]; exact turn_p cur fr hit b6 b3 _ (cell_of HT.out.hit6 rfl) (free_of HT.out.hit6) (HBB.out _ HCW.out).2.2.1 HNE.out.1)
                                                                          have HK0 := Lib.hid (show Kq b6 ⟨g2, o2 + k * 3 + 2, none⟩ V V from Kq.start hc f0)
                                                                          have HK6 := Lib.hid (fun (w : World) (u : Value) (h : Kq b6 ⟨g2, o2 + k * 3 + 2, none⟩ V w) => h.six hx6 u)
                                                                          have HKA := Lib.hid (fun (w : World) (s : ByteArray) (h : Kq b6 ⟨g2, o2 + k * 3 + 2, none⟩ V w) => h.self s)
                                                                          have HS := Lib.hid (fun (w : World) (hw : Kq b6 ⟨g2, o2 + k * 3 + 2, none⟩ V w) => show w.cell? ⟨bx, 3, none⟩ = some (.slice (some ⟨ge, oe, none⟩) ne ce) ∧ w.cell? ⟨ge, oe + e0, none⟩ = some (.slice (some ⟨g2, o2, none⟩) nx cxx) ∧ w.cell? ⟨g2, o2 + k * 3 + 2, none⟩ = some (.string (nmAt w ⟨g2, o2 + k * 3 + 2, none⟩)) ∧ w.frozen? ⟨g2, o2 + k * 3 + 2, none⟩ = false from ⟨hw.rd x3 hbx6 hc (fun _ e => by cases e), hw.rd z0 HGE.out hc (fun _ e => by cases e), hw.str, hw.free⟩)
                                                                          have hn1 : nmAt V ⟨g2, o2 + k * 3 + 2, none⟩ = cur := nmAt_of hc
                                                                          have hn2 : nmAt V.drew ⟨g2, o2 + k * 3 + 2, none⟩ = cur := nmAt_of hc
                                                                          have hlx0 := World.block_lt_of_cell? _ _ x3
                                                                          have hlx1 := World.block_lt_of_cell? _ _ z0
                                                                          clear hh2 hR hcc hct
                                                                          go_wp2_with fail
                                                                          refine wp_region_held_drew (S := fun w => w.cell? ⟨bx, 3, none⟩ = some (.slice (some ⟨ge, oe, none⟩) ne ce) ∧ w.cell? ⟨ge, oe + e0, none⟩ = some (.slice (some ⟨g2, o2, none⟩) nx cxx) ∧ w.cell? ⟨g2, o2 + k * 3 + 2, none⟩ = some (.string (nmAt w ⟨g2, o2 + k * 3 + 2, none⟩)) ∧ w.frozen? ⟨g2, o2 + k * 3 + 2, none⟩ = false) (by kernel_rfl) (HS.out _ (Kq.drew HK0.out)) (fun hHeld => ?_)
                                                                          refine wpAnyH_take (i := 0) (v := ?_) rfl (by kernel_rfl) (by kernel_rfl) (by kernel_rfl) (fun _ _ _ h => h) (Or.inl ⟨by rfl, ?_⟩) (by assumption) ?_
                                                                          rotate_left
                                                                          · intro w hSw
                                                                            try dsimp only at hSw
                                                                            go_simp
                                                                            try with_reducible rfl
                                                                          try simp only [Act.put, List.getElem_toArray, List.getElem_cons_zero, List.getElem_cons_succ, List.setIfInBounds_toArray, List.set_cons_zero, List.set_cons_succ]
                                                                          refine wpAnyH_take (i := 1) (v := ?_) rfl (by kernel_rfl) (by kernel_rfl) (by kernel_rfl) (fun _ _ _ h => h) (Or.inl ⟨by rfl, ?_⟩) (by assumption) ?_
                                                                          rotate_left
                                                                          · intro w hSw
                                                                            try dsimp only at hSw
                                                                            go_simp
                                                                            try with_reducible rfl
                                                                          try simp only [Act.put, List.getElem_toArray, List.getElem_cons_zero, List.getElem_cons_succ, List.setIfInBounds_toArray, List.set_cons_zero, List.set_cons_succ]
                                                                          refine wpAnyH_take (i := 2) (v := ?_) rfl (by kernel_rfl) (by kernel_rfl) (by kernel_rfl) (fun _ _ _ h => h) (Or.inl ⟨by rfl, ?_⟩) (by assumption) ?_
                                                                          rotate_left
                                                                          · intro w hSw
                                                                            try dsimp only at hSw
                                                                            go_simp
                                                                            try with_reducible rfl
                                                                          try simp only [Act.put, List.getElem_toArray, List.getElem_cons_zero, List.getElem_cons_succ, List.setIfInBounds_toArray, List.set_cons_zero, List.set_cons_succ]
                                                                          refine wpAnyH_take (i := 3) (v := ?_) rfl (by kernel_rfl) (by kernel_rfl) (by kernel_rfl) (fun _ _ _ h => h) (Or.inl ⟨by rfl, ?_⟩) (by assumption) ?_
                                                                          rotate_left
                                                                          · intro w hSw
                                                                            try dsimp only at hSw
                                                                            go_simp
                                                                            try with_reducible rfl
                                                                          try simp only [Act.put, List.getElem_toArray, List.getElem_cons_zero, List.getElem_cons_succ, List.setIfInBounds_toArray, List.set_cons_zero, List.set_cons_succ]
                                                                          refine wpAnyH_take (i := 4) (v := ?_) rfl (by kernel_rfl) (by kernel_rfl) (by kernel_rfl) (fun _ _ _ h => h) (Or.inl ⟨by rfl, ?_⟩) (by assumption) ?_
                                                                          rotate_left
                                                                          · intro w hSw
                                                                            try dsimp only at hSw
                                                                            go_simp
                                                                            try with_reducible rfl
                                                                          try simp only [Act.put, List.getElem_toArray, List.getElem_cons_zero, List.getElem_cons_succ, List.setIfInBounds_toArray, List.set_cons_zero, List.set_cons_succ]
                                                                          refine wpAnyH_take (i := 5) (v := ?_) rfl (by kernel_rfl) (by kernel_rfl) (by kernel_rfl) (fun _ _ _ h => h) (Or.inl ⟨by rfl, ?_⟩) (by assumption) ?_
                                                                          rotate_left
                                                                          · intro w hSw
                                                                            try dsimp only at hSw
                                                                            go_simp
                                                                            try with_reducible rfl
                                                                          try simp only [Act.put, List.getElem_toArray, List.getElem_cons_zero, List.getElem_cons_succ, List.setIfInBounds_toArray, List.set_cons_zero, List.set_cons_succ]
                                                                          refine wpAnyH_take (i := 6) (v := ?_) rfl (by kernel_rfl) (by kernel_rfl) (by kernel_rfl) (fun _ _ _ h => h) (Or.inl ⟨by rfl, ?_⟩) (by assumption) ?_
                                                                          rotate_left
                                                                          · intro w hSw
                                                                            try dsimp only at hSw
                                                                            go_simp
                                                                            try with_reducible rfl
                                                                          try simp only [Act.put, List.getElem_toArray, List.getElem_cons_zero, List.getElem_cons_succ, List.setIfInBounds_toArray, List.set_cons_zero, List.set_cons_succ]
                                                                          refine wpAnyH_take (i := 7) (v := ?_) rfl (by kernel_rfl) (by kernel_rfl) (by kernel_rfl) (fun _ _ _ h => h) (Or.inl ⟨by rfl, ?_⟩) (by assumption) ?_
                                                                          rotate_left
                                                                          · intro w hSw
                                                                            try dsimp only at hSw
                                                                            go_simp
                                                                            try with_reducible rfl
                                                                          try simp only [Act.put, List.getElem_toArray, List.getElem_cons_zero, List.getElem_cons_succ, List.setIfInBounds_toArray, List.set_cons_zero, List.set_cons_succ]
                                                                          refine wpAnyH_take (i := 8) (v := ?_) rfl (by kernel_rfl) (by kernel_rfl) (by kernel_rfl) (fun _ _ _ h => h) (Or.inl ⟨by rfl, ?_⟩) (by assumption) ?_
                                                                          rotate_left
                                                                          · intro w hSw
                                                                            try dsimp only at hSw
                                                                            go_simp
                                                                            try with_reducible rfl
                                                                          try simp only [Act.put, List.getElem_toArray, List.getElem_cons_zero, List.getElem_cons_succ, List.setIfInBounds_toArray, List.set_cons_zero, List.set_cons_succ]
                                                                          refine wpAnyH_take (i := 9) (v := ?_) rfl (by kernel_rfl) (by kernel_rfl) (by kernel_rfl) (fun _ _ _ h => h) (Or.inl ⟨by rfl, ?_⟩) (by assumption) ?_
                                                                          rotate_left
                                                                          · intro w hSw
                                                                            try dsimp only at hSw
                                                                            go_simp
                                                                            try with_reducible rfl
                                                                          try simp only [Act.put, List.getElem_toArray, List.getElem_cons_zero, List.getElem_cons_succ, List.setIfInBounds_toArray, List.set_cons_zero, List.set_cons_succ]
                                                                          refine wpAnyH_take (i := 10) (v := ?_) rfl (by kernel_rfl) (by kernel_rfl) (by kernel_rfl) (fun _ _ _ h => h) (Or.inl ⟨by rfl, ?_⟩) (by assumption) ?_
                                                                          rotate_left
                                                                          · intro w hSw
                                                                            try dsimp only at hSw
                                                                            go_simp
                                                                            try with_reducible rfl
                                                                          try simp only [Act.put, List.getElem_toArray, List.getElem_cons_zero, List.getElem_cons_succ, List.setIfInBounds_toArray, List.set_cons_zero, List.set_cons_succ]
                                                                          refine wpAnyH_take (i := 11) (v := ?_) rfl (by kernel_rfl) (by kernel_rfl) (by kernel_rfl) (fun _ _ _ h => h) (Or.inl ⟨by rfl, ?_⟩) (by assumption) ?_
                                                                          rotate_left
                                                                          · intro w hSw
                                                                            try dsimp only at hSw
                                                                            go_simp
                                                                            try with_reducible rfl
                                                                          try simp only [Act.put, List.getElem_toArray, List.getElem_cons_zero, List.getElem_cons_succ, List.setIfInBounds_toArray, List.set_cons_zero, List.set_cons_succ]
                                                                          refine wpAnyH_take (i := 12) (v := ?_) rfl (by kernel_rfl) (by kernel_rfl) (by kernel_rfl) (fun _ _ _ h => h) (Or.inl ⟨by rfl, ?_⟩) (by assumption) ?_
                                                                          rotate_left
                                                                          · intro w hSw
                                                                            try dsimp only at hSw
                                                                            go_simp
                                                                            try with_reducible rfl
                                                                          try simp only [Act.put, List.getElem_toArray, List.getElem_cons_zero, List.getElem_cons_succ, List.setIfInBounds_toArray, List.set_cons_zero, List.set_cons_succ]
                                                                          refine wpAnyH_take (i := 13) (v := ?_) rfl (by kernel_rfl) (by kernel_rfl) (by kernel_rfl) (fun _ _ _ h => h) (Or.inl ⟨by rfl, ?_⟩) (by assumption) ?_
                                                                          rotate_left
                                                                          · intro w hSw
                                                                            try dsimp only at hSw
                                                                            go_simp
                                                                            try with_reducible rfl
                                                                          try simp only [Act.put, List.getElem_toArray, List.getElem_cons_zero, List.getElem_cons_succ, List.setIfInBounds_toArray, List.set_cons_zero, List.set_cons_succ]
                                                                          refine wpAnyH_take (i := 14) (v := ?_) rfl (by kernel_rfl) (by kernel_rfl) (by kernel_rfl) (fun _ _ _ h => h) (Or.inl ⟨by rfl, ?_⟩) (by assumption) ?_
                                                                          rotate_left
                                                                          · intro w hSw
                                                                            try dsimp only at hSw
                                                                            go_simp
                                                                            try with_reducible rfl
                                                                          try simp only [Act.put, List.getElem_toArray, List.getElem_cons_zero, List.getElem_cons_succ, List.setIfInBounds_toArray, List.set_cons_zero, List.set_cons_succ]
                                                                          refine wpAnyH_ready (rs := [15]) (by kernel_rfl) (by simp) ?_
                                                                          refine AllReadyH.cons rfl (fun K hK => ?_) AllReadyH.nil
                                                                          go_simp
                                                                          refine hK.out _ _ (by refine HS.out _ ?_; repeat (first | exact HK0.out | refine Kq.drew ?_ | refine Kq.drewN ?_ _ | refine HK6.out _ _ ?_ | refine HKA.out _ _ ?_)) (fun hHeld => ?_)
                                                                          clear hK K
                                                                          try simp only [Act.put, List.getElem_toArray, List.getElem_cons_zero, List.getElem_cons_succ, List.setIfInBounds_toArray, List.set_cons_zero, List.set_cons_succ]
                                                                          refine wpAnyH_ready (rs := [16]) (by kernel_rfl) (by simp) ?_
                                                                          refine AllReadyH.cons rfl (fun K hK => ?_) AllReadyH.nil
                                                                          go_simp
                                                                          go_at_call 12
                                                                          refine HTP.out.mono ?_
                                                                          rintro e w' ⟨rfl, rfl⟩
                                                                          refine hK.out _ _ (by refine HS.out _ ?_; repeat (first | exact HK0.out | refine Kq.drew ?_ | refine Kq.drewN ?_ _ | refine HK6.out _ _ ?_ | refine HKA.out _ _ ?_)) (fun hHeld => ?_)
                                                                          clear hK K
                                                                          try simp only [Act.put, List.getElem_toArray, List.getElem_cons_zero, List.getElem_cons_succ, List.setIfInBounds_toArray, List.set_cons_zero, List.set_cons_succ]
                                                                          refine wpAnyH_take (i := 17) (v := ?_) rfl (by kernel_rfl) (by kernel_rfl) (by kernel_rfl) (fun _ _ _ h => h) (Or.inl ⟨by rfl, ?_⟩) (by assumption) ?_
                                                                          rotate_left
                                                                          · intro w hSw
                                                                            try dsimp only at hSw
                                                                            go_simp
                                                                            try with_reducible rfl
                                                                          try simp only [Act.put, List.getElem_toArray, List.getElem_cons_zero, List.getElem_cons_succ, List.setIfInBounds_toArray, List.set_cons_zero, List.set_cons_succ]
                                                                          refine wpAnyH_take (i := 18) (v := ?_) rfl (by kernel_rfl) (by kernel_rfl) (by kernel_rfl) (fun _ _ _ h => h) (Or.inl ⟨by rfl, ?_⟩) (by assumption) ?_
                                                                          rotate_left
                                                                          · intro w hSw
                                                                            try dsimp only at hSw
                                                                            go_simp
                                                                            try with_reducible rfl
                                                                          try simp only [Act.put, List.getElem_toArray, List.getElem_cons_zero, List.getElem_cons_succ, List.setIfInBounds_toArray, List.set_cons_zero, List.set_cons_succ]
                                                                          refine wpAnyH_ready (rs := [19]) (by kernel_rfl) (by simp) ?_
                                                                          refine AllReadyH.cons rfl (fun K hK => ?_) AllReadyH.nil
                                                                          go_simp
                                                                          refine hK.out _ _ (by refine HS.out _ ?_; repeat (first | exact HK0.out | refine Kq.drew ?_ | refine Kq.drewN ?_ _ | refine HK6.out _ _ ?_ | refine HKA.out _ _ ?_)) (fun hHeld => ?_)
                                                                          clear hK K
                                                                          try simp only [Act.put, List.getElem_toArray, List.getElem_cons_zero, List.getElem_cons_succ, List.setIfInBounds_toArray, List.set_cons_zero, List.set_cons_succ]
                                                                          refine wpAnyH_done (by kernel_rfl) ?_ _
                                                                          go_wp2_with fail
                                                                          exact ⟨⟨k + 1, fun b => D2 b ∨ b = ⟨g2, o2 + k * 3 + 2, none⟩, h2, by omega, by go_num, HTI, Lib.hid HPK.out.snoc, Lib.hid (fun a h => .inl (HMK.out a h)), Lib.hid (HCI.out.then HCX.out)⟩, by simp [intOf]; omega⟩
                                                                        · obtain rfl : nx = k := by omega
                                                                          have HEE := Lib.hid (show ∀ hk : e0 < X.exprs.length, ∀ qt ct, mC m ⟨ge, oe + e0, none⟩ = some (.slice qt X.exprs[e0].length ct) → Pos D2 qt X.exprs[e0].length 3 2 from fun hk qt ct hL => by
                                                                            rw [HEX.out hk, HNXX.out] at hL ⊢
                                                                            have h9 := HZ0.out.symm.trans hL
                                                                            injection h9 with h9
                                                                            injection h9 with h9
                                                                            rw [← h9]; exact HPK.out)
                                                                          have HEK2 := Lib.hid ((HEK.out.mono HMK.out).snoc HEE.out)
                                                                          have HME2 := Lib.hid (fun a h => HMK.out a (HME.out a h))
                                                                          go_wp2
                                                                          exact ⟨⟨e0 + 1, D2, hit, by omega, by go_num, HT, HEK2, HME2, HCI⟩, by simp [intOf]; omega⟩
                                                                · obtain rfl : ne = e0 := by omega
                                                                  have HST := Lib.hid (show ∀ hk : i0 < F.body.length, StI D (mC m) gb (ob + i0 * 4) F.body[i0] from fun hk => by
                                                                    rw [HXX.out hk]
                                                                    refine ⟨HME.out _ HDS.out, fun qt' ct' hL => ?_, fun qe' ce' hL => ?_⟩
                                                                    · rw [HNT.out] at hL ⊢
                                                                      have h9 := HY2.out.symm.trans hL
                                                                      injection h9 with h9
                                                                      injection h9 with h9
                                                                      rw [← h9]; exact HPT.out.mono HME.out
                                                                    · rw [HNX.out] at hL
                                                                      have h9 := HY3.out.symm.trans hL
                                                                      injection h9 with h9
                                                                      injection h9 with h9
                                                                      rw [← h9]
                                                                      have h8 := HEK.out
                                                                      rw [← HNX.out] at h8
                                                                      exact h8.all)
                                                                  have HSK2 := Lib.hid ((HSK.out.mono HME.out).snoc HST.out)
                                                                  have HMS2 := Lib.hid (fun a h => HME.out a (HMS.out a h))
                                                                  have HCW2 := Lib.hid (HCW0.out.then HCI.out)
                                                                  go_wp2
                                                                  exact ⟨⟨i0 + 1, D, hit, by omega, by go_num, HT, HSK2, HMS2, HCW2⟩, by simp [intOf]; omega⟩
                                                  · obtain rfl : nb = i0 := by omega
                                                    have HFI := Lib.hid (show ∀ hk : j < s.funcs.length, FnI D (mC m) g (o + j * 6) s.funcs[j] from fun hk => by
                                                      rw [HFF.out hk]
                                                      refine ⟨HMS.out _ HDA.out, fun qt' ct' hL => ?_, fun qt' ct' hL => ?_, fun qb' cb' hL => ?_⟩
                                                      · rw [HNP.out] at hL ⊢
                                                        have h9 := HA2.out.symm.trans hL
                                                        injection h9 with h9
                                                        injection h9 with h9
                                                        rw [← h9]; exact HPP.out.mono HMS.out
                                                      · rw [HNV.out] at hL ⊢
                                                        have h9 := HA4.out.symm.trans hL
                                                        injection h9 with h9
                                                        injection h9 with h9
                                                        rw [← h9]; exact HPV.out.mono HMS.out
                                                      · rw [HNB.out] at hL
                                                        have h9 := HA5.out.symm.trans hL
                                                        injection h9 with h9
                                                        injection h9 with h9
                                                        rw [← h9]
                                                        have h8 := HSK.out
                                                        rw [← HNB.out] at h8
                                                        exact h8.all)
                                                    have HFK2 := Lib.hid ((HFK.out.mono HMS.out).snoc HFI.out)
                                                    have HM2 := Lib.hid (fun a h => HMS.out a (HM.out a h))
                                                    go_wp2
                                                    exact ⟨⟨j + 1, D, hit, by omega, by go_num, HT, HFK2, HM2, HCW⟩, by simp [intOf]; omega⟩
                              · obtain rfl : n5 = j := by omega
                                have h6 := cell_of (j := 0) HT.out.hit6 rfl
                                have hl6 := cell_lt h6
                                cases hit
                                case true =>
                                  have HB5 := Lib.hid (HBB.out _ HCW.out).2.2.2.2
                                  go_wp2_with fail
                                  go_quiet (fail)
                                  go_wp2
                                  try go_ret
                                  exact ⟨rfl, bl_dN HB5.out _⟩
                                obtain ⟨hi5, hi0, -, hHP, hBW⟩ := HBB.out _ HCW.out
                                have hT := HT.out.tw
                                have g2 := des_tw hT HS2.out (by rw [HN2.out]; exact HhPG.out.mono (fun a h => HM.out a (HM3.out a (HM2.out a h))))
                                have g3 := ars_tw hT HS3.out (by rw [HN3.out]; exact HhPA.out.mono (fun a h => HM.out a (HM3.out a h)))
                                have g4 := des_tw hT HS4.out (by rw [HN4.out]; exact HhPC.out.mono HM.out)
                                have g5 := fns_tw hT HS5.out (by
                                  have h8 := HFK.out
                                  rw [← HN5.out] at h8
                                  exact h8.all)
                                have g1 := slx_weak (StrR.le HS1.out (has_cle hHP))
                                have e1 : (rnS fr twN s).principals.length = n1 := HN1.out
                                have e2 : (rnS fr twN s).globals.length = n2 := (List.length_map ..).trans HN2.out
                                have e3 : (rnS fr twN s).arrays.length = n3 := (List.length_map ..).trans HN3.out
                                have e4 : (rnS fr twN s).channels.length = n4 := (List.length_map ..).trans HN4.out
                                have e5 : (rnS fr twN s).funcs.length = n5 := (List.length_map ..).trans HN5.out
                                have hO : SrcO false (wC V) (rnS fr twN s) p1 d1 p2 d2 p3 d3 p4 d4 p5 d5 := ⟨by rw [e1]; exact g1, by rw [e2]; exact g2.1, by rw [e3]; exact g3.1, by rw [e4]; exact g4.1, by rw [e5]; exact g5.1⟩
                                have hav : avS twN s := ⟨g2.2, g3.2, g4.2, g5.2⟩
                                have hsm2 : SmallZ (rnS fr twN s) := by
                                  intro d hd x hx
                                  obtain ⟨d', h1, rfl⟩ := List.mem_map.1 hd
                                  obtain ⟨x', h2, rfl⟩ := List.mem_map.1 hx
                                  have := HSM.out d' h1 x' h2
                                  simpa [rnX] using this
                                have HC2 := fun (w : World) (hb : Below V.heap.size V w) => check_p (W := w) hO (below_cle hb) hsm2
                                unfold srV at HC2
                                rw [e1, e2, e3, e4, e5, chk_ren HNF.out nmTw nstZ hav] at HC2
                                have HCC := Lib.hid (fun (w : World) (hb : Below V.heap.size V w) (a : Value) (ha : a = .agg #[.slice q1 n1 c1, .slice q2 n2 c2, .slice q3 n3 c3, .slice q4 n4 c4, .slice q5 n5 c5] ∨ a = .agg #[.slice p1 n1 d1, .slice p2 n2 d2, .slice p3 n3 d3, .slice p4 n4 d4, .slice p5 n5 d5]) => show Calls Tryz.prog 6 #[a] w (RetB (.agg (flA (chkZ nstZ s))) w) from by
                                  rcases ha with rfl | rfl
                                  · exact HCK.out w (bl_tr hBW hb)
                                  · exact HC2 w hb)
                                have HB5 := Lib.hid hBW
                                have HSS := Lib.hid (fun (w : World) (hb : Below V.heap.size V w) => show w.cell? ⟨b, 0, none⟩ = some (.slice q1 n1 c1) ∧ w.cell? ⟨b, 1, none⟩ = some (.slice q2 n2 c2) ∧ w.cell? ⟨b, 2, none⟩ = some (.slice q3 n3 c3) ∧ w.cell? ⟨b, 3, none⟩ = some (.slice q4 n4 c4) ∧ w.cell? ⟨b, 4, none⟩ = some (.slice q5 n5 c5) ∧ w.cell? ⟨b5, 0, none⟩ = some (.slice p1 n1 d1) ∧ w.cell? ⟨b5, 1, none⟩ = some (.slice p2 n2 d2) ∧ w.cell? ⟨b5, 2, none⟩ = some (.slice p3 n3 d3) ∧ w.cell? ⟨b5, 3, none⟩ = some (.slice p4 n4 d4) ∧ w.cell? ⟨b5, 4, none⟩ = some (.slice p5 n5 d5) ∧ w.cell? ⟨b6, 0, none⟩ = some (.bool false) from
                                  ⟨(InB.le hi0 hb).cell rfl, (InB.le hi0 hb).cell rfl, (InB.le hi0 hb).cell rfl, (InB.le hi0 hb).cell rfl, (InB.le hi0 hb).cell rfl, (InB.le hi5 hb).cell rfl, (InB.le hi5 hb).cell rfl, (InB.le hi5 hb).cell rfl, (InB.le hi5 hb).cell rfl, (InB.le hi5 hb).cell rfl, cell_b h6 hb⟩)
                                clear hi5 hi0 hHP hBW hT g1 g2 g3 g4 g5 e1 e2 e3 e4 e5 hO hav hsm2 HC2 h6 hl6
                                generalize chkZ nstZ s = R at *
                                obtain ⟨ra, rb, rc⟩ := R
                                unfold flA at HCC
                                simp only at HCC
                                go_wp2_with fail
                                go_region_held_law (fun w => w.cell? ⟨b, 0, none⟩ = some (.slice q1 n1 c1) ∧ w.cell? ⟨b, 1, none⟩ = some (.slice q2 n2 c2) ∧ w.cell? ⟨b, 2, none⟩ = some (.slice q3 n3 c3) ∧ w.cell? ⟨b, 3, none⟩ = some (.slice q4 n4 c4) ∧ w.cell? ⟨b, 4, none⟩ = some (.slice q5 n5 c5) ∧ w.cell? ⟨b5, 0, none⟩ = some (.slice p1 n1 d1) ∧ w.cell? ⟨b5, 1, none⟩ = some (.slice p2 n2 d2) ∧ w.cell? ⟨b5, 2, none⟩ = some (.slice p3 n3 d3) ∧ w.cell? ⟨b5, 3, none⟩ = some (.slice p4 n4 d4) ∧ w.cell? ⟨b5, 4, none⟩ = some (.slice p5 n5 d5) ∧ w.cell? ⟨b6, 0, none⟩ = some (.bool false))
                                  ((refine HSS.out _ ?_; repeat (first | exact Below.refl _ _ | refine bl_al ?_ _ | refine bl_dr ?_ | refine bl_dN ?_ _ | refine bl_tr ?_ (by assumption))))
                                  ((go_at_call 6; refine (HCC.out _ (by repeat (first | exact Below.refl _ _ | refine bl_al ?_ _ | refine bl_dr ?_ | refine bl_dN ?_ _ | refine bl_tr ?_ (by assumption))) _ (by first | exact .inl rfl | exact .inr rfl)).mono ?_; rintro e ws ⟨rfl, hbs⟩))
                                all_goals
                                  go_wp2
                                  try go_ret
                                  refine ⟨?_, bl_tr HB5.out ?_⟩
                                  · simp
                                  · repeat (first | exact Below.refl _ _ | refine bl_al ?_ _ | refine bl_dr ?_ | refine bl_dN ?_ _ | refine bl_tr ?_ (by assumption))
end
end Go.Proofs.YtlpdjfimefjmcaaGreat
