/- GraphWays: the law's walk. -/
import Derived.Test.YthgcnlccikpmaaaGrT
import Derived.Test.YthgcnlccikpmaaaGrY
namespace Go.Proofs.Ythgcnlccikpmaaa
open Go Go.RowKit Go.Proofs.Mm
theorem below_dr {n : Nat} {A W : World} (h : Below n A W) : Below n A W.drew := ⟨h.os, h.tape, h.output, h.size, h.block⟩
theorem way_pred {c : Cd} {s b : Nat} (h : Way (fun x => nxt c x) s b) : b = s ∨ ∃ a ∈ ahd c b, Way (fun x => nxt c x) s a := by
  cases h with
  | here => exact .inl rfl
  | on h1 h2 =>
    rename_i a
    refine .inr ⟨a, mem_ahd.2 ⟨?_, b, h2, rfl⟩, h1⟩
    by_cases e : a < c.length
    · exact e
    · have : nxt c (a : Int) = [] := nxt_none (by omega)
      rw [this] at h2; cases h2
theorem both_ends {c : Cd} {a b : Nat} : decide (b ∈ nxt c (a : Int)) = decide (a ∈ ahd c (b : Int)) := by
  rw [decide_eq_decide, mem_ahd]
  constructor
  · intro h
    refine ⟨?_, b, h, rfl⟩
    by_cases e : a < c.length
    · exact e
    · rw [nxt_none (by omega)] at h; cases h
  · rintro ⟨_, x, hx, e⟩
    obtain rfl : x = b := by omega
    exact hx
theorem Int_eq_of {a b : Nat} (h : (a : Int) = (b : Int)) : a = b := by omega
section
variable (lv : Int) (qp : Option Addr) (np cp : Nat) (qr : Option Addr) (nr cr : Nat) (lo stk : Int) (qc : Option Addr) (nc cc : Nat)
def WF (w W : World) : Prop := Below w.heap.size w W ∧ InB W w.heap.size (fnC lv qp np cp qr nr cr lo stk qc nc cc) 27
variable {lv qp np cp qr nr cr lo stk qc nc cc}
theorem WF.later {w W W' : World} (h : WF lv qp np cp qr nr cr lo stk qc nc cc w W) (hb : Below W.heap.size W W') : WF lv qp np cp qr nr cr lo stk qc nc cc w W' := ⟨h.1.trans (hb.mono h.1.size), h.2.le hb⟩
variable (lv qp np cp qr nr cr lo stk qc nc cc)
set_option maxRecDepth 100000 in
set_option maxHeartbeats 8000000 in
theorem ways_any {w : World} {code : Cd} (hI : InAt (wC w) qc code) (hn : code.length = nc) (hm : nc ≤ cc) (hm2 : cc ≤ maxLen) (s : Int) :
    Calls Try.prog 6 #[fnV lv qp np cp qr nr cr lo stk qc nc cc, .int .i64 s] w fun e w' => e = .returned (.bool true) ∧ Below w.heap.size w w' := by
  have HAW := Lib.hid (fun W => awake_true W)
  by_cases h60 : nc ≤ 60
  · have HN := Lib.hid (fun (W : World) (h : Below w.heap.size w W) (a : Int) => next_any lv qp np cp qr nr cr lo stk qc nc cc (inAt_le qc hI h) hn hm hm2 a)
    have HA := Lib.hid (fun (W : World) (h : Below w.heap.size w W) (a : Int) => ahead_any lv qp np cp qr nr cr lo stk qc nc cc (inAt_le qc hI h) hn hm hm2 (by omega) a)
    have HR := Lib.hid (fun (W : World) (h : Below w.heap.size w W) (a : Int) => reach_any lv qp np cp qr nr cr lo stk qc nc cc (inAt_le qc hI h) hn hm hm2 (by omega) a)
    have HX := Lib.hid (fun (W : World) (h : Below w.heap.size w W) => exit_any lv qp np cp qr nr cr lo stk qc nc cc (inAt_le qc hI h) hn hm hm2 (by omega))
    have HNC := Lib.hid hn
    have h60i : (nc : Int) ≤ 60 := by omega
    clear hI hm hm2 hn
    go_enter Try.func6, Try.ntmps6
    go_wp2_with fail
    obtain ⟨W0, hW⟩ : ∃ W, w.alloc (.cells (fnC lv qp np cp qr nr cr lo stk qc nc cc) 27) = W := ⟨_, rfl⟩
    have HW0 := Lib.hid (show WF lv qp np cp qr nr cr lo stk qc nc cc w W0 by rw [← hW]; exact ⟨below_al _, InB.new _ _ _⟩)
    try rw [hW]
    clear hW
    go_at_call 7
    refine (HAW.out W0).mono ?_
    rintro e W1 ⟨rfl, hb⟩
    have HW1 := Lib.hid (HW0.out.later hb)
    clear hb HW0
    go_wp2_with fail
    go_loopw [6] (fun i wr => ∃ k : Nat, k ≤ nc + 1 ∧ i = .int .i64 k ∧ Hid (WF lv qp np cp qr nr cr lo stk qc nc cc w wr)) (fun i _ => nc + 1 - (intOf i).toNat)
    case atStart => exact ⟨0, by omega, rfl, HW1⟩
    case round =>
      clear HW1
      obtain ⟨k, hk, rfl, HW⟩ := hrel
      by_cases hlt : k < nc + 1
      · have hki : (k : Int) ≤ (nc : Int) := by omega
        have g0 := HW.out.2.cell (j := 0) rfl
        have g1 := HW.out.2.cell (j := 1) rfl
        have g2 := HW.out.2.cell (j := 2) rfl
        have g3 := HW.out.2.cell (j := 3) rfl
        have g4 := HW.out.2.cell (j := 4) rfl
        have g5 := HW.out.2.cell (j := 5) rfl
        go_wp2_with fail
        go_at_call 9
        refine (HN.out wr HW.out.1 (k : Nat)).mono ?_
        rintro e W2 ⟨vl, rfl, hO, hb⟩
        obtain ⟨ql, cl, rfl⟩ := own_shape hO
        have HRl0 := Lib.hid hO.re
        have HW2 := Lib.hid (HW.out.later hb)
        obtain ⟨nl, hnl⟩ : ∃ nl, (nxt code (k : Int)).length = nl := ⟨_, rfl⟩
        rw [hnl] at HRl0 ⊢
        clear hO hb hnl g0 g1 g2 g3 g4 g5
        go_wp2_with fail
        go_loopw [8] (fun i wi => ∃ b : Nat, b ≤ nc + 1 ∧ i = .int .i64 b ∧ Hid (WF lv qp np cp qr nr cr lo stk qc nc cc w wi) ∧ Hid (ReI (wC wi) (.slice ql nl cl) (nxt code (k : Int)))) (fun i _ => nc + 1 - (intOf i).toNat)
        case atStart => exact ⟨0, by omega, rfl, HW2, HRl0⟩
        case round =>
          clear HW2 HRl0
          obtain ⟨b, hbb, rfl, HWi, HRl⟩ := hrel
          by_cases hlt2 : b < nc + 1
          · have hbi : (b : Int) ≤ (nc : Int) := by omega
            go_wp2_with fail
            have hmx : Try.prog.follows .mixedOrders = true := by kernel_rfl
            have HWz := Lib.hid (show WF lv qp np cp qr nr cr lo stk qc nc cc w wr.drew from ⟨below_dr HWi.out.1, HWi.out.2⟩)
            have HRz := Lib.hid (show ReI (wC wr.drew) (.slice ql nl cl) (nxt code (k : Int)) from HRl.out)
            obtain ⟨Z, hZ⟩ : ∃ Z, wr.drew = Z := ⟨_, rfl⟩
            have HF := Lib.hid HWz.out.2
            refine wp_region_held_drew (S := fun y => Below Z.heap.size Z y) hmx (by rw [hZ]; exact Below.refl _ _) (fun hHeld => ?_)
            rw [hZ] at HWz HRz HF hHeld ⊢
            clear hZ
            refine wpAnyH_take (i := 0) (v := .slice ql nl cl) rfl (by kernel_rfl) (by kernel_rfl) (by kernel_rfl) (fun _ _ _ h => h) (Or.inl ⟨by rfl, fun w hSw => by (skip); go_simp⟩) (by assumption) ?_
            try simp only [Act.put, List.setIfInBounds_toArray, List.set_cons_zero, List.set_cons_succ, List.getElem_toArray, List.getElem_cons_zero]
            refine wpAnyH_take (i := 1) (v := .int .i64 (b : Nat)) rfl (by kernel_rfl) (by kernel_rfl) (by kernel_rfl) (fun _ _ _ h => h) (Or.inl ⟨by rfl, fun w hSw => by (skip); go_simp⟩) (by assumption) ?_
            try simp only [Act.put, List.setIfInBounds_toArray, List.set_cons_zero, List.set_cons_succ, List.getElem_toArray, List.getElem_cons_zero, List.getElem_cons_succ]
            refine wpAnyH_take (i := 3) (v := fnV lv qp np cp qr nr cr lo stk qc nc cc) rfl (by kernel_rfl) (by kernel_rfl) (by kernel_rfl) (fun _ _ _ h => h) (Or.inl ⟨by rfl, fun w hSw => by (have s0 := (InB.le HF.out hSw).cell (j := 0) rfl; have s1 := (InB.le HF.out hSw).cell (j := 1) rfl; have s2 := (InB.le HF.out hSw).cell (j := 2) rfl; have s3 := (InB.le HF.out hSw).cell (j := 3) rfl; have s4 := (InB.le HF.out hSw).cell (j := 4) rfl; have s5 := (InB.le HF.out hSw).cell (j := 5) rfl); go_simp⟩) (by assumption) ?_
            try simp only [Act.put, List.setIfInBounds_toArray, List.set_cons_zero, List.set_cons_succ, List.getElem_toArray, List.getElem_cons_zero, List.getElem_cons_succ]
            refine wpAnyH_take (i := 4) (v := .int .i64 (b : Nat)) rfl (by kernel_rfl) (by kernel_rfl) (by kernel_rfl) (fun _ _ _ h => h) (Or.inl ⟨by rfl, fun w hSw => by (skip); go_simp⟩) (by assumption) ?_
            try simp only [Act.put, List.setIfInBounds_toArray, List.set_cons_zero, List.set_cons_succ, List.getElem_toArray, List.getElem_cons_zero, List.getElem_cons_succ]
            refine wpAnyH_take (i := 6) (v := .int .i64 (k : Nat)) rfl (by kernel_rfl) (by kernel_rfl) (by kernel_rfl) (fun _ _ _ h => h) (Or.inl ⟨by rfl, fun w hSw => by (skip); go_simp⟩) (by assumption) ?_
            try simp only [Act.put, List.setIfInBounds_toArray, List.set_cons_zero, List.set_cons_succ, List.getElem_toArray, List.getElem_cons_zero, List.getElem_cons_succ]
            refine wpAnyH_ready (rs := [2]) (by kernel_rfl) (by simp) ?_
            refine AllReadyH.cons rfl (fun K hK => ?_) AllReadyH.nil
            go_simp
            go_at_call 24
            refine (has_any (HRz.out.le (below_cle hHeld)) b).mono ?_
            rintro e z ⟨rfl, hz⟩
            obtain rfl : Z = z := hz.symm
            refine hK.out _ _ hHeld (fun _ => ?_)
            clear hK K
            try simp only [Act.put, List.setIfInBounds_toArray, List.set_cons_zero, List.set_cons_succ, List.getElem_toArray, List.getElem_cons_zero, List.getElem_cons_succ]
            refine wpAnyH_ready (rs := [5]) (by kernel_rfl) (by simp) ?_
            refine AllReadyH.cons rfl (fun K hK => ?_) AllReadyH.nil
            go_simp
            go_at_call 10
            refine (HA.out Z (HWz.out.later hHeld).1 (b : Nat)).mono ?_
            rintro e V2 ⟨va, rfl, hO, hbv⟩
            obtain ⟨qa, ca, rfl⟩ := own_shape hO
            have HRa := Lib.hid hO.re
            have hS2 : Below Z.heap.size Z V2 := hHeld.trans (hbv.mono hHeld.size)
            clear hO hbv
            refine hK.out _ _ hS2 (fun _ => ?_)
            clear hK K
            try simp only [Act.put, List.setIfInBounds_toArray, List.set_cons_zero, List.set_cons_succ, List.getElem_toArray, List.getElem_cons_zero, List.getElem_cons_succ]
            refine wpAnyH_ready (rs := [7]) (by kernel_rfl) (by simp) ?_
            refine AllReadyH.cons rfl (fun K hK => ?_) AllReadyH.nil
            go_simp
            go_at_call 24
            refine (has_any HRa.out k).mono ?_
            rintro e z ⟨rfl, hz⟩
            obtain rfl : V2 = z := hz.symm
            rw [← both_ends]
            refine hK.out _ _ hS2 (fun _ => ?_)
            clear hK K
            try simp only [Act.put, List.setIfInBounds_toArray, List.set_cons_zero, List.set_cons_succ, List.getElem_toArray, List.getElem_cons_zero, List.getElem_cons_succ]
            refine wpAnyH_ready (rs := [8]) (by kernel_rfl) (by simp) ?_
            refine AllReadyH.cons rfl (fun K hK => ?_) AllReadyH.nil
            go_simp
            refine hK.out _ _ hS2 (fun _ => ?_)
            clear hK K
            try simp only [Act.put, List.setIfInBounds_toArray, List.set_cons_zero, List.set_cons_succ, List.getElem_toArray, List.getElem_cons_zero, List.getElem_cons_succ]
            have HWn := Lib.hid (HWz.out.later hS2)
            have HRn := Lib.hid (HRz.out.le (below_cle hS2))
            refine wpAnyH_done (by kernel_rfl) ?_ _
            go_wp2
            exact ⟨⟨b + 1, by omega, by go_num, HWn, HRn⟩, by simp [intOf]; omega⟩
          · obtain rfl : b = nc + 1 := by omega
            have hbi : ¬ ((nc + 1 : Nat) : Int) ≤ (nc : Int) := by omega
            go_wp2
            exact ⟨⟨k + 1, by omega, by go_num, HWi⟩, by simp [intOf]; omega⟩
      · obtain rfl : k = nc + 1 := by omega
        have hki : ¬ ((nc + 1 : Nat) : Int) ≤ (nc : Int) := by omega
        have g0 := HW.out.2.cell (j := 0) rfl
        have g1 := HW.out.2.cell (j := 1) rfl
        have g2 := HW.out.2.cell (j := 2) rfl
        have g3 := HW.out.2.cell (j := 3) rfl
        have g4 := HW.out.2.cell (j := 4) rfl
        have g5 := HW.out.2.cell (j := 5) rfl
        go_wp2_with fail
        go_at_call 15
        refine (HR.out wr HW.out.1 s).mono ?_
        rintro e W2 ⟨vr, rfl, hO, hb⟩
        have HW2 := Lib.hid (HW.out.later hb)
        obtain ⟨R, hR⟩ : ∃ R, (if 0 ≤ s ∧ s ≤ (nc : Int) then rch (fun x => nxt code (x : Int)) (nc + 1) s.toNat else List.replicate (nc + 1) false) = R := ⟨_, rfl⟩
        rw [hR] at hO
        have HRR := Lib.hid hR
        have hRl : R.length = nc + 1 := by rw [← hR]; split <;> simp [rch_len]
        have hRt : ∀ b, b < nc + 1 → (R.getD b false = true ↔ (0 ≤ s ∧ s ≤ (nc : Int)) ∧ Way (fun x => nxt code (x : Int)) s.toNat b) := fun b hb => by
          rw [← hR]
          by_cases hs : 0 ≤ s ∧ s ≤ (nc : Int)
          · rw [if_pos hs, rch_at hb]; simp [hs]
          · rw [if_neg hs]; simp [hs, List.getD_eq_getElem?_getD, hb]
        obtain ⟨qv, cv, rfl⟩ := own_shape hO
        have HV2 := Lib.hid hO.re
        have HRT := Lib.hid hRt
        have HRL := Lib.hid hRl
        rw [hRl] at HV2 ⊢
        clear hO hb hR hRl hRt HW g0 g1 g2 g3 g4 g5
        have hne1 : ((nc : Int) + 1 != (nc : Int) + 1) = false := by simp
        go_wp2_with fail
        go_loopw [10] (fun i wr => ∃ a : Nat, a ≤ nc + 1 ∧ i = .int .i64 a ∧ Hid (WF lv qp np cp qr nr cr lo stk qc nc cc w wr) ∧ Hid (ReT (wC wr) (.slice qv (nc + 1) cv) R)) (fun i _ => nc + 1 - (intOf i).toNat)
        case atStart => exact ⟨0, by omega, rfl, HW2, HV2⟩
        case round =>
          clear HW2 HV2
          obtain ⟨a, ha, rfl, HW, HV⟩ := hrel
          by_cases hlt : a < nc + 1
          · have hai : (a : Int) ≤ (nc : Int) := by omega
            have hai2 : (a : Int) < (nc : Int) + 1 := by omega
            have hvat := HV.out.at.2.2.2
            have hvc := HV.out.at.2.1
            have hvm := HV.out.at.2.2.1
            obtain ⟨gv, ov, rfl, hca⟩ := hvat a (by rw [HRL.out]; exact hlt)
            have HVA := Lib.hid hvat
            have hca' : wr.cell? ⟨gv, ov + a, none⟩ = some (.bool (R.getD a false)) := hca
            clear hca hvat
            cases hra : R.getD a false with
            | false =>
              rw [hra] at hca'
              clear hra
              go_wp2
              exact ⟨⟨a + 1, by omega, by go_num, HW, HV⟩, by simp [intOf]; omega⟩
            | true =>
              rw [hra] at hca'
              have HWY := Lib.hid ((HRT.out a hlt).1 hra)
              clear hra
              have g0 := HW.out.2.cell (j := 0) rfl
              have g1 := HW.out.2.cell (j := 1) rfl
              have g2 := HW.out.2.cell (j := 2) rfl
              have g3 := HW.out.2.cell (j := 3) rfl
              have g4 := HW.out.2.cell (j := 4) rfl
              have g5 := HW.out.2.cell (j := 5) rfl
              go_wp2_with fail
              go_at_call 9
              refine (HN.out wr HW.out.1 (a : Nat)).mono ?_
              rintro e W3 ⟨vl, rfl, hO, hb⟩
              obtain ⟨ql, cl, rfl⟩ := own_shape hO
              have HL := Lib.hid hO.re
              have HW3 := Lib.hid (HW.out.later hb)
              have HV3 := Lib.hid (HV.out.le (below_cle hb))
              obtain ⟨nl, hnl⟩ : ∃ nl, (nxt code (a : Int)).length = nl := ⟨_, rfl⟩
              rw [hnl] at HL ⊢
              have HNL := Lib.hid hnl
              clear hO hb hnl hca' HVA HW HV g0 g1 g2 g3 g4 g5
              go_wp2_with fail
              go_loopw [12] (fun i wi => ∃ j : Nat, j ≤ nl ∧ i = .int .i64 j ∧ wi = W3) (fun i _ => nl - (intOf i).toNat)
              case atStart => exact ⟨0, by omega, rfl, rfl⟩
              case round =>
                obtain ⟨j, hj, rfl, rfl⟩ := hrel
                by_cases hlt2 : j < nl
                · obtain ⟨-, hl1, hl2, hat⟩ := HL.out.at
                  obtain ⟨gl, ol, rfl, hx⟩ := hat j (by rw [HNL.out]; exact hlt2)
                  unfold maxLen at hl2
                  have hxs : (nxt code (a : Int)).getD j 0 ∈ nxt code (a : Int) := by
                    have : j < (nxt code (a : Int)).length := by rw [HNL.out]; exact hlt2
                    rw [List.getD_eq_getElem?_getD, List.getElem?_eq_getElem this, Option.getD_some]; exact List.getElem_mem _
                  generalize (nxt code (a : Int)).getD j 0 = x at hx hxs
                  have hxn : x < nc + 1 := by have := nxt_lt hxs; rw [HNC.out] at this; exact this
                  have hrx : R.getD x false = true := (HRT.out x hxn).2 ⟨HWY.out.1, HWY.out.2.on hxs⟩
                  obtain ⟨gv', ov', e1, hcx⟩ := HV3.out.at.2.2.2 x (by rw [HRL.out]; exact hxn)
                  injection e1 with e1
                  injection e1 with e1 e2 _
                  subst e1 e2
                  rw [hrx] at hcx
                  have cx : wr.cell? ⟨gl, ol + j, none⟩ = some (.int .i64 ((x : Nat) : Int)) := hx
                  have cy : wr.cell? ⟨gv, ov + x, none⟩ = some (.bool true) := hcx
                  have hji : (j : Int) < (nl : Int) := by omega
                  have hxi : (x : Int) < (nc : Int) + 1 := by omega
                  clear hx hcx hat hrx hxs
                  go_wp2
                  exact ⟨⟨j + 1, by omega, by go_num, trivial⟩, by simp [intOf]; omega⟩
                · obtain rfl : j = nl := by omega
                  have g0 := HW3.out.2.cell (j := 0) rfl
                  have g1 := HW3.out.2.cell (j := 1) rfl
                  have g2 := HW3.out.2.cell (j := 2) rfl
                  have g3 := HW3.out.2.cell (j := 3) rfl
                  have g4 := HW3.out.2.cell (j := 4) rfl
                  have g5 := HW3.out.2.cell (j := 5) rfl
                  go_wp2_with fail
                  go_at_call 10
                  refine (HA.out wr HW3.out.1 (a : Nat)).mono ?_
                  rintro e W4 ⟨vb, rfl, hO, hb⟩
                  obtain ⟨qb, cb, rfl⟩ := own_shape hO
                  have HB4 := Lib.hid hO.re
                  have HW4 := Lib.hid (HW3.out.later hb)
                  have HV4 := Lib.hid (HV3.out.le (below_cle hb))
                  obtain ⟨nb, hnb⟩ : ∃ nb, (ahd code (a : Int)).length = nb := ⟨_, rfl⟩
                  rw [hnb] at HB4 ⊢
                  have HNB := Lib.hid hnb
                  clear hO hb hnb g0 g1 g2 g3 g4 g5 HW3 HV3
                  go_wp2_with fail
                  go_loopw [13, 15] (fun cm i wi => ∃ (j : Nat) (b : Bool), j ≤ nb ∧ i = .int .i64 j ∧ cm = .bool b ∧ wi = W4 ∧ Hid (b = (((a : Int) == s) || ((ahd code (a : Int)).take j).any fun y => R.getD y false))) (fun _ i _ => nb - (intOf i).toNat)
                  case atStart => exact ⟨0, _, by omega, rfl, rfl, rfl, Lib.hid (by simp)⟩
                  case round =>
                    obtain ⟨j, b, hj, rfl, rfl, rfl, HBb⟩ := hrel
                    by_cases hlt3 : j < nb
                    · have hji : (j : Int) < (nb : Int) := by omega
                      obtain ⟨-, hl1, hl2, hat⟩ := HB4.out.at
                      obtain ⟨gb, ob, rfl, hx⟩ := hat j (by rw [HNB.out]; exact hlt3)
                      unfold maxLen at hl2
                      have hjl : j < (ahd code (a : Int)).length := by rw [HNB.out]; exact hlt3
                      have hxs : (ahd code (a : Int)).getD j 0 ∈ ahd code (a : Int) := by
                        rw [List.getD_eq_getElem?_getD, List.getElem?_eq_getElem hjl, Option.getD_some]; exact List.getElem_mem _
                      have htk : (ahd code (a : Int)).take (j + 1) = (ahd code (a : Int)).take j ++ [(ahd code (a : Int)).getD j 0] := by
                        rw [List.take_succ_eq_append_getElem hjl]; simp [hjl]
                      generalize (ahd code (a : Int)).getD j 0 = x at hx hxs htk
                      have hxn : x < nc + 1 := by have := (mem_ahd.1 hxs).1; rw [HNC.out] at this; omega
                      obtain ⟨gv', ov', e1, hcx⟩ := HV4.out.at.2.2.2 x (by rw [HRL.out]; exact hxn)
                      injection e1 with e1
                      injection e1 with e1 e2 _
                      subst e1 e2
                      have cx : wr.cell? ⟨gb, ob + j, none⟩ = some (.int .i64 ((x : Nat) : Int)) := hx
                      have cy : wr.cell? ⟨gv, ov + x, none⟩ = some (.bool (R.getD x false)) := hcx
                      have hxi : (x : Int) < (nc : Int) + 1 := by omega
                      have HB2 := Lib.hid (show (b || R.getD x false) = (((a : Int) == s) || ((ahd code (a : Int)).take (j + 1)).any fun y => R.getD y false) by rw [htk, List.any_append, HBb.out]; simp [Bool.or_assoc])
                      generalize R.getD x false = rx at cy HB2
                      clear hx hcx hat hxs htk hjl
                      cases b with
                      | true =>
                        go_wp2
                        exact ⟨⟨j + 1, true, by omega, by go_num, rfl, trivial, HB2⟩, by simp [intOf]; omega⟩
                      | false =>
                        go_wp2
                        exact ⟨⟨j + 1, rx, by omega, by go_num, rfl, trivial, Lib.hid (by have := HB2.out; simpa using this)⟩, by simp [intOf]; omega⟩
                    · obtain rfl : j = nb := by omega
                      have hbt : b = true := by
                        rw [HBb.out]
                        rw [List.take_of_length_le (by rw [HNB.out]; exact Nat.le_refl _)]
                        rcases way_pred HWY.out.2 with e | ⟨y, hy, hw⟩
                        · have : ((a : Int) == s) = true := by have := HWY.out.1; simp; omega
                          rw [this]; rfl
                        · rw [Bool.or_eq_true]
                          right
                          rw [List.any_eq_true]
                          exact ⟨y, hy, (HRT.out y (by have := (mem_ahd.1 hy).1; rw [HNC.out] at this; omega)).2 ⟨HWY.out.1, hw⟩⟩
                      subst hbt
                      clear HBb
                      go_wp2
                      exact ⟨⟨a + 1, by omega, by go_num, HW4, HV4⟩, by simp [intOf]; omega⟩
          · obtain rfl : a = nc + 1 := by omega
            have hai : ¬ ((nc + 1 : Nat) : Int) ≤ (nc : Int) := by omega
            have hf1 : 0 ≤ s → s ≤ (nc : Int) → R.getD s.toNat false = true := fun h1 h2 => (HRT.out s.toNat (by omega)).2 ⟨⟨h1, h2⟩, .here⟩
            have h34 : (∃ sn : Nat, s = (sn : Int) ∧ sn < nc + 1) ∨ s < 0 ∨ (nc : Int) < s := by
              by_cases h1 : 0 ≤ s
              · by_cases h2 : s ≤ (nc : Int)
                · exact .inl ⟨s.toNat, by omega, by omega⟩
                · exact .inr (.inr (by omega))
              · exact .inr (.inl (by omega))
            have hvat := HV.out.at.2.2.2
            have HW6 := Lib.hid HW.out
            go_upto_region 34 with (fail)
            go_cut [124] (fun c wx => c = .bool false ∧ wx = wr)
            case first =>
              rcases h34 with ⟨sn, rfl, hsn⟩ | h | h
              · obtain ⟨gv, ov, rfl, hcs⟩ := hvat sn (by rw [HRL.out]; exact hsn)
                have hrs := hf1 (by omega) (by omega)
                rw [Int.toNat_natCast] at hrs
                rw [hrs] at hcs
                have hcs' : wr.cell? ⟨gv, ov + sn, none⟩ = some (.bool true) := hcs
                have hsi : (sn : Int) < (nc : Int) + 1 := by omega
                have hsi2 : (sn : Int) ≤ (nc : Int) := by omega
                clear hvat hf1 hrs hcs
                go_wp2
                go_meet
                exact ⟨rfl, rfl⟩
              · clear hvat hf1
                go_wp2
                go_meet
                exact ⟨rfl, rfl⟩
              · clear hvat hf1
                go_wp2
                go_meet
                exact ⟨rfl, rfl⟩
            case rest =>
              obtain ⟨rfl, rfl⟩ := hcut
              clear hvat hf1 h34
              have g0 := HW6.out.2.cell (j := 0) rfl
              have g1 := HW6.out.2.cell (j := 1) rfl
              have g2 := HW6.out.2.cell (j := 2) rfl
              have g3 := HW6.out.2.cell (j := 3) rfl
              have g4 := HW6.out.2.cell (j := 4) rfl
              have g5 := HW6.out.2.cell (j := 5) rfl
              go_wp2_with fail
              go_at_call 17
              refine (HX.out _ HW6.out.1).mono ?_
              rintro e W7 ⟨hS, hb⟩
              have HW7 := Lib.hid (HW6.out.later hb)
              clear hb g0 g1 g2 g3 g4 g5 HW HV HW6
              rcases hS with ⟨i, hi, rfl, hno, hlo⟩ | ⟨rfl, hlo⟩
              · rw [HNC.out] at hi
                have HNO := Lib.hid hno
                have HLO := Lib.hid hlo
                clear hno hlo
                go_wp2_with fail
                go_loopw [18] (fun t wr => ∃ a : Nat, a ≤ i ∧ t = .int .i64 a ∧ Hid (WF lv qp np cp qr nr cr lo stk qc nc cc w wr)) (fun t _ => nc - (intOf t).toNat)
                case atStart => exact ⟨0, by omega, rfl, HW7⟩
                case round =>
                  clear HW7
                  obtain ⟨a, ha, rfl, HWa⟩ := hrel
                  have hai : (a : Int) < (nc : Int) := by omega
                  have g0 := HWa.out.2.cell (j := 0) rfl
                  have g1 := HWa.out.2.cell (j := 1) rfl
                  have g2 := HWa.out.2.cell (j := 2) rfl
                  have g3 := HWa.out.2.cell (j := 3) rfl
                  have g4 := HWa.out.2.cell (j := 4) rfl
                  have g5 := HWa.out.2.cell (j := 5) rfl
                  go_wp2_with fail
                  go_at_call 15
                  refine (HR.out wr HWa.out.1 (a : Nat)).mono ?_
                  rintro e W8 ⟨vl, rfl, hO, hb⟩
                  rw [if_pos ⟨by omega, by omega⟩, Int.toNat_natCast] at hO
                  obtain ⟨ql, cl, rfl⟩ := own_shape hO
                  have hre := hO.re
                  have hrl := rch_len (fun x => nxt code (x : Int)) (nc + 1) a
                  have hra := rch_at (nx := fun x => nxt code (x : Int)) (N := nc + 1) (s := a) (b := nc) (by omega)
                  have HW8 := Lib.hid (HWa.out.later hb)
                  obtain ⟨-, -, -, hat⟩ := hre.at
                  obtain ⟨gl, ol, rfl, hx⟩ := hat nc (by rw [hrl]; omega)
                  have hx' : W8.cell? ⟨gl, ol + nc, none⟩ = some (.bool ((rch (fun x => nxt code (x : Int)) (nc + 1) a).getD nc false)) := hx
                  rw [hrl]
                  have hnn : (nc : Int) < (nc : Int) + 1 := by omega
                  by_cases hlt : a < i
                  · have hx0 := hra.2 (by rw [← HNC.out]; exact HLO.out a hlt)
                    rw [hx0] at hx'
                    clear hO hb hre hrl hra hat hx hx0 g0 g1 g2 g3 g4 g5
                    go_wp2
                    exact ⟨⟨a + 1, by omega, by go_num, HW8⟩, by simp [intOf]; omega⟩
                  · obtain rfl : a = i := by omega
                    have hx0 : (rch (fun x => nxt code (x : Int)) (nc + 1) a).getD nc false = false := by
                      cases hz : (rch (fun x => nxt code (x : Int)) (nc + 1) a).getD nc false with
                      | false => rfl
                      | true => exact absurd (by have := hra.1 hz; rw [HNC.out]; exact this) HNO.out
                    rw [hx0] at hx'
                    clear hO hb hre hrl hra hat hx hx0 g0 g1 g2 g3 g4 g5
                    have heq : ((a : Int) == (a : Int)) = true := by simp
                    go_wp2
                    go_ret
                    exact ⟨rfl, HW8.out.1⟩
              · have HLO := Lib.hid hlo
                clear hlo
                go_wp2_with fail
                go_loopw [18] (fun t wr => ∃ a : Nat, a ≤ nc ∧ t = .int .i64 a ∧ Hid (WF lv qp np cp qr nr cr lo stk qc nc cc w wr)) (fun t _ => nc - (intOf t).toNat)
                case atStart => exact ⟨0, by omega, rfl, HW7⟩
                case round =>
                  clear HW7
                  obtain ⟨a, ha, rfl, HWa⟩ := hrel
                  by_cases hlt : a < nc
                  · have hai : (a : Int) < (nc : Int) := by omega
                    have g0 := HWa.out.2.cell (j := 0) rfl
                    have g1 := HWa.out.2.cell (j := 1) rfl
                    have g2 := HWa.out.2.cell (j := 2) rfl
                    have g3 := HWa.out.2.cell (j := 3) rfl
                    have g4 := HWa.out.2.cell (j := 4) rfl
                    have g5 := HWa.out.2.cell (j := 5) rfl
                    go_wp2_with fail
                    go_at_call 15
                    refine (HR.out wr HWa.out.1 (a : Nat)).mono ?_
                    rintro e W8 ⟨vl, rfl, hO, hb⟩
                    rw [if_pos ⟨by omega, by omega⟩, Int.toNat_natCast] at hO
                    obtain ⟨ql, cl, rfl⟩ := own_shape hO
                    have hre := hO.re
                    have hrl := rch_len (fun x => nxt code (x : Int)) (nc + 1) a
                    have hra := rch_at (nx := fun x => nxt code (x : Int)) (N := nc + 1) (s := a) (b := nc) (by omega)
                    have HW8 := Lib.hid (HWa.out.later hb)
                    obtain ⟨-, -, -, hat⟩ := hre.at
                    obtain ⟨gl, ol, rfl, hx⟩ := hat nc (by rw [hrl]; omega)
                    have hx' : W8.cell? ⟨gl, ol + nc, none⟩ = some (.bool ((rch (fun x => nxt code (x : Int)) (nc + 1) a).getD nc false)) := hx
                    rw [hrl]
                    have hnn : (nc : Int) < (nc : Int) + 1 := by omega
                    have hx0 := hra.2 (by rw [← HNC.out]; exact HLO.out a (by rw [HNC.out]; exact hlt))
                    rw [hx0] at hx'
                    clear hO hb hre hrl hra hat hx hx0 g0 g1 g2 g3 g4 g5
                    go_wp2
                    exact ⟨⟨a + 1, by omega, by go_num, HW8⟩, by simp [intOf]; omega⟩
                  · obtain rfl : a = nc := by omega
                    have g0 := HWa.out.2.cell (j := 0) rfl
                    have g1 := HWa.out.2.cell (j := 1) rfl
                    have g2 := HWa.out.2.cell (j := 2) rfl
                    have g3 := HWa.out.2.cell (j := 3) rfl
                    have g4 := HWa.out.2.cell (j := 4) rfl
                    have g5 := HWa.out.2.cell (j := 5) rfl
                    go_wp2
                    go_ret
                    exact ⟨rfl, HWa.out.1⟩
  · have h60i : (60 : Int) < (nc : Int) := by omega
    clear hI hm hm2 hn
    go_enter Try.func6, Try.ntmps6
    go_wp2_with fail
    go_at_call 7
    refine (HAW.out _).mono ?_
    rintro e W1 ⟨rfl, hb⟩
    have hb' := bl_tr (below_al _) hb
    clear hb
    go_wp2
    go_ret
    exact ⟨rfl, hb'⟩
end
end Go.Proofs.Ythgcnlccikpmaaa
