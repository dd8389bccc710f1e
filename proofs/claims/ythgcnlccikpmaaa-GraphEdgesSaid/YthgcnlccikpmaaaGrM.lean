/- The document's Without and Reach. -/
import Derived.Test.YthgcnlccikpmaaaGrMp
import Derived.Test.YthgcnlccikpmaaaGrN
import Derived.Test.YthgcnlccikpmaaaGrH
namespace Go.Proofs.Ythgcnlccikpmaaa
open Go Go.RowKit Go.Proofs.Mm
section
variable (lv : Int) (qp : Option Addr) (np cp : Nat) (qr : Option Addr) (nr cr : Nat) (lo stk : Int) (qc : Option Addr) (nc cc : Nat)
/-- What lies in memory between two steps. -/
structure Wo (w : World) (N : Nat) (L : List Bool) (td : List Nat) (vt : Value) (wr : World) : Prop where
  f : InB wr w.heap.size (fnC lv qp np cp qr nr cr lo stk qc nc cc) 27
  s : InB wr (w.heap.size + 1) (cB L).toArray 4
  t : OwnI w.heap.size wr vt td
  b : Below w.heap.size w wr
variable {lv qp np cp qr nr cr lo stk qc nc cc}
theorem Wo.later {w wr w' : World} {N : Nat} {L : List Bool} {td : List Nat} {vt : Value} (h : Wo lv qp np cp qr nr cr lo stk qc nc cc w N L td vt wr) (hb : Below wr.heap.size wr w') : Wo lv qp np cp qr nr cr lo stk qc nc cc w N L td vt w' :=
  ⟨h.f.le hb, h.s.le hb, own_chg h.t (Below.chg hb (Nat.le_refl _) (fun _ => False)) (fun _ _ e => e), h.b.trans (hb.mono h.b.size)⟩
theorem Wo.see {w wr : World} {N : Nat} {L : List Bool} {td : List Nat} {vt : Value} (h : Wo lv qp np cp qr nr cr lo stk qc nc cc w N L td vt wr) (x : Nat) : Wo lv qp np cp qr nr cr lo stk qc nc cc w N (L.set x true) td vt (wr.setCell ⟨w.heap.size + 1, x, none⟩ (.bool true)) :=
  ⟨heap_other h.f (by omega), by
    have := heap_set h.s x (.bool true)
    rw [cB_set]
    unfold InB
    rw [this]
    simp, own_chg h.t ((Chg.refl (fun k => k = w.heap.size + 1) wr).setCell (.inl rfl) _) (fun k hk e => own_neB h.t h.s (by decide) (by rw [hk, e])), h.b.setCell (by simp) _⟩
theorem Wo.push {w wr W : World} {N x : Nat} {L : List Bool} {td : List Nat} {vt v' : Value} (h : Wo lv qp np cp qr nr cr lo stk qc nc cc w N L td vt wr) (hO : OwnI w.heap.size W v' (td ++ [x])) (hM : Mst wr W vt v') : Wo lv qp np cp qr nr cr lo stk qc nc cc w N L (td ++ [x]) v' W :=
  ⟨hM.inB h.f (own_neB h.t h.f (by decide)), hM.inB h.s (own_neB h.t h.s (by decide)), hO, hM.below h.b h.b.size (fun k e => (h.t.lt k e).1)⟩
variable (lv qp np cp qr nr cr lo stk qc nc cc)
set_option maxRecDepth 100000 in
set_option maxHeartbeats 2000000 in
theorem without_any {w : World} {code : Cd} (hI : InAt (wC w) qc code) (hn : code.length = nc) (hm : nc ≤ cc) (hm2 : cc ≤ maxLen) (hnc : nc ≤ 1000) (a : Int) :
    Calls Try.prog 32 #[fnV lv qp np cp qr nr cr lo stk qc nc cc, .int .i64 a, .int .i64 (-1)] w fun e w' => ∃ v, e = .returned v ∧ OwnT w.heap.size w' v (if 0 ≤ a ∧ a ≤ nc then rch (fun x => nxt code x) (nc + 1) a.toNat else List.replicate (nc + 1) false) ∧ Below w.heap.size w w' := by
  have hmk := fun W => mk_bools (nc + 1) (by omega) W
  rw [show ((nc + 1 : Nat) : Int) = (nc : Int) + 1 from by omega] at hmk
  by_cases h0 : 0 ≤ a
  · by_cases h1 : a ≤ (nc : Int)
    · obtain ⟨j, rfl⟩ : ∃ j : Nat, a = (j : Int) := ⟨a.toNat, by omega⟩
      rw [if_pos ⟨h0, h1⟩, Int.toNat_natCast]
      have HX := Lib.hid (fun (W : World) (h : Below w.heap.size w W) (k : Int) => refNext_any lv qp np cp qr nr cr lo stk qc nc cc (inAt_le qc hI h) hn hm hm2 k)
      have HNC := Lib.hid hn
      clear hI hn hm hm2
      have HW := Lib.hid (Wi.start (nx := fun x => nxt code x) (N := nc + 1) (s := j) (by omega))
      have hne : ((j : Int) == -1) = false := by simp
      have hjl : (j : Int) < (nc : Int) + 1 := by omega
      go_enter Try.func32, Try.ntmps32
      go_upto_region 5 with (fail)
      obtain ⟨W2, hW2⟩ : ∃ W2, (w.alloc (.cells (fnC lv qp np cp qr nr cr lo stk qc nc cc) 27)).alloc (.cells (cB (List.replicate (nc + 1) false)).toArray 4) = W2 := ⟨_, rfl⟩
      have hWo : Wo lv qp np cp qr nr cr lo stk qc nc cc w (nc + 1) (List.replicate (nc + 1) false) [] (.slice none 0 0) W2 := by
        rw [← hW2]
        exact ⟨heap_new _ _ (InB.new _ _ _), InB.new' _ _ (by simp), World.ownsRow_nil _ _ _ _, ((Below.refl _ w).alloc (Nat.le_refl _) _).alloc (by simp) _⟩
      have hsz : W2.heap.size = w.heap.size + 2 := by rw [← hW2]; simp
      try rw [hW2]
      clear hW2 hmk
      have hj1 : j < nc + 1 := by omega
      have cj := hWo.s.cell (j := j) (v := .bool false) (by simp [cB, hj1])
      have fj := hWo.s.free j
      have HWo := Lib.hid (hWo.see j)
      have HSZ := Lib.hid hsz
      clear hWo hsz
      go_upto_region 7 with (fail)
      clear cj fj
      obtain ⟨W3, hW3⟩ : ∃ W3, (W2.setCell ⟨w.heap.size + 1, j, none⟩ (.bool true)).alloc (.cells #[.int .i64 (j : Nat)] 3) = W3 := ⟨_, rfl⟩
      have HWo3 := Lib.hid (show Wo lv qp np cp qr nr cr lo stk qc nc cc w (nc + 1) ((List.replicate (nc + 1) false).set j true) [j] (.slice (some ⟨W2.heap.size, 0, none⟩) 1 1) W3 by
        have h := HWo.out.later ((Below.refl _ (W2.setCell ⟨w.heap.size + 1, j, none⟩ (.bool true))).alloc (Nat.le_refl _) (.cells #[.int .i64 (j : Nat)] 3))
        rw [hW3] at h
        refine ⟨h.f, h.s, ?_, h.b⟩
        rw [← hW3]
        exact ownI_new' j (by simp) (by rw [HSZ.out]; omega))
      try rw [hW3]
      clear hW3 HWo
      generalize (List.replicate (nc + 1) false).set j true = L1 at HW HWo3
      generalize W2.heap.size = b2 at *
      go_wp2_with fail
      go_loopw [9, 10] (fun vt i wr => ∃ (L : List Bool) (td : List Nat) (k : Nat), i = .int .i64 k ∧ Hid (Wo lv qp np cp qr nr cr lo stk qc nc cc w (nc + 1) L td vt wr) ∧ Hid (Wi (fun x => nxt code x) (nc + 1) j L td k 0) ∧ k ≤ nc + 1) (fun _ i _ => nc + 1 - (intOf i).toNat)
      case atStart => exact ⟨L1, [j], 0, rfl, HWo3, HW, by omega⟩
      case round =>
        clear HWo3 HW
        obtain ⟨L, td, k, rfl, HO, HI, hk⟩ := hrel
        obtain ⟨qt, ct, rfl⟩ := own_shape HO.out.t
        by_cases hlt : k < td.length
        · have hki : (k : Int) < (td.length : Int) := by omega
          have htl : td.length ≤ nc + 1 := by have := HI.out.cnt; omega
          obtain ⟨-, -, -, hat⟩ := HO.out.t.re.at
          obtain ⟨gt, ot, rfl, hx⟩ := hat k hlt
          clear hat
          obtain ⟨xk, hxk⟩ : ∃ xk, td.getD k 0 = xk := ⟨_, rfl⟩
          rw [hxk] at hx
          have HXK := Lib.hid hxk
          clear hxk
          go_wp2_with fail
          have hmx : Try.prog.follows .mixedOrders = true := by kernel_rfl
          have HS := Lib.hid (show InB wr.drew w.heap.size (fnC lv qp np cp qr nr cr lo stk qc nc cc) 27 ∧ wr.drew.cell? ⟨gt, ot + k, none⟩ = some (.int .i64 ((xk : Nat) : Int)) from ⟨HO.out.f, hx⟩)
          have HO2 := Lib.hid (show Wo lv qp np cp qr nr cr lo stk qc nc cc w (nc + 1) L td (.slice (some ⟨gt, ot, none⟩) td.length ct) wr.drew from ⟨HO.out.f, HO.out.s, HO.out.t, ⟨HO.out.b.os, HO.out.b.tape, HO.out.b.output, HO.out.b.size, HO.out.b.block⟩⟩)
          clear hx HO
          refine wp_region_held_drew (S := fun y => InB y w.heap.size (fnC lv qp np cp qr nr cr lo stk qc nc cc) 27 ∧ y.cell? ⟨gt, ot + k, none⟩ = some (.int .i64 ((xk : Nat) : Int))) hmx HS.out (fun hHeld => ?_)
          generalize wr.drew = Z at *
          refine wpAnyH_take (i := 0) (v := fnV lv qp np cp qr nr cr lo stk qc nc cc) rfl (by kernel_rfl) (by kernel_rfl) (by kernel_rfl) (fun _ _ _ h => h) (Or.inl ⟨by rfl, fun w hSw => by (have s0 := hSw.1.cell (j := 0) rfl; have s1 := hSw.1.cell (j := 1) rfl; have s2 := hSw.1.cell (j := 2) rfl; have s3 := hSw.1.cell (j := 3) rfl; have s4 := hSw.1.cell (j := 4) rfl; have s5 := hSw.1.cell (j := 5) rfl); go_simp⟩) (by assumption) ?_
          try simp only [Act.put, List.setIfInBounds_toArray, List.set_cons_zero, List.set_cons_succ, List.getElem_toArray, List.getElem_cons_zero]
          refine wpAnyH_take (i := 1) (v := .slice (some ⟨gt, ot, none⟩) td.length ct) rfl (by kernel_rfl) (by kernel_rfl) (by kernel_rfl) (fun _ _ _ h => h) (Or.inl ⟨by rfl, fun w hSw => by (skip); go_simp⟩) (by assumption) ?_
          try simp only [Act.put, List.setIfInBounds_toArray, List.set_cons_zero, List.set_cons_succ, List.getElem_toArray, List.getElem_cons_zero, List.getElem_cons_succ]
          refine wpAnyH_take (i := 2) (v := .int .i64 (k : Nat)) rfl (by kernel_rfl) (by kernel_rfl) (by kernel_rfl) (fun _ _ _ h => h) (Or.inl ⟨by rfl, fun w hSw => by (skip); go_simp⟩) (by assumption) ?_
          try simp only [Act.put, List.setIfInBounds_toArray, List.set_cons_zero, List.set_cons_succ, List.getElem_toArray, List.getElem_cons_zero, List.getElem_cons_succ]
          refine wpAnyH_take (i := 3) (v := .pointer (some ⟨gt, ot + k, none⟩)) rfl (by kernel_rfl) (by kernel_rfl) (by kernel_rfl) (fun _ _ _ h => h) (Or.inl ⟨by rfl, fun w hSw => by (skip); go_simp⟩) (by assumption) ?_
          try simp only [Act.put, List.setIfInBounds_toArray, List.set_cons_zero, List.set_cons_succ, List.getElem_toArray, List.getElem_cons_zero, List.getElem_cons_succ]
          refine wpAnyH_take (i := 4) (v := .int .i64 ((xk : Nat) : Int)) rfl (by kernel_rfl) (by kernel_rfl) (by kernel_rfl) (fun _ _ _ h => h) (Or.inl ⟨by rfl, fun w hSw => by (have s0 := hSw.2); go_simp⟩) (by assumption) ?_
          try simp only [Act.put, List.setIfInBounds_toArray, List.set_cons_zero, List.set_cons_succ, List.getElem_toArray, List.getElem_cons_zero, List.getElem_cons_succ]
          refine wpAnyH_ready (rs := [5]) (by kernel_rfl) (by simp) ?_
          refine AllReadyH.cons rfl (fun K1 hK1 => ?_) AllReadyH.nil
          go_simp
          go_at_call 12
          refine (HX.out Z HO2.out.b xk).mono ?_
          rintro e w2 ⟨vl, rfl, hOl, hbl⟩
          obtain ⟨m1, hmo, hH, hR⟩ := own_known (w := Z) (m := fun _ => none) hOl (fun _ _ e => by cases e) (Nat.le_refl _) (fun _ _ => rfl)
          obtain ⟨ql, cl, rfl⟩ := hR.shape
          have HO3 := Lib.hid (HO2.out.later hbl)
          have HTN := Lib.hid (show ∀ kk, (Value.slice (some ⟨gt, ot, none⟩) td.length ct).ownBlock = some kk → m1 kk = none from fun kk e => hmo.new kk rfl (HO2.out.t.lt kk e).2)
          have HSN := Lib.hid (show m1 (w.heap.size + 1) = none from hmo.new _ rfl HO2.out.s.lt)
          have HH := Lib.hid hH
          have HR := Lib.hid hR
          obtain ⟨nl, hnl⟩ : ∃ nl, (nxt code (xk : Int)).length = nl := ⟨_, rfl⟩
          rw [hnl] at HR ⊢
          have HNL := Lib.hid hnl
          have hcs := (hbl.cell (World.block_lt_of_cell? _ _ HS.out.2)).trans HS.out.2
          clear hOl hbl hmo hH hR hnl HO2
          refine hK1.out _ _ ⟨HO3.out.f, hcs⟩ (fun hHeld => ?_)
          clear hK1 K1 HS hcs
          try simp only [Act.put, List.setIfInBounds_toArray, List.set_cons_zero, List.set_cons_succ, List.getElem_toArray, List.getElem_cons_zero, List.getElem_cons_succ]
          refine wpAnyH_take (i := 6) (v := .slice ql nl cl) rfl (by kernel_rfl) (by kernel_rfl) (by kernel_rfl) (fun _ _ _ h => h) (Or.inl ⟨by rfl, fun w hSw => by (skip); go_simp⟩) (by assumption) ?_
          try simp only [Act.put, List.setIfInBounds_toArray, List.set_cons_zero, List.set_cons_succ, List.getElem_toArray, List.getElem_cons_zero, List.getElem_cons_succ]
          refine wpAnyH_done (by kernel_rfl) ?_ _
          go_wp2_with fail
          go_loopw [9, 12] (fun vt' i wi => ∃ (L' : List Bool) (td' : List Nat) (ii : Nat), i = .int .i64 ii ∧ ii ≤ nl ∧ Hid (Wo lv qp np cp qr nr cr lo stk qc nc cc w (nc + 1) L' td' vt' wi) ∧ Hid (Wi (fun x => nxt code x) (nc + 1) j L' td' k ii) ∧ Hid (Has wi m1) ∧ Hid (∀ kk, vt'.ownBlock = some kk → m1 kk = none) ∧ Hid (td'.getD k 0 = xk) ∧ k < td'.length) (fun _ i _ => nl - (intOf i).toNat)
          case atStart => exact ⟨L, td, 0, rfl, by omega, HO3, HI, HH, HTN, HXK, hlt⟩
          case round =>
            clear HO3 HI HH HTN HXK hlt htl
            obtain ⟨L', td', ii, rfl, hii, HO, HI, HH, HTN, HXK, hlt⟩ := hrel
            obtain ⟨qt, ct, rfl⟩ := own_shape HO.out.t
            by_cases hlt2 : ii < nl
            · obtain ⟨-, hl1, hl2, hat⟩ := HR.out.at
              obtain ⟨gl, ol, rfl, hx⟩ := hat ii (by rw [HNL.out]; exact hlt2)
              unfold maxLen at hl2
              have hxs : (nxt code (xk : Int))[ii]? = some ((nxt code (xk : Int)).getD ii 0) := by
                have : ii < (nxt code (xk : Int)).length := by rw [HNL.out]; exact hlt2
                simp [this]
              generalize (nxt code (xk : Int)).getD ii 0 = x at hx hxs
              have hxn : x < nc + 1 := by have := nxt_lt (List.mem_of_getElem? hxs); rw [HNC.out] at this; exact this
              have cx := has_cle HH.out _ _ hx
              have cx' : wr.cell? ⟨gl, ol + ii, none⟩ = some (.int .i64 ((x : Nat) : Int)) := cx
              have hxs2 := Lib.hid (show ((fun y : Nat => nxt code (y : Int)) (td'.getD k 0))[ii]? = some x by rw [HXK.out]; exact hxs)
              have hxL : x < L'.length := by have := HI.out.len; omega
              have hcs : wr.cell? ⟨w.heap.size + 1, x, none⟩ = some (.bool (L'.getD x false)) := HO.out.s.cell (by simp [cB, hxL])
              have hii2 : (ii : Int) < (nl : Int) := by omega
              have hxn2 : (x : Int) < (nc : Int) + 1 := by omega
              have hcnt := HI.out.cnt
              clear hat cx hxs
              cases hb : L'.getD x false with
              | true =>
                rw [hb] at hcs
                have HI2 := Lib.hid (HI.out.skip hxs2.out hb)
                clear hb HI hcnt
                go_wp2_with fail
                exact ⟨⟨L', td', ii + 1, by go_num, by omega, HO, HI2, HH, HTN, HXK, hlt⟩, by simp [intOf]; omega⟩
              | false =>
                rw [hb] at hcs
                have HI2 := Lib.hid (HI.out.new hlt hxs2.out hb hxn)
                have fx := HO.out.s.free x
                have hnx : ((x : Int) != -1) = true := by simp
                have HO2 := Lib.hid (HO.out.see x)
                have HH2 := Lib.hid (HH.out.chg ((Chg.refl (fun k => k = w.heap.size + 1) wr).setCell (p := ⟨w.heap.size + 1, x, none⟩) (.inl rfl) (.bool true)) (fun k e => by rw [e]; exact HSN.out))
                clear hb HI HO HH
                go_upto_region 16 with (fail)
                obtain ⟨W5, hW5⟩ : ∃ W5, wr.setCell ⟨w.heap.size + 1, x, none⟩ (.bool true) = W5 := ⟨_, rfl⟩
                rw [hW5] at HO2 HH2
                try rw [hW5]
                have cx5 : W5.cell? ⟨gl, ol + ii, none⟩ = some (.int .i64 ((x : Nat) : Int)) := has_cle HH2.out _ _ hx
                clear hW5 cx' hcs fx hx hnx hxs2
                have hsz := HO2.out.b.size
                go_wp2_with (at_builtin; refine wpList_mst rfl _ _ rfl w.heap.size _ td' rfl (World.ownsRow.alloc HO2.out.t _) ⟨_, 0, none⟩ 1 [x] rfl (news_one rfl rfl) (by simp; omega) (by simp; omega) ?_)
                intro v6 w6 hO6 hM6
                obtain ⟨q6, c6, rfl⟩ := own_shape hO6
                have HF := Lib.hid (show Wo lv qp np cp qr nr cr lo stk qc nc cc w (nc + 1) (L'.set x true) (td' ++ [x]) (.slice q6 (td' ++ [x]).length c6) w6 from (HO2.out.later ((Below.refl _ W5).alloc (Nat.le_refl _) _)).push hO6 hM6)
                have HH6 := Lib.hid (show Has w6 m1 ∧ (∀ kk, (Value.slice q6 (td' ++ [x]).length c6).ownBlock = some kk → m1 kk = none) from by
                  have hA : Has (W5.alloc (.cells #[.int .i64 ((x : Nat) : Int)] 3)) m1 := has_grown HH2.out ((Below.refl _ W5).alloc (Nat.le_refl _) _)
                  rcases hM6 with ⟨e1, e2⟩ | ⟨e1, e2⟩
                  · exact ⟨hA.chg (grown_chg (S := fun k => (Value.slice qt td'.length ct).ownBlock = some k) e2 (fun k e => .inl e)) (fun k e => HTN.out k e), fun kk e => HTN.out kk (by rw [← e1]; exact e)⟩
                  · exact ⟨hA.chg (grown_chg (S := fun _ => False) e2 (fun k e => by cases e)) (fun k e => e.elim), fun kk e => HH2.out.lt (by have := e1 kk e; simp at this; omega)⟩)
                have HXK2 := Lib.hid (show (td' ++ [x]).getD k 0 = xk by rw [List.getD_eq_getElem?_getD, List.getElem?_append_left hlt, ← List.getD_eq_getElem?_getD]; exact HXK.out)
                have HL6 := Lib.hid (show k < (td' ++ [x]).length by simp; omega)
                clear hM6 hO6 cx5
                go_wp2
                exact ⟨⟨L'.set x true, td' ++ [x], ii + 1, by go_num, by omega, HF, HI2, Lib.hid HH6.out.1, Lib.hid HH6.out.2, HXK2, HL6.out⟩, by simp [intOf]; omega⟩
            · obtain rfl : ii = nl := by omega
              have HI2 := Lib.hid (HI.out.next (by rw [HXK.out, HNL.out]; exact Nat.le_refl _) hlt)
              have htl : td'.length ≤ nc + 1 := by have := HI.out.cnt; omega
              clear HI
              go_wp2
              exact ⟨⟨L', td', k + 1, by go_num, HO, HI2, by omega⟩, by simp [intOf]; omega⟩
        · obtain rfl : k = td.length := by have := HI.out.kle; omega
          have hd := HI.out.done
          subst hd
          have hl := rch_len (fun x => nxt code x) (nc + 1) j
          clear HI
          go_wp2
          go_ret
          exact ⟨.slice (some ⟨w.heap.size + 1, 0, none⟩) (nc + 1) (nc + 1), rfl, ⟨by rw [cB_len]; simp, .inr ⟨_, nc + 1, _, by rw [hl], by omega, HO.out.s, by omega, by unfold maxLen; omega, by simp [cB_len, hl], by simp [List.take_of_length_le, cB_len]⟩⟩, HO.out.b⟩
    · rw [if_neg (by omega)]
      have hge : (nc : Int) + 1 ≤ a := by omega
      clear hI hn hm hm2
      go_enter Try.func32, Try.ntmps32
      go_wp2
      go_ret
      exact ⟨_, rfl, ownT_new' _ (by simp) (by simp) (by omega), bl_al (bl_al (Below.refl _ w) _) _⟩
  · rw [if_neg (by omega)]
    clear hI hn hm hm2
    go_enter Try.func32, Try.ntmps32
    go_wp2
    go_ret
    exact ⟨_, rfl, ownT_new' _ (by simp) (by simp) (by omega), bl_al (bl_al (Below.refl _ w) _) _⟩
set_option maxRecDepth 100000 in
set_option maxHeartbeats 1000000 in
theorem refReach_any {w : World} {code : Cd} (hI : InAt (wC w) qc code) (hn : code.length = nc) (hm : nc ≤ cc) (hm2 : cc ≤ maxLen) (hnc : nc ≤ 1000) (a : Int) :
    Calls Try.prog 16 #[fnV lv qp np cp qr nr cr lo stk qc nc cc, .int .i64 a] w fun e w' => ∃ v, e = .returned v ∧ OwnT w.heap.size w' v (if 0 ≤ a ∧ a ≤ nc then rch (fun x => nxt code x) (nc + 1) a.toNat else List.replicate (nc + 1) false) ∧ Below w.heap.size w w' := by
  have HX := Lib.hid (fun (W : World) (h : Below w.heap.size w W) => without_any lv qp np cp qr nr cr lo stk qc nc cc (inAt_le qc hI h) hn hm hm2 hnc a)
  obtain ⟨R, hR⟩ : ∃ R, (if 0 ≤ a ∧ a ≤ (nc : Int) then rch (fun x => nxt code x) (nc + 1) a.toNat else List.replicate (nc + 1) false) = R := ⟨_, rfl⟩
  rw [hR] at HX ⊢
  clear hI hn hm hm2 hR
  go_enter Try.func16, Try.ntmps16
  go_wp2_with fail
  go_at_call 32
  refine (HX.out _ (bl_al (Below.refl _ w) _)).mono ?_
  rintro e w' ⟨v, rfl, hO, hB⟩
  have hO' := own_base (B := w.heap.size) hO (by simp)
  have hB' := bl_tr (bl_al (Below.refl _ w) _) hB
  clear hO hB
  go_wp2
  go_ret
  exact ⟨_, rfl, hO', hB'⟩
end
end Go.Proofs.Ythgcnlccikpmaaa
