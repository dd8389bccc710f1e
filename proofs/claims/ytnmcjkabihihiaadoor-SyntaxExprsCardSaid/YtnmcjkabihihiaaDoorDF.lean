/- The document's Expr. -/
import Derived.Test.YtnmcjkabihihiaaDoorDE
namespace Go.Proofs.YtnmcjkabihihiaaDoor
open Go Go.RowKit Go.Proofs.Mm

def DxR (s : ByteArray) (w : World) (e : Ending) (w' : World) : Prop := Below w.heap.size w w' ∧
  ((∃ er a : Nat, expOf s = .error (er, a) ∧ e = .returned (.tuple #[.slice none 0 0, .agg #[.int .i64 (er : Nat), .int .i64 (-1), .int .i64 (a : Nat)]])) ∨
   (∃ l q c, expOf s = .ok l ∧ e = .returned (.tuple #[.slice q l.length c, .agg #[.int .i64 0, .int .i64 0, .int .i64 0]]) ∧ w'.ownsRow w.heap.size 46 3 (.slice q l.length c) l.length (tmCells l)))
theorem resultsD (tmps : Array Value) (w : World) (b5 : Nat) (v y0 y1 y2 : Value) (T3 : TypeId) (h4 : tmps[2]?.getD undef = v) (h5 : tmps[3]?.getD undef = .pointer (some ⟨b5, 0, none⟩))
    (c5 : w.heap[b5]? = some (.cells #[y0, y1, y2] T3 (0, 0))) :
    (results Tryd.f5 tmps).run Tryd.prog w = .ok (.tuple #[v, .agg #[y0, y1, y2]]) w := by
  obtain ⟨q0, q1, q2, _⟩ := three_cells c5
  simp [results, Tryd.results5, go_sem, h4, h5, q0, q1, q2]
theorem exp_read {s : ByteArray} (h : faultOf s = none) : expOf s = match (Syn.expr (Tk (itsOf s)) ((itsOf s).length + 1) 0).on (fun l i => if (Tk (itsOf s) i).isSome then (.error (50, i) : Syn.R (List Syn.Tm)) else .ok (l, i)) with
    | .error (er, k) => .error (er, (tk (itsOf s) s.size k).a)
    | .ok (x, _) => .ok x := by
  unfold expOf readOf
  rw [h]
  have hw : Syn.whole1 (Tk (itsOf s)) ((itsOf s).length + 1) = (Syn.expr (Tk (itsOf s)) ((itsOf s).length + 1) 0).on (fun l i => if (Tk (itsOf s) i).isSome then (.error (50, i) : Syn.R (List Syn.Tm)) else .ok (l, i)) := rfl
  simp only
  rw [hw]
  generalize (Syn.expr (Tk (itsOf s)) ((itsOf s).length + 1) 0).on _ = R
  cases R with
  | error q => rfl
  | ok q => rfl
set_option maxRecDepth 100000 in
set_option maxHeartbeats 4000000 in
theorem docExpr_any (s : ByteArray) (w : World) : Calls Tryd.prog 5 #[.string s] w (DxR s w) := by
  have hb0 : Below w.heap.size w (w.alloc flZ) := (Below.refl _ _).alloc (Nat.le_refl _) _
  have hF := World.alloc_heap_new w flZ
  have hsz : (w.alloc flZ).heap.size = w.heap.size + 1 := by simp
  have hbeg := begin_any s (w.alloc flZ)
  have HB0 := Lib.hid hb0
  have HF := Lib.hid hF
  clear hb0 hF
  go_enter Tryd.func5, Tryd.ntmps5
  go_wp2_with fail
  go_at_call 9
  change Calls Tryd.prog _ _ (w.alloc flZ) _
  generalize w.alloc flZ = W0 at *
  refine hbeg.mono ?_
  rintro e w1 ⟨hb1, D, rfl, hbt, hbt2, ⟨er, a, h0, hf, hd⟩ | ⟨hf, hss, hws, hys, hlen, hd, hbw⟩⟩
  · have HW1 := Lib.hid (show RdE w flZ w1 from ⟨(hb1.block _ (by omega)).trans HF.out, (Below.chg HB0.out (Nat.le_refl _) _).then (Below.chg (hb1.mono (Nat.le_refl _)) (Nat.le_refl _) _)⟩)
    obtain ⟨q, _, _, x2, _⟩ := hd.raw
    have e0 : ((er : Int) == 0) = false := by simp; omega
    have e1 : ((er : Int) != 0) = true := by simp; omega
    have HFA := Lib.hid (faultD_any hd h0)
    have HX := Lib.hid (show expOf s = .error (er, a) from read_bad hf)
    clear hd hbeg hb1
    go_wp2_with fail
    go_at_call 12
    refine HFA.out.mono ?_
    rintro e w2 ⟨rfl, hc2⟩
    have HW2 := Lib.hid (HW1.out.next hc2 (fun k e => e.elim))
    obtain ⟨y0, y1, y2, g0, g1, g2⟩ := three_cells HW2.out.flt
    have HEND := Lib.hid (HW2.out.fault (.int .i64 (er : Nat)) (.int .i64 (-1)) (.int .i64 (a : Nat)))
    clear hc2
    go_wp2
    exact bodyPost_ret (resultsD _ _ _ _ _ _ _ _ rfl rfl HEND.out.flt) rfl ⟨HEND.out.chg.below (Nat.le_refl _) (fun _ e => e.elim), .inl ⟨er, a, HX.out, rfl⟩⟩
  · have HW1 := Lib.hid (show RdE w flZ w1 from ⟨(hb1.block _ (by omega)).trans HF.out, (Below.chg HB0.out (Nat.le_refl _) _).then (Below.chg (hb1.mono (Nat.le_refl _)) (Nat.le_refl _) _)⟩)
    obtain ⟨q0, _, _, x2, _⟩ := hd.raw
    have e0 : (((0 : Nat) : Int) == 0) = true := rfl
    have hfew := hd.few
    have hex : Calls Tryd.prog 10 #[PB D, .int .i64 0, .int .i64 0, .int .i64 0] w1 (LvR D (.slice none 0 0) (.slice none 0 0) (Syn.expr (Tk D.ys) (D.ys.length + 1) 0) (1 + (12 + 1) * 458759) w1) := expr_d 12 (Nat.le_refl _) w1 0 0 (Nat.zero_le _) hd
    have HXX := Lib.hid (exp_read hf)
    have HYS := Lib.hid hys
    have HLN := Lib.hid hlen
    have HEX := Lib.hid hex
    have hws1 : w.heap.size ≤ w1.heap.size := by have := hb1.size; omega
    clear hbeg hb1 hd hbw hf hys hlen hex hws
    go_wp2_with fail
    go_at_call 10
    refine HEX.out.mono ?_
    rintro e w2 ⟨q, c, l, z, er2, a2, rfl, ho, hp, hc, hC, hd2, hm⟩
    have HW2 := Lib.hid (HW1.out.next hC (fun k e => by subst e; omega))
    obtain ⟨q2, y0, _, y2, _⟩ := hd2.raw
    have HO := Lib.hid ho
    have HD2 := Lib.hid hd2
    have HM := Lib.hid hm
    have hs2 := hC.size
    clear ho hd2 hm x2 hC
    cases hr : Syn.expr (Tk D.ys) (D.ys.length + 1) 0 with
    | error qq =>
      obtain ⟨k, t⟩ := qq
      have hm := HM.out
      rw [hr] at hm
      obtain ⟨rfl, m1, m2⟩ := hm
      have HX := Lib.hid (show expOf s = .error (er2, a2) from by
        have h := HXX.out
        rw [← HYS.out, hr] at h
        rw [h, m2, HLN.out, HYS.out] <;> rfl)
      have e2 : ((er2 : Int) == 0) = false := by simp; omega
      have e3 : ((er2 : Int) != 0) = true := by simp; omega
      have HFA := Lib.hid (faultD_any HD2.out m1)
      have HBF := Lib.hid (bad_f HD2.out m1 50 z)
      clear hr m2 HM HXX
      by_cases hz : z < (D.ys.length : Nat)
      all_goals
        go_wp2_with (go_at_call 11; refine HBF.out.mono ?_; rintro e w' ⟨rfl, rfl⟩)
        go_at_call 12
        refine HFA.out.mono ?_
        rintro e w3 ⟨rfl, hc3⟩
        have HW3 := Lib.hid (HW2.out.next hc3 (fun k e => e.elim))
        obtain ⟨y0', y1', y2', g0, g1, g2⟩ := three_cells HW3.out.flt
        have HEND := Lib.hid (HW3.out.fault (.int .i64 (er2 : Nat)) (.int .i64 (-1)) (.int .i64 (a2 : Nat)))
        clear hc3
        go_wp2
        exact bodyPost_ret (resultsD _ _ _ _ _ _ _ _ rfl rfl HEND.out.flt) rfl ⟨HEND.out.chg.below (Nat.le_refl _) (fun _ e => e.elim), .inl ⟨er2, a2, HX.out, rfl⟩⟩
    | ok qq =>
      obtain ⟨l0, j⟩ := qq
      have hm := HM.out
      rw [hr] at hm
      obtain ⟨rfl, rfl, rfl⟩ := hm
      by_cases hj : j < D.ys.length
      · have HX := Lib.hid (show expOf s = .error (50, (tk D.ys D.len j).a) from by
          have h := HXX.out
          rw [← HYS.out, hr, on_ok', if_pos (by rw [Tk_some (len := D.len) hj]; rfl)] at h
          rw [h, HLN.out, HYS.out] <;> rfl)
        have hji : (j : Int) < (D.ys.length : Nat) := by omega
        have HBD := Lib.hid (bad_d HD2.out 50 j)
        clear hr HM HXX
        go_wp2_with fail
        go_at_call 11
        refine HBD.out.mono ?_
        rintro e w3 ⟨rfl, hc3, hd3⟩
        have HW3 := Lib.hid (HW2.out.next hc3 (fun k e => by subst e; omega))
        obtain ⟨q3, _, _, z2, _⟩ := hd3.raw
        have HFA := Lib.hid (faultD_any hd3 (by decide))
        have e3 : (((50 : Nat) : Int) != 0) = true := rfl
        clear hd3 hc3
        go_wp2_with fail
        go_at_call 12
        refine HFA.out.mono ?_
        rintro e w4 ⟨rfl, hc4⟩
        have HW4 := Lib.hid (HW3.out.next hc4 (fun k e => e.elim))
        obtain ⟨y0', y1', y2', g0, g1, g2⟩ := three_cells HW4.out.flt
        have HEND := Lib.hid (HW4.out.fault (.int .i64 ((50 : Nat) : Int)) (.int .i64 (-1)) (.int .i64 ((tk D.ys D.len j).a : Nat)))
        clear hc4
        go_wp2
        exact bodyPost_ret (resultsD _ _ _ _ _ _ _ _ rfl rfl HEND.out.flt) rfl ⟨HEND.out.chg.below (Nat.le_refl _) (fun _ e => e.elim), .inl ⟨50, _, HX.out, rfl⟩⟩
      · have HX := Lib.hid (show expOf s = .ok l from by
          have h := HXX.out
          rw [← HYS.out, hr, on_ok', if_neg (by rw [Tk_none (by omega)]; simp)] at h
          exact h)
        have hji : ¬ ((j : Int) < (D.ys.length : Nat)) := by omega
        have e3 : (((0 : Nat) : Int) != 0) = false := rfl
        obtain ⟨y0', y1', y2', g0, g1, g2⟩ := three_cells HW2.out.flt
        have HEND := Lib.hid (HW2.out.fault (.int .i64 0) (.int .i64 0) (.int .i64 0))
        have HOE := Lib.hid (own_chg HO.out (chg_three (Chg.refl (fun k => k = w.heap.size) w2) (g := w.heap.size) (.inl rfl) (.int .i64 0) (.int .i64 0) (.int .i64 0)) (fun k hk e => by have := (HO.out.lt k hk).1; omega))
        clear hr HM HXX
        go_wp2
        exact bodyPost_ret (resultsD _ _ _ _ _ _ _ _ rfl rfl HEND.out.flt) rfl ⟨HEND.out.chg.below (Nat.le_refl _) (fun _ e => e.elim), .inr ⟨l, q, c, HX.out, rfl, own_mono2 HOE.out hws1⟩⟩
end Go.Proofs.YtnmcjkabihihiaaDoor
