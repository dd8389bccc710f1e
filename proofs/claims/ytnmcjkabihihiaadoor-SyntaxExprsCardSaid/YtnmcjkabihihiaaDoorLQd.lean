/- A text read as an expression: read; Expr. -/
import Derived.Test.YtnmcjkabihihiaaDoorLOd
namespace Go.Proofs.YtnmcjkabihihiaaDoor
open Go Go.RowKit Go.Proofs.Mm

attribute [local go_sem] Oper.semAt_some

theorem whole_eq (T : Nat → Option Syn.K) (F : Nat) : (Syn.expr T F 0).on (endP T) = Syn.whole1 T F := rfl
/-- What Expr, and read of an expression, answer. -/
def ExpRes (s : ByteArray) (m : Mem) (w : World) (e : Ending) (w' : World) : Prop := Below w.heap.size w w' ∧
  match expOf s with
  | .error (er, a) => e = .returned (.tuple #[.slice none 0 0, .agg #[.int .i64 (er : Nat), .int .i64 (-1), .int .i64 (a : Nat)]])
  | .ok l => ∃ v m', e = .returned (.tuple #[v, .agg #[.int .i64 0, .int .i64 0, .int .i64 0]]) ∧ TmM m' v l ∧ m.More w m' ∧ Has w' m'
theorem ExpRes.bad {s : ByteArray} {m : Mem} {w w' : World} {er a : Nat} (h : expOf s = .error (er, a)) (hb : Below w.heap.size w w') : ExpRes s m w (.returned (.tuple #[.slice none 0 0, .agg #[.int .i64 (er : Nat), .int .i64 (-1), .int .i64 (a : Nat)]])) w' := ⟨hb, by rw [h]⟩
theorem ExpRes.good {s : ByteArray} {m m' : Mem} {w w' : World} {l : List Syn.Tm} {v : Value} (h : expOf s = .ok l) (hb : Below w.heap.size w w') (h1 : TmM m' v l) (h2 : m.More w m') (h3 : Has w' m') : ExpRes s m w (.returned (.tuple #[v, .agg #[.int .i64 0, .int .i64 0, .int .i64 0]])) w' := ⟨hb, by rw [h]; exact ⟨v, m', rfl, h1, h2, h3⟩⟩
theorem resultsE (tmps : Array Value) (w : World) (b5 : Nat) (v y0 y1 y2 : Value) (T3 : TypeId) (h4 : tmps[4]?.getD undef = v) (h5 : tmps[5]?.getD undef = .pointer (some ⟨b5, 0, none⟩))
    (c5 : w.heap[b5]? = some (.cells #[y0, y1, y2] T3 (0, 0))) :
    (results Tryd.f7 tmps).run Tryd.prog w = .ok (.tuple #[v, .agg #[y0, y1, y2]]) w := by
  obtain ⟨q0, q1, q2, _⟩ := three_cells c5
  simp [results, Tryd.results7, go_sem, h4, h5, q0, q1, q2]
/-- Read's result block, and what else has turned. -/
structure RdE (w : World) (f : Obj) (W : World) : Prop where
  flt : W.heap[w.heap.size]? = some f
  chg : Chg (fun _ => False) w W
theorem RdE.next {w W W' : World} {f : Obj} {S : Nat → Prop} (h : RdE w f W) (hc : Chg S W W') (hS : ∀ k, S k → w.heap.size + 1 ≤ k) : RdE w f W' :=
  ⟨hc.heap h.flt (fun e => by have := hS _ e; omega), h.chg.trans hc (fun k e => .inr (by have := hS _ e; omega))⟩
theorem RdE.size {w W : World} {f : Obj} (h : RdE w f W) : w.heap.size + 1 ≤ W.heap.size := heap_lt h.flt
theorem RdE.fault {w W : World} {x0 y0 z0 : Value} (h : RdE w (.cells #[x0, y0, z0] 25) W) (x y z : Value) : RdE w (.cells #[x, y, z] 25) (((W.setCell ⟨w.heap.size, 0, none⟩ x).setCell ⟨w.heap.size, 1, none⟩ y).setCell ⟨w.heap.size, 2, none⟩ z) :=
  ⟨set3 h.flt, chg_three h.chg (.inr (by omega)) x y z⟩
theorem RdE.bad {s : ByteArray} {m : Mem} {w W : World} {er a : Nat} (h : RdE w (.cells #[.int .i64 (er : Nat), .int .i64 (-1), .int .i64 (a : Nat)] 25) W) (hs : expOf s = .error (er, a)) (tmps : Array Value) (h4 : tmps[4]?.getD undef = .slice none 0 0) (h5 : tmps[5]?.getD undef = .pointer (some ⟨w.heap.size, 0, none⟩)) :
    ∃ v, (results Tryd.f7 tmps).run Tryd.prog W = .ok v W ∧ ExpRes s m w (.returned v) W :=
  ⟨_, resultsE tmps W _ _ _ _ _ _ h4 h5 h.flt, ExpRes.bad hs (h.chg.below (Nat.le_refl _) (fun _ e => e.elim))⟩
theorem RdE.good {s : ByteArray} {m m' : Mem} {w W : World} {l : List Syn.Tm} {v : Value} (h : RdE w flZ W) (hs : expOf s = .ok l) (h1 : TmM m' v l) (h2 : m.More w m') (h3 : Has W m') (tmps : Array Value) (h4 : tmps[4]?.getD undef = v) (h5 : tmps[5]?.getD undef = .pointer (some ⟨w.heap.size, 0, none⟩)) :
    ∃ v, (results Tryd.f7 tmps).run Tryd.prog W = .ok v W ∧ ExpRes s m w (.returned v) W :=
  ⟨_, resultsE tmps W _ _ _ _ _ _ h4 h5 h.flt, ExpRes.good hs (h.chg.below (Nat.le_refl _) (fun _ e => e.elim)) h1 h2 h3⟩
theorem scan_err_exp {s : ByteArray} {pr : List It} {x : It} (hp : (pr ++ [x]).map It.key <+: allItems s) (hx : x.e ≠ 0) : expOf s = .error (x.e, x.a) := read_bad (faultOf_some hp hx)
set_option maxRecDepth 100000 in
set_option maxHeartbeats 4000000 in
theorem readE_any (s : ByteArray) (w : World) (hE : Env w) {m : Mem} (hm : Has w m) :
    Calls Tryd.prog 7 #[.string s, .func (.func 8) #[] #[]] w (ExpRes s m w) := by
  have hmf : ∀ (fn : Fn) (first cap : Array Value) (w : World), (Instr.makeFunc fn first cap).run Tryd.prog w = .ok (.func fn first cap) w := fun _ _ _ _ => rfl
  have hb0 : Below w.heap.size w (w.alloc flZ) := (Below.refl _ _).alloc (Nat.le_refl _) _
  have hE2 : Env (w.alloc flZ) := hE.below hb0 hE.lt
  have hF := World.alloc_heap_new w flZ
  have hsz : (w.alloc flZ).heap.size = w.heap.size + 1 := by simp
  have hscan := scan_any s _ hE2
  have HB0 := Lib.hid hb0
  have HF := Lib.hid hF
  have HM := Lib.hid hm
  clear hb0 hE2 hF hm
  go_enter_defers Tryd.func7, Tryd.ntmps7
  go_wp2_with fail
  go_at_call 13
  change Calls Tryd.prog _ _ (w.alloc flZ) _
  generalize w.alloc flZ = W0 at *
  refine hscan.mono ?_
  rintro e w1 ⟨hb1, ⟨ys, q, c, hy, hy0, rfl, hrow⟩ | ⟨pr, x, hp, hx, rfl⟩⟩
  · have hws := ws_of hy hy0
    have hlen := hws.2
    have HW1 := Lib.hid (show RdE w flZ w1 from ⟨(hb1.block _ (by omega)).trans HF.out, (Below.chg HB0.out (Nat.le_refl _) _).then (Below.chg (hb1.mono (Nat.le_refl _)) (Nat.le_refl _) _)⟩)
    have hlo : ∀ k, Value.ownBlock (.slice q ys.length c) = some k → w.heap.size + 1 ≤ k := fun k hk => by have := (hrow.lt k hk).1; omega
    obtain ⟨i0, hi, hz0, hz1, hz2⟩ := info29
    have hs1 := hb1.size
    clear HB0 HF hb1 hscan
    go_wp2_with (at_builtin; refine wpList_append_own_at _ rfl _ _ 47 rfl W0.heap.size 54 i0 _ 4 40 Tryd.underlying47 hi hz0 hz1 hz2 rfl (by decide) _ _ _ rfl (hrow.alloc _) ⟨w1.heap.size, 0, none⟩ 1 1 [.int .i64 (0 : Nat), .string ⟨#[]⟩, .int .i64 (0 : Nat), .int .i64 (s.size : Nat)] rfl rfl ?c1 ?c2 ?c3 ?c4 ?c5 ?_)
    case c1 => exact row_new w1 _ 54
    case c2 =>
      intro u hu
      simp only [List.mem_cons, List.not_mem_nil, or_false] at hu
      rcases hu with rfl | rfl | rfl | rfl <;> rfl
    case c3 => unfold maxLen; omega
    case c4 => omega
    case c5 => simp; omega
    intro v9 w9 hown9 hgrow9 _ hat9
    obtain ⟨q9, c9, rfl⟩ := own_shape hown9
    obtain ⟨g, rfl, hgB, hglt, hps⟩ := ps_new hws hown9
    have HW9 := Lib.hid ((HW1.out.next ((Chg.refl (fun k => Value.ownBlock (.slice q ys.length c) = some k) w1).alloc _ |>.then (grown_chg hgrow9 (fun k e => .inl e))) hlo).next ((Chg.refl (fun _ => False) w9).alloc (.cells #[.slice (some ⟨g, 0, none⟩) (ys.length + 1) c9, .slice none 0 0] 56)) (fun _ e => e.elim))
    have hw9 : w.heap.size + 1 ≤ w9.heap.size := by have := (HW1.out.next ((Chg.refl (fun k => Value.ownBlock (.slice q ys.length c) = some k) w1).alloc _ |>.then (grown_chg hgrow9 (fun k e => .inl e))) hlo).size; exact this
    have HPS := Lib.hid hps
    clear hown9 hgrow9 hat9 hps hrow hlo HW1
    have hsrc := ret_cases (expr_any hws HPS.out)
    have HL := Lib.hid (show expOf s = _ from read_eq (r := Syn.whole1) hy hy0)
    go_wp2_with fail
    go_at_call 8
    have hsz9 : w9.heap.size ≤ (w9.alloc (.cells #[.slice (some ⟨g, 0, none⟩) (ys.length + 1) c9, .slice none 0 0] 56)).heap.size := by simp
    generalize w9.alloc (.cells #[.slice (some ⟨g, 0, none⟩) (ys.length + 1) c9, .slice none 0 0] 56) = W9 at *
    generalize w9.heap.size = bp at *
    refine hsrc.mono ?_
    rintro e w5 ⟨hc5, ⟨er, k, hr, rfl⟩ | ⟨l, j, hr, v5, rfl, b1, b5, b6⟩⟩
    · have HW5 := Lib.hid (HW9.out.next hc5 (fun k e => by omega))
      have HE := Lib.hid (show expOf s = .error (er, (tk ys s.size k).a) from by rw [HL.out, ← whole_eq, hr]; rfl)
      have hf5 := HW5.out.flt
      clear hc5 hr
      go_wp2_with fail
      refine leaves_cons (f := 15) (args := #[.pointer (some ⟨w.heap.size, 0, none⟩)]) (by simp) (by simp [go_sem]) ?_
      refine (catchT_fail w.heap.size _ _ _ _ _ w5 hf5).mono ?_
      rintro e u' w' ⟨rfl, rfl, rfl⟩
      exact (HW5.out.fault _ _ _).bad HE.out _ rfl rfl
    · have HW5 := Lib.hid (HW9.out.next hc5 (fun k e => by omega))
      obtain ⟨q1, d1, rfl⟩ := own_shape b1
      have hend := ret_cases (wantEnd_ps b5 l)
      have hown : ∀ k, Value.ownBlock (.slice q1 l.length d1) = some k → w.heap.size + 1 ≤ k := fun k hk => by have := b6 k hk; omega
      obtain ⟨m5, e1, e2, e3, e4⟩ := RowM.done b1 (HM.out.chg HW5.out.chg (fun _ e => e.elim)) (fun k hk => HM.out.lt (by have := hown k hk; omega))
      have HX := Lib.hid (show m.More w m5 from ⟨e1, fun k e hk => done_none e2 e (fun q => by have := hown k q; omega)⟩)
      have HFN := Lib.hid (show m5 w.heap.size = none from done_none e2 (HM.out.lt (Nat.le_refl _)) (fun q => by have := hown _ q; omega))
      have HT := Lib.hid (And.intro e3 (show TmM m5 (.slice q1 l.length d1) l from e4))
      clear hc5 b1 b5 b6 hsrc HPS e1 e2 e3 e4 hown
      go_wp2_with fail
      go_at_call 16
      refine hend.mono ?_
      rintro e w7 ⟨hc7, ⟨er, k, hr7, rfl⟩ | ⟨so', j', hr7, rfl, rfl⟩⟩
      · have HW7 := Lib.hid (HW5.out.next hc7 (fun k e => by omega))
        have HE := Lib.hid (show expOf s = .error (er, (tk ys s.size k).a) from by rw [HL.out, ← whole_eq, hr, on_ok', hr7])
        have hf7 := HW7.out.flt
        clear hc7 hr7
        go_wp2_with fail
        refine leaves_cons (f := 15) (args := #[.pointer (some ⟨w.heap.size, 0, none⟩)]) (by simp) (by simp [go_sem]) ?_
        refine (catchT_fail w.heap.size _ _ _ _ _ w7 hf7).mono ?_
        rintro e u' w' ⟨rfl, rfl, rfl⟩
        exact (HW7.out.fault _ _ _).bad HE.out _ rfl rfl
      · have HE := Lib.hid (show expOf s = .ok l from by
          rw [HL.out, ← whole_eq, hr, on_ok', hr7]
          unfold endP at hr7
          split at hr7
          · cases hr7
          · injection hr7 with hr7; injection hr7 with hr7; rw [hr7])
        have hb5 := HW5.out.size
        obtain ⟨y0, y1, y2, g0, g1, g2⟩ := three_cells HW5.out.flt
        have HE1 := Lib.hid (HT.out.1.chg (chg_three (Chg.refl (fun k => k = w.heap.size) w5) (g := w.heap.size) (.inl rfl) (.int .i64 0) (.int .i64 0) (.int .i64 0)) (fun k e => by rw [e]; exact HFN.out))
        clear hr7 hc7
        go_wp2_with fail
        refine leaves_cons (f := 15) (args := #[.pointer (some ⟨w.heap.size, 0, none⟩)]) (by simp) (by simp [go_sem]) ?_
        refine (catchT_idle w.heap.size _).mono ?_
        rintro e u' w' ⟨rfl, rfl, rfl⟩
        exact (HW5.out.fault _ _ _).good HE.out HT.out.2 HX.out (HE1.out) _ rfl rfl
  · have hxe : (((x.e : Nat) : Int) != 0) = true := by simp; omega
    have HW1 := Lib.hid (show RdE w flZ w1 from ⟨(hb1.block _ (by omega)).trans HF.out, (Below.chg HB0.out (Nat.le_refl _) _).then (Below.chg (hb1.mono (Nat.le_refl _)) (Nat.le_refl _) _)⟩)
    have HS := Lib.hid (scan_err_exp hp hx)
    clear hb1 HB0 HF hscan hp
    have HWA := Lib.hid ((HW1.out.next ((Chg.refl (fun _ => False) w1).alloc (.cells #[.int .i64 (x.e : Nat), .int .i64 (-1), .int .i64 (x.a : Nat)] 25)) (fun _ e => e.elim)))
    obtain ⟨y0, y1, y2, g0, g1, g2⟩ := three_cells HWA.out.flt
    go_wp2_with (go_at_call 14; refine (faultAt_any _ _ _).mono ?_; rintro e w2 ⟨rfl, rfl⟩)
    exact (HWA.out.fault _ _ _).bad HS.out _ rfl rfl
theorem resultsX (tmps : Array Value) (w : World) (b5 : Nat) (v y0 y1 y2 : Value) (T3 : TypeId) (h4 : tmps[2]?.getD undef = v) (h5 : tmps[3]?.getD undef = .pointer (some ⟨b5, 0, none⟩))
    (c5 : w.heap[b5]? = some (.cells #[y0, y1, y2] T3 (0, 0))) :
    (results Tryd.f4 tmps).run Tryd.prog w = .ok (.tuple #[v, .agg #[y0, y1, y2]]) w := by
  obtain ⟨q0, q1, q2, _⟩ := three_cells c5
  simp [results, Tryd.results4, go_sem, h4, h5, q0, q1, q2]
theorem ExpRes.cases {s : ByteArray} {m : Mem} {w w' : World} {e : Ending} (h : ExpRes s m w e w') : Below w.heap.size w w' ∧
    ((∃ er a, expOf s = .error (er, a) ∧ e = .returned (.tuple #[.slice none 0 0, .agg #[.int .i64 (er : Nat), .int .i64 (-1), .int .i64 (a : Nat)]])) ∨
     (∃ l q c m', expOf s = .ok l ∧ e = .returned (.tuple #[.slice q l.length c, .agg #[.int .i64 0, .int .i64 0, .int .i64 0]]) ∧ TmM m' (.slice q l.length c) l ∧ m.More w m' ∧ Has w' m')) := by
  obtain ⟨hb, h⟩ := h
  refine ⟨hb, ?_⟩
  cases hs : expOf s with
  | error q => rw [hs] at h; exact .inl ⟨q.1, q.2, rfl, h⟩
  | ok l =>
    rw [hs] at h
    obtain ⟨v, m', h1, h2, h3, h4⟩ := h
    obtain ⟨q, c, rfl⟩ := rowM_shape h2
    exact .inr ⟨l, q, c, m', rfl, h1, h2, h3, h4⟩
set_option maxRecDepth 100000 in
set_option maxHeartbeats 1000000 in
theorem expr_of_any (s : ByteArray) (w : World) (hE : Env w) {m : Mem} (hm : Has w m) : Calls Tryd.prog 4 #[.string s] w (ExpRes s m w) := by
  have hb0 : Below w.heap.size w (w.alloc flZ) := (Below.refl _ _).alloc (Nat.le_refl _) _
  have hE2 : Env (w.alloc flZ) := hE.below hb0 hE.lt
  have hF := World.alloc_heap_new w flZ
  have hsz : (w.alloc flZ).heap.size = w.heap.size + 1 := by simp
  have hm2 : Has (w.alloc flZ) m := hm.chg (Below.chg hb0 (Nat.le_refl _) (fun _ => False)) (fun _ e => e.elim)
  have hread := readE_any s _ hE2 hm2
  have HB0 := Lib.hid hb0
  have HF := Lib.hid hF
  have HM := Lib.hid hm
  clear hb0 hE2 hF hm hm2
  go_enter Tryd.func4, Tryd.ntmps4
  go_wp2_with fail
  go_at_call 7
  change Calls Tryd.prog _ _ (w.alloc flZ) _
  generalize w.alloc flZ = W0 at *
  refine hread.mono ?_
  rintro e w1 hpr
  obtain ⟨hb1, ⟨er, a, hs, rfl⟩ | ⟨l, q1, c1, m', hs, rfl, h1, h2, h3⟩⟩ := hpr.cases
  all_goals
    have HW1 := Lib.hid (show RdE w flZ w1 from ⟨(hb1.block _ (by omega)).trans HF.out, (Below.chg HB0.out (Nat.le_refl _) _).then (Below.chg (hb1.mono (Nat.le_refl _)) (Nat.le_refl _) _)⟩)
    have hszw := HW1.out.size
    obtain ⟨y0, y1, y2, g0, g1, g2⟩ := three_cells HW1.out.flt
    have HS := Lib.hid hs
    clear hb1 hs hpr hread
  · have HEND := Lib.hid (HW1.out.fault (.int .i64 (er : Nat)) (.int .i64 (-1)) (.int .i64 (a : Nat)))
    go_wp2
    exact bodyPost_ret (resultsX _ _ _ _ _ _ _ _ rfl rfl HEND.out.flt) rfl (ExpRes.bad HS.out (HEND.out.chg.below (Nat.le_refl _) (fun _ e => e.elim)))
  · have HEND := Lib.hid (HW1.out.fault (.int .i64 0) (.int .i64 0) (.int .i64 0))
    have HX := Lib.hid (And.intro h1 (And.intro (h2.from (w := w) (by omega)) (h3.chg (chg_three (Chg.refl (fun k => k = w.heap.size) w1) (g := w.heap.size) (.inl rfl) (.int .i64 0) (.int .i64 0) (.int .i64 0)) (fun k e => by
      rw [e]; exact h2.new _ (HM.out.lt (Nat.le_refl _)) (by omega)))))
    clear h1 h2 h3
    go_wp2
    exact bodyPost_ret (resultsX _ _ _ _ _ _ _ _ rfl rfl HEND.out.flt) rfl (ExpRes.good HS.out (HEND.out.chg.below (Nat.le_refl _) (fun _ e => e.elim)) HX.out.1 HX.out.2.1 HX.out.2.2)
end Go.Proofs.YtnmcjkabihihiaaDoor
