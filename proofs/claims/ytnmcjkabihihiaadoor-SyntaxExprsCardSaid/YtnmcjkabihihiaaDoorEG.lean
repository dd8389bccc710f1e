/- unary of the parser, walked. -/
import Derived.Test.YtnmcjkabihihiaaDoorEF
namespace Go.Proofs.YtnmcjkabihihiaaDoor
open Go Go.RowKit Go.Proofs.Mm

attribute [local go_sem] Oper.semAt_some

theorem unOps_err {T : Nat → Option Syn.K} : ∀ (f i : Nat) (c k : Nat), Syn.unOps T f i = .error (c, k) → c = 99
  | 0, _, _, _, h => by injection h with h; injection h with h _; exact h.symm
  | f + 1, i, c, k, h => by
    rw [Syn.unOps] at h
    split at h
    · cases h
    · cases hu : Syn.unOps T f (i + 1) with
      | error q =>
        rw [hu] at h
        obtain ⟨c', k'⟩ := q
        injection h with h; injection h with h1 h2
        subst h1
        exact unOps_err f _ _ _ hu
      | ok q => rw [hu] at h; cases h
theorem on_ok' {α β : Type} (x : α) (i : Nat) (f : α → Nat → Syn.R β) : Syn.R.on (.ok (x, i)) f = f x i := rfl
theorem backward_any (q : Option Addr) (n c : Nat) (w : World) : Calls Tryd.prog 39 #[.slice q n c] w fun e w' => e = .returned (.func (.func 52) #[] #[.pointer (some ⟨w.heap.size, 0, none⟩)]) ∧ w' = w.alloc (.cells #[.slice q n c] 82) := by
  go_enter Tryd.func39, Tryd.ntmps39
  go_wp2
  go_ret
  exact ⟨rfl, rfl⟩

section
variable {ys : List It} {len bp bw i : Nat} {vp : Value} {w : World}
/-- What unarySign tells at the m-th word of a row of operations. -/
def US (ys : List It) (len bp bw : Nat) (vp : Value) (i : Nat) (ops : List Nat) (m : Nat) (o : Int) (t : Bool) (W : World) : Prop :=
  (t = true ∧ (∃ h : m < ops.length, o = (ops[m] : Nat)) ∧ PS ys len bp bw vp W (i + (m + 1))) ∨ (t = false ∧ m = ops.length ∧ o = 0 ∧ PS ys len bp bw vp W (i + m))
theorem us_any (hw : Ws ys) {ops : List Nat} (h0 : Syn.opOf (Tk ys) Syn.unL (i + ops.length) = 0) (hop : ∀ n (h : n < ops.length), Syn.opOf (Tk ys) Syn.unL (i + n) = ops[n] ∧ ops[n] ≠ 0) {m : Nat} (hm : m ≤ ops.length) {W : World} (hp : PS ys len bp bw vp W (i + m)) :
    Calls Tryd.prog 37 #[.pointer (some ⟨bp, 0, none⟩)] W fun e W' => ∃ o t, e = .returned (.tuple #[.int .i64 o, .bool t]) ∧ Chg (fun k => k = bp) W W' ∧ US ys len bp bw vp i ops m o t W' := by
  by_cases hlt : m < ops.length
  · obtain ⟨h1, h2⟩ := hop m hlt
    have hi := lt_of_op (by rw [h1]; exact h2)
    refine (unarySign_yes hw hp ops[m] h2 h1 hi).mono ?_
    rintro e W' ⟨rfl, hc, hp'⟩
    exact ⟨_, _, rfl, hc, .inl ⟨rfl, ⟨hlt, rfl⟩, by rw [← Nat.add_assoc]; exact hp'⟩⟩
  · obtain rfl : m = ops.length := by omega
    refine (unarySign_no hw hp h0).mono ?_
    rintro e W' ⟨rfl, rfl⟩
    exact ⟨_, _, rfl, Chg.refl _ _, .inr ⟨rfl, rfl, rfl, hp⟩⟩

set_option maxRecDepth 100000 in
set_option maxHeartbeats 2000000 in
theorem unary_any (hw : Ws ys) {d : Nat} {e : Option (Nat → Syn.R (List Syn.Tm))} (he : EOk ys len bp bw vp d e) : RdT ys len bp bw vp 26 (fun v => #[.pointer (some ⟨bp, 0, none⟩), v, .int .i64 (d : Int)]) (fun _ => True) (Syn.unary (Tk ys) (ys.length + 1) e) := by
  intro w i v l0 _ h hr hb
  obtain ⟨qv, cv, rfl⟩ := own_shape hr
  have hle := h.le
  have hfit := Syn.unOps_fit (tk_nones ys) (ys.length + 1) i h.le (by omega)
  rw [Syn.unary_atom]
  cases hu : Syn.unOps (Tk ys) (ys.length + 1) i with
  | error q =>
    obtain ⟨c, k⟩ := q
    obtain rfl := unOps_err _ _ _ _ hu
    exact (hfit.no99 hu).elim
  | ok q =>
    obtain ⟨ops, i1⟩ := q
    obtain ⟨rfl, h0, hop⟩ := unOps_spec _ _ _ _ hu
    have hi1 : i + ops.length ≤ ys.length := hfit.pos hu
    have hlen : ops.length ≤ 65536 := by have := h.few; omega
    rw [on_ok']
    have hpl := plain_any (len := len) (bp := bp) (bw := bw) (vp := vp) hw he
    have HUS := Lib.hid (fun m hm W hp => us_any (len := len) (bp := bp) (bw := bw) (vp := vp) (W := W) (m := m) hw h0 hop hm hp)
    obtain ⟨i0, hi0, hz0, hz1, hz2⟩ := infoI
    obtain ⟨j0, hj0, hy0, hy1, hy2⟩ := infoTm
    obtain ⟨hlt, hlb⟩ := h.lt
    have hne : ¬ w.heap.size = bp := by omega
    clear hfit hu h0 hop
    have HPL := Lib.hid hpl
    have HH := Lib.hid h
    have HR := Lib.hid hr
    clear hpl h hr
    refine (callsIn_wide (n := 3)).1 ?_
    refine callsIn_of_wp_marks Tryd.func26 rfl trivial ?_ rfl
    simp only [Tryd.ntmps26, List.size_toArray, List.length_cons, List.length_nil, Nat.reduceAdd, Nat.reduceSub, Array.replicate_succ, Array.replicate_zero, List.push_toArray, List.append_toArray, List.nil_append, List.cons_append]
    gi_wp2
    refine ⟨trivial, ?_⟩
    gi_at_call 37
    refine (callsIn_wide.2 (HUS.out 0 (Nat.zero_le _) _ (HH.out.alloc _))).mono ?_
    rintro e1 w1 ⟨o1, t1, rfl, hc1, hus1⟩
    have hC1 : Chg (fun k => k = bp) w w1 := ((Chg.refl _ w).alloc _).then hc1
    have hbx1 := hc1.heap (World.alloc_heap_new w (.cells #[.slice qv l0.length cv] 22)) hne
    have HUS1 := Lib.hid hus1
    clear hus1 hc1
    gi_wp2
    gi_loopw [7, 8, 9] (fun a b c wr => ∃ m q' c' o t, m ≤ ops.length ∧ a = .slice q' m c' ∧ b = .int .i64 o ∧ c = .bool t ∧ Hid (wr.ownsRow (w.heap.size + 1) 3 1 (.slice q' m c') m (nmCells (ops.take m))) ∧ Hid (US ys len bp bw vp i ops m o t wr) ∧ Chg (fun k => k = bp) w wr ∧ wr.heap[w.heap.size]? = some (.cells #[.slice qv l0.length cv] 22 (0, 0)))
      (fun a _ _ _ => ops.length + 1 - sLen a)
    case atStart =>
      exact ⟨0, none, 0, o1, t1, Nat.zero_le _, rfl, rfl, rfl, Lib.hid (World.ownsRow_nil _ _ _ _), HUS1, hC1, hbx1⟩
    case round =>
      obtain ⟨m, q', c', o, t, hm, rfl, rfl, rfl, hrow, hus, hC, hbx⟩ := hrel
      clear hC1 hbx1
      rcases hus.out with ⟨rfl, ⟨hml, rfl⟩, hp⟩ | ⟨rfl, rfl, rfl, hp⟩
      · have hrow' := hrow.out
        have hsz := hC.size
        gi_wp2_with (gi_at_builtin; refine wpListIn_append_own_at _ rfl _ _ 82 rfl (w.heap.size + 1) 3 i0 _ 1 8 Tryd.underlying82 hi0 hz0 hz1 hz2 rfl (by decide) _ _ _ rfl (hrow'.alloc _) ⟨wr.heap.size, 0, none⟩ 1 1 [.int .i64 (ops[m] : Nat)] rfl rfl (row_new wr [_] 3) (nm_one _) (by unfold maxLen; omega) (by omega) (by have := heap_lt hbx; simp; omega) ?_)
        intro v' w9 hown9 hgrow9 _ hat9
        obtain ⟨q2, c2, rfl⟩ := own_shape hown9
        have hS9 : Chg (fun k => w.heap.size + 1 ≤ k) wr w9 := ((Chg.refl _ wr).alloc _).then (grown_chg hgrow9 (fun k hk => .inl (hrow'.lt k hk).1))
        have hC9 : Chg (fun k => k = bp) w w9 := hC.trans hS9 (fun k hk => .inr (by omega))
        have hbx9 := hS9.heap hbx (by omega)
        have hp9 := hp.chg hS9 (by omega) (by omega)
        have hrow9 : w9.ownsRow (w.heap.size + 1) 3 1 (.slice q2 (m + 1) c2) (m + 1) (nmCells (ops.take (m + 1))) := by
          rw [List.take_succ_eq_append_getElem hml]
          unfold nmCells at hown9 ⊢
          rw [List.map_append]
          exact hown9
        have HROW := Lib.hid hrow9
        clear hown9 hgrow9 hat9 hrow' hrow hS9 hbx hp hus hrow9
        gi_wp2
        refine ⟨trivial, ?_⟩
        gi_at_call 37
        refine (callsIn_wide.2 (HUS.out (m + 1) hml _ hp9)).mono ?_
        rintro e2 w2 ⟨o2, t2, rfl, hc2, hus2⟩
        have HROW2 := Lib.hid (own_chg HROW.out hc2 (fun k hk e => by have := (HROW.out.lt k hk).1; omega))
        have HUS2 := Lib.hid hus2
        have hbx2 := hc2.heap hbx9 hne
        have hC2 := hC9.then hc2
        clear hus2 hc2 hp9 hbx9 hC9 HROW
        gi_wp2
        exact ⟨⟨m + 1, q2, c2, o2, t2, hml, rfl, rfl, rfl, HROW2, HUS2, hC2, hbx2⟩, by simp [sLen]; omega⟩
      · have htr := tr_next HH.out HR.out hC
        have hcall := HPL.out wr (i + ops.length) _ l0 trivial hp htr (by omega)
        have hszr := hC.size
        have hcell := cell_of (j := 0) hbx rfl
        clear hus hm
        gi_wp2
        refine ⟨trivial, ?_⟩
        gi_at_call 38
        refine (callsIn_wide.2 hcall).mono ?_
        rintro e2 w2 ⟨hc2, hq⟩
        have hC2 := Lib.hid ((ts_le (v := .slice qv l0.length cv) hC).then hc2)
        have hb0r : ¬ TS bp (.slice qv l0.length cv) w.heap.size := by
          rintro (e3 | e3)
          · exact hne e3
          · obtain ⟨cur, h3⟩ := own_type htr e3
            rw [hbx] at h3; simp at h3
        have hbx2 := hc2.heap hbx hb0r
        have hrow2 := own_chg hrow.out hc2 (fun k hk e3 => by
          obtain ⟨cur, h3⟩ := own_type hrow.out hk
          rcases e3 with rfl | e3
          · have := (hrow.out.lt _ hk).1; omega
          · obtain ⟨cur', h4⟩ := own_type htr e3
            rw [h3] at h4; simp at h4)
        have HROW2 := Lib.hid hrow2
        have hsz2 := hc2.size
        cases hat : Syn.atom (Tk ys) e (i + ops.length) with
        | error q =>
          obtain ⟨er, k⟩ := q
          rw [hat] at hq
          obtain rfl := hq
          refine ⟨hC2.out, ?_⟩
          rw [hat]
          exact rfl
        | ok q =>
          obtain ⟨l, j⟩ := q
          rw [hat] at hq
          obtain ⟨v2, rfl, htr2, hp2, hob2⟩ := hq
          obtain ⟨L, hL⟩ : ∃ L, l0 ++ l = L := ⟨_, rfl⟩
          rw [hL] at htr2
          obtain ⟨q3, c3, rfl⟩ := own_shape htr2
          have hj := ((Syn.atom_fit (tk_nones ys) he.fit hi1).pos hat)
          have hcn := Syn.atom_cnt he.cnt _ _ _ hat
          have hLn : L.length + ops.length ≤ 131072 := by rw [← hL, List.length_append]; omega
          have HL := Lib.hid hL
          clear hL
          have HAT := Lib.hid hat
          have HTR2 := Lib.hid htr2
          have hc2b := cell_of (j := 0) hbx2 rfl
          have hf2b := free_of (j := 0) hbx2
          have HP2 := Lib.hid hp2
          have HOB2 := Lib.hid hob2
          have HBX2 := Lib.hid hbx2
          clear hat htr2 hp2 hob2 hbx2 hc2 hrow2 hrow hbx hp htr hcell hC
          gi_wp2
          refine ⟨trivial, ?_⟩
          gi_at_call 39
          refine (callsIn_wide.2 (backward_any _ _ _ _)).mono ?_
          rintro e3 w3 ⟨rfl, rfl⟩
          gi_wp2_with fail
          have hCs : Chg (fun k => k = w.heap.size) w2 (w2.setCell ⟨w.heap.size, 0, none⟩ (.slice q3 L.length c3)) := (Chg.refl (fun k => k = w.heap.size) w2).setCell (p := ⟨w.heap.size, 0, none⟩) (.inl rfl) _
          have hrow7 := (own_chg (HROW2.out) hCs (fun k hk e3 => by have := (HROW2.out.lt k hk).1; omega)).alloc (.cells #[.slice q' ops.length c'] 82)
          have htr7 := (own_chg HTR2.out hCs (fun k hk e3 => by
            obtain ⟨cur, h3⟩ := own_type HTR2.out hk
            rw [e3, HBX2.out] at h3; simp at h3)).alloc (.cells #[.slice q' ops.length c'] 82)
          have hps7 := (HP2.out.chg hCs (fun e3 => by omega) (fun e3 => by omega)).alloc (.cells #[.slice q' ops.length c'] 82)
          have hbx7 := heap_new _ (.cells #[.slice q' ops.length c'] 82) (heap_set HBX2.out 0 (.slice q3 L.length c3))
          have hC7 := ((hC2.out).trans hCs (fun k hk => .inr (by omega))).alloc (.cells #[.slice q' ops.length c'] 82)
          have hBx7 := World.alloc_heap_new (w2.setCell ⟨w.heap.size, 0, none⟩ (.slice q3 L.length c3)) (.cells #[.slice q' ops.length c'] 82)
          rw [show (w2.setCell ⟨w.heap.size, 0, none⟩ (.slice q3 L.length c3)).heap.size = w2.heap.size from by simp [World.setCell]] at hBx7
          have hbl : w.heap.size < w2.heap.size := heap_lt HBX2.out
          have hsz7 : w2.heap.size < ((w2.setCell ⟨w.heap.size, 0, none⟩ (.slice q3 L.length c3)).alloc (.cells #[.slice q' ops.length c'] 82)).heap.size := heap_lt hBx7
          generalize ((w2.setCell ⟨w.heap.size, 0, none⟩ (.slice q3 L.length c3)).alloc (.cells #[.slice q' ops.length c'] 82)) = w7 at *
          rw [List.take_length] at hrow7
          have hN7 := nums_of_row hrow7
          have hq7 : ∀ a, q' = some a → ∃ cur, w7.heap[a.block]? = some (.cells cur 3 (0, 0)) := fun a ha => own_type hrow7 (by rw [ha]; rfl)
          have hui : UI ys len bp bw vp L (.slice qv l0.length cv) w w7 w.heap.size w2.heap.size j q' [] w7 := by
            refine ⟨⟨q3, c3, hbx7, ?_, fun k hk => ?_⟩, hps7, hC7, rfl, fun _ _ => rfl⟩
            · rw [List.map_nil, List.append_nil]; exact htr7
            · rcases HOB2.out k hk with e3 | e3
              · exact .inl e3
              · exact .inr (by omega)
          have hown := UI.own (ys := ys) (len := len) (bp := bp) (bw := bw) (vp := vp) (l0 := L) (v := .slice qv l0.length cv) (w := w) (w7 := w7) (b0 := w.heap.size) (Bx := w2.heap.size) (j := j) (q := q') (B := w7.heap.size) (by omega) hBx7 hq7
          have hqlt : ∀ a, q' = some a → a.block < w7.heap.size := fun a ha => by obtain ⟨cur, hc⟩ := hq7 a ha; exact heap_lt hc
          have HOWN := Lib.hid hown
          have HQ7 := Lib.hid hq7
          have HBX7 := Lib.hid hBx7
          clear hown hCs hrow7 htr7 hps7 hbx7 hC7
          refine wpIn_rangeFunc_ownF rfl (by omega) (gf := 52) (lb := #[.pointer (some ⟨w2.heap.size, 0, none⟩)]) rfl trivial (enters_of Tryd.func52 (by kernel_rfl) rfl)
            (back_stops (3 - 1) w2.heap.size q' c' ops (by omega) w7 hBx7 hN7) (fun h k => kp_t h k) (kp_b hsz7 hqlt) (Below.refl _ _) (fun _ => rfl)
            (UI ys len bp bw vp L (.slice qv l0.length cv) w w7 w.heap.size w2.heap.size j q') (fun _ _ _ => False) HOWN.out (fun _ _ _ _ _ hs _ _ => hs) hui
            (fun x => { tmps := #[.pointer (some ⟨bp, 0, none⟩), .slice qv l0.length cv, .int .i64 (d : Int), undef, .pointer (some ⟨w.heap.size, 0, none⟩), undef, .slice none 0 0, .slice q' ops.length c', .int .i64 0, .bool false, undef, .int .i64 (x.2 : Int), .tuple #[.int .i64 o1, .bool t1], .pointer (some ⟨bp, 0, none⟩), .tuple #[.int .i64 o1, .bool t1], .int .i64 o1, .bool t1, .bool false, u18, u19, u20, u21, u22, u23, u24, u25, u26, .pointer (some ⟨bp, 0, none⟩), .slice qv l0.length cv, .int .i64 (d : Int), .slice q3 L.length c3, .slice q' ops.length c', .func (.func 52) #[] #[.pointer (some ⟨w2.heap.size, 0, none⟩)], .int .i64 (x.1 : Int), .int .i64 (x.2 : Int), undef, undef, undef, undef, undef, undef], defers := [] }) ?assign ?body ?done ?stop
          case assign =>
            intro l x W K hK
            gi_wp2
            exact hK
          case body =>
            rintro l pre x W hI hlt2
            obtain ⟨q1, c1, a1, a2, a3⟩ := hI.box
            have hR := Lib.hid (fun v' w9 => hI.round x (Nat.le_refl _) HBX7.out HQ7.out a1 46 (v' := v') (w9 := w9))
            have a2' : W.ownsRow 0 46 3 (.slice q1 (L.length + pre.length) c1) (L.length + pre.length) (tmCells (L ++ pre.map unT)) := by
              unfold TR at a2
              rwa [List.length_append, List.length_map] at a2
            have hnew := tm_new W (unT x) 46
            have hone := tm_one (unT x)
            rw [show tmC (unT x) = [.int .i64 4, .int .i64 (x.2 : Int), .string ⟨#[]⟩] from rfl] at hnew hone
            have hcell := cell_of (j := 0) a1 rfl
            have hpre : pre.length < ops.length := hlt2
            clear a1 a2 a3 hI hui hN7 hq7 hBx7
            gi_wp2_with (gi_at_builtin; refine wpListIn_append_own_at _ rfl _ _ 22 rfl 0 46 j0 _ 3 32 Tryd.underlying22 hj0 hy0 hy1 hy2 rfl (by decide) _ _ _ rfl (a2'.alloc _) ⟨W.heap.size, 0, none⟩ 1 1 [.int .i64 4, .int .i64 (x.2 : Int), .string ⟨#[]⟩] rfl rfl hnew hone (by unfold maxLen; omega) (by omega) (Nat.zero_le _) ?_)
            intro v' w9 hown9 hgrow9 _ hat9
            obtain ⟨b1, b2, b3, b4⟩ := hR.out v' w9 hown9 hgrow9 hat9
            obtain ⟨qq, cc, rfl⟩ := own_shape hown9
            have hc9 := cell_of (j := 0) b1 rfl
            have hf9 := free_of (j := 0) b1
            have B2 := Lib.hid b2
            clear hown9 hgrow9 hat9 b1 b2 hcell a2' hnew hone
            gi_wp2
            exact ⟨b3, b4, B2.out⟩
          case done =>
            rintro D xs W hD hS hI hK
            obtain ⟨q1, c1, a1, a2, a3⟩ := hI.box
            have hcell := cell_of (j := 0) a1 rfl
            have hI2 := Lib.hid (HOWN.out.putObj (.deferred none) hI hD hK rfl)
            have HS := Lib.hid hS
            have hb0D := cells_grown (grownBy_putObj' W D (.deferred none)) (fun r e => by cases e; exact ⟨_, hK, rfl⟩) a1
            have HB0D := Lib.hid hb0D
            clear a1 a2 a3 hI hui hN7 hq7 hBx7 hS hb0D
            gi_wp2
            refine ⟨by simp, .inl ⟨_, _, rfl, run_takeDeferred hK, ?_⟩⟩
            obtain ⟨q2, c2, d1, d2, d3⟩ := hI2.out.box
            have e0 := HB0D.out.symm.trans d1
            simp only [Option.some.injEq, Obj.cells.injEq, Array.mk.injEq, List.cons.injEq, Value.slice.injEq, and_true, true_and] at e0
            obtain ⟨rfl, rfl⟩ := e0
            refine ⟨_, results_tmp rfl _ _ _, ?_⟩
            rw [HAT.out]
            refine ⟨hI2.out.chg, _, rfl, ?_, hI2.out.ps, ?_⟩
            · have e1 : (l0 ++ (l ++ List.map (fun o => (⟨4, o, []⟩ : Syn.Tm)) ops.reverse)) = L ++ xs.map unT := by
                rw [← HL.out, ← HS.out, List.map_map, List.append_assoc]; rfl
              rw [e1]
              exact d2
            · exact d3
          case stop =>
            rintro D cc pre W _ _ h _
            exact h.elim
end
end Go.Proofs.YtnmcjkabihihiaaDoor
