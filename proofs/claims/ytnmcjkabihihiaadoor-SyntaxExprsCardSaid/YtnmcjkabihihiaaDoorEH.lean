/- level, within and expr of the parser: expressions whole. -/
import Derived.Test.YtnmcjkabihihiaaDoorEG
namespace Go.Proofs.YtnmcjkabihihiaaDoor
open Go Go.RowKit Go.Proofs.Mm

/-- The variables that within's closure has captured. -/
def BX (b1 b2 bp d : Nat) (W : World) : Prop := W.heap[b1]? = some (.cells #[.pointer (some ⟨bp, 0, none⟩)] 33 (0, 0)) ∧ W.heap[b2]? = some (.cells #[.int .i64 (d : Int)] 3 (0, 0))
section
variable {ys : List It} {len bp bw i : Nat} {vp : Value} {w : World}
theorem ts_not (h : PS ys len bp bw vp w i) {v : Value} {l : List Syn.Tm} (hr : TR w v l) {k : Nat} {arr : Array Value} {E : TypeId} (hk : w.heap[k]? = some (.cells arr E (0, 0))) (h1 : E ≠ 56) (h2 : E ≠ 46) : ¬ TS bp v k := by
  rintro (e | e)
  · subst e
    obtain ⟨⟨c, a1, _⟩, _⟩ := h
    rw [hk] at a1
    simp only [Option.some.injEq, Obj.cells.injEq] at a1
    exact h1 a1.2.1
  · obtain ⟨cur, hc⟩ := own_type hr e
    rw [hk] at hc
    simp only [Option.some.injEq, Obj.cells.injEq] at hc
    exact h2 hc.2.1
theorem BX.chg {b1 b2 d : Nat} (hx : BX b1 b2 bp d w) (h : PS ys len bp bw vp w i) {v : Value} {l : List Syn.Tm} (hr : TR w v l) {w' : World} (hc : Chg (TS bp v) w w') : BX b1 b2 bp d w' :=
  ⟨hc.heap hx.1 (ts_not h hr hx.1 (by decide) (by decide)), hc.heap hx.2 (ts_not h hr hx.2 (by decide) (by decide))⟩

set_option maxRecDepth 100000 in
theorem within1_any {b1 b2 d : Nat} {r : Nat → Syn.R (List Syn.Tm)} (hR : RdT ys len bp bw vp 26 (fun v => #[.pointer (some ⟨bp, 0, none⟩), v, .int .i64 (d : Int)]) (fun _ => True) r) :
    RdT ys len bp bw vp 25 (fun v => #[v, .pointer (some ⟨b1, 0, none⟩), .pointer (some ⟨b2, 0, none⟩)]) (BX b1 b2 bp d) r := by
  intro w i v l0 hx h hr hb
  obtain ⟨qv, cv, rfl⟩ := own_shape hr
  have hcall := hR w i _ l0 trivial h hr hb
  have hc1 := cell_of (j := 0) hx.1 rfl
  have hc2 := cell_of (j := 0) hx.2 rfl
  clear hR
  cases hri : r i with
  | error q =>
    rw [hri] at hcall
    have HRI := Lib.hid hri
    clear hri
    go_enter Tryd.func25, Tryd.ntmps25
    go_wp2_with (go_at_call 26; refine hcall.mono ?_; rintro e w1 ⟨hc, rfl⟩)
    exact ⟨rfl, hc, rfl⟩
  | ok q =>
    rw [hri] at hcall
    have HRI := Lib.hid hri
    clear hri
    go_enter Tryd.func25, Tryd.ntmps25
    go_wp2_with (go_at_call 26; refine hcall.mono ?_; rintro e w1 ⟨hc, v', rfl, a1, a2, a3⟩)
    go_ret
    exact ⟨hc, v', rfl, a1, a2, a3⟩

/-- The func value that is handed on. -/
def opF (b1 b2 : Nat) : Value := .func (.func 25) #[] #[.pointer (some ⟨b1, 0, none⟩), .pointer (some ⟨b2, 0, none⟩)]
set_option maxRecDepth 100000 in
theorem level_six {b1 b2 d : Nat} {r : Nat → Syn.R (List Syn.Tm)} (hR : RdT ys len bp bw vp 25 (fun v => #[v, .pointer (some ⟨b1, 0, none⟩), .pointer (some ⟨b2, 0, none⟩)]) (BX b1 b2 bp d) r) :
    RdT ys len bp bw vp 24 (fun v => #[.pointer (some ⟨bp, 0, none⟩), .int .i64 6, v, .func (.func 25) #[] #[.pointer (some ⟨b1, 0, none⟩), .pointer (some ⟨b2, 0, none⟩)]]) (BX b1 b2 bp d) r := by
  intro w i v l0 hx h hr hb
  obtain ⟨qv, cv, rfl⟩ := own_shape hr
  have hcall := hR w i _ l0 hx h hr hb
  clear hR
  cases hri : r i with
  | error q =>
    rw [hri] at hcall
    have HRI := Lib.hid hri
    clear hri
    go_enter Tryd.func24, Tryd.ntmps24
    go_wp2_with (go_at_call 25; refine hcall.mono ?_; rintro e w1 ⟨hc, rfl⟩)
    exact ⟨rfl, hc, rfl⟩
  | ok q =>
    rw [hri] at hcall
    have HRI := Lib.hid hri
    clear hri
    go_enter Tryd.func24, Tryd.ntmps24
    go_wp2_with (go_at_call 25; refine hcall.mono ?_; rintro e w1 ⟨hc, v', rfl, a1, a2, a3⟩)
    go_ret
    exact ⟨hc, v', rfl, a1, a2, a3⟩

/-- What the loop keeps of what the row's block may be. -/
def Ob (v : Value) (w : World) (v' : Value) : Prop := ∀ k, v'.ownBlock = some k → v.ownBlock = some k ∨ w.heap.size ≤ k
theorem Ob.ts {v v' : Value} {w : World} (h : Ob v w v') {bp : Nat} : ∀ k, TS bp v' k → TS bp v k ∨ w.heap.size ≤ k := by
  rintro k (e | e)
  · exact .inl (.inl e)
  · rcases h k e with q | q
    · exact .inl (.inr q)
    · exact .inr q
theorem Ob.trans {v v' v'' : Value} {w w' : World} (h : Ob v w v') (h' : Ob v' w' v'') (hw : w.heap.size ≤ w'.heap.size) : Ob v w v'' := fun k hk => by
  rcases h' k hk with q | q
  · exact h k q
  · exact .inr (by omega)

set_option maxRecDepth 100000 in
set_option maxHeartbeats 2000000 in
theorem level_next (hw : Ws ys) {b1 b2 d : Nat} {p : Nat → Syn.R (List Syn.Tm)} (hcnt : Syn.Cnt p) (hfit : Syn.FitP ys.length p) (l : Nat) (hl : l ≤ 5)
    (hR : RdT ys len bp bw vp 24 (fun v => #[.pointer (some ⟨bp, 0, none⟩), .int .i64 ((l : Int) + 1), v, .func (.func 25) #[] #[.pointer (some ⟨b1, 0, none⟩), .pointer (some ⟨b2, 0, none⟩)]]) (BX b1 b2 bp d) p) :
    RdT ys len bp bw vp 24 (fun v => #[.pointer (some ⟨bp, 0, none⟩), .int .i64 (l : Int), v, .func (.func 25) #[] #[.pointer (some ⟨b1, 0, none⟩), .pointer (some ⟨b2, 0, none⟩)]]) (BX b1 b2 bp d)
      (fun i => (p i).on fun l1 j => Syn.loopF (Tk ys) p (Syn.marks l) (ys.length + 1) l1 j) := by
  intro w i v l0 hx h hr hb
  obtain ⟨qv, cv, rfl⟩ := own_shape hr
  have hcall := hR w i _ l0 hx h hr hb
  have hle := h.le
  have HX := Lib.hid hx
  have HH := Lib.hid h
  have HTR := Lib.hid hr
  have HR := Lib.hid hR
  obtain ⟨j0, hj0, hy0, hy1, hy2⟩ := infoTm
  show Calls _ _ _ _ (Ret ys len _ w ((p i).on _) _)
  cases hri : p i with
  | error q =>
    rw [hri] at hcall
    have HRI := Lib.hid hri
    clear hri hR hx h hr
    go_enter Tryd.func24, Tryd.ntmps24
    go_wp2_with (go_at_call 24; refine hcall.mono ?_; rintro e w1 ⟨hc, rfl⟩)
    exact ⟨rfl, hc, rfl⟩
  | ok q =>
    obtain ⟨l1, i1⟩ := q
    rw [hri] at hcall
    rw [on_ok']
    have hi1 : i1 ≤ ys.length := (hfit i hle).1.pos hri
    have hc1 := hcnt _ _ _ hri
    have hlf := Syn.loop_fit (tk_nones ys) hfit (Syn.marks l) (ys.length + 1) l1 i1 hi1 (by omega)
    obtain ⟨RR, hRR⟩ : ∃ RR, Syn.loopF (Tk ys) p (Syn.marks l) (ys.length + 1) l1 i1 = RR := ⟨_, rfl⟩
    rw [hRR] at hlf ⊢
    have HRR := Lib.hid hRR
    have HLF := Lib.hid hlf
    clear hri hR hx h hr hRR hlf
    go_enter Tryd.func24, Tryd.ntmps24
    go_wp2_with (go_at_call 24; refine hcall.mono ?_; rintro e w1 ⟨hc, v1, rfl, a1, a2, a3⟩)
    obtain ⟨L1, hL1⟩ : ∃ L, l0 ++ l1 = L := ⟨_, rfl⟩
    rw [hL1] at a1
    obtain ⟨q1, c1, rfl⟩ := own_shape a1
    have hb1 : L1.length + (ys.length - i1) ≤ 131072 := by rw [← hL1, List.length_append]; omega
    have HL1 := Lib.hid hL1
    have A1 := Lib.hid a1
    have A3 := Lib.hid (show Ob (.slice qv l0.length cv) w (.slice q1 L1.length c1) from a3)
    clear hL1 hcall a1 a3
    go_loopw [2] (fun a wr => ∃ f l2 L i2 q c, i2 ≤ ys.length ∧ L.length + (ys.length - i2) ≤ 131072 ∧ Hid (L = l0 ++ l2) ∧ Hid (Syn.loopF (Tk ys) p (Syn.marks l) f l2 i2 = RR) ∧ a = .slice q L.length c ∧ Hid (TR wr (.slice q L.length c) L) ∧ PS ys len bp bw vp wr i2 ∧ Chg (TS bp (.slice qv l0.length cv)) w wr ∧ Hid (Ob (.slice qv l0.length cv) w (.slice q L.length c)))
      (fun a _ => 140000 - sLen a)
    case atStart => exact ⟨ys.length + 1, l1, L1, i1, q1, c1, hi1, hb1, Lib.hid HL1.out.symm, HRR, rfl, A1, a2, hc, A3⟩
    case round =>
      obtain ⟨f, l2, L, i2, q2, c2, hi2, hb2, HL, HF, rfl, HT, hp2, hC2, HO⟩ := hrel
      clear hc a2 hb1 hi1 hc1
      cases f with
      | zero => exact (HLF.out.no99 (j := i2) (by rw [← HF.out]; rfl)).elim
      | succ f =>
        obtain ⟨n, hn, hcase⟩ := bysign2 (tk ys len i2).t
        have hbs := bysign_ops _ _ _ hn wr
        have hop := opOf_text hw len i2 (mk_marks l)
        obtain ⟨cc, h0, hfz, hcc, hcc2, r1, r2, r3, r4⟩ := hp2.raw
        have hm : 0 < ys.length + 1 - i2 := by omega
        have HP2 := Lib.hid hp2
        clear hfz hcc hcc2 r1 r3 r4 hn
        have hend : Syn.opOf (Tk ys) (Syn.marks l) i2 = 0 → RR = .ok (l2, i2) := fun e => by
          rw [← HF.out, Syn.loopF, if_pos e]
        rcases hcase with ⟨rfl, hz⟩ | ⟨hn1, hn2, hz⟩
        · have HRe := Lib.hid (hend (by rw [hop, hz l]))
          rw [show bsV 18 = .tuple #[.int .i64 0, .bool false] from rfl] at hbs
          clear hz hop hend hp2
          generalize ys.length + 1 - i2 = m at *
          generalize 4 * i2 = o at *
          go_wp2_with (go_at_call 34; refine hbs.mono ?_; rintro e w' ⟨rfl, rfl⟩)
          go_ret
          rw [HRe.out]
          exact ⟨hC2, _, rfl, by rw [← HL.out]; exact HT.out, HP2.out, HO.out⟩
        · have hlv := levelOf_any n hn1 hn2
          rw [show bsV n = .tuple #[.int .i64 (n : Nat), .bool true] from if_neg (by omega)] at hbs
          have hz' := hz l hl
          clear hz
          by_cases hll : Syn.lvlOf n = l
          · rw [if_pos hll] at hz'
            have hopn : Syn.opOf (Tk ys) (Syn.marks l) i2 = n := by rw [hop, hz']
            have hlt : i2 < ys.length := lt_of_op (by rw [hopn]; omega)
            have hne : (((Syn.lvlOf n : Nat) : Int) != (l : Int)) = false := by rw [hll]; simp
            have hgo : (p (i2 + 1)).on (fun r j => Syn.loopF (Tk ys) p (Syn.marks l) f (l2 ++ r ++ [⟨5, n, []⟩]) j) = RR := by
              rw [← HF.out, Syn.loopF, if_neg (by rw [hopn]; omega), hopn]
            have hTk := Lib.hid (take_ps hp2 hlt)
            have HGO := Lib.hid hgo
            have HZ : w.heap.size ≤ wr.heap.size := hC2.size
            have HTN := Lib.hid (fun w3 (hc3 : Chg (fun k => k = bp) wr w3) (hp3 : PS ys len bp bw vp w3 (i2 + 1)) =>
              HR.out w3 (i2 + 1) _ L (HX.out.chg HH.out HTR.out (hC2.then (ts_le hc3))) hp3 (tr_next HP2.out HT.out hc3) (by omega))
            clear hz' hop hend hp2 hgo hopn
            generalize ys.length + 1 - i2 = m at *
            generalize 4 * i2 = o at *
            go_wp2_with (first | (go_at_call 34; refine hbs.mono ?_; rintro e w' ⟨rfl, rfl⟩) | (go_at_call 35; refine (hlv _).mono ?_; rintro e w' ⟨rfl, rfl⟩))
            go_at_call 36
            refine hTk.out.mono ?_
            rintro e w3 ⟨rfl, hc3, hp3⟩
            have hcall3 := HTN.out w3 hc3 hp3
            have hsz3 := hc3.size
            have HC3 := Lib.hid (hC2.then (ts_le (v := .slice qv l0.length cv) hc3))
            clear hc3 HTN
            cases hri3 : p (i2 + 1) with
            | error q =>
              obtain ⟨er, k⟩ := q
              rw [hri3] at hcall3
              have HRe := Lib.hid (show RR = .error (er, k) from by rw [← HGO.out, hri3]; rfl)
              clear hri3
              go_wp2_with (go_at_call 24; refine hcall3.mono ?_; rintro e w4 ⟨hc4, rfl⟩)
              refine ⟨rfl, ?_⟩
              rw [HRe.out]
              exact ⟨HC3.out.trans hc4 (fun k e => by rcases HO.out.ts k e with q | q <;> first | exact .inl q | exact .inr q), rfl⟩
            | ok q =>
              obtain ⟨r, j⟩ := q
              rw [hri3] at hcall3
              have hj : j ≤ ys.length := (hfit (i2 + 1) hlt).1.pos hri3
              have hcr := hcnt _ _ _ hri3
              have HRe := Lib.hid (show Syn.loopF (Tk ys) p (Syn.marks l) f (l2 ++ r ++ [⟨5, n, []⟩]) j = RR from by rw [← HGO.out, hri3]; rfl)
              clear hri3
              go_wp2_with fail
              go_at_call 24
              refine hcall3.mono ?_
              rintro e w4 ⟨hc4, v4, rfl, e1, e2, e3⟩
              obtain ⟨L4, hL4⟩ : ∃ L4, L ++ r = L4 := ⟨_, rfl⟩
              rw [hL4] at e1
              obtain ⟨q4, c4, rfl⟩ := own_shape e1
              have hb4 : L4.length + 1 + (ys.length - j) ≤ 131072 := by rw [← hL4, List.length_append]; omega
              have hlen4 : L.length + 1 ≤ L4.length + 1 := by rw [← hL4, List.length_append]; omega
              have HL5 := Lib.hid (show L4 ++ [⟨5, n, []⟩] = l0 ++ (l2 ++ r ++ [⟨5, n, []⟩]) from by rw [← hL4, HL.out]; simp [List.append_assoc])
              clear hL4
              have hnew := tm_new w4 ⟨5, n, []⟩ 46
              have hone := tm_one ⟨5, n, []⟩
              rw [show tmC ⟨5, n, []⟩ = [.int .i64 5, .int .i64 (n : Nat), .string ⟨#[]⟩] from rfl] at hnew hone
              have happ := Lib.hid (fun v' w9 => tr_app (t := ⟨5, n, []⟩) (v' := v') (w9 := w9) e2 e1 46)
              have hsz4 := hc4.size
              have HO4 := Lib.hid (show Ob (.slice qv l0.length cv) w (.slice q4 L4.length c4) from HO.out.trans (show Ob (.slice q2 L.length c2) w3 (.slice q4 L4.length c4) from e3) (by omega))
              have HC4 := Lib.hid (show Chg (TS bp (.slice qv l0.length cv)) w w4 from HC3.out.trans hc4 (fun k e => by rcases HO.out.ts k e with q | q <;> first | exact .inl q | exact .inr q))
              clear e2 e3 hc4
              go_wp2_with (at_builtin; refine wpList_append_own_at _ rfl _ _ 22 rfl 0 46 j0 _ 3 32 Tryd.underlying22 hj0 hy0 hy1 hy2 rfl (by decide) _ _ _ rfl (e1.alloc _) ⟨w4.heap.size, 0, none⟩ 1 1 [.int .i64 5, .int .i64 (n : Nat), .string ⟨#[]⟩] rfl rfl hnew hone (by unfold maxLen; omega) (by omega) (Nat.zero_le _) ?_)
              intro v' w9 hown9 hgrow9 _ hat9
              obtain ⟨g1, g2, g3, g4⟩ := happ.out v' w9 hown9 hgrow9 hat9
              obtain ⟨q9, c9, rfl⟩ := own_shape hown9
              have HO9 := Lib.hid (show Ob (.slice qv l0.length cv) w (.slice q9 (L4.length + 1) c9) from HO4.out.trans (show Ob (.slice q4 L4.length c4) w4 (.slice q9 (L4.length + 1) c9) from g4) (by omega))
              have HC9 := Lib.hid (show Chg (TS bp (.slice qv l0.length cv)) w w9 from HC4.out.trans g3 (fun k e => by rcases HO4.out.ts k e with q | q <;> first | exact .inl q | exact .inr q))
              have G1 := Lib.hid g1
              clear hown9 hgrow9 hat9 g3 g4 e1 hnew hone g1
              go_wp2
              refine ⟨⟨f, l2 ++ r ++ [⟨5, n, []⟩], L4 ++ [⟨5, n, []⟩], j, q9, c9, hj, ?_, HL5, HRe, ?_, ?_, g2, HC9.out, ?_⟩, ?_⟩
              · rw [List.length_append, List.length_singleton]; exact hb4
              · rw [List.length_append, List.length_singleton]
              · rw [List.length_append, List.length_singleton]; exact G1
              · rw [List.length_append, List.length_singleton]; exact HO9
              · simp [sLen]; omega
          · rw [if_neg hll] at hz'
            have HRe := Lib.hid (hend (by rw [hop, hz']))
            have hne : (((Syn.lvlOf n : Nat) : Int) != (l : Int)) = true := by simp; omega
            clear hz' hop hend hp2 hll
            generalize ys.length + 1 - i2 = m at *
            generalize 4 * i2 = o at *
            go_wp2_with (first | (go_at_call 34; refine hbs.mono ?_; rintro e w' ⟨rfl, rfl⟩) | (go_at_call 35; refine (hlv _).mono ?_; rintro e w' ⟨rfl, rfl⟩))
            go_ret
            rw [HRe.out]
            exact ⟨hC2, _, rfl, by rw [← HL.out]; exact HT.out, HP2.out, HO.out⟩
end
end Go.Proofs.YtnmcjkabihihiaaDoor
