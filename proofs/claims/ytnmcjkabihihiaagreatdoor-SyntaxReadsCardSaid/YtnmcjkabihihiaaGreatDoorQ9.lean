/- stmts of the parser, at each depth. -/
import Derived.Test.YtnmcjkabihihiaaGreatDoorQ8
namespace Go.Proofs.YtnmcjkabihihiaaGreatDoor
open Go Go.RowKit Go.Proofs.Mm

section
variable {ys : List It} {len bp bw i : Nat} {vp : Value} {w : World}
/-- named, whatever stands there. -/
theorem named_any (hw : Ws ys) (h : PS ys len bp bw vp w i) {m : Mem} (hm : Has w m) (hbm : m bp = none) :
    Calls Tryz.prog 84 #[.pointer (some ⟨bp, 0, none⟩)] w (Ret ys len (fun k => k = bp) w (namedP (Tk ys) (ys.length + 1) i) (SOk ys len bp bw vp m w)) := by
  unfold namedP
  cases hn : Syn.named (Tk ys) i with
  | false =>
    rw [name_no hn]
    exact (named_bad h hn (fun k => k = bp) rfl).mono fun e w' ⟨h1, h2⟩ => ⟨h2, h1⟩
  | true =>
    rw [name_yes len hn, on_ok']
    cases hb : Syn.is (Tk ys) (i + 1) [91] with
    | true => rw [if_pos rfl]; exact named_store hw h hm hbm hn hb
    | false =>
      rw [if_neg (by simp)]
      cases hq : Syn.is (Tk ys) (i + 1) [40] with
      | true => rw [if_pos rfl]; exact named_call hw h hm hbm hn hb hq
      | false => rw [if_neg (by simp)]; exact named_rest hw h hm hbm hn hb hq
theorem mk_if : Mk (bl ⟨#[105, 102]⟩) = true := by decide
theorem mk_while : Mk (bl ⟨#[119, 104, 105, 108, 101]⟩) = true := by decide
theorem mk_send : Mk (bl ⟨#[115, 101, 110, 100]⟩) = true := by decide
theorem tx_if : Syn.tx "if" = bl ⟨#[105, 102]⟩ := by decide
theorem tx_while : Syn.tx "while" = bl ⟨#[119, 104, 105, 108, 101]⟩ := by decide
theorem tx_send : Syn.tx "send" = bl ⟨#[115, 101, 110, 100]⟩ := by decide
theorem one_ok {r : Syn.R Syn.St} {st : Syn.St} {j : Nat} (h : r = .ok (st, j)) : oneP r = .ok ([st], j) := by rw [h]; rfl
theorem one_er {r : Syn.R Syn.St} {e k : Nat} (h : r = .error (e, k)) : oneP r = .error (e, k) := by rw [h]; rfl
/-- What holds of the row between two statements. -/
structure SI (ys : List It) (len bp bw : Nat) (vp : Value) (m : Mem) (st0 : List Syn.St) (v : Value) (w : World) (l : List Syn.St) (j : Nat) (n : Nat) (v' : Value) (m' : Mem) (W : World) : Prop where
  len_ : (st0 ++ l).length = n
  br : BR W m' v' (st0 ++ l)
  has : Has W m'
  bpn : m' bp = none
  own : ∀ k, v'.ownBlock = some k → m' k = none
  more : m.More w m'
  ob : Ob v w v'
  ps : PS ys len bp bw vp W j
  chg : Chg (TS bp v) w W
  size : w.heap.size ≤ W.heap.size
/-- Behind a call that only moves the parser on. -/
theorem SI.next {m m' : Mem} {st0 l : List Syn.St} {v v' : Value} {j j' n : Nat} {W W' : World} (h : SI ys len bp bw vp m st0 v w l j n v' m' W) (hc : Chg (fun k => k = bp) W W') (hp : PS ys len bp bw vp W' j') : SI ys len bp bw vp m st0 v w l j' n v' m' W' :=
  ⟨h.len_, br_next h.ps h.br hc, h.has.chg hc (fun k e => by subst e; exact h.bpn), h.bpn, h.own, h.more, h.ob, hp, h.chg.then (ts_of hc), Nat.le_trans h.size hc.size⟩
/-- Behind a reader of statements. -/
theorem SI.row {m m' : Mem} {st0 l : List Syn.St} {v v' : Value} {j n : Nat} {W W' : World} (h : SI ys len bp bw vp m st0 v w l j n v' m' W) {x : List Syn.St} {j' : Nat} {u : Value} (hc : Chg (TS bp v') W W') (hb : BOk ys len bp bw vp m' (st0 ++ l) v' W x j' (.returned u) W') :
    ∃ q c m2, u = .slice q (st0 ++ (l ++ x)).length c ∧ SI ys len bp bw vp m st0 v w (l ++ x) j' (st0 ++ (l ++ x)).length u m2 W' := by
  obtain ⟨u', m2, e, hmo, hH, hb2, hB, hv, ho, hp⟩ := hb
  injection e with e
  subst e
  rw [List.append_assoc] at hB
  obtain ⟨q, c, rfl⟩ := br_shape hB
  exact ⟨q, c, m2, rfl, rfl, hB, hH, hb2, hv, h.more.trans (hmo.from (w := w) h.size) (Nat.le_refl _), h.ob.trans ho h.size, hp, h.chg.trans hc (fun k e => h.ob.ts k e), Nat.le_trans h.size hc.size⟩
/-- Behind a statement that has been handed back, and laid behind the row. -/
theorem SI.one {m m' m1 : Mem} {st0 l : List Syn.St} {v v' v9 : Value} {j n j' : Nat} {W W1 w9 : World} (h : SI ys len bp bw vp m st0 v w l j n v' m' W) {st : Syn.St} {vt ve : Value} (hc : Chg (fun k => k = bp) W W1) (hmo : m'.More W m1) (hH : Has W1 m1) (hb1 : m1 bp = none) (ht : StrM m1 vt st.targets) (hex : ExM m1 ve st.exprs) (hp : PS ys len bp bw vp W1 j')
    {cs : List Value} (hr : W1.ownsRow 0 47 4 v' n cs) (he : Enc (StM m1) cs (st0 ++ l)) (hown : w9.ownsRow 0 47 4 v9 (n + 1) (cs ++ [.int .i64 (st.kind : Int), .string (sb st.name), vt, ve])) (hg : (W1.alloc (.cells #[.int .i64 (st.kind : Int), .string (sb st.name), vt, ve] 47)).grownBy w9 v'.ownBlock) (hat : v9.ownBlock = v'.ownBlock ∨ v9.ownBlock = some (W1.heap.size + 1)) :
    SI ys len bp bw vp m st0 v w (l ++ [st]) j' (n + 1) v9 m1 w9 := by
  have hlt : ∀ k, v'.ownBlock = some k → k < W.heap.size := fun k hk => by obtain ⟨cs', h1, _⟩ := h.br; exact (h1.lt k hk).2
  obtain ⟨z1, z2, z3, z4, z5, z6, z7⟩ := br_app' hp h.len_ hr he hH (fun k hk => hmo.new k (h.own k hk) (hlt k hk)) (cells := [.int .i64 (st.kind : Int), .string (sb st.name), vt, ve]) ⟨vt, ve, rfl, ht, hex⟩ 47 hown hg hat
  have hs : w.heap.size ≤ W1.heap.size := Nat.le_trans h.size hc.size
  exact ⟨by rw [← List.append_assoc]; exact z1, by rw [← List.append_assoc]; exact z2, z3, hb1, z4, h.more.trans (hmo.from (w := w) h.size) (Nat.le_refl _), h.ob.trans z5 hs, z6, (h.chg.then (ts_of hc)).trans z7 (fun k e => h.ob.ts k e), Nat.le_trans hs z7.size⟩
theorem SI.ok {m m' : Mem} {st0 l : List Syn.St} {v v' : Value} {j n : Nat} {W : World} (h : SI ys len bp bw vp m st0 v w l j n v' m' W) : BOk ys len bp bw vp m st0 v w l j (.returned v') W :=
  ⟨v', m', rfl, h.more, h.has, h.bpn, h.br, h.own, h.ob, h.ps⟩
set_option maxRecDepth 100000 in
set_option maxHeartbeats 4000000 in
theorem stmts_any (hw : Ws ys) {d : Nat} {s : Option (Nat → Syn.R (List Syn.St))} (hs : SOkD ys len bp bw vp d s) :
    RdS ys len bp bw vp 65 (fun v => #[.pointer (some ⟨bp, 0, none⟩), v, .int .i64 (d : Int)]) (fun i => stF (Tk ys) (Syn.stmtOf (Tk ys) (ys.length + 1) s) (ys.length + 1) [] i) := by
  intro w i v st0 m h hm hbm hb hv hcount
  obtain ⟨qv, cv, rfl⟩ := br_shape hb
  obtain ⟨n0, hn0⟩ : ∃ n0, st0.length = n0 := ⟨_, rfl⟩
  rw [hn0] at hcount hb hv ⊢
  obtain ⟨j0, hj0, hy0, hy1, hy2⟩ := infoSt
  obtain ⟨RR, hRR⟩ : ∃ RR, stF (Tk ys) (Syn.stmtOf (Tk ys) (ys.length + 1) s) (ys.length + 1) [] i = RR := ⟨_, rfl⟩
  show Calls _ _ _ _ (Ret ys len _ w (stF (Tk ys) (Syn.stmtOf (Tk ys) (ys.length + 1) s) (ys.length + 1) [] i) _)
  have hfit := stF_fit (tk_nones ys) (s := Syn.stmtOf (Tk ys) (ys.length + 1) s) (fun i hi => Syn.stmtOf_fit (tk_nones ys) (by omega) hs.fit hs.good hi) (Syn.stmtOf_good hs.good) (ys.length + 1) [] i h.le (by omega)
  rw [hRR] at hfit ⊢
  have HFIT := Lib.hid hfit
  have HR0 := Lib.hid hRR
  have hle0 := h.le
  have H0 := Lib.hid (show SI ys len bp bw vp m st0 (.slice qv n0 cv) w [] i n0 (.slice qv n0 cv) m w from
    ⟨by rw [List.append_nil]; exact hn0, by rw [List.append_nil]; exact hb, hm, hbm, hv, Mem.More.refl _ _, fun k hk => .inl hk, h, Chg.refl _ _, Nat.le_refl _⟩)
  clear hRR hfit h hm hb hv hn0
  go_enter Tryz.func65, Tryz.ntmps65
  go_wp2_with fail
  go_loopw [1] (fun a wr => ∃ f l j n q c m2, n + (ys.length - j) ≤ 131072 ∧ a = .slice q n c ∧ Hid (stF (Tk ys) (Syn.stmtOf (Tk ys) (ys.length + 1) s) f l j = RR) ∧ Hid (SI ys len bp bw vp m st0 (.slice qv n0 cv) w l j n (.slice q n c) m2 wr))
    (fun _ wr => posW bp wr)
  case atStart => exact ⟨ys.length + 1, [], i, n0, qv, cv, m, hcount, rfl, HR0, H0⟩
  case round =>
    obtain ⟨f, l, j, n, q, c, m2, hcnt, rfl, HF, HS⟩ := hrel
    clear hcount
    cases f with
    | zero => exact (HFIT.out.no99 (j := j) (by rw [← HF.out]; rfl)).elim
    | succ f =>
      have HPOS := Lib.hid HS.out.ps.pos
      have hstep : start (Tk ys) j = true → (Syn.stmtOf (Tk ys) (ys.length + 1) s j).on (fun x k => stF (Tk ys) (Syn.stmtOf (Tk ys) (ys.length + 1) s) f (l ++ x) k) = RR := fun hst => by
        rw [← HF.out, stF, hst, if_pos rfl]
      cases hif : Syn.is (Tk ys) j (Syn.tx "if") with
      | true =>
        have HG := Lib.hid (show (branchP (Tk ys) (ys.length + 1) s (j + 1)).on (fun x k => stF (Tk ys) (Syn.stmtOf (Tk ys) (ys.length + 1) s) f (l ++ x) k) = RR from by
          rw [← hstep (by unfold start; rw [hif]; rfl), stmtOf_eq, hif, if_pos rfl])
        have hsk := skip_t hw HS.out.ps ⟨#[105, 102]⟩ mk_if (by rw [← tx_if]; exact hif)
        have hlt := lt_of_is hif
        clear hif hstep
        go_wp2_with fail
        go_at_call 31
        refine hsk.mono ?_
        rintro e wk ⟨rfl, hck, hpk⟩
        have HI := Lib.hid (HS.out.next hck hpk)
        clear hsk hck hpk
        have hcall := ret_cases (branch_any (len := len) (bp := bp) (bw := bw) (vp := vp) hw hs wk (j + 1) _ (st0 ++ l) m2 HI.out.ps HI.out.has HI.out.bpn HI.out.br HI.out.own (by rw [HI.out.len_]; omega))
        have hle := HI.out.ps.le
        go_wp2_with fail
        go_at_call 81
        refine hcall.mono ?_
        rintro e w4 ⟨hc4, ⟨er, k, hr, rfl⟩ | ⟨x, j4, hr, hbo⟩⟩
        · exact ⟨rfl, ret_err (by rw [← HG.out, hr]; rfl) (HI.out.chg.trans hc4 (fun k e => HI.out.ob.ts k e))⟩
        have HG4 := Lib.hid (show stF (Tk ys) (Syn.stmtOf (Tk ys) (ys.length + 1) s) f (l ++ x) j4 = RR from by rw [← HG.out, hr]; rfl)
        have hcn := branch_cnt hs.cnt hs.no _ _ _ hr
        obtain ⟨u, m9, he9, hrest⟩ := hbo
        obtain rfl := he9
        obtain ⟨q4, c4, m4, rfl, hsi⟩ := HI.out.row hc4 ⟨u, m9, rfl, hrest⟩
        have hle4 := hsi.ps.le
        have hpos4 := hsi.ps.pos
        have hn4 : (st0 ++ (l ++ x)).length = n + x.length := by rw [← List.append_assoc, List.length_append, HI.out.len_]
        generalize (st0 ++ (l ++ x)).length = n4 at *
        have HSI := Lib.hid hsi
        have HN4 := Lib.hid hn4
        clear hcall hc4 hr hrest hsi hn4
        go_wp2_with fail
        refine ⟨⟨f, l ++ x, j4, n4, q4, c4, m4, by have := HN4.out; omega, rfl, HG4, HSI⟩, ?_⟩
        rw [hpos4, HPOS.out]; omega
      | false =>
      have hsk1 := Lib.hid (skip_f hw HS.out.ps ⟨#[105, 102]⟩ mk_if (by rw [← tx_if]; exact hif))
      cases hwh : Syn.is (Tk ys) j (Syn.tx "while") with
      | true =>
        have HG := Lib.hid (show (loopP (Tk ys) (ys.length + 1) s (j + 1)).on (fun x k => stF (Tk ys) (Syn.stmtOf (Tk ys) (ys.length + 1) s) f (l ++ x) k) = RR from by
          rw [← hstep (by unfold start; rw [hif, hwh]; rfl), stmtOf_eq, hif, if_neg (by simp), hwh, if_pos rfl])
        have hsk := skip_t hw HS.out.ps ⟨#[119, 104, 105, 108, 101]⟩ mk_while (by rw [← tx_while]; exact hwh)
        have hlt := lt_of_is hwh
        clear hif hwh hstep
        go_wp2_with fail
        go_at_call 31
        refine hsk1.out.mono ?_
        rintro e w' ⟨rfl, rfl⟩
        go_wp2_with fail
        go_at_call 31
        refine hsk.mono ?_
        rintro e wk ⟨rfl, hck, hpk⟩
        have HI := Lib.hid (HS.out.next hck hpk)
        clear hsk hck hpk
        have hcall := ret_cases (loop_any (len := len) (bp := bp) (bw := bw) (vp := vp) hw hs wk (j + 1) _ (st0 ++ l) m2 HI.out.ps HI.out.has HI.out.bpn HI.out.br HI.out.own (by rw [HI.out.len_]; omega))
        have hle := HI.out.ps.le
        go_wp2_with fail
        go_at_call 82
        refine hcall.mono ?_
        rintro e w4 ⟨hc4, ⟨er, k, hr, rfl⟩ | ⟨x, j4, hr, hbo⟩⟩
        · exact ⟨rfl, ret_err (by rw [← HG.out, hr]; rfl) (HI.out.chg.trans hc4 (fun k e => HI.out.ob.ts k e))⟩
        have HG4 := Lib.hid (show stF (Tk ys) (Syn.stmtOf (Tk ys) (ys.length + 1) s) f (l ++ x) j4 = RR from by rw [← HG.out, hr]; rfl)
        have hcn := loopP_cnt hs.cnt hs.no _ _ _ hr
        obtain ⟨u, m9, he9, hrest⟩ := hbo
        obtain rfl := he9
        obtain ⟨q4, c4, m4, rfl, hsi⟩ := HI.out.row hc4 ⟨u, m9, rfl, hrest⟩
        have hle4 := hsi.ps.le
        have hpos4 := hsi.ps.pos
        have hn4 : (st0 ++ (l ++ x)).length = n + x.length := by rw [← List.append_assoc, List.length_append, HI.out.len_]
        generalize (st0 ++ (l ++ x)).length = n4 at *
        have HSI := Lib.hid hsi
        have HN4 := Lib.hid hn4
        clear hcall hc4 hr hrest hsi hn4
        go_wp2_with fail
        refine ⟨⟨f, l ++ x, j4, n4, q4, c4, m4, by have := HN4.out; omega, rfl, HG4, HSI⟩, ?_⟩
        rw [hpos4, HPOS.out]; omega
      | false =>
      have hsk2 := Lib.hid (skip_f hw HS.out.ps ⟨#[119, 104, 105, 108, 101]⟩ mk_while (by rw [← tx_while]; exact hwh))
      cases hse : Syn.is (Tk ys) j (Syn.tx "send") with
      | true =>
        have HG := Lib.hid (show (oneP (sendP (Tk ys) (ys.length + 1) (j + 1))).on (fun x k => stF (Tk ys) (Syn.stmtOf (Tk ys) (ys.length + 1) s) f (l ++ x) k) = RR from by
          rw [← hstep (by unfold start; rw [hif, hwh, hse]; rfl), stmtOf_eq, hif, if_neg (by simp), hwh, if_neg (by simp), hse, if_pos rfl])
        have hsk := skip_t hw HS.out.ps ⟨#[115, 101, 110, 100]⟩ mk_send (by rw [← tx_send]; exact hse)
        have hlt := lt_of_is hse
        have HIF := Lib.hid hif
        have HWH := Lib.hid hwh
        have HSE := Lib.hid hse
        clear hif hwh hse hstep
        go_wp2_with fail
        go_at_call 31
        refine hsk1.out.mono ?_
        rintro e w' ⟨rfl, rfl⟩
        go_wp2_with fail
        go_at_call 31
        refine hsk2.out.mono ?_
        rintro e w' ⟨rfl, rfl⟩
        go_wp2_with fail
        go_at_call 31
        refine hsk.mono ?_
        rintro e wk ⟨rfl, hck, hpk⟩
        have HI := Lib.hid (HS.out.next hck hpk)
        clear hsk hck hpk
        have hcall := ret_cases (send_any (len := len) (bp := bp) (bw := bw) (vp := vp) hw HI.out.ps HI.out.has HI.out.bpn)
        have hle := HI.out.ps.le
        go_wp2_with fail
        go_at_call 83
        refine hcall.mono ?_
        rintro e w4 ⟨hc4, ⟨er, k, hr, rfl⟩ | ⟨st, j4, hr, vt, ve, m4, rfl, hmo, hH, hb4, ht, hex, hp4⟩⟩
        · exact ⟨rfl, ret_err (by rw [← HG.out, one_er hr]; rfl) (HI.out.chg.then (ts_of hc4))⟩
        obtain ⟨qt, ct, rfl⟩ := row_shape ht
        obtain ⟨qe, ce, rfl⟩ := ex_shape hex
        have HG4 := Lib.hid (show stF (Tk ys) (Syn.stmtOf (Tk ys) (ys.length + 1) s) f (l ++ [st]) j4 = RR from by rw [← HG.out, one_ok hr]; rfl)
        have hgo : j < j4 := (Syn.stmtOf_good hs.good j [st] j4 (by rw [stmtOf_eq]; rw [HIF.out, if_neg (by simp), HWH.out, if_neg (by simp), HSE.out, if_pos rfl]; exact one_ok hr)).2.2
        have hle4 := hp4.le
        obtain ⟨cs4, hr4, he4⟩ := br_own (br_le (br_next HI.out.ps HI.out.br hc4) hmo.le) HI.out.len_
        have HEND := Lib.hid (fun v9 w9 => HI.out.one (v9 := v9) (w9 := w9) hc4 hmo hH hb4 ht hex hp4 hr4 he4)
        clear hcall hr hmo hH hb4 ht hex hp4
        generalize ((st.kind : Nat) : Int) = sk at *
        generalize sb st.name = sn at *
        generalize st.targets.length = tn at *
        generalize st.exprs.length = en at *
        go_wp2_with (at_builtin; refine wpList_append_own_at _ rfl _ _ 39 rfl 0 47 j0 _ 4 72 Tryz.underlying39 hj0 hy0 hy1 hy2 rfl (by decide) _ _ _ rfl (hr4.alloc _) ⟨w4.heap.size, 0, none⟩ 1 1 [.int .i64 sk, .string sn, .slice qt tn ct, .slice qe en ce] rfl rfl (row_new w4 [.int .i64 sk, .string sn, .slice qt tn ct, .slice qe en ce] 47) (st_one _ _ _ _ _ _ _ _) (by unfold maxLen; omega) (by omega) (Nat.zero_le _) ?_)
        intro v9 w9 hown9 hgrow9 _ hat9
        obtain ⟨q9, c9, rfl⟩ := own_shape hown9
        have hsi := HEND.out _ _ hown9 hgrow9 hat9
        have hpos4 := hsi.ps.pos
        have HSI := Lib.hid hsi
        clear hown9 hgrow9 hat9 hr4 he4 hsi hc4
        go_wp2
        refine ⟨⟨f, l ++ [st], j4, n + 1, q9, c9, m4, by omega, rfl, HG4, HSI⟩, ?_⟩
        rw [hpos4, HPOS.out]; omega
      | false =>
      have hsk3 := Lib.hid (skip_f hw HS.out.ps ⟨#[115, 101, 110, 100]⟩ mk_send (by rw [← tx_send]; exact hse))
      have hk := isKind_ps HS.out.ps 1
      cases hnm : Syn.named (Tk ys) j with
      | true =>
        rw [named_kind, hnm] at hk
        have HG := Lib.hid (show (oneP (namedP (Tk ys) (ys.length + 1) j)).on (fun x k => stF (Tk ys) (Syn.stmtOf (Tk ys) (ys.length + 1) s) f (l ++ x) k) = RR from by
          rw [← hstep (by unfold start; rw [hnm]; simp), stmtOf_eq, hif, if_neg (by simp), hwh, if_neg (by simp), hse, if_neg (by simp)])
        have hlt := lt_of_named hnm
        have HIF := Lib.hid hif
        have HWH := Lib.hid hwh
        have HSE := Lib.hid hse
        clear hif hwh hse hnm hstep
        go_wp2_with fail
        go_at_call 31
        refine hsk1.out.mono ?_
        rintro e w' ⟨rfl, rfl⟩
        go_wp2_with fail
        go_at_call 31
        refine hsk2.out.mono ?_
        rintro e w' ⟨rfl, rfl⟩
        go_wp2_with fail
        go_at_call 31
        refine hsk3.out.mono ?_
        rintro e w' ⟨rfl, rfl⟩
        go_wp2_with (go_at_call 77; refine hk.mono ?_; rintro e wk ⟨rfl, rfl⟩)
        have HI := HS
        have hcall := ret_cases (named_any (len := len) (bp := bp) (bw := bw) (vp := vp) hw HI.out.ps HI.out.has HI.out.bpn)
        have hle := HI.out.ps.le
        go_wp2_with fail
        go_at_call 84
        refine hcall.mono ?_
        rintro e w4 ⟨hc4, ⟨er, k, hr, rfl⟩ | ⟨st, j4, hr, vt, ve, m4, rfl, hmo, hH, hb4, ht, hex, hp4⟩⟩
        · exact ⟨rfl, ret_err (by rw [← HG.out, one_er hr]; rfl) (HI.out.chg.then (ts_of hc4))⟩
        obtain ⟨qt, ct, rfl⟩ := row_shape ht
        obtain ⟨qe, ce, rfl⟩ := ex_shape hex
        have HG4 := Lib.hid (show stF (Tk ys) (Syn.stmtOf (Tk ys) (ys.length + 1) s) f (l ++ [st]) j4 = RR from by rw [← HG.out, one_ok hr]; rfl)
        have hgo : j < j4 := (Syn.stmtOf_good hs.good j [st] j4 (by rw [stmtOf_eq]; rw [HIF.out, if_neg (by simp), HWH.out, if_neg (by simp), HSE.out, if_neg (by simp)]; exact one_ok hr)).2.2
        have hle4 := hp4.le
        obtain ⟨cs4, hr4, he4⟩ := br_own (br_le (br_next HI.out.ps HI.out.br hc4) hmo.le) HI.out.len_
        have HEND := Lib.hid (fun v9 w9 => HI.out.one (v9 := v9) (w9 := w9) hc4 hmo hH hb4 ht hex hp4 hr4 he4)
        clear hcall hr hmo hH hb4 ht hex hp4
        generalize ((st.kind : Nat) : Int) = sk at *
        generalize sb st.name = sn at *
        generalize st.targets.length = tn at *
        generalize st.exprs.length = en at *
        go_wp2_with (at_builtin; refine wpList_append_own_at _ rfl _ _ 39 rfl 0 47 j0 _ 4 72 Tryz.underlying39 hj0 hy0 hy1 hy2 rfl (by decide) _ _ _ rfl (hr4.alloc _) ⟨w4.heap.size, 0, none⟩ 1 1 [.int .i64 sk, .string sn, .slice qt tn ct, .slice qe en ce] rfl rfl (row_new w4 [.int .i64 sk, .string sn, .slice qt tn ct, .slice qe en ce] 47) (st_one _ _ _ _ _ _ _ _) (by unfold maxLen; omega) (by omega) (Nat.zero_le _) ?_)
        intro v9 w9 hown9 hgrow9 _ hat9
        obtain ⟨q9, c9, rfl⟩ := own_shape hown9
        have hsi := HEND.out _ _ hown9 hgrow9 hat9
        have hpos4 := hsi.ps.pos
        have HSI := Lib.hid hsi
        clear hown9 hgrow9 hat9 hr4 he4 hsi hc4
        go_wp2
        refine ⟨⟨f, l ++ [st], j4, n + 1, q9, c9, m4, by omega, rfl, HG4, HSI⟩, ?_⟩
        rw [hpos4, HPOS.out]; omega
      | false =>
        rw [named_kind, hnm] at hk
        have HE := Lib.hid (show RR = .ok (l, j) from by
          rw [← HF.out, stF, show start (Tk ys) j = false from by unfold start; rw [hif, hwh, hse, hnm]; rfl, if_neg (by simp)])
        clear hif hwh hse hnm hstep
        go_wp2_with fail
        go_at_call 31
        refine hsk1.out.mono ?_
        rintro e w' ⟨rfl, rfl⟩
        go_wp2_with fail
        go_at_call 31
        refine hsk2.out.mono ?_
        rintro e w' ⟨rfl, rfl⟩
        go_wp2_with fail
        go_at_call 31
        refine hsk3.out.mono ?_
        rintro e w' ⟨rfl, rfl⟩
        go_wp2_with (go_at_call 77; refine hk.mono ?_; rintro e wk ⟨rfl, rfl⟩)
        go_ret
        exact ret_ok HE.out HS.out.chg HS.out.ok
/-- **stmts.** -/
theorem stmts_all (hw : Ws ys) : ∀ d, d ≤ 12 → RdS ys len bp bw vp 65 (fun v => #[.pointer (some ⟨bp, 0, none⟩), v, .int .i64 ((12 - d : Nat) : Int)]) (fun i => stF (Tk ys) (Syn.stmtD (Tk ys) (ys.length + 1) d) (ys.length + 1) [] i)
  | 0, _ => stmts_any hw (.inl ⟨rfl, rfl⟩)
  | d + 1, h => by
    refine stmts_any hw (d := 12 - (d + 1)) (s := some (Syn.stmtD (Tk ys) (ys.length + 1) d)) (.inr ⟨by omega, _, rfl, stmtD_cnt d, Syn.stmt_fit (tk_nones ys) (by omega) d, Syn.stmt_good d, stmtD_no d, ?_⟩)
    have := stmts_all hw d (by omega)
    rw [show (((12 - (d + 1) : Nat) : Int) + 1) = ((12 - d : Nat) : Int) by omega]
    exact this
end
end Go.Proofs.YtnmcjkabihihiaaGreatDoor
