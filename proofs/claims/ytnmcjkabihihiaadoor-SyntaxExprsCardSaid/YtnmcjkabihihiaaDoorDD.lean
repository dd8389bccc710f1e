/- The document's unary: operations, and what they are of. -/
import Derived.Test.YtnmcjkabihihiaaDoorDC
namespace Go.Proofs.YtnmcjkabihihiaaDoor
open Go Go.RowKit Go.Proofs.Mm

section
variable {D : DC} {nv bv : Value} {er a : Nat} {w : World}
def nmC (l : List Nat) : List Value := l.map fun (o : Nat) => Value.int .i64 (o : Nat)
theorem level_f0 (h : DS D nv bv er a w) (he : er ≠ 0) (z d : Int) : Calls Tryd.prog 10 #[PB D, .int .i64 z, .int .i64 0, .int .i64 d] w (FlR D nv bv er a w) := by
  have h := level_f h he z d 6 (by decide)
  rwa [show ((6 - 6 : Nat) : Int) = 0 from rfl] at h
theorem atom_else (e : Option (Nat → Syn.R (List Syn.Tm))) {j : Nat} (hnk : ¬ (j < D.ys.length ∧ (tk D.ys D.len j).k = 3)) : Syn.atom (Tk D.ys) e j = if Syn.is (Tk D.ys) j [40] = true then Syn.brack (Tk D.ys) e (fun l => l) [41] j else Syn.atomN (Tk D.ys) e j := by
  by_cases hj : j < D.ys.length
  · unfold Syn.atom
    rw [Tk_some (len := D.len) hj]
    exact if_neg (fun h => hnk ⟨hj, h⟩)
  · have h0 : Syn.is (Tk D.ys) j [40] = false := by unfold Syn.is; rw [Tk_none (by omega)]
    rw [if_neg (by rw [h0]; simp)]
    unfold Syn.atom Syn.atomN Syn.name
    rw [Tk_none (by omega)]
    rfl
/-- A term more, in the first row of a call. -/
theorem app_one {wr W w9 : World} {l : List Syn.Tm} {q : Option Addr} {c : Nat} {v9 : Value} {o : Obj} {t : Syn.Tm} (hrow : W.ownsRow wr.heap.size 46 3 (.slice q l.length c) l.length (tmCells l)) (hC : Chg (fun k => k = D.bt) wr W) (hD : DS D nv bv er a W)
    (ho : w9.ownsRow wr.heap.size 46 3 v9 (l.length + 1) (tmCells l ++ tmC t)) (hg : (W.alloc o).grownBy w9 (Value.slice q l.length c).ownBlock) :
    ∃ q9 c9, v9 = .slice q9 (l.length + 1) c9 ∧ Hid (w9.ownsRow wr.heap.size 46 3 (.slice q9 (l ++ [t]).length c9) (l ++ [t]).length (tmCells (l ++ [t]))) ∧ Hid (Chg (fun k => k = D.bt) wr w9) ∧ Hid (DS D nv bv er a w9) := by
  obtain ⟨q9, c9, rfl⟩ := own_shape ho
  have hll : (l ++ [t]).length = l.length + 1 := by simp
  refine ⟨q9, c9, rfl, Lib.hid (by rw [hll, tmCells_app, tmCells_one]; exact ho), Lib.hid ?_, Lib.hid (hD.grown hrow (by decide) (by decide) ((Chg.refl _ _).alloc _) hg)⟩
  exact hC.trans (((Chg.refl (fun k => (Value.slice q l.length c).ownBlock = some k) W).alloc _).then (grown_chg hg (fun k hk => .inl hk))) (fun k hk => .inr (hrow.lt k hk).1)
theorem app_row {wr W w9 : World} {r : List Syn.Tm} {v9 : Value} (_hs : wr.heap.size ≤ W.heap.size) (hC : Chg (fun k => k = D.bt) wr W) (hD : DS D nv bv er a W)
    (ho : w9.ownsRow wr.heap.size 46 3 v9 (0 + r.length) ([] ++ tmCells r)) (hg : W.grownBy w9 (Value.slice none 0 0).ownBlock) :
    ∃ q9 c9, v9 = .slice q9 r.length c9 ∧ Hid (w9.ownsRow wr.heap.size 46 3 (.slice q9 r.length c9) r.length (tmCells r)) ∧ Hid (Chg (fun k => k = D.bt) wr w9) ∧ Hid (DS D nv bv er a w9) := by
  rw [Nat.zero_add, List.nil_append] at ho
  obtain ⟨q9, c9, rfl⟩ := own_shape ho
  refine ⟨q9, c9, rfl, Lib.hid ho, Lib.hid ?_, Lib.hid (hD.grown (World.ownsRow_nil W wr.heap.size 46 3) (by decide) (by decide) (Chg.refl _ _) hg)⟩
  exact hC.trans (grown_chg (S := fun _ => False) hg (fun k hk => by cases hk)) (fun k hk => hk.elim)
/-- What is appended out of a row of a call's own. -/
theorem row_src {W : World} {B : Nat} {q : Option Addr} {c : Nat} {r : List Syn.Tm} (h : W.ownsRow B 46 3 (.slice q r.length c) r.length (tmCells r)) (hp : 0 < r.length) :
    ∃ g, q = some ⟨g, 0, none⟩ ∧ (tmCells r).length = r.length * 3 ∧ ∀ i u, (tmCells r)[i]? = some u → W.cell? ((⟨g, 0, none⟩ : Addr).add i) = some u := by
  obtain ⟨g, cap, hv, _, _⟩ := h.form hp
  have hq : q = some ⟨g, 0, none⟩ := by injection hv
  clear hv
  subst hq
  have hrl : (tmCells r).length = r.length * 3 := h.1
  refine ⟨g, rfl, hrl, fun i u hu => ?_⟩
  rw [show ((⟨g, 0, none⟩ : Addr).add i) = ⟨g, i, none⟩ from by simp [Addr.add]; intro h; exact h.symm]
  rw [h.cellAt i (by have := (List.getElem?_eq_some_iff.1 hu).1; omega)]
  exact hu
/-- Where the loop over the operations stands. -/
def UnI (D : DC) (nv bv : Value) (a : Nat) (RR : Syn.R (List Nat)) (w : World) (iv ov : Value) (wr : World) : Prop :=
  ∃ f i acc q c, iv = .int .i64 (i : Nat) ∧ ov = .slice q acc.length c ∧ i ≤ D.ys.length ∧ D.ys.length < f + i ∧ acc.length ≤ i ∧ Hid (wr.ownsRow w.heap.size 2 1 (.slice q acc.length c) acc.length (nmC acc)) ∧ Hid (Chg (fun _ => False) w wr) ∧ Hid (DS D nv bv 0 a wr) ∧ Hid (Syn.unGo (Tk D.ys) f acc i = RR)
/-- What the operand has come to. -/
def AtJ (D : DC) (nv bv : Value) (r : Syn.R (List Syn.Tm)) (C : Nat) (w0 : World) (iv lv : Value) (wr : World) : Prop :=
  ∃ q c l z er a, iv = .int .i64 z ∧ lv = .slice q l.length c ∧ Hid (wr.ownsRow w0.heap.size 46 3 (.slice q l.length c) l.length (tmCells l)) ∧ 0 < l.length ∧ l.length ≤ C ∧ Hid (Chg (fun k => k = D.bt) w0 wr) ∧ Hid (DS D nv bv er a wr) ∧ Hid (LvM D r l z er a)
theorem own_mono2 {V : World} {B B' e size m : Nat} {v : Value} {xs : List Value} (h : V.ownsRow B e size v m xs) (hb : B' ≤ B) : V.ownsRow B' e size v m xs := by
  refine ⟨h.1, ?_⟩
  rcases h.2 with h | ⟨g, cap, cur, h1, h2, h3⟩
  · exact .inl h
  · exact .inr ⟨g, cap, cur, h1, Nat.le_trans hb h2, h3⟩
theorem info64 : ∃ i, Tryd.prog.info? 2 = some i ∧ i.zero = some (.int .i64 0) ∧ i.size = 1 ∧ i.bytes = 8 := by
  have h : (Tryd.prog.info? 2).map (fun i => (i.zero, i.size, i.bytes)) = some (some (.int .i64 0), 1, 8) := by kernel_rfl
  cases hi : Tryd.prog.info? 2 with
  | none => rw [hi] at h; cases h
  | some i =>
    rw [hi] at h
    simp only [Option.map_some, Option.some.injEq, Prod.mk.injEq] at h
    exact ⟨i, rfl, h.1, h.2.1, h.2.2⟩
set_option maxRecDepth 100000 in
set_option maxHeartbeats 16000000 in
theorem unary_d {e : Option (Nat → Syn.R (List Syn.Tm))} (d : Nat) (hd : d ≤ 12) {C : Nat} (hC0 : 1 ≤ C) (hCb : C ≤ 100000000)
    (he : match e with | none => d = 12 | some p => d < 12 ∧ Syn.Cnt p ∧ Syn.FitP D.ys.length p ∧ RdD D nv bv 10 (fun i => #[PB D, .int .i64 (i : Nat), .int .i64 0, .int .i64 ((d : Int) + 1)]) p C) :
    RdD D nv bv 19 (fun i => #[PB D, .int .i64 (i : Nat), .int .i64 (d : Nat)]) (Syn.unary (Tk D.ys) (D.ys.length + 1) e) (C + 65537) := by
  intro w a i hi h
  have hfew := h.few
  obtain ⟨RR, hRR⟩ : ∃ RR, Syn.unOps (Tk D.ys) (D.ys.length + 1) i = RR := ⟨_, rfl⟩
  obtain ⟨j0, hj0, hy0, hy1, hy2⟩ := infoTm
  obtain ⟨k0, hk0, hx0, hx1, hx2⟩ := info64
  have HE := Lib.hid he
  have HRR := Lib.hid hRR
  have H0 : UnI D nv bv a RR w (.int .i64 (i : Nat)) (.slice none 0 0) w := ⟨D.ys.length + 1, i, [], none, 0, rfl, rfl, hi, by omega, Nat.zero_le _, Lib.hid (World.ownsRow_nil _ _ _ _), Lib.hid (Chg.refl _ _), Lib.hid h, Lib.hid (by rw [Syn.unGo_start]; exact hRR)⟩
  show Calls _ _ _ _ (LvR D nv bv (Syn.unary (Tk D.ys) (D.ys.length + 1) e i) (C + 65537) w)
  clear h he hRR
  go_enter Tryd.func19, Tryd.ntmps19
  go_wp2_with fail
  go_loopw [1, 8] (UnI D nv bv a RR w) (fun iv _ _ => D.ys.length + 1 - (intOf iv).toNat)
  case atStart => exact H0
  case round =>
    obtain ⟨f, j, acc, q, c, rfl, rfl, hj, hf, hacc, HO, HC, HD, HG⟩ := hrel
    clear H0
    have HIS := Lib.hid (fun s => is_d HD.out j s)
    obtain ⟨f, rfl⟩ : ∃ f', f = f' + 1 := ⟨f - 1, by omega⟩
    have hun := Syn.unOf (T := Tk D.ys) (i := j)
    obtain ⟨b1, h1⟩ : ∃ b, Syn.is (Tk D.ys) j (bl ⟨#[45]⟩) = b := ⟨_, rfl⟩
    obtain ⟨b2, h2⟩ : ∃ b, Syn.is (Tk D.ys) j (bl ⟨#[33]⟩) = b := ⟨_, rfl⟩
    obtain ⟨b3, h3⟩ : ∃ b, Syn.is (Tk D.ys) j (bl ⟨#[126]⟩) = b := ⟨_, rfl⟩
    rw [show ([126] : List Nat) = bl ⟨#[126]⟩ from rfl, show ([33] : List Nat) = bl ⟨#[33]⟩ from rfl, show ([45] : List Nat) = bl ⟨#[45]⟩ from rfl, h1, h2, h3] at hun
    by_cases hany : b1 = false ∧ b2 = false ∧ b3 = false
    · obtain ⟨rfl, rfl, rfl⟩ := hany
      have HR2 := Lib.hid (show RR = .ok (acc, j) from by rw [← HG.out]; exact Syn.unGo_done (by rw [hun]; rfl))
      clear hun HG
      go_upto_region 11 with (first | (go_at_call 21; refine (HIS.out _).mono ?_; rintro e w' ⟨rfl, rfl⟩))
      have HRAW := Lib.hid HD.out.raw
      obtain ⟨k3, hk3⟩ : ∃ b : Bool, decide (j < D.ys.length ∧ (tk D.ys D.len j).k = 3) = b := ⟨_, rfl⟩
      have HK3 := Lib.hid hk3
      clear hk3
      go_cut [67] from 43 to 68 (fun iv wx => iv = .bool k3 ∧ wx = wr)
      case first =>
        obtain ⟨qr, x0, _, x2, _, _, _, _, _, hx⟩ := HRAW.out
        have e0 : (((0 : Nat) : Int) == 0) = true := rfl
        by_cases hjl : j < D.ys.length
        · obtain ⟨rfl, _, _, y0, _⟩ := hx j hjl
          have hji : (j : Int) < (D.ys.length : Nat) := by omega
          have hkk : (((tk D.ys D.len j).k : Int) == 3) = k3 := by
            rw [← HK3.out]
            by_cases h : (tk D.ys D.len j).k = 3
            · simp [h, hjl]
            · have : ¬ (((tk D.ys D.len j).k : Int) = 3) := by omega
              simp [h, this]
          clear hx
          generalize (tk D.ys D.len j).k = xk at *
          cases k3
          all_goals
            go_wp2
            go_meet
            exact ⟨rfl, rfl⟩
        · have hkk : k3 = false := by rw [← HK3.out]; simp [hjl]
          have hji : ¬ ((j : Int) < (D.ys.length : Nat)) := by omega
          subst hkk
          clear hx
          go_wp2
          go_meet
          exact ⟨rfl, rfl⟩
      case rest =>
      obtain ⟨rfl, hwc⟩ := hcut
      have hwc' := hwc.symm
      clear hwc
      subst hwc'
      go_upto_if 67 with (fail)
      go_cut [1, 10] from 68 to 144 (fun iv lv wx => AtJ D nv bv (Syn.atom (Tk D.ys) e j) (C + 1) wr iv lv wx)
      case first =>
        have hD0 := HD.out
        have hwj : IntKind.i64.wrap ((j : Int) + 1) = ((j + 1 : Nat) : Int) := by rw [IntKind.wrap_i64]; omega
        have hwj2 : IntKind.i64.wrap (((j + 1 : Nat) : Int) + 1) = ((j + 2 : Nat) : Int) := by rw [IntKind.wrap_i64]; omega
        have hwd : IntKind.i64.wrap ((d : Int) + 1) = (d : Int) + 1 := by rw [IntKind.wrap_i64]; omega
        have hnil := World.ownsRow_nil wr wr.heap.size 46 3
        clear h1 h2 h3
        cases k3 with
        | true =>
          have hb := of_decide_eq_true HK3.out
          obtain ⟨hjl, hkk⟩ := hb
          have hat : Syn.atom (Tk D.ys) e j = .ok ([⟨1, (tk D.ys D.len j).v, []⟩], j + 1) := by
            unfold Syn.atom
            rw [Tk_some (len := D.len) hjl]
            exact if_pos hkk
          have HAT := Lib.hid hat
          obtain ⟨qr, x0, _, x2, _, _, _, _, _, hx⟩ := HRAW.out
          obtain ⟨rfl, _, _, y0, y1, y2, y3⟩ := hx j hjl
          have hji : (j : Int) < (D.ys.length : Nat) := by omega
          clear hx hat
          generalize (tk D.ys D.len j).v = tv at *
          have hnewA := row_new wr [.int .i64 1, .int .i64 (tv : Nat), .string ⟨#[]⟩] 46
          have honeA : ∀ u ∈ [Value.int .i64 1, .int .i64 (tv : Nat), .string ⟨#[]⟩], u.oneCell' = true := by
            intro u hu
            simp only [List.mem_cons, List.not_mem_nil, or_false] at hu
            rcases hu with rfl | rfl | rfl <;> rfl
          go_wp2_with (at_builtin; refine wpList_append_own_at _ rfl _ _ 22 rfl wr.heap.size 46 j0 _ 3 32 Tryd.underlying22 hj0 hy0 hy1 hy2 rfl (by decide) _ _ _ rfl (hnil.alloc _) ⟨wr.heap.size, 0, none⟩ 1 1 [.int .i64 1, .int .i64 (tv : Nat), .string ⟨#[]⟩] rfl rfl hnewA honeA (by unfold maxLen; omega) (by omega) (by simp <;> omega) ?_)
          intro v9 w9 ho9 hg9 _ _
          obtain ⟨q9, c9, rfl, HO9, HC9, HD9⟩ := app_one (l := []) (t := ⟨1, tv, []⟩) hnil (Chg.refl _ _) hD0 ho9 hg9
          clear ho9 hg9 hnil hD0
          go_wp2_with fail
          go_meet
          exact ⟨q9, c9, _, _, 0, a, by go_num, rfl, HO9, by simp, by simp, HC9, HD9, Lib.hid (by rw [HAT.out]; exact ⟨rfl, by first | rfl | (push_cast; rfl), rfl⟩)⟩
        | false =>
          have hnk : ¬ (j < D.ys.length ∧ (tk D.ys D.len j).k = 3) := of_decide_eq_false HK3.out
          have HAE := Lib.hid (atom_else e hnk)
          have HIS := Lib.hid (fun s => is_d hD0 j s)
          obtain ⟨b4, hb4⟩ : ∃ b, Syn.is (Tk D.ys) j (bl ⟨#[40]⟩) = b := ⟨_, rfl⟩
          have HB4 := Lib.hid hb4
          cases b4 with
          | true =>
            have hjl : j < D.ys.length := Syn.is_lt (tk_nones D.ys) hb4
            have hat : Syn.atom (Tk D.ys) e j = Syn.brack (Tk D.ys) e (fun l => l) [41] j := by rw [HAE.out]; exact if_pos hb4
            have HAT := Lib.hid hat
            clear hat hnk
            cases e with
            | none =>
              have hd12 : d = 12 := HE.out
              have ed : ((d : Int) == 12) = true := by simp; omega
              clear hd12
              go_wp2_with (first | (go_at_call 21; refine (HIS.out _).mono ?_; rintro e w' ⟨rfl, rfl⟩) | (go_at_call 11; refine (bad_d hD0 51 j).mono ?_; rintro e w1 ⟨rfl, hc1, hd1⟩))
              go_at_call 10
              refine (level_f0 hd1 (by decide) _ _).mono ?_
              rintro e w2 ⟨q2, c2, z2, rfl, ho2, hd2, hc2⟩
              obtain ⟨g2, rfl, hrl, hcl⟩ := row_src (r := [⟨2, 0, []⟩]) (by rw [tmCells_one]; exact ho2) (by decide)
              have hro := tmC_one [⟨2, 0, []⟩]
              have hC2 := hc1.then (hc2.mono (fun _ e => e.elim))
              have hs2 := hC2.size
              clear hc1 hd1 hc2 ho2
              go_wp2_with (at_builtin; refine wpList_append_own_at _ rfl _ _ 22 rfl wr.heap.size 46 j0 _ 3 32 Tryd.underlying22 hj0 hy0 hy1 hy2 rfl (by decide) _ 0 [] rfl (World.ownsRow_nil w2 wr.heap.size 46 3) ⟨g2, 0, none⟩ 1 c2 (tmCells [⟨2, 0, []⟩]) rfl hrl hcl hro (by unfold maxLen; omega) (by omega) (by omega) ?_)
              intro v9 w9 ho9 hg9 _ _
              obtain ⟨q9, c9, rfl, HO9, HC9, HD9⟩ := app_row (r := [⟨2, 0, []⟩]) hs2 hC2 hd2 ho9 hg9
              clear ho9 hg9 hcl hC2 hd2
              go_wp2_with (go_at_call 28; refine (wantD_f HD9.out (by decide) _ _).mono ?_; rintro e w' ⟨⟨z3, rfl⟩, rfl⟩)
              go_meet
              exact ⟨q9, c9, _, _, 51, _, rfl, rfl, HO9, by simp, by simp, HC9, HD9, Lib.hid (by rw [HAT.out]; exact ⟨rfl, by decide, rfl⟩)⟩
            | some p =>
              obtain ⟨hd12, hcnt, hfit, hR⟩ := HE.out
              have ed : ((d : Int) == 12) = false := by simp; omega
              have hcall := hR wr a (j + 1) hjl hD0
              clear hd12 hR
              go_wp2_with (first | (go_at_call 21; refine (HIS.out _).mono ?_; rintro e w' ⟨rfl, rfl⟩))
              go_at_call 10
              refine hcall.mono ?_
              rintro e w1 ⟨q1, c1, r, z1, er1, a1, rfl, ho1, hp1, hc1, hC1, hd1, hm1⟩
              obtain ⟨g2, rfl, hrl, hcl⟩ := row_src ho1 hp1
              have hro := tmC_one r
              have hs2 := hC1.size
              clear hcall ho1
              go_wp2_with (at_builtin; refine wpList_append_own_at _ rfl _ _ 22 rfl wr.heap.size 46 j0 _ 3 32 Tryd.underlying22 hj0 hy0 hy1 hy2 rfl (by decide) _ 0 [] rfl (World.ownsRow_nil w1 wr.heap.size 46 3) ⟨g2, 0, none⟩ r.length c1 (tmCells r) rfl hrl hcl hro (by unfold maxLen; omega) (by omega) (by omega) ?_)
              intro v9 w9 ho9 hg9 _ _
              obtain ⟨q9, c9, rfl, HO9, HC9, HD9⟩ := app_row hs2 hC1 hd1 (by rw [Nat.zero_add, List.nil_append]; exact ho9) hg9
              have HM1 := Lib.hid hm1
              clear ho9 hg9 hcl hC1 hd1 hm1 hrl hro
              go_wp2_with fail
              go_at_call 28
              cases hpj : p (j + 1) with
              | error qq =>
                obtain ⟨k, t⟩ := qq
                have hm1 := HM1.out
                rw [hpj] at hm1
                obtain ⟨rfl, m1, m2⟩ := hm1
                have HPJ := Lib.hid hpj
                have HM := Lib.hid m2
                clear hpj m2 HM1
                refine (wantD_f HD9.out m1 _ _).mono ?_
                rintro e w' ⟨⟨z3, rfl⟩, rfl⟩
                go_wp2_with fail
                go_meet
                exact ⟨q9, c9, r, _, er1, a1, rfl, rfl, HO9, hp1, by omega, HC9, HD9, Lib.hid (by rw [HAT.out]; unfold Syn.brack; simp only [HPJ.out]; exact ⟨rfl, m1, HM.out⟩)⟩
              | ok qq =>
                obtain ⟨r0, j2⟩ := qq
                have hm1 := HM1.out
                rw [hpj] at hm1
                obtain ⟨rfl, rfl, rfl⟩ := hm1
                have hj2 := (hfit (j + 1) hjl).1
                rw [hpj] at hj2
                have hj2 : j2 ≤ D.ys.length := hj2
                have HPJ := Lib.hid hpj
                clear hpj HM1
                cases hx : Syn.is (Tk D.ys) j2 (bl ⟨#[41]⟩) with
                | true =>
                  have HW := Lib.hid (show Syn.want (Tk D.ys) j2 [41] = .ok ((), j2 + 1) from if_pos hx)
                  refine (wantD_yes HD9.out (Syn.is_lt (tk_nones D.ys) hx) hx).mono ?_
                  rintro e w' ⟨rfl, rfl⟩
                  clear hx
                  go_wp2_with fail
                  go_meet
                  exact ⟨q9, c9, r, _, 0, a1, rfl, rfl, HO9, hp1, by omega, HC9, HD9, Lib.hid (by rw [HAT.out]; unfold Syn.brack; simp only [HPJ.out, Syn.R.on, HW.out]; exact ⟨rfl, rfl, rfl⟩)⟩
                | false =>
                  have HW := Lib.hid (show Syn.want (Tk D.ys) j2 [41] = .error (50, j2) from if_neg (by rw [show ([41] : List Nat) = bl ⟨#[41]⟩ from rfl, hx]; simp))
                  refine (wantD_no HD9.out (by omega) hx).mono ?_
                  rintro e w7 ⟨⟨z3, rfl⟩, hc7, hd7⟩
                  have HD7 := Lib.hid hd7
                  have HO7 := Lib.hid (own_chg HO9.out hc7 (fun k hk e => by subst e; exact own_not HD9.out HO9.out (by decide) hk))
                  have HC7 := Lib.hid (HC9.out.then hc7)
                  clear hx hd7 hc7
                  go_wp2_with fail
                  go_meet
                  exact ⟨q9, c9, r, _, 50, _, rfl, rfl, HO7, hp1, by omega, HC7, HD7, Lib.hid (by rw [HAT.out]; unfold Syn.brack; simp only [HPJ.out, Syn.R.on, HW.out]; exact ⟨rfl, by decide, rfl⟩)⟩
          | false =>
            have hat : Syn.atom (Tk D.ys) e j = Syn.atomN (Tk D.ys) e j := by rw [HAE.out]; exact if_neg (by rw [show ([40] : List Nat) = bl ⟨#[40]⟩ from rfl, hb4]; simp)
            have HAT := Lib.hid hat
            clear hat hnk
            cases hnm : Syn.named (Tk D.ys) j with
            | false =>
              have hnme : Syn.name (Tk D.ys) j = .error (50, j) := by
                unfold Syn.named at hnm
                unfold Syn.name
                cases hT : Tk D.ys j with
                | none => rfl
                | some k =>
                  rw [hT] at hnm
                  simp only [beq_eq_false_iff_ne] at hnm
                  exact if_neg hnm
              have HNE := Lib.hid hnme
              have HNN := Lib.hid (nameD_no hD0 (by omega) hnm)
              clear hnme hnm
              go_wp2_with (first | (go_at_call 21; refine (HIS.out _).mono ?_; rintro e w' ⟨rfl, rfl⟩))
              go_at_call 29
              refine HNN.out.mono ?_
              rintro e w1 ⟨⟨z1, rfl⟩, hc1, hd1⟩
              have HIF := Lib.hid (fun z s => is_f hd1 (by decide) z s)
              have hnil1 := World.ownsRow_nil w1 wr.heap.size 46 3
              have hs1 := hc1.size
              go_upto_region 29 with (first | (go_at_call 21; refine (HIF.out _ _).mono ?_; rintro e w' ⟨rfl, rfl⟩))
              have hnewB := row_new w1 [.int .i64 2, .int .i64 0, .string ⟨#[]⟩] 46
              have honeB : ∀ u ∈ [Value.int .i64 2, .int .i64 0, .string ⟨#[]⟩], u.oneCell' = true := by
                intro u hu
                simp only [List.mem_cons, List.not_mem_nil, or_false] at hu
                rcases hu with rfl | rfl | rfl <;> rfl
              go_wp2_with (at_builtin; refine wpList_append_own_at _ rfl _ _ 22 rfl wr.heap.size 46 j0 _ 3 32 Tryd.underlying22 hj0 hy0 hy1 hy2 rfl (by decide) _ _ _ rfl (hnil1.alloc _) ⟨w1.heap.size, 0, none⟩ 1 1 [.int .i64 2, .int .i64 0, .string ⟨#[]⟩] rfl rfl hnewB honeB (by unfold maxLen; omega) (by omega) (by simp <;> omega) ?_)
              intro v9 w9 ho9 hg9 _ _
              obtain ⟨q9, c9, rfl, HO9, HC9, HD9⟩ := app_one (l := []) (t := ⟨2, 0, []⟩) hnil1 hc1 hd1 ho9 hg9
              clear ho9 hg9 hc1 hd1 hnil1
              go_wp2_with fail
              go_meet
              exact ⟨q9, c9, _, _, 50, _, rfl, rfl, HO9, by simp, by simp, HC9, HD9, Lib.hid (by rw [HAT.out]; unfold Syn.atomN; rw [HNE.out]; exact ⟨rfl, by decide, rfl⟩)⟩
            | true =>
              have hjl : j < D.ys.length := Syn.named_lt (tk_nones D.ys) hnm
              have hnme : Syn.name (Tk D.ys) j = .ok (bl (tk D.ys D.len j).t, j + 1) := by
                unfold Syn.named at hnm
                unfold Syn.name
                rw [Tk_some (len := D.len) hjl] at hnm ⊢
                simp only [beq_iff_eq] at hnm
                exact if_pos hnm
              have HNE := Lib.hid hnme
              have HNY := Lib.hid (nameD_yes hD0 hnm)
              have HIS2 := Lib.hid (fun s => is_d hD0 (j + 1) s)
              clear hnme hnm
              obtain ⟨b5, hb5⟩ : ∃ b, Syn.is (Tk D.ys) (j + 1) (bl ⟨#[91]⟩) = b := ⟨_, rfl⟩
              have HB5 := Lib.hid hb5
              generalize (tk D.ys D.len j).t = nt at *
              have htm : ∀ x : Nat, tmC ⟨x, 0, bl nt⟩ = [.int .i64 (x : Nat), .int .i64 0, .string nt] := fun x => by simp [tmC, sb_bl]
              have HTM := Lib.hid htm
              clear htm
              go_wp2_with (first | (go_at_call 21; refine (HIS.out _).mono ?_; rintro e w' ⟨rfl, rfl⟩))
              go_at_call 29
              refine HNY.out.mono ?_
              rintro e w1 ⟨rfl, rfl⟩
              cases b5 with
              | false =>
                have HA2 := Lib.hid (show Syn.atomN (Tk D.ys) e j = .ok ([⟨2, 0, bl nt⟩], j + 1) from by
                  unfold Syn.atomN; rw [HNE.out]; exact if_neg (by rw [show ([91] : List Nat) = bl ⟨#[91]⟩ from rfl, HB5.out]; simp))
                go_upto_region 29 with (first | (go_at_call 21; refine (HIS2.out _).mono ?_; rintro e w' ⟨rfl, rfl⟩))
                have hnewB := row_new wr [.int .i64 2, .int .i64 0, .string nt] 46
                have honeB : ∀ u ∈ [Value.int .i64 2, .int .i64 0, .string nt], u.oneCell' = true := by
                  intro u hu
                  simp only [List.mem_cons, List.not_mem_nil, or_false] at hu
                  rcases hu with rfl | rfl | rfl <;> rfl
                go_wp2_with (at_builtin; refine wpList_append_own_at _ rfl _ _ 22 rfl wr.heap.size 46 j0 _ 3 32 Tryd.underlying22 hj0 hy0 hy1 hy2 rfl (by decide) _ _ _ rfl (hnil.alloc _) ⟨wr.heap.size, 0, none⟩ 1 1 [.int .i64 2, .int .i64 0, .string nt] rfl rfl hnewB honeB (by unfold maxLen; omega) (by omega) (by simp <;> omega) ?_)
                intro v9 w9 ho9 hg9 _ _
                obtain ⟨q9, c9, rfl, HO9, HC9, HD9⟩ := app_one (l := []) (t := ⟨2, 0, bl nt⟩) hnil (Chg.refl _ _) hD0 (by rw [HTM.out 2]; exact ho9) hg9
                clear ho9 hg9
                go_wp2_with fail
                go_meet
                exact ⟨q9, c9, _, _, 0, a, rfl, rfl, HO9, by simp, by simp, HC9, HD9, Lib.hid (by rw [HAT.out, HA2.out]; exact ⟨rfl, rfl, rfl⟩)⟩
              | true =>
                have hj1 : j + 1 < D.ys.length := Syn.is_lt (tk_nones D.ys) hb5
                have HA2 := Lib.hid (show Syn.atomN (Tk D.ys) e j = Syn.brack (Tk D.ys) e (fun l => l ++ [⟨3, 0, bl nt⟩]) [93] (j + 1) from by
                  unfold Syn.atomN; rw [HNE.out]; exact if_pos HB5.out)
                cases e with
                | none =>
                  have hd12 : d = 12 := HE.out
                  have ed : ((d : Int) == 12) = true := by simp; omega
                  clear hd12
                  go_wp2_with (first | (go_at_call 21; refine (HIS2.out _).mono ?_; rintro e w' ⟨rfl, rfl⟩) | (go_at_call 11; refine (bad_d hD0 51 (j + 1)).mono ?_; rintro e w1 ⟨rfl, hc1, hd1⟩))
                  go_at_call 10
                  refine (level_f0 hd1 (by decide) _ _).mono ?_
                  rintro e w2 ⟨q2, c2, z2, rfl, ho2, hd2, hc2⟩
                  obtain ⟨g2, rfl, hrl, hcl⟩ := row_src (r := [⟨2, 0, []⟩]) (by rw [tmCells_one]; exact ho2) (by decide)
                  have hro := tmC_one [⟨2, 0, []⟩]
                  have hC2 := hc1.then (hc2.mono (fun _ e => e.elim))
                  have hs2 := hC2.size
                  clear hc1 hd1 hc2 ho2
                  go_wp2_with (at_builtin; refine wpList_append_own_at _ rfl _ _ 22 rfl wr.heap.size 46 j0 _ 3 32 Tryd.underlying22 hj0 hy0 hy1 hy2 rfl (by decide) _ 0 [] rfl (World.ownsRow_nil w2 wr.heap.size 46 3) ⟨g2, 0, none⟩ 1 c2 (tmCells [⟨2, 0, []⟩]) rfl hrl hcl hro (by unfold maxLen; omega) (by omega) (by omega) ?_)
                  intro v8 w8 ho8 hg8 _ _
                  obtain ⟨q8, c8, rfl, HO8, HC8, HD8⟩ := app_row (r := [⟨2, 0, []⟩]) hs2 hC2 hd2 ho8 hg8
                  clear ho8 hg8 hcl hC2 hd2 hrl hro hs2
                  have hr8 : w8.ownsRow wr.heap.size 46 3 (.slice q8 1 c8) 1 (tmCells [⟨2, 0, []⟩]) := HO8.out
                  have hs8 := HC8.out.size
                  go_upto_region 27 with (fail)
                  have hnewB := row_new w8 [.int .i64 3, .int .i64 0, .string nt] 46
                  have honeB : ∀ u ∈ [Value.int .i64 3, .int .i64 0, .string nt], u.oneCell' = true := by
                    intro u hu
                    simp only [List.mem_cons, List.not_mem_nil, or_false] at hu
                    rcases hu with rfl | rfl | rfl <;> rfl
                  go_wp2_with (at_builtin; refine wpList_append_own_at _ rfl _ _ 22 rfl wr.heap.size 46 j0 _ 3 32 Tryd.underlying22 hj0 hy0 hy1 hy2 rfl (by decide) _ _ _ rfl (hr8.alloc _) ⟨w8.heap.size, 0, none⟩ 1 1 [.int .i64 3, .int .i64 0, .string nt] rfl rfl hnewB honeB (by unfold maxLen; omega) (by omega) (by simp <;> omega) ?_)
                  intro v9 w9 ho9 hg9 _ _
                  obtain ⟨q9, c9, rfl, HO9, HC9, HD9⟩ := app_one (l := [⟨2, 0, []⟩]) (t := ⟨3, 0, bl nt⟩) hr8 HC8.out HD8.out (by rw [HTM.out 3]; exact ho9) hg9
                  clear ho9 hg9 hr8
                  go_wp2_with (go_at_call 28; refine (wantD_f HD9.out (by decide) _ _).mono ?_; rintro e w' ⟨⟨z3, rfl⟩, rfl⟩)
                  go_meet
                  exact ⟨q9, c9, _, _, 51, _, rfl, rfl, HO9, by simp, by simp; omega, HC9, HD9, Lib.hid (by rw [HAT.out, HA2.out]; exact ⟨rfl, by decide, rfl⟩)⟩
                | some p =>
                  obtain ⟨hd12, hcnt, hfit, hR⟩ := HE.out
                  have ed : ((d : Int) == 12) = false := by simp; omega
                  have hcall := hR wr a (j + 2) hj1 hD0
                  clear hd12 hR
                  go_wp2_with (first | (go_at_call 21; refine (HIS2.out _).mono ?_; rintro e w' ⟨rfl, rfl⟩))
                  go_at_call 10
                  refine (show Calls Tryd.prog _ _ _ _ from hcall).mono ?_
                  rintro e w1 ⟨q1, c1, r, z1, er1, a1, rfl, ho1, hp1, hc1, hC1, hd1, hm1⟩
                  obtain ⟨g2, rfl, hrl, hcl⟩ := row_src ho1 hp1
                  have hro := tmC_one r
                  have hs2 := hC1.size
                  clear hcall ho1
                  go_wp2_with (at_builtin; refine wpList_append_own_at _ rfl _ _ 22 rfl wr.heap.size 46 j0 _ 3 32 Tryd.underlying22 hj0 hy0 hy1 hy2 rfl (by decide) _ 0 [] rfl (World.ownsRow_nil w1 wr.heap.size 46 3) ⟨g2, 0, none⟩ r.length c1 (tmCells r) rfl hrl hcl hro (by unfold maxLen; omega) (by omega) (by omega) ?_)
                  intro v8 w8 ho8 hg8 _ _
                  obtain ⟨q8, c8, rfl, HO8, HC8, HD8⟩ := app_row hs2 hC1 hd1 (by rw [Nat.zero_add, List.nil_append]; exact ho8) hg8
                  have HM1 := Lib.hid hm1
                  clear ho8 hg8 hcl hC1 hd1 hm1 hrl hro hs2
                  have hr8 := HO8.out
                  have hs8 := HC8.out.size
                  go_upto_region 27 with (fail)
                  have hnewB := row_new w8 [.int .i64 3, .int .i64 0, .string nt] 46
                  have honeB : ∀ u ∈ [Value.int .i64 3, .int .i64 0, .string nt], u.oneCell' = true := by
                    intro u hu
                    simp only [List.mem_cons, List.not_mem_nil, or_false] at hu
                    rcases hu with rfl | rfl | rfl <;> rfl
                  go_wp2_with (at_builtin; refine wpList_append_own_at _ rfl _ _ 22 rfl wr.heap.size 46 j0 _ 3 32 Tryd.underlying22 hj0 hy0 hy1 hy2 rfl (by decide) _ _ _ rfl (hr8.alloc _) ⟨w8.heap.size, 0, none⟩ 1 1 [.int .i64 3, .int .i64 0, .string nt] rfl rfl hnewB honeB (by unfold maxLen; omega) (by omega) (by simp <;> omega) ?_)
                  intro v9 w9 ho9 hg9 _ _
                  obtain ⟨q9, c9, rfl, HO9, HC9, HD9⟩ := app_one (t := ⟨3, 0, bl nt⟩) hr8 HC8.out HD8.out (by rw [HTM.out 3]; exact ho9) hg9
                  clear ho9 hg9 hr8
                  go_wp2_with fail
                  go_at_call 28
                  have hll : (r ++ [⟨3, 0, bl nt⟩] : List Syn.Tm).length = r.length + 1 := by simp
                  have HLL := Lib.hid hll
                  clear hll
                  cases hpj : p (j + 2) with
                  | error qq =>
                    obtain ⟨k, t⟩ := qq
                    have hm1 := HM1.out
                    rw [hpj] at hm1
                    obtain ⟨rfl, m1, m2⟩ := hm1
                    have HPJ := Lib.hid hpj
                    have HM := Lib.hid m2
                    clear hpj m2 HM1
                    refine (wantD_f HD9.out m1 _ _).mono ?_
                    rintro e w' ⟨⟨z3, rfl⟩, rfl⟩
                    go_wp2_with fail
                    go_meet
                    exact ⟨q9, c9, _, _, er1, a1, rfl, by rw [HLL.out], HO9, by rw [HLL.out]; omega, by rw [HLL.out]; omega, HC9, HD9, Lib.hid (by rw [HAT.out, HA2.out]; unfold Syn.brack; simp only [HPJ.out]; exact ⟨rfl, m1, HM.out⟩)⟩
                  | ok qq =>
                    obtain ⟨r0, j2⟩ := qq
                    have hm1 := HM1.out
                    rw [hpj] at hm1
                    obtain ⟨rfl, rfl, rfl⟩ := hm1
                    have hj2 := (hfit (j + 2) hj1).1
                    rw [hpj] at hj2
                    have hj2 : j2 ≤ D.ys.length := hj2
                    have HPJ := Lib.hid hpj
                    clear hpj HM1
                    cases hx : Syn.is (Tk D.ys) j2 (bl ⟨#[93]⟩) with
                    | true =>
                      have HW := Lib.hid (show Syn.want (Tk D.ys) j2 [93] = .ok ((), j2 + 1) from if_pos hx)
                      refine (wantD_yes HD9.out (Syn.is_lt (tk_nones D.ys) hx) hx).mono ?_
                      rintro e w' ⟨rfl, rfl⟩
                      clear hx
                      go_wp2_with fail
                      go_meet
                      exact ⟨q9, c9, _, _, 0, a1, rfl, by rw [HLL.out], HO9, by rw [HLL.out]; omega, by rw [HLL.out]; omega, HC9, HD9, Lib.hid (by rw [HAT.out, HA2.out]; unfold Syn.brack; simp only [HPJ.out, Syn.R.on, HW.out]; exact ⟨rfl, rfl, rfl⟩)⟩
                    | false =>
                      have HW := Lib.hid (show Syn.want (Tk D.ys) j2 [93] = .error (50, j2) from if_neg (by rw [show ([93] : List Nat) = bl ⟨#[93]⟩ from rfl, hx]; simp))
                      refine (wantD_no HD9.out (by omega) hx).mono ?_
                      rintro e w7 ⟨⟨z3, rfl⟩, hc7, hd7⟩
                      have HD7 := Lib.hid hd7
                      have HO7 := Lib.hid (own_chg HO9.out hc7 (fun k hk e => by subst e; exact own_not HD9.out HO9.out (by decide) hk))
                      have HC7 := Lib.hid (HC9.out.then hc7)
                      clear hx hd7 hc7
                      go_wp2_with fail
                      go_meet
                      exact ⟨q9, c9, _, _, 50, _, rfl, by rw [HLL.out], HO7, by rw [HLL.out]; omega, by rw [HLL.out]; omega, HC7, HD7, Lib.hid (by rw [HAT.out, HA2.out]; unfold Syn.brack; simp only [HPJ.out, Syn.R.on, HW.out]; exact ⟨rfl, by decide, rfl⟩)⟩
      case rest =>
        generalize wr = V at *
        obtain ⟨q5, c5, l, z, er, a5, rfl, rfl, HO5, hp5, hc5, HC5, HD5, HM5⟩ := hcut
        have hnb := own_not HD.out HO.out (by decide)
        have HNB := Lib.hid hnb
        clear hnb h1 h2 h3
        have hwa : IntKind.i64.wrap (((acc.length : Nat) : Int) - 1) = ((acc.length : Nat) : Int) - 1 := by rw [IntKind.wrap_i64]; omega
        have hd0 : acc.drop acc.length = [] := List.drop_length
        have H9 : ∃ k l' q6 c6, k ≤ acc.length ∧ (Value.int .i64 (((acc.length : Nat) : Int) - 1)) = .int .i64 ((k : Int) - 1) ∧ (Value.slice q5 l.length c5) = .slice q6 l'.length c6 ∧ Hid (l' = l ++ (acc.drop k).reverse.map fun o => (⟨4, o, []⟩ : Syn.Tm)) ∧ l'.length + k = l.length + acc.length ∧ Hid (wc.ownsRow V.heap.size 46 3 (.slice q6 l'.length c6) l'.length (tmCells l')) ∧ Hid (Chg (fun k => k = D.bt) V wc) ∧ Hid (DS D nv bv er a5 wc) :=
          ⟨acc.length, l, q5, c5, Nat.le_refl _, rfl, rfl, Lib.hid (by rw [hd0]; simp), rfl, HO5, HC5, HD5⟩
        clear hd0
        go_wp2_with fail
        go_loopw [10, 17] (fun lv kv wv => ∃ k l' q6 c6, k ≤ acc.length ∧ kv = .int .i64 ((k : Int) - 1) ∧ lv = .slice q6 l'.length c6 ∧ Hid (l' = l ++ (acc.drop k).reverse.map fun o => (⟨4, o, []⟩ : Syn.Tm)) ∧ l'.length + k = l.length + acc.length ∧ Hid (wv.ownsRow V.heap.size 46 3 (.slice q6 l'.length c6) l'.length (tmCells l')) ∧ Hid (Chg (fun k => k = D.bt) V wv) ∧ Hid (DS D nv bv er a5 wv)) (fun _ kv _ => (intOf kv + 1).toNat)
        case atStart =>
          obtain ⟨k, l', q6, c6, g1, g2, g3, g4⟩ := H9
          exact ⟨k, l', q6, c6, g1, g2, g3, g4⟩
        case round =>
          obtain ⟨k, l', q6, c6, hk, rfl, rfl, HL, hlen, HO6, HC6, HD6⟩ := hrel
          clear H9
          cases k with
          | zero =>
            have hm1 : ((0 : Nat) : Int) - 1 = -1 := rfl
            have hU : Syn.unary (Tk D.ys) (D.ys.length + 1) e i = (Syn.atom (Tk D.ys) e j).on fun l i => .ok (l ++ acc.reverse.map fun o => ⟨4, o, []⟩, i) := by rw [Syn.unary_atom, HRR.out, HR2.out]; rfl
            have HU := Lib.hid hU
            clear hU
            go_wp2_with fail
            go_ret2
            refine ⟨q6, c6, l', z, er, a5, rfl, own_mono2 HO6.out HC.out.size, by omega, by omega, (HC.out.mono (fun _ e => e.elim)).then HC6.out, HD6.out, ?_⟩
            rw [HU.out]
            have hl' : l' = l ++ acc.reverse.map fun o => (⟨4, o, []⟩ : Syn.Tm) := HL.out
            have hm5 := HM5.out
            cases hat : Syn.atom (Tk D.ys) e j with
            | error qq => rw [hat] at hm5; exact hm5
            | ok qq =>
              rw [hat] at hm5
              obtain ⟨rfl, rfl, rfl⟩ := hm5
              exact ⟨hl', rfl, rfl⟩
          | succ m =>
            have hm1 : ((m + 1 : Nat) : Int) - 1 = (m : Int) := by omega
            have hOw := own_chg HO.out HC6.out (fun k hk e => by subst e; exact HNB.out hk)
            obtain ⟨g, cap, hv, _, hg⟩ := hOw.form (by omega)
            have hq : q = some ⟨g, 0, none⟩ := by injection hv
            clear hv
            subst hq
            have hmm : m < acc.length := by omega
            have y0 : wr.cell? ⟨g, m, none⟩ = some (.int .i64 (acc[m] : Nat)) := by
              rw [hOw.cellAt m (by omega)]
              unfold nmC
              rw [List.getElem?_map, List.getElem?_eq_getElem hmm]; rfl
            have HL2 := Lib.hid (show l' ++ [⟨4, acc[m], []⟩] = l ++ (acc.drop m).reverse.map fun o => (⟨4, o, []⟩ : Syn.Tm) from by
              rw [HL.out, List.drop_eq_getElem_cons hmm, List.reverse_cons, List.map_append, ← List.append_assoc]; rfl)
            have hmi : (m : Int) < (acc.length : Nat) := by omega
            have hm0 : (0 : Int) ≤ (m : Int) := by omega
            have hwm : IntKind.i64.wrap ((m : Int) - 1) = (m : Int) - 1 := by rw [IntKind.wrap_i64]; omega
            have hrow := HO6.out
            have hs6 := HC6.out.size
            have hnew := row_new wr [.int .i64 4, .int .i64 (acc[m] : Nat), .string ⟨#[]⟩] 46
            have hone : ∀ u ∈ [Value.int .i64 4, .int .i64 (acc[m] : Nat), .string ⟨#[]⟩], u.oneCell' = true := by
              intro u hu
              simp only [List.mem_cons, List.not_mem_nil, or_false] at hu
              rcases hu with rfl | rfl | rfl <;> rfl
            clear hOw hg
            go_wp2_with (at_builtin; refine wpList_append_own_at _ rfl _ _ 22 rfl V.heap.size 46 j0 _ 3 32 Tryd.underlying22 hj0 hy0 hy1 hy2 rfl (by decide) _ _ _ rfl (hrow.alloc _) ⟨wr.heap.size, 0, none⟩ 1 1 [.int .i64 4, .int .i64 (acc[m] : Nat), .string ⟨#[]⟩] rfl rfl hnew hone (by unfold maxLen; omega) (by omega) (by simp; omega) ?_)
            intro v7 w7 ho7 hg7 _ _
            obtain ⟨q7, c7, rfl⟩ := own_shape ho7
            have HD7 := Lib.hid (HD6.out.grown hrow (by decide) (by decide) ((Chg.refl _ _).alloc _) hg7)
            have HC7 := Lib.hid (show Chg (fun k => k = D.bt) V w7 from HC6.out.trans (((Chg.refl (fun k => (Value.slice q6 l'.length c6).ownBlock = some k) wr).alloc _).then (grown_chg hg7 (fun k hk => .inl hk))) (fun k hk => .inr (hrow.lt k hk).1))
            have hll : (l' ++ [⟨4, acc[m], []⟩] : List Syn.Tm).length = l'.length + 1 := by simp
            have HO7 := Lib.hid (show w7.ownsRow V.heap.size 46 3 (.slice q7 (l' ++ [⟨4, acc[m], []⟩] : List Syn.Tm).length c7) (l' ++ [⟨4, acc[m], []⟩] : List Syn.Tm).length (tmCells (l' ++ [⟨4, acc[m], []⟩])) by
              rw [hll, tmCells_app, tmCells_one]; exact ho7)
            clear hg7 ho7 hrow hnew
            go_wp2_with fail
            exact ⟨⟨m, _, q7, c7, by omega, by go_num, by rw [hll], HL2, by rw [hll]; omega, HO7, HC7, HD7⟩, by simp [intOf] <;> omega⟩
    · have hne : (if b3 = true then 17 else if b2 = true then 16 else if b1 = true then 15 else 0 : Nat) ≠ 0 := by cases b1 <;> cases b2 <;> cases b3 <;> simp_all
      have hjl : j < D.ys.length := Syn.opOf_lt (tk_nones D.ys) (by rw [hun]; exact hne)
      obtain ⟨o, ho⟩ : ∃ o, (if b3 = true then 17 else if b2 = true then 16 else if b1 = true then 15 else 0 : Nat) = o := ⟨_, rfl⟩
      have HG2 := Lib.hid (show Syn.unGo (Tk D.ys) f (acc ++ [o]) (j + 1) = RR from by
        rw [← HG.out, Syn.unGo_next (by rw [hun]; exact hne), hun, ho])
      have hwj : IntKind.i64.wrap ((j : Int) + 1) = ((j + 1 : Nat) : Int) := by rw [IntKind.wrap_i64]; omega
      have hrow := HO.out
      have hws := HC.out.size
      have hnew := row_new wr [.int .i64 (o : Nat)] 2
      have hone : ∀ u ∈ [Value.int .i64 (o : Nat)], u.oneCell' = true := by intro u hu; rw [List.mem_singleton.1 hu]; rfl
      clear hun HG hne
      cases b1 <;> cases b2 <;> cases b3
      case false.false.false => exact absurd ⟨rfl, rfl, rfl⟩ hany
      all_goals
        simp only [if_true, Bool.false_eq_true, if_false] at ho
        clear hany
        subst ho
        go_wp2_with (first | (go_at_call 21; refine (HIS.out _).mono ?_; rintro e w' ⟨rfl, rfl⟩) | (at_builtin; refine wpList_append_own_at _ rfl _ _ 61 rfl w.heap.size 2 k0 _ 1 8 Tryd.underlying61 hk0 hx0 hx1 hx2 rfl (by decide) _ _ _ rfl (hrow.alloc _) ⟨wr.heap.size, 0, none⟩ 1 1 [.int .i64 (_ : Nat)] rfl rfl hnew hone (by unfold maxLen; omega) (by omega) (by simp; omega) ?_))
        intro v2 w2 ho2 hg2 _ _
        obtain ⟨q2, c2, rfl⟩ := own_shape ho2
        have HD2 := Lib.hid (HD.out.grown hrow (by decide) (by decide) ((Chg.refl _ _).alloc _) hg2)
        have HC2 := Lib.hid (show Chg (fun _ => False) w w2 from HC.out.trans (((Chg.refl (fun k => (Value.slice q acc.length c).ownBlock = some k) wr).alloc _).then (grown_chg hg2 (fun k hk => .inl hk))) (fun k hk => .inr (hrow.lt k hk).1))
        clear hg2 hrow hnew
        go_wp2_with fail
        refine ⟨⟨f, j + 1, _, q2, c2, by go_num, ?_, hjl, by omega, ?_, ?_, HC2, HD2, HG2⟩, by simp [intOf]; omega⟩
        · simp
        · simp; omega
        · refine Lib.hid ?_
          have hll : ∀ o : Nat, (acc ++ [o]).length = acc.length + 1 := fun o => by simp
          rw [hll]
          unfold nmC
          rw [List.map_append]
          exact ho2
end
end Go.Proofs.YtnmcjkabihihiaaDoor
