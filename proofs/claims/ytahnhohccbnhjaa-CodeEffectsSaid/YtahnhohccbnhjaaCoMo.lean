/- CodeMore: the law's walk. -/
import Derived.Test.YtahnhohccbnhjaaCoW
import Derived.Laws.AppendOwnNone
namespace Go.Proofs.Ytahnhohccbnhjaa
open Go Go.RowKit Go.Proofs.Mm Go.Sort

theorem infoOf {P : Program} {t : TypeId} {z : Value} {size bytes : Nat} (h : (P.info? t).map (fun i => (i.zero, i.size, i.bytes)) = some (some z, size, bytes)) : ∃ i, P.info? t = some i ∧ i.zero = some z ∧ i.size = size ∧ i.bytes = bytes := by
  cases hi : P.info? t with
  | none => rw [hi] at h; cases h
  | some i =>
    rw [hi] at h
    simp only [Option.map_some, Option.some.injEq, Prod.mk.injEq] at h
    exact ⟨i, rfl, h.1, h.2.1, h.2.2⟩
theorem infoL : ∃ i, Try.prog.info? 63 = some i ∧ i.zero = some (.int .u64 0) ∧ i.size = 1 ∧ i.bytes = 8 := infoOf (by kernel_rfl)
theorem infoA : ∃ i, Try.prog.info? 65 = some i ∧ i.zero = some (.agg #[.int .i64 0, .int .u64 0]) ∧ i.size = 2 ∧ i.bytes = 16 := infoOf (by kernel_rfl)
theorem infoF : ∃ i, Try.prog.info? 68 = some i ∧ i.zero = some (.agg #[.int .u64 0, .slice none 0 0, .slice none 0 0, .int .i64 0, .int .i64 0, .slice none 0 0]) ∧ i.size = 6 ∧ i.bytes = 96 := infoOf (by kernel_rfl)
theorem und_L : Try.prog.underlying 47 = some (.slice 63) := by kernel_rfl
theorem und_A : Try.prog.underlying 48 = some (.slice 65) := by kernel_rfl
theorem und_F : Try.prog.underlying 49 = some (.slice 68) := by kernel_rfl
/-- A row of cells behind a slice that is handed on. -/
def RowIn (w : World) (q : Option Addr) (n c size : Nat) (cs : List Value) : Prop := cs.length = n * size ∧ (∀ u ∈ cs, u.oneCell' = true) ∧ ((q = none ∧ n = 0 ∧ c = 0) ∨ ∃ ad, q = some ad ∧ ∀ j u, cs[j]? = some u → w.cell? (ad.add j) = some u)
theorem RowIn.le {w w' : World} {q : Option Addr} {n c size : Nat} {cs : List Value} (h : RowIn w q n c size cs) (hb : Below w.heap.size w w') : RowIn w' q n c size cs :=
  ⟨h.1, h.2.1, h.2.2.imp id fun ⟨ad, e, hc⟩ => ⟨ad, e, fun j u hu => cell_b (hc j u hu) hb⟩⟩
theorem grown_refl (w : World) (r : Option Nat) : w.grownBy w r := ⟨rfl, rfl, rfl, Nat.le_refl _, fun _ _ _ => rfl⟩
theorem wpList_app {ops : Array Oper} {rest : List Oper} {o : Oper} {a : Act} {Q : Exit → Act → World → Prop} {w : World} (hgd : o.guard = none) (s x : Operand) (t : TypeId)
    (ho : o.op = .call { callee := .builtin .append, args := #[s, x], argTypes := #[t, t] })
    (base : Nat) (e : TypeId) (z : Value) (size bytes : Nat) (ht : Try.prog.underlying t = some (.slice e)) (hi : ∃ i, Try.prog.info? e = some i ∧ i.zero = some z ∧ i.size = size ∧ i.bytes = bytes) (hzs : z.cells.size = size) (hsz : 0 < size)
    (v : Value) (n : Nat) (xs : List Value) (hs : a.eval s = v) (hown : w.ownsRow base e size v n xs)
    (q : Option Addr) (m c : Nat) (news : List Value) (hx : a.eval x = .slice q m c) (hr : RowIn w q m c size news)
    (h63 : n + m ≤ maxLen) (hbytes : (n + m) * bytes ≤ 140737488355328) (hbase : base ≤ w.heap.size)
    (h : ∀ v' w', w'.ownsRow base e size v' (n + m) (xs ++ news) → w.grownBy w' v.ownBlock → wpList Try.prog ops Q rest (a.put o.dst v') w') : wpList Try.prog ops Q (o :: rest) a w := by
  obtain ⟨i, i1, i2, i3, i4⟩ := hi
  obtain ⟨hl, h1, ⟨rfl, rfl, rfl⟩ | ⟨ad, rfl, hc⟩⟩ := hr
  · have hn : news = [] := List.eq_nil_of_length_eq_zero (by rw [hl]; omega)
    subst hn
    refine wpList_append_own_none hgd s x t ho base e i size ht i1 v n xs hs hown hx ?_
    exact h v w (by simpa using hown) (grown_refl _ _)
  · exact wpList_append_own w hgd s x t ho base e i z size bytes ht i1 i2 i3 i4 hzs hsz v n xs hs hown ad m c news hx hl hc h1 h63 hbytes hbase fun v' w' a b _ => h v' w' a b
theorem one_enc {α : Type} {R : List Value → α → Prop} (hR : ∀ c x, R c x → ∀ u ∈ c, u.oneCell' = true) : ∀ {l : List α} {cs : List Value}, Enc R cs l → ∀ u ∈ cs, u.oneCell' = true
  | [], cs, e, u, hu => by
    obtain rfl : cs = [] := e
    cases hu
  | x :: l, cs, ⟨c, r, e, h1, h2⟩, u, hu => by
    subst e
    rcases List.mem_append.1 hu with hu | hu
    · exact hR c x h1 u hu
    · exact one_enc hR h2 u hu
theorem FnsAt.le {C D : Cl} {q : Option Addr} {fs : List FnL} (h : FnsAt C q fs) (hc : CLe C D) : FnsAt D q fs := fun j hj => by
  obtain ⟨g, o, lv, qp, cp, qr, cr, stk, qc, cc, e, h0, h1, h2, h3, h4, h5, h6⟩ := h j hj
  exact ⟨g, o, lv, qp, cp, qr, cr, stk, qc, cc, e, hc _ _ h0, hc _ _ h1, hc _ _ h2, hc _ _ h3, hc _ _ h4, hc _ _ h5, h6⟩
theorem SlX.rowIn {α : Type} {bs size : Nat} {w : World} {R : List Value → α → Prop} {q : Option Addr} {n c : Nat} {l : List α} (h : SlX [] bs (wC w) R (.slice q n c) l) (hR : ∀ c x, R c x → c.length = size) (hone : ∀ c x, R c x → ∀ u ∈ c, u.oneCell' = true) :
    n = l.length ∧ n * bs ≤ 140737488351232 ∧ ∃ cs, Enc R cs l ∧ RowIn w q n c size cs := by
  obtain ⟨q', c', cs, e, _, hr, he, hb, _, hq, hlc⟩ := h
  injection e with e1 e2 e3
  subst e1 e2 e3
  refine ⟨rfl, hb, cs, he, (encZ_at hR he).1, one_enc hone he, ?_⟩
  rcases q with _ | ad
  · have h0 := hq rfl
    exact .inl ⟨rfl, by omega, h0⟩
  · refine .inr ⟨ad, rfl, ?_⟩
    rw [List.append_nil] at hr
    rcases hr with hr | ⟨g, o, hg, hr⟩
    · subst hr; intro j u hu; simp at hu
    · injection hg with hg
      subst hg
      intro j u hu
      rw [show ((⟨g, o, none⟩ : Addr).add j) = ⟨g, o + j, none⟩ from by unfold Addr.add; split <;> simp_all]
      exact hr j u hu
theorem la_one (c : List Value) (x : Int) (h : laR c x) : ∀ u ∈ c, u.oneCell' = true := by rw [h]; intro u hu; simp at hu; subst hu; rfl
theorem ar_one (c : List Value) (x : Int × Int) (h : arR c x) : ∀ u ∈ c, u.oneCell' = true := by rw [h]; intro u hu; simp at hu; rcases hu with rfl | rfl <;> rfl
theorem fnc_one (c : List Value) (f : FnL) (h : FnC0 c f) : ∀ u ∈ c, u.oneCell' = true := by
  obtain ⟨_, _, _, _, _, _, _, _, rfl, _⟩ := h
  intro u hu
  simp at hu
  rcases hu with rfl | rfl | rfl | rfl | rfl | rfl <;> rfl
/-- In whatever module with one more of each, an effect that there was stays. -/
theorem thI_more {ng na nh nf : Nat} {fl : FnL} {k a : Int} (h : thI ng na nh nf fl k a = true) : thI (ng + 1) (na + 1) (nh + 1) (nf + 1) fl k a = true := by
  unfold thI at h ⊢
  split
  · rename_i e; rw [if_pos e] at h; exact h
  · rename_i e2; rw [if_neg e2] at h
    split
    · rename_i e; rw [if_pos e] at h; rw [decide_eq_true_iff] at h ⊢; omega
    · rename_i e3; rw [if_neg e3] at h
      split
      · rename_i e; rw [if_pos e] at h; rw [decide_eq_true_iff] at h ⊢; omega
      · rename_i e4; rw [if_neg e4] at h
        split
        · rename_i e; rw [if_pos e] at h; exact h
        · rename_i e5; rw [if_neg e5] at h
          split
          · rename_i e; rw [if_pos e] at h; rw [decide_eq_true_iff] at h ⊢; omega
          · rename_i e6; rw [if_neg e6] at h
            split
            · rename_i e; rw [if_pos e] at h; rw [decide_eq_true_iff] at h ⊢; omega
            · rfl
theorem getD_app {fs : List FnL} {z : FnL} {j : Nat} (h : j < fs.length) : (fs ++ [z]).getD j default = fs.getD j default := by
  rw [List.getD_eq_getElem?_getD, List.getD_eq_getElem?_getD, List.getElem?_append_left h]
theorem effE_true {ng na nh : Nat} {fs : List FnL} {f op a x y : Int} (h : effE ng na nh fs f op a = (x, y, true)) : 0 ≤ f ∧ f < fs.length ∧ mayI op a = true ∧ thI ng na nh fs.length (fs.getD f.toNat default) (kiI op) a = true := by
  by_cases hc : 0 ≤ f ∧ f < fs.length ∧ mayI op a = true ∧ thI ng na nh fs.length (fs.getD f.toNat default) (kiI op) a = true
  · exact hc
  · unfold effE at h
    rw [if_neg hc] at h
    simp at h
theorem effE_more {ng na nh : Nat} {fs : List FnL} {f op a x y : Int} (h : effE ng na nh fs f op a = (x, y, true)) (z : FnL) : effE (ng + 1) (na + 1) (nh + 1) (fs ++ [z]) f op a = (x, y, true) := by
  obtain ⟨h1, h2, h3, h4⟩ := effE_true h
  have hj : f.toNat < fs.length := by omega
  unfold effE at h ⊢
  rw [if_pos ⟨h1, h2, h3, h4⟩] at h
  rw [if_pos ⟨h1, by rw [List.length_append]; simp; omega, h3, by rw [getD_app hj, List.length_append]; exact thI_more h4⟩, getD_app hj, ← h]
  by_cases h45 : op = 45
  · subst h45
    rw [if_pos rfl, if_pos rfl]
    have ha : 0 ≤ a := mayI_call h3
    have hi : a.toNat < fs.length := by
      have h5 : (decide (a < (fs.length : Int))) = true := h4
      have := of_decide_eq_true h5
      omega
    rw [getD_app hi]
  · rw [if_neg h45, if_neg h45]
theorem BxW.leN {w : World} {n N : Nat} {m0 m1 m2 m3 : Value} {op a : Int} {W V : World} (h : BxW w n m0 m1 m2 m3 op a W) (hb : Below N W V) (hn : n + 1 < N) (hw : w.heap.size ≤ N) : BxW w n m0 m1 m2 m3 op a V :=
  ⟨h.bl.trans (hb.mono hw), (hb.cell (p := ⟨n, 0, none⟩) (by simp; omega)).trans h.c0, (hb.cell (p := ⟨n, 1, none⟩) (by simp; omega)).trans h.c1, (hb.cell (p := ⟨n, 2, none⟩) (by simp; omega)).trans h.c2, (hb.cell (p := ⟨n, 3, none⟩) (by simp; omega)).trans h.c3, (hb.cell (p := ⟨n + 1, 0, none⟩) (by simp; omega)).trans h.i0, (hb.cell (p := ⟨n + 1, 1, none⟩) (by simp; omega)).trans h.i1⟩
theorem apartK {v u : Value} {a1 a2 b1 b2 : Nat} (h1 : ∀ k, v.ownBlock = some k → a1 ≤ k ∧ k < a2) (h2 : ∀ k, u.ownBlock = some k → b1 ≤ k ∧ k < b2) (h : a2 ≤ b1 ∨ b2 ≤ a1) : v.ownBlock = none ∨ v.ownBlock ≠ u.ownBlock := by
  cases hv : v.ownBlock with
  | none => exact .inl rfl
  | some k =>
    refine .inr fun e => ?_
    have := h1 k hv
    have := h2 k e.symm
    omega
theorem apartN (v : Value) : v.ownBlock = none ∨ v.ownBlock ≠ (Value.slice none 0 0).ownBlock := by
  cases v.ownBlock with
  | none => exact .inl rfl
  | some k => exact .inr (by simp [Value.ownBlock])
section
variable (qg : Option Addr) (ng cg : Nat) (qa : Option Addr) (na ca : Nat) (qh : Option Addr) (nh ch : Nat) (qf : Option Addr) (cf : Nat)
set_option maxRecDepth 100000 in
set_option maxHeartbeats 1000000 in
theorem more_no (fs : List FnL) (hn : fs.length ≤ maxLen) (f op a : Int) (ha : a < 9223372036854775808) (w : World) (hF : FnsAt (wC w) qf fs) (he : (effE ng na nh fs f op a).2.2 = false) :
    Calls Try.prog 8 #[moV qg ng cg qa na ca qh nh ch qf fs.length cf, .int .i64 f, inV op a] w fun e w' => e = .returned (.bool true) ∧ Below w.heap.size w w' := by
  have HE := Lib.hid (fun (W : World) (hw : Below w.heap.size w W) => Effect_any qg ng cg qa na ca qh nh ch qf cf fs hn f op a ha W (fun j hj => by
    obtain ⟨g, o, lv, qp, cp, qr, cr, stk, qc, cc, e, h0, h1, h2, h3, h4, h5, h6⟩ := hF j hj
    exact ⟨g, o, lv, qp, cp, qr, cr, stk, qc, cc, e, below_cle hw _ _ h0, below_cle hw _ _ h1, below_cle hw _ _ h2, below_cle hw _ _ h3, below_cle hw _ _ h4, below_cle hw _ _ h5, h6⟩))
  cases hx : effE ng na nh fs f op a with
  | mk x yb =>
    obtain ⟨y, b⟩ := yb
    rw [hx] at he HE
    simp only at he
    subst he
    obtain ⟨rfl, rfl⟩ := effE_false hx
    rw [show efV (0, 0, false) = .tuple #[.int .i64 0, .int .i64 0, .bool false] from rfl] at HE
    generalize fs.length = n at HE ⊢
    clear hF hx
    go_enter Try.func8, Try.ntmps8
    go_wp2_with fail
    refine (HE.out _ (bl_al (bl_al (Below.refl _ _) _) _)).mono ?_
    rintro e w1 ⟨rfl, hb⟩
    have HB := Lib.hid (bl_tr (bl_al (bl_al (Below.refl _ w) _) _) hb)
    clear hb
    go_wp2_with fail
    refine (awake_any _).mono ?_
    rintro e w2 ⟨rfl, hb⟩
    have HB2 := Lib.hid (bl_tr HB.out hb)
    clear hb
    go_wp2
    go_ret
    exact ⟨rfl, HB2.out⟩
variable {w : World} {nf : Nat}
set_option maxRecDepth 100000 in
set_option maxHeartbeats 4000000 in
theorem more_yes (gl hl : List Int) (al : List (Int × Int)) (fl : List FnM) (hg : LasR false (wC w) (.slice qg ng cg) gl) (hA : ArsR false (wC w) (.slice qa na ca) al) (hh : LasR false (wC w) (.slice qh nh ch) hl) (hf : FnsR false (wC w) (.slice qf nf cf) fl)
    (f op a x y : Int) (ha : a < 9223372036854775808) (he : effE ng na nh (fl.map FnM.lens) f op a = (x, y, true)) :
    Calls Try.prog 8 #[moV qg ng cg qa na ca qh nh ch qf nf cf, .int .i64 f, inV op a] w fun e w' => e = .returned (.bool true) ∧ Below w.heap.size w w' := by
  have hFA := FnsR.at hf
  obtain ⟨hn1, hb1, cs1, he1, hr1⟩ := SlX.rowIn (size := 1) hg la_len la_one
  obtain ⟨hn2, hb2, cs2, he2, hr2⟩ := SlX.rowIn (size := 2) hA ar_len ar_one
  obtain ⟨hn3, hb3, cs3, he3, hr3⟩ := SlX.rowIn (size := 1) hh la_len la_one
  have hnf : nf = fl.length := by obtain ⟨_, _, _, e, _⟩ := hf; injection e
  obtain ⟨hn4, hb4, cs4, he4, hr4⟩ := SlX.rowIn (size := 6) (R := FnC0) (l := fl.map FnM.lens) (bs := 96) (by
    obtain ⟨q', c', cs, e, h1, h2, h3, h4, h5, h6, h7⟩ := hf
    exact ⟨q', c', cs, by rw [e, List.length_map], by rw [List.length_map]; exact h1, h2, enc_map FnM.lens (fun _ _ h => h.c0) h3, by rw [List.length_map]; exact h4, h5, h6, by rw [List.length_map]; exact h7⟩) fnc_len fnc_one
  have hlen : (fl.map FnM.lens).length = nf := by rw [List.length_map, hnf]
  generalize fl.map FnM.lens = fs at he hFA he4 hlen hn4
  clear hg hA hh hf hn1 hn2 hn3 hn4 hnf he1 he2 he3
  have hmf : fs.length ≤ maxLen := by unfold maxLen; omega
  obtain ⟨e0, e1, e2, e3⟩ := effE_true he
  have HM := Lib.hid (e2 ▸ May_any op a)
  have hf0 : ¬ f < 0 := by omega
  have HE := Lib.hid (fun (W : World) (hw : Below w.heap.size w W) => show Calls Try.prog 26 #[moV qg ng cg qa na ca qh nh ch qf nf cf, .int .i64 f, inV op a] W fun e w' => e = .returned (efV (x, y, true)) ∧ Below W.heap.size W w' from by
    have h := Effect_any qg ng cg qa na ca qh nh ch qf cf fs hmf f op a ha W (hFA.le (below_cle hw))
    rw [he, hlen] at h
    exact h)
  have HN := Lib.hid (fun (qg' : Option Addr) (cg' : Nat) (qa' : Option Addr) (ca' : Nat) (qh' : Option Addr) (ch' : Nat) (q' : Option Addr) (c' : Nat) (W : World) (h : FnsAt (wC W) q' (fs ++ [(⟨1, 0, 0, 0⟩ : FnL)])) => show Calls Try.prog 26 #[moV qg' (ng + 1) cg' qa' (na + 1) ca' qh' (nh + 1) ch' q' (nf + 1) c', .int .i64 f, inV op a] W fun e w' => e = .returned (efV (x, y, true)) ∧ Below W.heap.size W w' from by
    have h2 := Effect_any qg' (ng + 1) cg' qa' (na + 1) ca' qh' (nh + 1) ch' q' c' (fs ++ [(⟨1, 0, 0, 0⟩ : FnL)]) (by rw [List.length_append]; unfold maxLen; simp; omega) f op a ha W h
    rw [effE_more he (⟨1, 0, 0, 0⟩ : FnL), show (fs ++ [(⟨1, 0, 0, 0⟩ : FnL)]).length = nf + 1 from by simp [hlen]] at h2
    exact h2)
  have HR1 := Lib.hid hr1
  have HR2 := Lib.hid hr2
  have HR3 := Lib.hid hr3
  have HR4 := Lib.hid hr4
  have HE4 := Lib.hid he4
  rw [show efV (x, y, true) = .tuple #[.int .i64 x, .int .i64 y, .bool true] from rfl] at HE HN
  have HBD := Lib.hid (And.intro hb1 (And.intro hb2 (And.intro hb3 hb4)))
  have HFF := Lib.hid (And.intro hf0 (hlen ▸ e1))
  clear hr1 hr2 hr3 hr4 he4 hFA he e2 e3 ha hmf e0 hb1 hb2 hb3 hb4 hf0 e1 hlen
  go_enter Try.func8, Try.ntmps8
  go_wp2_with fail
  refine (HE.out _ (bl_al (bl_al (Below.refl _ _) _) _)).mono ?_
  rintro e w1 ⟨rfl, hb⟩
  have hX := (BxW.new w (.slice qg ng cg) (.slice qa na ca) (.slice qh nh ch) (.slice qf nf cf) op a 51 23).le hb
  have HX := Lib.hid hX
  clear hb HE
  go_wp2_with fail
  refine (awake_any _).mono ?_
  rintro e w2 ⟨rfl, hb⟩
  have HX2 := Lib.hid (HX.out.le hb)
  have HX2L := Lib.hid (World.block_lt_of_cell? _ _ HX2.out.i0)
  clear hX HX hb
  have c0 := HX2.out.c0
  have hr := HR1.out.le HX2.out.bl
  have hbd := HBD.out
  have hnil := World.ownsRow_nil w2 w2.heap.size 63 1
  go_wp2_with (at_builtin; refine wpList_app rfl _ _ 47 rfl w2.heap.size 63 (.int .u64 0) 1 8 und_L infoL rfl (by decide) (.slice none 0 0) 0 [] rfl hnil qg ng cg cs1 rfl hr (by unfold maxLen; omega) (by omega) (Nat.le_refl _) ?_)
  intro v1 w3 hR1 hg1
  try simp only [Nat.zero_add, List.nil_append] at hR1
  have hbl : Below w2.heap.size w2 w3 := below_own hg1 (Nat.le_refl _) (fun j hj => by simp [Value.ownBlock] at hj)
  have HX3 := Lib.hid (HX2.out.le hbl)
  have HV1 := Lib.hid hR1
  have HT1 := Lib.hid (fun j hj => (hR1.lt j hj : w2.heap.size ≤ j ∧ j < w3.heap.size))
  have HZ1 := Lib.hid hbl.size
  obtain ⟨q1, k1, rfl⟩ := own_shape hR1
  clear hr hbd hnil hR1 hg1 hbl HX2
  have c2 := HX3.out.c2
  have hr := HR3.out.le HX3.out.bl
  have hbd := HBD.out
  have hnil := World.ownsRow_nil w3 w3.heap.size 63 1
  go_wp2_with (at_builtin; refine wpList_app rfl _ _ 47 rfl w3.heap.size 63 (.int .u64 0) 1 8 und_L infoL rfl (by decide) (.slice none 0 0) 0 [] rfl hnil qh nh ch cs3 rfl hr (by unfold maxLen; omega) (by omega) (Nat.le_refl _) ?_)
  intro v3 w4 hR3 hg3
  try simp only [Nat.zero_add, List.nil_append] at hR3
  have hbl : Below w3.heap.size w3 w4 := below_own hg3 (Nat.le_refl _) (fun j hj => by simp [Value.ownBlock] at hj)
  have HX4 := Lib.hid (HX3.out.le hbl)
  have HV1x := Lib.hid (HV1.out.kept hg3 (apartN _))
  clear HV1
  have HV1 := HV1x
  clear HV1x
  have HV3 := Lib.hid hR3
  have HT3 := Lib.hid (fun j hj => (hR3.lt j hj : w3.heap.size ≤ j ∧ j < w4.heap.size))
  have HZ3 := Lib.hid hbl.size
  obtain ⟨q3, k3, rfl⟩ := own_shape hR3
  clear hr hbd hnil hR3 hg3 hbl HX3
  have c1 := HX4.out.c1
  have hr := HR2.out.le HX4.out.bl
  have hbd := HBD.out
  have hnil := World.ownsRow_nil w4 w4.heap.size 65 2
  go_wp2_with (at_builtin; refine wpList_app rfl _ _ 48 rfl w4.heap.size 65 (.agg #[.int .i64 0, .int .u64 0]) 2 16 und_A infoA rfl (by decide) (.slice none 0 0) 0 [] rfl hnil qa na ca cs2 rfl hr (by unfold maxLen; omega) (by omega) (Nat.le_refl _) ?_)
  intro v2 w5 hR2 hg2
  try simp only [Nat.zero_add, List.nil_append] at hR2
  have hbl : Below w4.heap.size w4 w5 := below_own hg2 (Nat.le_refl _) (fun j hj => by simp [Value.ownBlock] at hj)
  have HX5 := Lib.hid (HX4.out.le hbl)
  have HV1x := Lib.hid (HV1.out.kept hg2 (apartN _))
  clear HV1
  have HV1 := HV1x
  clear HV1x
  have HV3x := Lib.hid (HV3.out.kept hg2 (apartN _))
  clear HV3
  have HV3 := HV3x
  clear HV3x
  have HV2 := Lib.hid hR2
  have HT2 := Lib.hid (fun j hj => (hR2.lt j hj : w4.heap.size ≤ j ∧ j < w5.heap.size))
  have HZ2 := Lib.hid hbl.size
  obtain ⟨q2, k2, rfl⟩ := own_shape hR2
  clear hr hbd hnil hR2 hg2 hbl HX4
  have c3 := HX5.out.c3
  have hr := HR4.out.le HX5.out.bl
  have hbd := HBD.out
  have hnil := World.ownsRow_nil w5 w5.heap.size 68 6
  go_wp2_with (at_builtin; refine wpList_app rfl _ _ 49 rfl w5.heap.size 68 (.agg #[.int .u64 0, .slice none 0 0, .slice none 0 0, .int .i64 0, .int .i64 0, .slice none 0 0]) 6 96 und_F infoF rfl (by decide) (.slice none 0 0) 0 [] rfl hnil qf nf cf cs4 rfl hr (by unfold maxLen; omega) (by omega) (Nat.le_refl _) ?_)
  intro v4 w6 hR4 hg4
  try simp only [Nat.zero_add, List.nil_append] at hR4
  have hbl : Below w5.heap.size w5 w6 := below_own hg4 (Nat.le_refl _) (fun j hj => by simp [Value.ownBlock] at hj)
  have HX6 := Lib.hid (HX5.out.le hbl)
  have HV1x := Lib.hid (HV1.out.kept hg4 (apartN _))
  clear HV1
  have HV1 := HV1x
  clear HV1x
  have HV3x := Lib.hid (HV3.out.kept hg4 (apartN _))
  clear HV3
  have HV3 := HV3x
  clear HV3x
  have HV2x := Lib.hid (HV2.out.kept hg4 (apartN _))
  clear HV2
  have HV2 := HV2x
  clear HV2x
  have HV4 := Lib.hid hR4
  have HT4 := Lib.hid (fun j hj => (hR4.lt j hj : w5.heap.size ≤ j ∧ j < w6.heap.size))
  have HZ4 := Lib.hid hbl.size
  obtain ⟨q4, k4, rfl⟩ := own_shape hR4
  clear hr hbd hnil hR4 hg4 hbl HX5
  have HZ0 := Lib.hid (World.block_lt_of_cell? _ _ HX6.out.i0)
  have HL := Lib.hid (show w.heap.size + 1 < w2.heap.size from by have := HX2L.out; exact this)
  have hR := HV1.out.alloc (.cells #[.int .u64 1] 63)
  have hr : RowIn (w6.alloc (.cells #[.int .u64 1] 63)) (some ⟨w6.heap.size, 0, none⟩) 1 1 1 [.int .u64 1] := ⟨rfl, by intro u hu; simp at hu; (subst hu; rfl), .inr ⟨_, rfl, row_new w6 [.int .u64 1] 63⟩⟩
  have hbd := HBD.out
  have hsz : w2.heap.size ≤ w6.heap.size := by have := HZ1.out; have := HZ2.out; have := HZ3.out; have := HZ4.out; skip; omega
  go_wp2_with (at_builtin; refine wpList_app rfl _ _ 47 rfl w2.heap.size 63 (.int .u64 0) 1 8 und_L infoL rfl (by decide) _ ng cs1 rfl hR _ 1 1 _ rfl hr (by unfold maxLen; omega) (by omega) (by simp; omega) ?_)
  intro u1 w7 hS1 hh1
  have hbl : Below w2.heap.size w6 w7 := ((bl_al (Below.refl _ _) _).mono (by have := HZ1.out; have := HZ2.out; have := HZ3.out; have := HZ4.out; skip; omega)).trans (below_own hh1 (by simp; have := HZ1.out; have := HZ2.out; have := HZ3.out; have := HZ4.out; skip; omega) (fun j hj => by have := (HT1.out j hj).1; have := HZ1.out; have := HZ2.out; have := HZ3.out; omega))
  have HX7 := Lib.hid (HX6.out.leN hbl HL.out (by have := HL.out; omega))
  have HY7 := Lib.hid (show w6.heap.size ≤ w7.heap.size from Nat.le_trans (by simp; try omega) hh1.size)
  have HV2x := Lib.hid ((HV2.out.alloc _).kept hh1 (apartK HT2.out HT1.out (by have := HZ1.out; have := HZ2.out; have := HZ3.out; have := HZ4.out; omega)))
  clear HV2
  have HV2 := HV2x
  clear HV2x
  have HV3x := Lib.hid ((HV3.out.alloc _).kept hh1 (apartK HT3.out HT1.out (by have := HZ1.out; have := HZ2.out; have := HZ3.out; have := HZ4.out; omega)))
  clear HV3
  have HV3 := HV3x
  clear HV3x
  have HV4x := Lib.hid ((HV4.out.alloc _).kept hh1 (apartK HT4.out HT1.out (by have := HZ1.out; have := HZ2.out; have := HZ3.out; have := HZ4.out; omega)))
  clear HV4
  have HV4 := HV4x
  clear HV4x
  obtain ⟨p1, m1, rfl⟩ := own_shape hS1
  clear hR hr hbd hsz hbl hh1 hS1 HV1 HX6
  have hR := HV2.out.alloc (.cells #[.int .i64 1, .int .u64 0] 65)
  have hr : RowIn (w7.alloc (.cells #[.int .i64 1, .int .u64 0] 65)) (some ⟨w7.heap.size, 0, none⟩) 1 1 2 [.int .i64 1, .int .u64 0] := ⟨rfl, by intro u hu; simp at hu; (rcases hu with rfl | rfl <;> rfl), .inr ⟨_, rfl, row_new w7 [.int .i64 1, .int .u64 0] 65⟩⟩
  have hbd := HBD.out
  have hsz : w4.heap.size ≤ w7.heap.size := by have := HZ1.out; have := HZ2.out; have := HZ3.out; have := HZ4.out; have := HY7.out; omega
  go_wp2_with (at_builtin; refine wpList_app rfl _ _ 48 rfl w4.heap.size 65 (.agg #[.int .i64 0, .int .u64 0]) 2 16 und_A infoA rfl (by decide) _ na cs2 rfl hR _ 1 1 _ rfl hr (by unfold maxLen; omega) (by omega) (by simp; omega) ?_)
  intro u2 w8 hS2 hh2
  have hbl : Below w2.heap.size w7 w8 := ((bl_al (Below.refl _ _) _).mono (by have := HZ1.out; have := HZ2.out; have := HZ3.out; have := HZ4.out; have := HY7.out; omega)).trans (below_own hh2 (by simp; have := HZ1.out; have := HZ2.out; have := HZ3.out; have := HZ4.out; have := HY7.out; omega) (fun j hj => by have := (HT2.out j hj).1; have := HZ1.out; have := HZ2.out; have := HZ3.out; omega))
  have HX8 := Lib.hid (HX7.out.leN hbl HL.out (by have := HL.out; omega))
  have HY8 := Lib.hid (show w7.heap.size ≤ w8.heap.size from Nat.le_trans (by simp; try omega) hh2.size)
  have HV3x := Lib.hid ((HV3.out.alloc _).kept hh2 (apartK HT3.out HT2.out (by have := HZ1.out; have := HZ2.out; have := HZ3.out; have := HZ4.out; omega)))
  clear HV3
  have HV3 := HV3x
  clear HV3x
  have HV4x := Lib.hid ((HV4.out.alloc _).kept hh2 (apartK HT4.out HT2.out (by have := HZ1.out; have := HZ2.out; have := HZ3.out; have := HZ4.out; omega)))
  clear HV4
  have HV4 := HV4x
  clear HV4x
  obtain ⟨p2, m2, rfl⟩ := own_shape hS2
  clear hR hr hbd hsz hbl hh2 hS2 HV2 HX7
  have hR := HV3.out.alloc (.cells #[.int .u64 2] 63)
  have hr : RowIn (w8.alloc (.cells #[.int .u64 2] 63)) (some ⟨w8.heap.size, 0, none⟩) 1 1 1 [.int .u64 2] := ⟨rfl, by intro u hu; simp at hu; (subst hu; rfl), .inr ⟨_, rfl, row_new w8 [.int .u64 2] 63⟩⟩
  have hbd := HBD.out
  have hsz : w3.heap.size ≤ w8.heap.size := by have := HZ1.out; have := HZ2.out; have := HZ3.out; have := HZ4.out; have := HY7.out; have := HY8.out; omega
  go_wp2_with (at_builtin; refine wpList_app rfl _ _ 47 rfl w3.heap.size 63 (.int .u64 0) 1 8 und_L infoL rfl (by decide) _ nh cs3 rfl hR _ 1 1 _ rfl hr (by unfold maxLen; omega) (by omega) (by simp; omega) ?_)
  intro u3 w9 hS3 hh3
  have hbl : Below w2.heap.size w8 w9 := ((bl_al (Below.refl _ _) _).mono (by have := HZ1.out; have := HZ2.out; have := HZ3.out; have := HZ4.out; have := HY7.out; have := HY8.out; omega)).trans (below_own hh3 (by simp; have := HZ1.out; have := HZ2.out; have := HZ3.out; have := HZ4.out; have := HY7.out; have := HY8.out; omega) (fun j hj => by have := (HT3.out j hj).1; have := HZ1.out; have := HZ2.out; have := HZ3.out; omega))
  have HX9 := Lib.hid (HX8.out.leN hbl HL.out (by have := HL.out; omega))
  have HY9 := Lib.hid (show w8.heap.size ≤ w9.heap.size from Nat.le_trans (by simp; try omega) hh3.size)
  have HV4x := Lib.hid ((HV4.out.alloc _).kept hh3 (apartK HT4.out HT3.out (by have := HZ1.out; have := HZ2.out; have := HZ3.out; have := HZ4.out; omega)))
  clear HV4
  have HV4 := HV4x
  clear HV4x
  obtain ⟨p3, m3, rfl⟩ := own_shape hS3
  clear hR hr hbd hsz hbl hh3 hS3 HV3 HX8
  have hR := (HV4.out.alloc (.cells #[.int .u64 0] 63)).alloc (.cells #[.int .u64 0, .slice (some ⟨w9.heap.size, 0, none⟩) 1 1, .slice none 0 0, .int .i64 0, .int .i64 0, .slice none 0 0] 68)
  have hr : RowIn ((w9.alloc (.cells #[.int .u64 0] 63)).alloc (.cells #[.int .u64 0, .slice (some ⟨w9.heap.size, 0, none⟩) 1 1, .slice none 0 0, .int .i64 0, .int .i64 0, .slice none 0 0] 68)) (some ⟨w9.heap.size + 1, 0, none⟩) 1 1 6 [.int .u64 0, .slice (some ⟨w9.heap.size, 0, none⟩) 1 1, .slice none 0 0, .int .i64 0, .int .i64 0, .slice none 0 0] := ⟨rfl, by intro u hu; simp at hu; (rcases hu with rfl | rfl | rfl | rfl | rfl | rfl <;> rfl), .inr ⟨_, rfl, by have h := row_new (w9.alloc (.cells #[.int .u64 0] 63)) [.int .u64 0, .slice (some ⟨w9.heap.size, 0, none⟩) 1 1, .slice none 0 0, .int .i64 0, .int .i64 0, .slice none 0 0] 68; rw [World.size_alloc] at h; exact h⟩⟩
  have hbd := HBD.out
  have hsz : w5.heap.size ≤ w9.heap.size := by have := HZ1.out; have := HZ2.out; have := HZ3.out; have := HZ4.out; have := HY7.out; have := HY8.out; have := HY9.out; omega
  go_wp2_with (at_builtin; refine wpList_app rfl _ _ 49 rfl w5.heap.size 68 (.agg #[.int .u64 0, .slice none 0 0, .slice none 0 0, .int .i64 0, .int .i64 0, .slice none 0 0]) 6 96 und_F infoF rfl (by decide) _ nf cs4 rfl hR _ 1 1 _ rfl hr (by unfold maxLen; omega) (by omega) (by simp; omega) ?_)
  intro u4 w10 hS4 hh4
  have hbl : Below w2.heap.size w9 w10 := ((bl_al (bl_al (Below.refl _ _) _) _).mono (by have := HZ1.out; have := HZ2.out; have := HZ3.out; have := HZ4.out; have := HY7.out; have := HY8.out; have := HY9.out; omega)).trans (below_own hh4 (by simp; have := HZ1.out; have := HZ2.out; have := HZ3.out; have := HZ4.out; have := HY7.out; have := HY8.out; have := HY9.out; omega) (fun j hj => by have := (HT4.out j hj).1; have := HZ1.out; have := HZ2.out; have := HZ3.out; omega))
  have HX10 := Lib.hid (HX9.out.leN hbl HL.out (by have := HL.out; omega))
  have HY10 := Lib.hid (show w9.heap.size ≤ w10.heap.size from Nat.le_trans (by simp; try omega) hh4.size)
  obtain ⟨g4, m4, rfl, _⟩ := row_form hS4 (by omega)
  have hFN : FnsAt (wC w10) (some ⟨g4, 0, none⟩) (fs ++ [(⟨1, 0, 0, 0⟩ : FnL)]) := FnsAt_of (HE4.out.app (Enc.one ⟨_, _, _, _, _, _, _, _, rfl, by show (1 : Nat) ≤ maxLen; decide⟩)) (fun j u hu => by
    have h := hS4.cells (g := g4) rfl j u hu
    rwa [show ((⟨g4, 0, none⟩ : Addr).add j) = ⟨g4, 0 + j, none⟩ from by unfold Addr.add; split <;> simp_all] at h)
  have HFN := Lib.hid hFN
  clear hR hr hbd hsz hbl hh4 hS4 HV4 HX9 hFN
  have i0 := HX10.out.i0
  have i1 := HX10.out.i1
  have hl1 := World.block_lt_of_cell? _ _ i0
  go_wp2_with fail
  refine (HN.out _ _ _ _ _ _ _ _ _ (HFN.out.le (below_cle (bl_al (Below.refl _ _) _)))).mono ?_
  rintro e w11 ⟨rfl, hb⟩
  have HX11 := Lib.hid (HX10.out.le (bl_tr (bl_al (Below.refl _ w10) _) hb))
  have i0 := HX11.out.i0
  have i1 := HX11.out.i1
  have c3 := HX11.out.c3
  have hff := HFF.out
  have hf0 : f ≥ 0 := hff.1
  have hf1 : f < (nf : Int) := hff.2
  clear hb hff
  go_wp2_with fail
  refine (HM.out _).mono ?_
  rintro e w12 ⟨rfl, hb⟩
  have HX12 := Lib.hid (HX11.out.le hb)
  have c3 := HX12.out.c3
  clear hb
  go_wp2
  go_ret
  exact ⟨rfl, HX12.out.bl⟩
end
end Go.Proofs.Ytahnhohccbnhjaa
