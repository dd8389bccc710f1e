/- The closures of function: parameters and results. -/
import Derived.Test.YtnmcjkabihihiaaGreatDoorQ10
namespace Go.Proofs.YtnmcjkabihihiaaGreatDoor
open Go Go.RowKit Go.Proofs.Mm

theorem info_of {E : TypeId} {z : Value} {s b : Nat} (h : (Tryz.prog.info? E).map (fun i => (i.zero, i.size, i.bytes)) = some (some z, s, b)) : ∃ i, Tryz.prog.info? E = some i ∧ i.zero = some z ∧ i.size = s ∧ i.bytes = b := by
  cases hi : Tryz.prog.info? E with
  | none => rw [hi] at h; cases h
  | some i =>
    rw [hi] at h
    simp only [Option.map_some, Option.some.injEq, Prod.mk.injEq] at h
    obtain ⟨e1, e2, e3⟩ := h
    exact ⟨i, rfl, e1, e2, e3⟩
def deV (d : Syn.De) : List Value := [.string (sb d.name), .int .u64 (d.label : Nat)]
def DeR (_ : Mem) (c : List Value) (d : Syn.De) : Prop := c = deV d ∧ d.label < 18446744073709551616
def LaR (_ : Mem) (c : List Value) (l : Nat) : Prop := c = [.int .u64 (l : Nat)] ∧ l < 18446744073709551616
theorem DeR.le : ∀ m m' : Mem, m.le m' → ∀ c x, DeR m c x → DeR m' c x := fun _ _ _ _ _ h => h
theorem LaR.le : ∀ m m' : Mem, m.le m' → ∀ c x, LaR m c x → LaR m' c x := fun _ _ _ _ _ h => h
theorem tys_de : Tys 41 75 := ⟨by decide, by decide, by decide, by decide, by decide, by decide, by decide, by decide, by decide⟩
theorem tys_la : Tys 41 37 := ⟨by decide, by decide, by decide, by decide, by decide, by decide, by decide, by decide, by decide⟩
theorem infoDe : ∃ i, Tryz.prog.info? 75 = some i ∧ i.zero = some (.agg #[.string ⟨#[]⟩, .int .u64 0]) ∧ i.size = 2 ∧ i.bytes = 24 := info_of (by kernel_rfl)
theorem infoLa : ∃ i, Tryz.prog.info? 37 = some i ∧ i.zero = some (.int .u64 0) ∧ i.size = 1 ∧ i.bytes = 8 := info_of (by kernel_rfl)
theorem one_de (s : ByteArray) (l : Nat) : ∀ u ∈ [Value.string s, .int .u64 (l : Nat)], u.oneCell' = true := by
  intro u hu
  rcases List.mem_cons.1 hu with rfl | hu
  · rfl
  · rw [List.mem_singleton] at hu; subst hu; rfl
theorem one_la (l : Nat) : ∀ u ∈ [Value.int .u64 (l : Nat)], u.oneCell' = true := by
  intro u hu
  rw [List.mem_singleton] at hu; subst hu; rfl
section
variable {ys : List It} {len bp bw i : Nat} {vp : Value} {w : World} {ns : List (List Nat)} {α : Type}
/-- A field that grows, and the box that leads to the parser. -/
def GB (R : Mem → List Value → α → Prop) (E : TypeId) (size : Nat) (T : TypeId) (arr : Value → Array Value) (bf b1 bp B : Nat) (vp : Value) (ns : List (List Nat)) (m0 : Mem) (w0 : World) (acc : List α) (W : World) : Prop :=
  GJ R E size T arr bf bp B vp ns m0 w0 acc W ∧ W.heap[b1]? = some (.cells #[.pointer (some ⟨bp, 0, none⟩)] 61 (0, 0))
theorem GB.next {R : Mem → List Value → α → Prop} {E T : TypeId} {size : Nat} {arr : Value → Array Value} {bf b1 B : Nat} {m0 : Mem} {w0 W : World} {acc : List α} (h : GB R E size T arr bf b1 bp B vp ns m0 w0 acc W) (ht : Tys T E) (hp : PS ys len bp bw vp W i) {W' : World} (hc : Chg (fun k => k = bp) W W') : GB R E size T arr bf b1 bp B vp ns m0 w0 acc W' := by
  obtain ⟨x, hx⟩ := hp.blk
  exact ⟨h.1.next ht hp hc, hc.heap h.2 (blk_ne h.2 hx (by decide))⟩
theorem gs_sb {bf B n c : Nat} {q : Option Addr} {W W' : World} {E : TypeId} {size : Nat} {cs : List Value} (hB : B ≤ bf) (h2 : W.ownsRow B E size (.slice q n c) n cs) (h : Chg (GS bp bf (.slice q n c)) W W') : Chg (SB bp B) W W' :=
  h.mono fun k e => by
    rcases e with e | e | e
    · exact .inl (.inl e)
    · subst e; exact .inl (.inr hB)
    · exact .inl (.inr (h2.lt k e).1)
set_option maxRecDepth 100000 in
set_option maxHeartbeats 1000000 in
theorem function1_any (hw : Ws ys) {m0 : Mem} {w0 : World} {bf b1 B : Nat} {nm lv xr xv xb : Value} (hB : B ≤ bf) :
    ItOk ys len bp bw B vp 63 #[.pointer (some ⟨bf, 0, none⟩), .pointer (some ⟨b1, 0, none⟩)] (GB DeR 75 2 41 (fun v => #[nm, lv, v, xr, xv, xb]) bf b1 bp B vp ns m0 w0) (Syn.decl (Tk ys) (ys.length + 1) ns) := by
  intro W i acc hJ hp hBW hb
  obtain ⟨⟨q, c, cs, m', h1, h2, h3, h4, h5, h6, h7, h8, h9, h10⟩, hbx⟩ := hJ
  obtain ⟨j0, hj0, hy0, hy1, hy2⟩ := infoDe
  obtain ⟨xp, hxp⟩ := hp.blk
  have hnb : ¬ bf = bp := blk_ne h1 hxp tys_de.tp
  have hnb1 : ¬ b1 = bp := blk_ne hbx hxp (by decide)
  have hc1 := cell_of (j := 2) h1 rfl
  have hc2 := cell_of (j := 0) hbx rfl
  have hlt1 := heap_lt h1
  have hlt2 := heap_lt hbx
  have hpd : PS ys len bp bw vp W.drew i := hp.chg (S := fun _ => False) (Chg.refl _ _).drew id id
  have hnd : NR W.drew vp ns := nr_chg h10 ((Chg.refl (fun _ => False) W).drew) (fun _ _ e => e)
  have hmx : Tryz.prog.follows .mixedOrders = true := by kernel_rfl
  have HE := Lib.hid (decl_any hw hpd hnd)
  cases hri : Syn.decl (Tk ys) (ys.length + 1) ns i with
  | error q0 =>
    obtain ⟨er, k⟩ := q0
    have HRI := Lib.hid hri
    clear hri
    have hS0 : W.drew.cell? ⟨bf, 2, none⟩ = some (.slice q acc.length c) ∧ W.drew.cell? ⟨b1, 0, none⟩ = some (.pointer (some ⟨bp, 0, none⟩)) := ⟨hc1, hc2⟩
    go_enter Tryz.func63, Tryz.ntmps63
    refine wp_region_held_drew (S := fun w' => w'.cell? ⟨bf, 2, none⟩ = some (.slice q acc.length c) ∧ w'.cell? ⟨b1, 0, none⟩ = some (.pointer (some ⟨bp, 0, none⟩))) hmx hS0 (fun hHeld => ?_)
    refine wpAnyH_take (i := 0) (v := .pointer (some ⟨bf, 2, none⟩)) rfl (by kernel_rfl) (by kernel_rfl) (by kernel_rfl) (fun _ _ _ h => h) (Or.inl ⟨by rfl, fun w hSw => by obtain ⟨s1, s2⟩ := hSw; go_simp⟩) (by assumption) ?_
    simp only [Act.put, List.setIfInBounds_toArray, List.set_cons_zero, List.set_cons_succ, List.getElem_toArray, List.getElem_cons_zero]
    refine wpAnyH_take (i := 1) (v := .slice q acc.length c) rfl (by kernel_rfl) (by kernel_rfl) (by kernel_rfl) (fun _ _ _ h => h) (Or.inl ⟨by rfl, fun w hSw => by obtain ⟨s1, s2⟩ := hSw; go_simp⟩) (by assumption) ?_
    simp only [Act.put, List.setIfInBounds_toArray, List.set_cons_zero, List.set_cons_succ, List.getElem_toArray, List.getElem_cons_zero, List.getElem_cons_succ]
    refine wpAnyH_take (i := 2) (v := .pointer (some ⟨bp, 0, none⟩)) rfl (by kernel_rfl) (by kernel_rfl) (by kernel_rfl) (fun _ _ _ h => h) (Or.inl ⟨by rfl, fun w hSw => by obtain ⟨s1, s2⟩ := hSw; go_simp⟩) (by assumption) ?_
    simp only [Act.put, List.setIfInBounds_toArray, List.set_cons_zero, List.set_cons_succ, List.getElem_toArray, List.getElem_cons_zero, List.getElem_cons_succ]
    refine wpAnyH_ready (rs := [3]) (by kernel_rfl) (by simp) ?_
    refine AllReadyH.cons rfl (fun K hK => ?_) AllReadyH.nil
    go_simp
    go_at_call 57
    refine HE.out.mono ?_
    rw [HRI.out]
    rintro e w' ⟨hcc, rfl⟩
    exact ⟨rfl, ((Chg.refl (SB bp B) W).drew).then (sb_of hcc), rfl⟩
  | ok q0 =>
    obtain ⟨x, j⟩ := q0
    have HRI := Lib.hid hri
    clear hri
    have h1d : W.drew.heap[bf]? = some (.cells #[nm, lv, .slice q acc.length c, xr, xv, xb] 41 (0, 0)) := h1
    have hbxd : W.drew.heap[b1]? = some (.cells #[.pointer (some ⟨bp, 0, none⟩)] 61 (0, 0)) := hbx
    have h2d : W.drew.ownsRow B 75 2 (.slice q acc.length c) acc.length cs := h2
    obtain ⟨xt, hxt⟩ := hpd.blk
    have HROW := Lib.hid (fun w1 (hc : Chg (fun k => k = bp) W.drew w1) => own_chg h2d hc (fun k hk e => by subst e; exact blk_own hxt h2d tys_de.ep.symm hk))
    have HAPP := Lib.hid (fun w1 w9 (o : Obj) (hc : Chg (fun k => k = bp) W.drew w1) (hg : (w1.alloc o).grownBy w9 (Value.ownBlock (.slice q acc.length c))) =>
      And.intro (gj_mid h2d hc hg h1d tys_de.te hnb) (gj_mid h2d hc hg hbxd (by decide) hnb1))
    go_enter Tryz.func63, Tryz.ntmps63
    go_region_law
      (first
        | (go_simp; go_at_call 57; refine HE.out.mono ?_; rw [HRI.out]; rintro e w1 ⟨hcc, rfl, a1, a2, a3⟩; have k1 := hcc.cell (show W.drew.cell? ⟨bf, 2, none⟩ = _ from hc1) hnb; have k2 := hcc.cell (show W.drew.cell? ⟨b1, 0, none⟩ = _ from hc2) hnb1; have p1 := hcc.heap h1d hnb; have p2 := hcc.heap hbxd hnb1; have k3 := free_of (j := 2) p1; have kk := And.intro (cell_of (j := 2) (heap_new _ (.cells #[.string (sb x.name), .int .u64 (x.label : Nat)] 75) p1) rfl) (And.intro (cell_of (j := 0) (heap_new _ (.cells #[.string (sb x.name), .int .u64 (x.label : Nat)] 75) p2) rfl) (free_of (j := 2) (heap_new _ (.cells #[.string (sb x.name), .int .u64 (x.label : Nat)] 75) p1))))
        | (refine step_append_mine rfl (.tmp 3) (.tmp 6) 23 rfl B 75 j0 (.agg #[.string ⟨#[]⟩, .int .u64 0]) 2 24 Tryz.underlying23 hj0 hy0 hy1 hy2 rfl (by decide) (.slice q acc.length c) acc.length cs (by simp [Act.eval]) ((HROW.out _ hcc).alloc _) ⟨_, 0, none⟩ 1 1 [.string (sb x.name), .int .u64 (x.label : Nat)] (by simp [Act.eval]) rfl (row_new _ [.string (sb x.name), .int .u64 (x.label : Nat)] 75) (one_de _ _) (by unfold maxLen; omega) (by omega) (Nat.le_trans hBW (Nat.le_trans hcc.size (by simp))) ?_; intro v9 w9 hown9 hgrow9 hat9; obtain ⟨q9, c9, rfl⟩ := own_shape hown9; obtain ⟨g1, g2⟩ := HAPP.out _ _ _ hcc hgrow9; have k4 := cell_of (j := 2) g1 rfl; have k5 := cell_of (j := 0) g2 rfl; have k6 := free_of (j := 2) g1))
    all_goals
      go_end0
      have hcw : Chg (fun k => k = bp) W w1 := ((Chg.refl _ W).drew).then hcc
      obtain ⟨r1, r2, r3⟩ := gj_end (arr := fun v => #[nm, lv, v, xr, xv, xb]) (kf := 2) tys_de (fun _ _ => rfl) hp h1 h2 h3 h4 h5 h6 h7 h8 h9 DeR.le hcw (Mem.More.refl _ _) (h4.chg hcw (fun k e => by subst e; exact h7)) (show DeR m' _ x from ⟨rfl, a1⟩) a2 a3 hown9 hgrow9 (by simpa using hat9)
      exact ⟨gs_sb hB h2 r1, ⟨rfl, r2, by
        refine r1.heap hbx (fun e => ?_)
        rcases e with e | e | e
        · exact hnb1 e
        · exact blk_ne hbx h1 (by decide) e
        · exact blk_own hbx h2 (by decide) e⟩, r3⟩
set_option maxRecDepth 100000 in
set_option maxHeartbeats 1000000 in
theorem function2_any (hw : Ws ys) {m0 : Mem} {w0 : World} {bf b1 B : Nat} {nm lv xp0 xv xb : Value} (hB : B ≤ bf) :
    ItOk ys len bp bw B vp 64 #[.pointer (some ⟨bf, 0, none⟩), .pointer (some ⟨b1, 0, none⟩)] (GB LaR 37 1 41 (fun v => #[nm, lv, xp0, v, xv, xb]) bf b1 bp B vp ns m0 w0) (Syn.label (Tk ys) (ys.length + 1) ns) := by
  intro W i acc hJ hp hBW hb
  obtain ⟨⟨q, c, cs, m', h1, h2, h3, h4, h5, h6, h7, h8, h9, h10⟩, hbx⟩ := hJ
  obtain ⟨j0, hj0, hy0, hy1, hy2⟩ := infoLa
  obtain ⟨xp, hxp⟩ := hp.blk
  have hnb : ¬ bf = bp := blk_ne h1 hxp tys_la.tp
  have hnb1 : ¬ b1 = bp := blk_ne hbx hxp (by decide)
  have hc1 := cell_of (j := 3) h1 rfl
  have hc2 := cell_of (j := 0) hbx rfl
  have hlt1 := heap_lt h1
  have hlt2 := heap_lt hbx
  have hpd : PS ys len bp bw vp W.drew i := hp.chg (S := fun _ => False) (Chg.refl _ _).drew id id
  have hnd : NR W.drew vp ns := nr_chg h10 ((Chg.refl (fun _ => False) W).drew) (fun _ _ e => e)
  have hmx : Tryz.prog.follows .mixedOrders = true := by kernel_rfl
  have HE := Lib.hid (label_any hw hpd hnd)
  cases hri : Syn.label (Tk ys) (ys.length + 1) ns i with
  | error q0 =>
    obtain ⟨er, k⟩ := q0
    have HRI := Lib.hid hri
    clear hri
    have hS0 : W.drew.cell? ⟨bf, 3, none⟩ = some (.slice q acc.length c) ∧ W.drew.cell? ⟨b1, 0, none⟩ = some (.pointer (some ⟨bp, 0, none⟩)) := ⟨hc1, hc2⟩
    go_enter Tryz.func64, Tryz.ntmps64
    refine wp_region_held_drew (S := fun w' => w'.cell? ⟨bf, 3, none⟩ = some (.slice q acc.length c) ∧ w'.cell? ⟨b1, 0, none⟩ = some (.pointer (some ⟨bp, 0, none⟩))) hmx hS0 (fun hHeld => ?_)
    refine wpAnyH_take (i := 0) (v := .pointer (some ⟨bf, 3, none⟩)) rfl (by kernel_rfl) (by kernel_rfl) (by kernel_rfl) (fun _ _ _ h => h) (Or.inl ⟨by rfl, fun w hSw => by obtain ⟨s1, s2⟩ := hSw; go_simp⟩) (by assumption) ?_
    simp only [Act.put, List.setIfInBounds_toArray, List.set_cons_zero, List.set_cons_succ, List.getElem_toArray, List.getElem_cons_zero]
    refine wpAnyH_take (i := 1) (v := .slice q acc.length c) rfl (by kernel_rfl) (by kernel_rfl) (by kernel_rfl) (fun _ _ _ h => h) (Or.inl ⟨by rfl, fun w hSw => by obtain ⟨s1, s2⟩ := hSw; go_simp⟩) (by assumption) ?_
    simp only [Act.put, List.setIfInBounds_toArray, List.set_cons_zero, List.set_cons_succ, List.getElem_toArray, List.getElem_cons_zero, List.getElem_cons_succ]
    refine wpAnyH_take (i := 2) (v := .pointer (some ⟨bp, 0, none⟩)) rfl (by kernel_rfl) (by kernel_rfl) (by kernel_rfl) (fun _ _ _ h => h) (Or.inl ⟨by rfl, fun w hSw => by obtain ⟨s1, s2⟩ := hSw; go_simp⟩) (by assumption) ?_
    simp only [Act.put, List.setIfInBounds_toArray, List.set_cons_zero, List.set_cons_succ, List.getElem_toArray, List.getElem_cons_zero, List.getElem_cons_succ]
    refine wpAnyH_ready (rs := [3]) (by kernel_rfl) (by simp) ?_
    refine AllReadyH.cons rfl (fun K hK => ?_) AllReadyH.nil
    go_simp
    go_at_call 61
    refine HE.out.mono ?_
    rw [HRI.out]
    rintro e w' ⟨hcc, rfl⟩
    exact ⟨rfl, ((Chg.refl (SB bp B) W).drew).then (sb_of hcc), rfl⟩
  | ok q0 =>
    obtain ⟨x, j⟩ := q0
    have HRI := Lib.hid hri
    clear hri
    have h1d : W.drew.heap[bf]? = some (.cells #[nm, lv, xp0, .slice q acc.length c, xv, xb] 41 (0, 0)) := h1
    have hbxd : W.drew.heap[b1]? = some (.cells #[.pointer (some ⟨bp, 0, none⟩)] 61 (0, 0)) := hbx
    have h2d : W.drew.ownsRow B 37 1 (.slice q acc.length c) acc.length cs := h2
    obtain ⟨xt, hxt⟩ := hpd.blk
    have HROW := Lib.hid (fun w1 (hc : Chg (fun k => k = bp) W.drew w1) => own_chg h2d hc (fun k hk e => by subst e; exact blk_own hxt h2d tys_la.ep.symm hk))
    have HAPP := Lib.hid (fun w1 w9 (o : Obj) (hc : Chg (fun k => k = bp) W.drew w1) (hg : (w1.alloc o).grownBy w9 (Value.ownBlock (.slice q acc.length c))) =>
      And.intro (gj_mid h2d hc hg h1d tys_la.te hnb) (gj_mid h2d hc hg hbxd (by decide) hnb1))
    go_enter Tryz.func64, Tryz.ntmps64
    go_region_law
      (first
        | (go_simp; go_at_call 61; refine HE.out.mono ?_; rw [HRI.out]; rintro e w1 ⟨hcc, rfl, a1, a2, a3⟩; have k1 := hcc.cell (show W.drew.cell? ⟨bf, 3, none⟩ = _ from hc1) hnb; have k2 := hcc.cell (show W.drew.cell? ⟨b1, 0, none⟩ = _ from hc2) hnb1; have p1 := hcc.heap h1d hnb; have p2 := hcc.heap hbxd hnb1; have k3 := free_of (j := 3) p1; have kk := And.intro (cell_of (j := 3) (heap_new _ (.cells #[.int .u64 (x : Nat)] 37) p1) rfl) (And.intro (cell_of (j := 0) (heap_new _ (.cells #[.int .u64 (x : Nat)] 37) p2) rfl) (free_of (j := 3) (heap_new _ (.cells #[.int .u64 (x : Nat)] 37) p1))))
        | (refine step_append_mine rfl (.tmp 3) (.tmp 6) 38 rfl B 37 j0 (.int .u64 0) 1 8 Tryz.underlying38 hj0 hy0 hy1 hy2 rfl (by decide) (.slice q acc.length c) acc.length cs (by simp [Act.eval]) ((HROW.out _ hcc).alloc _) ⟨_, 0, none⟩ 1 1 [.int .u64 (x : Nat)] (by simp [Act.eval]) rfl (row_new _ [.int .u64 (x : Nat)] 37) (one_la _) (by unfold maxLen; omega) (by omega) (Nat.le_trans hBW (Nat.le_trans hcc.size (by simp))) ?_; intro v9 w9 hown9 hgrow9 hat9; obtain ⟨q9, c9, rfl⟩ := own_shape hown9; obtain ⟨g1, g2⟩ := HAPP.out _ _ _ hcc hgrow9; have k4 := cell_of (j := 3) g1 rfl; have k5 := cell_of (j := 0) g2 rfl; have k6 := free_of (j := 3) g1))
    all_goals
      go_end0
      have hcw : Chg (fun k => k = bp) W w1 := ((Chg.refl _ W).drew).then hcc
      obtain ⟨r1, r2, r3⟩ := gj_end (arr := fun v => #[nm, lv, xp0, v, xv, xb]) (kf := 3) tys_la (fun _ _ => rfl) hp h1 h2 h3 h4 h5 h6 h7 h8 h9 LaR.le hcw (Mem.More.refl _ _) (h4.chg hcw (fun k e => by subst e; exact h7)) (show LaR m' _ x from ⟨rfl, a1⟩) a2 a3 hown9 hgrow9 (by simpa using hat9)
      exact ⟨gs_sb hB h2 r1, ⟨rfl, r2, by
        refine r1.heap hbx (fun e => ?_)
        rcases e with e | e | e
        · exact hnb1 e
        · exact blk_ne hbx h1 (by decide) e
        · exact blk_own hbx h2 (by decide) e⟩, r3⟩
end
end Go.Proofs.YtnmcjkabihihiaaGreatDoor
