/- The kit's lent labels and code: they read as what came in, with a mark behind, in memory of their own. -/
import Derived.Test.YthgcnlccikpmaaaCoMo
namespace Go.Proofs.Ythgcnlccikpmaaa
open Go Go.RowKit Go.Proofs.Mm

theorem infoI : ∃ i, Try.prog.info? 46 = some i ∧ i.zero = some (.agg #[.int .i64 0, .int .i64 0]) ∧ i.size = 2 ∧ i.bytes = 16 := infoOf (by kernel_rfl)
theorem und_I : Try.prog.underlying 25 = some (.slice 46) := by kernel_rfl
theorem in_one (c : List Value) (x : Int × Int) (h : inR c x) : ∀ u ∈ c, u.oneCell' = true := by rw [h]; intro u hu; simp at hu; rcases hu with rfl | rfl <;> rfl
/-- A row that has been gone through, with its mark, is known from now on. -/
theorem lent_done {α : Type} {w w' : World} {m : Mem} {E : TypeId} {size bs n c : Nat} {q : Option Addr} {cs mk : List Value} {R : Mem → List Value → α → Prop} {l : List α} (hm : Has w' m) (hv : ∀ k, (Value.slice q (n + 1) c).ownBlock = some k → m k = none)
    (hrow : w'.ownsRow w.heap.size E size (.slice q (n + 1) c) (n + 1) (cs ++ mk)) (hl : l.length = n) (he : Enc (R m) cs l) (hR : ∀ m m' : Mem, m.le m' → ∀ c x, R m c x → R m' c x) (hb : n * bs ≤ 140737488351232) :
    ∃ m', m.More w m' ∧ Has w' m' ∧ SlX mk bs (mC m') (R m') (.slice q n c) l := by
  have hcap : n + 1 ≤ c ∧ c ≤ maxLen ∧ q ≠ none := by
    rcases hrow.2 with ⟨_, h0⟩ | ⟨g', cap', cur, h0, _, _, h1, h2, _⟩
    · omega
    · injection h0 with h3 _ h4
      subst h4
      exact ⟨h1, h2, by rw [h3]; simp⟩
  obtain ⟨m', h1, h2, h3, h4⟩ := RowM.done hrow hm hv
  refine ⟨m', ⟨h1, fun k hk hlt => ?_⟩, h3, q, c, cs, by rw [hl], .inr (by omega), RowM.rdO h4, he.mono (hR _ _ h1), by rw [hl]; exact hb, hcap.2.1, fun h => absurd h hcap.2.2, by omega⟩
  cases hx : m' k with
  | none => rfl
  | some o =>
    rcases h2 k (by rw [hx]; simp) with h | h
    · exact absurd hk h
    · have := (hrow.lt k h).1
      omega
theorem has_grown {w w' : World} {m : Mem} (h : Has w m) (hb : Below w.heap.size w w') : Has w' m := fun k o e => by
  have := h k o e
  rw [hb.block k (heap_lt this)]; exact this
theorem enc_cells {α : Type} {C : Cl} {R : List Value → α → Prop} {l : List α} {cs : List Value} {g o : Nat} (_h : Enc R cs l) (hr : ∀ j u, cs[j]? = some u → C ⟨g, o + j, none⟩ = some u) : ∀ j u, cs[j]? = some u → C ((⟨g, o, none⟩ : Addr).add j) = some u := by
  intro j u hu
  rw [show ((⟨g, o, none⟩ : Addr).add j) = ⟨g, o + j, none⟩ from by unfold Addr.add; split <;> simp_all]
  exact hr j u hu
set_option maxRecDepth 100000 in
set_option maxHeartbeats 2000000 in
theorem lentLabels_any {w : World} {v : Value} {l : List Int} (h : LasR false (wC w) v l) {m : Mem} (hm : Has w m) :
    Calls Try.prog 25 #[v] w fun e w' => ∃ v' m', e = .returned v' ∧ Below w.heap.size w w' ∧ m.More w m' ∧ Has w' m' ∧ LasR true (mC m') v' l := by
  obtain ⟨q, c, cs, rfl, _, hr, he, hb, hmax, hqn, hlc⟩ := h
  obtain ⟨n, hn⟩ : ∃ n, l.length = n := ⟨_, rfl⟩
  obtain ⟨hcl, _⟩ := encZ_at la_len he
  have hon := one_enc la_one he
  have HE := Lib.hid he
  have HN := Lib.hid hn
  have HM := Lib.hid hm
  rw [hn] at hb hcl hlc ⊢
  clear he hn hm
  obtain ⟨i2, h2, h3, h4, h5⟩ := infoL
  have hnil := World.ownsRow_nil w w.heap.size 23 1
  have HF := Lib.hid (show ∀ k, w.heap.size ≤ k → m k = none from fun k hk => HM.out.lt hk)
  have hone : ∀ u ∈ mkL true, u.oneCell' = true := by intro u hu; simp only [mkL, if_true, List.mem_cons, List.not_mem_nil, or_false] at hu; (subst hu; rfl)
  rcases q with _ | ad
  · obtain rfl : c = 0 := hqn rfl
    obtain rfl : n = 0 := by omega
    have hc0 : cs = [] := List.eq_nil_of_length_eq_zero (by simpa using hcl)
    subst hc0
    have hR1 := hnil.alloc (.cells (mkL true).toArray 23)
    have hnew := row_new w (mkL true) 23
    go_enter Try.func25, Try.ntmps25
    go_wp2_with (first | (at_builtin; refine wpList_append_own_none rfl _ _ 24 rfl w.heap.size 23 i2 1 und_L h2 _ 0 [] rfl hnil rfl ?_) | (at_builtin; refine wpList_append_own _ rfl _ _ 24 rfl w.heap.size 23 i2 _ 1 8 und_L h2 h3 h4 h5 rfl (by decide) _ 0 [] rfl hR1 ⟨w.heap.size, 0, none⟩ 1 1 (mkL true) rfl rfl hnew hone (by unfold maxLen; omega) (by omega) (by simp) ?_))
    intro v2 w2 hR2 hg2 _
    obtain ⟨q2, c2, rfl⟩ := own_shape hR2
    have hB2 : Below w.heap.size w w2 := grown_below ((Below.refl _ w).alloc (Nat.le_refl _) _) (by simp) hg2 (fun j hj => (hR1.lt j hj).1)
    have HD := Lib.hid (lent_done (w := w) (bs := 8) (R := fun _ => laR) (has_grown HM.out hB2) (fun k hk => HF.out k (hR2.lt k hk).1) (by simpa using hR2) HN.out HE.out (fun _ _ _ _ _ h => h) (by omega))
    have HB := Lib.hid hB2
    have hcap : 1 ≤ c2 := by
      rcases hR2.2 with ⟨_, h0⟩ | ⟨g', cap', cur, h0, _, _, h1, _, _⟩
      · omega
      · injection h0 with _ _ h4
        omega
    clear hg2 hR1 hnil hB2 hR2
    go_wp2
    go_ret
    obtain ⟨m', d1, d2, d3⟩ := HD.out
    exact ⟨_, m', rfl, HB.out, d1, d2, d3⟩
  · have hcl2 : ∀ j u, cs[j]? = some u → w.cell? (ad.add j) = some u := by
      rcases hr with hr | ⟨g, o, hq, hr⟩
      · have := (List.append_eq_nil_iff.1 hr).1
        subst this
        intro j u hu
        simp at hu
      · injection hq with hq
        subst hq
        exact enc_cells HE.out (fun j u hu => hr j u (by rw [List.getElem?_append_left ((List.getElem?_eq_some_iff.1 hu).1)]; exact hu))
    clear hr
    go_enter Try.func25, Try.ntmps25
    go_wp2_with (at_builtin; refine wpList_append_own _ rfl _ _ 24 rfl w.heap.size 23 i2 _ 1 8 und_L h2 h3 h4 h5 rfl (by decide) _ 0 [] rfl hnil ad n c cs rfl hcl hcl2 hon (by unfold maxLen; omega) (by omega) (Nat.le_refl _) ?_)
    intro v1 w1 hR1 hg1 _
    obtain ⟨q1, c1, rfl⟩ := own_shape hR1
    have hB1 : Below w.heap.size w w1 := grown_below (Below.refl _ w) (Nat.le_refl _) hg1 (fun j hj => by cases hj)
    have hw1 := hB1.size
    have hR1' := hR1.alloc (.cells (mkL true).toArray 23)
    have hnew := row_new w1 (mkL true) 23
    try simp only [Nat.zero_add, List.nil_append] at hR1 hR1'
    clear hg1 hnil hcl2 hon hR1
    go_wp2_with (at_builtin; refine wpList_append_own _ rfl _ _ 24 rfl w.heap.size 23 i2 _ 1 8 und_L h2 h3 h4 h5 rfl (by decide) _ n cs rfl hR1' ⟨w1.heap.size, 0, none⟩ 1 1 (mkL true) rfl rfl hnew hone (by unfold maxLen; omega) (by omega) (by simp <;> omega) ?_)
    intro v2 w2 hR2 hg2 _
    obtain ⟨q2, c2, rfl⟩ := own_shape hR2
    have hB2 : Below w.heap.size w w2 := grown_below (hB1.alloc hw1 _) (by simp; omega) hg2 (fun j hj => (hR1'.lt j hj).1)
    have HD := Lib.hid (lent_done (w := w) (bs := 8) (R := fun _ => laR) (has_grown HM.out hB2) (fun k hk => HF.out k (hR2.lt k hk).1) hR2 HN.out HE.out (fun _ _ _ _ _ h => h) (by omega))
    have HB := Lib.hid hB2
    have hcap : n + 1 ≤ c2 := by
      rcases hR2.2 with ⟨_, h0⟩ | ⟨g', cap', cur, h0, _, _, h1, _, _⟩
      · omega
      · injection h0 with _ _ h4
        omega
    clear hg2 hR1' hB2 hR2 hB1
    go_wp2
    go_ret
    obtain ⟨m', d1, d2, d3⟩ := HD.out
    exact ⟨_, m', rfl, HB.out, d1, d2, d3⟩
set_option maxRecDepth 100000 in
set_option maxHeartbeats 2000000 in
theorem lentCode_any {w : World} {v : Value} {l : List (Int × Int)} (h : CdR false (wC w) v l) {m : Mem} (hm : Has w m) :
    Calls Try.prog 26 #[v] w fun e w' => ∃ v' m', e = .returned v' ∧ Below w.heap.size w w' ∧ m.More w m' ∧ Has w' m' ∧ CdR true (mC m') v' l := by
  obtain ⟨q, c, cs, rfl, _, hr, he, hb, hmax, hqn, hlc⟩ := h
  obtain ⟨n, hn⟩ : ∃ n, l.length = n := ⟨_, rfl⟩
  obtain ⟨hcl, _⟩ := encZ_at in_len he
  have hon := one_enc in_one he
  have HE := Lib.hid he
  have HN := Lib.hid hn
  have HM := Lib.hid hm
  rw [hn] at hb hcl hlc ⊢
  clear he hn hm
  obtain ⟨i2, h2, h3, h4, h5⟩ := infoI
  have hnil := World.ownsRow_nil w w.heap.size 46 2
  have HF := Lib.hid (show ∀ k, w.heap.size ≤ k → m k = none from fun k hk => HM.out.lt hk)
  have hone : ∀ u ∈ mkI true, u.oneCell' = true := by intro u hu; simp only [mkI, if_true, List.mem_cons, List.not_mem_nil, or_false] at hu; (rcases hu with rfl | rfl <;> rfl)
  rcases q with _ | ad
  · obtain rfl : c = 0 := hqn rfl
    obtain rfl : n = 0 := by omega
    have hc0 : cs = [] := List.eq_nil_of_length_eq_zero (by simpa using hcl)
    subst hc0
    have hR1 := hnil.alloc (.cells (mkI true).toArray 46)
    have hnew := row_new w (mkI true) 46
    go_enter Try.func26, Try.ntmps26
    go_wp2_with (first | (at_builtin; refine wpList_append_own_none rfl _ _ 25 rfl w.heap.size 46 i2 2 und_I h2 _ 0 [] rfl hnil rfl ?_) | (at_builtin; refine wpList_append_own _ rfl _ _ 25 rfl w.heap.size 46 i2 _ 2 16 und_I h2 h3 h4 h5 rfl (by decide) _ 0 [] rfl hR1 ⟨w.heap.size, 0, none⟩ 1 1 (mkI true) rfl rfl hnew hone (by unfold maxLen; omega) (by omega) (by simp) ?_))
    intro v2 w2 hR2 hg2 _
    obtain ⟨q2, c2, rfl⟩ := own_shape hR2
    have hB2 : Below w.heap.size w w2 := grown_below ((Below.refl _ w).alloc (Nat.le_refl _) _) (by simp) hg2 (fun j hj => (hR1.lt j hj).1)
    have HD := Lib.hid (lent_done (w := w) (bs := 16) (R := fun _ => inR) (has_grown HM.out hB2) (fun k hk => HF.out k (hR2.lt k hk).1) (by simpa using hR2) HN.out HE.out (fun _ _ _ _ _ h => h) (by omega))
    have HB := Lib.hid hB2
    have hcap : 1 ≤ c2 := by
      rcases hR2.2 with ⟨_, h0⟩ | ⟨g', cap', cur, h0, _, _, h1, _, _⟩
      · omega
      · injection h0 with _ _ h4
        omega
    clear hg2 hR1 hnil hB2 hR2
    go_wp2
    go_ret
    obtain ⟨m', d1, d2, d3⟩ := HD.out
    exact ⟨_, m', rfl, HB.out, d1, d2, d3⟩
  · have hcl2 : ∀ j u, cs[j]? = some u → w.cell? (ad.add j) = some u := by
      rcases hr with hr | ⟨g, o, hq, hr⟩
      · have := (List.append_eq_nil_iff.1 hr).1
        subst this
        intro j u hu
        simp at hu
      · injection hq with hq
        subst hq
        exact enc_cells HE.out (fun j u hu => hr j u (by rw [List.getElem?_append_left ((List.getElem?_eq_some_iff.1 hu).1)]; exact hu))
    clear hr
    go_enter Try.func26, Try.ntmps26
    go_wp2_with (at_builtin; refine wpList_append_own _ rfl _ _ 25 rfl w.heap.size 46 i2 _ 2 16 und_I h2 h3 h4 h5 rfl (by decide) _ 0 [] rfl hnil ad n c cs rfl hcl hcl2 hon (by unfold maxLen; omega) (by omega) (Nat.le_refl _) ?_)
    intro v1 w1 hR1 hg1 _
    obtain ⟨q1, c1, rfl⟩ := own_shape hR1
    have hB1 : Below w.heap.size w w1 := grown_below (Below.refl _ w) (Nat.le_refl _) hg1 (fun j hj => by cases hj)
    have hw1 := hB1.size
    have hR1' := hR1.alloc (.cells (mkI true).toArray 46)
    have hnew := row_new w1 (mkI true) 46
    try simp only [Nat.zero_add, List.nil_append] at hR1 hR1'
    clear hg1 hnil hcl2 hon hR1
    go_wp2_with (at_builtin; refine wpList_append_own _ rfl _ _ 25 rfl w.heap.size 46 i2 _ 2 16 und_I h2 h3 h4 h5 rfl (by decide) _ n cs rfl hR1' ⟨w1.heap.size, 0, none⟩ 1 1 (mkI true) rfl rfl hnew hone (by unfold maxLen; omega) (by omega) (by simp <;> omega) ?_)
    intro v2 w2 hR2 hg2 _
    obtain ⟨q2, c2, rfl⟩ := own_shape hR2
    have hB2 : Below w.heap.size w w2 := grown_below (hB1.alloc hw1 _) (by simp; omega) hg2 (fun j hj => (hR1'.lt j hj).1)
    have HD := Lib.hid (lent_done (w := w) (bs := 16) (R := fun _ => inR) (has_grown HM.out hB2) (fun k hk => HF.out k (hR2.lt k hk).1) hR2 HN.out HE.out (fun _ _ _ _ _ h => h) (by omega))
    have HB := Lib.hid hB2
    have hcap : n + 1 ≤ c2 := by
      rcases hR2.2 with ⟨_, h0⟩ | ⟨g', cap', cur, h0, _, _, h1, _, _⟩
      · omega
      · injection h0 with _ _ h4
        omega
    clear hg2 hR1' hB2 hR2 hB1
    go_wp2
    go_ret
    obtain ⟨m', d1, d2, d3⟩ := HD.out
    exact ⟨_, m', rfl, HB.out, d1, d2, d3⟩

end Go.Proofs.Ythgcnlccikpmaaa
