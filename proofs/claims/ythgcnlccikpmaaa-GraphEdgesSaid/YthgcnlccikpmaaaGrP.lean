/- Ahead. -/
import Derived.Test.YthgcnlccikpmaaaGrO
import Derived.RangeFuncBox
import Derived.RangeFuncFrom
import Derived.Shelf.RegionOpen
import Derived.Maps.OwnIn
namespace Go.Proofs.Ythgcnlccikpmaaa
open Go Go.RowKit Go.Proofs.Mm
attribute [local go_sem] Oper.semAt_some
theorem cell_put {W : World} {a : Addr} {v : Value} {D : Nat} {o o' : Obj} (h : W.cell? a = some v) (hD : W.heap[D]? = some o) (hc : o.isCells = false) : (W.putObj D o').cell? a = some v :=
  cell_kept h (grownBy_putObj' W D o') (fun r e => by cases e; exact ⟨_, hD, hc⟩)
theorem KpS.refl (S : World → Nat → Prop) (W : World) : KpS S W W := ⟨fun _ _ h _ => h, fun _ e => .inl e, fun h => h, Nat.le_refl _⟩
/-- The blocks that a loop may write that gathers into the row of the box at B. -/
def Sb (B : Nat) (W : World) (k : Nat) : Prop := k = B ∨ ∃ v, W.cell? ⟨B, 0, none⟩ = some v ∧ v.ownBlock = some k
theorem sb_below (B : Nat) : ∀ A C : World, Below A.heap.size A C → (∀ k, Sb B A k → k < A.heap.size) → ∀ k, Sb B C k → Sb B A k := by
  rintro A C hb hl k (rfl | ⟨v, h1, h2⟩)
  · exact .inl rfl
  · refine .inr ⟨v, ?_, h2⟩
    rw [hb.cell (hl B (.inl rfl))] at h1
    exact h1
theorem sb_put {B n : Nat} (hB : B < n) (W : World) (l : Nat) (o o' : Obj) (hl : n ≤ l) (h1 : W.heap[l]? = some o) (h2 : o.isCells = false) : KpS (Sb B) W (W.putObj l o') := by
  have hg := grownBy_putObj' W l o'
  have hbk : (W.putObj l o').heap[B]? = W.heap[B]? := by
    simp only [World.putObj]
    rw [Array.getElem?_setIfInBounds_ne (by omega)]
  have hsz : (W.putObj l o').heap.size = W.heap.size := by simp [World.putObj]
  have hset : ∀ k, Sb B (W.putObj l o') k → Sb B W k := by
    rintro k (rfl | ⟨v, e1, e2⟩)
    · exact .inl rfl
    · exact .inr ⟨v, by rw [← World.cell?_of_block (a := ⟨B, 0, none⟩) hbk]; exact e1, e2⟩
  exact ⟨fun a v hc _ => cell_put hc h1 h2, fun k e => .inl (hset k e), fun hlt k e => by rw [hsz]; exact hlt k (hset k e), Nat.le_of_eq hsz.symm⟩
theorem sb_append {B n0 n m : Nat} {T E : TypeId} {size : Nat} {W w9 : World} {v v' : Value} {xs ys : List Value} {tmp : Obj} (hv : Boxed W B T v) (_hr : W.ownsRow n0 E size v n xs) (hr9 : w9.ownsRow n0 E size v' m ys) (hg : (W.alloc tmp).grownBy w9 v.ownBlock) (hat : v'.ownBlock = v.ownBlock ∨ v'.ownBlock = some (W.heap.size + 1))
    (hv9 : Boxed (w9.setCell ⟨B, 0, none⟩ v') B T v') : KpS (Sb B) W (w9.setCell ⟨B, 0, none⟩ v') := by
  have hsz : (w9.setCell ⟨B, 0, none⟩ v').heap.size = w9.heap.size := by simp [World.setCell]
  have hs2 := hg.size
  rw [World.size_alloc] at hs2
  refine ⟨fun a u hc hn => ?_, fun k e => ?_, fun hlt k e => ?_, by omega⟩
  · have h1 : a.block ≠ B := fun e => hn (.inl e)
    have h2 : v.ownBlock ≠ some a.block := fun e => hn (.inr ⟨v, hv.cell, e⟩)
    have h3 : (W.alloc tmp).cell? a = some u := by rw [World.cell?_alloc_lt _ _ _ (World.block_lt_of_cell? _ _ hc)]; exact hc
    have h4 := hg.cell h3 (fun e => h2 e.symm)
    exact (World.cell?_of_block (Below.heap_setCell w9 ⟨B, 0, none⟩ _ _ h1)).trans h4
  · rcases e with rfl | ⟨u, e1, e2⟩
    · exact .inl (.inl rfl)
    · rw [hv9.cell] at e1
      injection e1 with e1
      subst e1
      rcases hat with e | e
      · exact .inl (.inr ⟨v, hv.cell, by rw [← e]; exact e2⟩)
      · rw [e] at e2
        injection e2 with e2
        exact .inr (by omega)
  · rcases e with rfl | ⟨u, e1, e2⟩
    · exact hv9.lt
    · rw [hv9.cell] at e1
      injection e1 with e1
      subst e1
      rw [hsz]
      exact (hr9.lt k e2).2
section
variable (lv : Int) (qp : Option Addr) (np cp : Nat) (qr : Option Addr) (nr cr : Nat) (lo stk : Int) (qc : Option Addr) (nc cc : Nat)
set_option maxRecDepth 100000 in
set_option maxHeartbeats 1000000 in
theorem edgesOf_any (w : World) : Calls Try.prog 28 #[fnV lv qp np cp qr nr cr lo stk qc nc cc] w fun e w' => e = .returned (.func (.func 40) #[] #[.pointer (some ⟨w.heap.size, 0, none⟩)]) ∧ w' = w.alloc (.cells (fnC lv qp np cp qr nr cr lo stk qc nc cc) 27) := by
  go_enter Try.func28, Try.ntmps28
  go_wp2
  go_ret
  exact ⟨rfl, rfl⟩
theorem ahd_of (c : Cd) (a : Int) (i : Nat) : ((edgK c i).filter fun x : Nat × Nat => decide ((x.2 : Int) = a)).map Prod.fst = (List.range i).filter fun b : Nat => edB c (b : Int) a := by
  induction i with
  | zero => rfl
  | succ i ih =>
    rw [edgK_succ, List.range_succ, List.filter_append, List.map_append, List.filter_append, ih]
    congr 1
    have hnd := nxt_nodup c (i : Int)
    simp only [List.filter_cons, List.filter_nil]
    unfold edB
    generalize nxt c (i : Int) = l at hnd ⊢
    induction l with
    | nil => rfl
    | cons y l ih2 =>
      obtain ⟨h1, h2⟩ := List.nodup_cons.1 hnd
      have h3 := ih2 h2
      simp only [List.map_cons, List.filter_cons, List.any_cons]
      by_cases hy : (y : Int) = a
      · have hno : (l.any fun x => decide ((x : Int) = a)) = false := by
          rw [List.any_eq_false]
          intro x hx hxa
          have hxa' : (x : Int) = a := by simpa using hxa
          exact h1 ((show x = y by omega) ▸ hx)
        rw [hno] at h3
        simp only [hy, decide_true, if_true, List.map_cons, Bool.true_or]
        simp only [if_neg (by decide : ¬ (false = true))] at h3
        rw [h3]
      · simp only [hy, decide_false, Bool.false_or]
        simpa using h3
theorem ahd_edg (c : Cd) (a : Int) : ((edgK c c.length).filter fun x : Nat × Nat => decide ((x.2 : Int) = a)).map Prod.fst = ahd c a := by
  rw [ahd_of]; rfl
def gaN (a : Int) (pre : List (Nat × Nat)) : List Nat := (pre.filter fun x : Nat × Nat => decide ((x.2 : Int) = a)).map Prod.fst
theorem gaN_snoc (a : Int) (pre : List (Nat × Nat)) (x : Nat × Nat) : gaN a (pre ++ [x]) = gaN a pre ++ if (x.2 : Int) = a then [x.1] else [] := by
  unfold gaN
  rw [List.filter_append, List.map_append]
  congr 1
  by_cases h : (x.2 : Int) = a <;> simp [h]
theorem gaN_len (a : Int) (pre : List (Nat × Nat)) : (gaN a pre).length ≤ pre.length := by
  unfold gaN
  rw [List.length_map]
  exact List.length_filter_le _ _
def AhI (w : World) (a : Int) (pre : List (Nat × Nat)) (W : World) : Prop :=
  ((∃ v, Boxed W (w.heap.size + 2) 31 v ∧ W.ownsRow w.heap.size 3 1 v (gaN a pre).length (cI (gaN a pre)) ∧ (∃ q c, v = .slice q (gaN a pre).length c) ∧ ∀ k, v.ownBlock = some k → w.heap.size + 4 ≤ k) ∧ Boxed W (w.heap.size + 1) 3 (.int .i64 a)) ∧ Below w.heap.size w W
theorem ahI_own (w : World) (a : Int) (B : Nat) (hB : w.heap.size ≤ B) : OwnFrom B (AhI w a) :=
  OwnFrom.and (OwnFrom.and (Own.from (holdsRow_own _ _ _ _ _ _ _ _) _) (Own.from (boxed_own _ _ _) _)) (ownFrom_below (Nat.le_refl _) hB)
set_option maxRecDepth 100000 in
set_option maxHeartbeats 2000000 in
theorem ahead_any {w : World} {code : Cd} (hI : InAt (wC w) qc code) (hn : code.length = nc) (hm : nc ≤ cc) (hm2 : cc ≤ maxLen) (hnc : nc ≤ 1000) (a : Int) :
    Calls Try.prog 10 #[fnV lv qp np cp qr nr cr lo stk qc nc cc, .int .i64 a] w fun e w' => ∃ v, e = .returned v ∧ OwnI w.heap.size w' v (ahd code a) ∧ Below w.heap.size w w' := by
  have HI := Lib.hid hI
  clear hI
  have hE := fun W => edgesOf_any lv qp np cp qr nr cr lo stk qc nc cc W
  refine (callsIn_wide (n := 3)).1 ?_
  refine callsIn_of_wp_marks Try.func10 rfl trivial ?_ rfl
  simp only [Try.ntmps10, List.size_toArray, List.length_cons, List.length_nil, Nat.reduceAdd, Nat.reduceSub, Array.replicate_succ, Array.replicate_zero, List.push_toArray, List.append_toArray, List.nil_append, List.cons_append]
  gi_wp2_with fail
  obtain ⟨W3, hW3⟩ : ∃ W3, ((w.alloc (.cells (fnC lv qp np cp qr nr cr lo stk qc nc cc) 27)).alloc (.cells #[.int .i64 a] 3)).alloc (.cells #[.slice none 0 0] 31) = W3 := ⟨_, rfl⟩
  have hB3 : Below w.heap.size w W3 := by rw [← hW3]; exact bl_al (bl_al (bl_al (Below.refl _ w) _) _) _
  have hsz3 : W3.heap.size = w.heap.size + 3 := by rw [← hW3]; simp
  have b2 : Boxed W3 (w.heap.size + 2) 31 (.slice none 0 0) := by rw [← hW3]; exact InB.new' _ _ (by simp)
  have b1 : Boxed W3 (w.heap.size + 1) 3 (.int .i64 a) := by rw [← hW3]; exact heap_new _ _ (InB.new' _ _ (by simp))
  rw [show w.heap.size + 1 + 1 = w.heap.size + 2 from rfl]
  try rw [hW3]
  clear hW3
  refine ⟨trivial, (callsIn_wide.2 (hE W3)).mono ?_⟩
  rintro e w4 ⟨rfl, rfl⟩
  have hI2 := inAt_le qc HI.out (bl_al hB3 (.cells (fnC lv qp np cp qr nr cr lo stk qc nc cc) 27))
  have hED : Ed lv qp np cp qr nr cr lo stk qc nc cc (Sb (w.heap.size + 2)) W3.heap.size code (W3.alloc (.cells (fnC lv qp np cp qr nr cr lo stk qc nc cc) 27)) := by
    have hbx := (b2.alloc (.cells (fnC lv qp np cp qr nr cr lo stk qc nc cc) 27)).cell
    have hno : ∀ k, Sb (w.heap.size + 2) (W3.alloc (.cells (fnC lv qp np cp qr nr cr lo stk qc nc cc) 27)) k → k = w.heap.size + 2 := by
      rintro k (e | ⟨v, e1, e2⟩)
      · exact e
      · rw [hbx] at e1; injection e1 with e1; subst e1; cases e2
    refine ⟨fun j v e => (InB.new W3 _ _).cell e, hI2, fun k e => ?_, fun e => ?_, fun i hi g o e1 e2 => ?_⟩
    · rw [hno k e]; simp; omega
    · have := hno _ e; omega
    · have := hno _ e2
      obtain ⟨g', o', e', h1, _⟩ := HI.out i hi
      rw [e1] at e'
      injection e' with e'
      injection e' with e' _ _
      have h2 : g' < w.heap.size := World.block_lt_of_cell? _ _ h1
      omega
  have hSq := edges_stops lv qp np cp qr nr cr lo stk qc nc cc (3 - 1) (sb_below (w.heap.size + 2)) hED hn hm hm2 hnc
  have hel : (edgK code code.length).length ≤ 2000 := by have := edgK_len code code.length; omega
  have HEL := Lib.hid hel
  have HSZ := Lib.hid hsz3
  rw [hsz3] at hSq
  obtain ⟨W4, hW4⟩ : ∃ W4, W3.alloc (.cells (fnC lv qp np cp qr nr cr lo stk qc nc cc) 27) = W4 := ⟨_, rfl⟩
  have d2 := b2.alloc (.cells (fnC lv qp np cp qr nr cr lo stk qc nc cc) 27)
  have d1 := b1.alloc (.cells (fnC lv qp np cp qr nr cr lo stk qc nc cc) 27)
  have hB4 := bl_al hB3 (.cells (fnC lv qp np cp qr nr cr lo stk qc nc cc) 27)
  have hsz4 : W4.heap.size = w.heap.size + 4 := by rw [← hW4]; simp; omega
  rw [hW4] at hSq d2 d1 hB4
  clear hE hI2 hED hel b1 b2 hB3
  gi_wp2_with fail
  try rw [hW4]
  clear hW4 hsz3
  have hS4 : w.heap.size ≤ W4.heap.size := hB4.size
  obtain ⟨i0, hi, hz0, hz1, hz2⟩ := infoN
  refine wpIn_rangeFunc_ownF rfl (by omega) (gf := 40) (lb := #[.pointer (some ⟨w.heap.size + 3, 0, none⟩)]) rfl trivial (enters_of Try.func40 (by kernel_rfl) rfl) hSq (fun h k => h.trans k) (fun W l o o' h1 h2 h3 _ => sb_put (n := W4.heap.size) (by omega) W l o o' h1 h2 h3) (Below.refl _ _) (fun _ => rfl)
    (AhI w a)
    (fun _ _ _ => False)
    (ahI_own w a _ hS4)
    (fun _ _ _ _ _ hs _ _ => hs)
    ⟨⟨⟨_, d2, World.ownsRow_nil _ _ _ _, ⟨_, _, rfl⟩, fun k e => by cases e⟩, d1⟩, hB4⟩
    (fun x => { tmps := #[fnV lv qp np cp qr nr cr lo stk qc nc cc, .int .i64 a, .pointer (some ⟨w.heap.size, 0, none⟩), .pointer (some ⟨w.heap.size + 1, 0, none⟩), .slice none 0 0, .pointer (some ⟨w.heap.size + 2, 0, none⟩), .int .i64 (x.1 : Nat), .int .i64 (x.2 : Nat), .agg #[.int .u64 lv, .slice qp np cp, .slice qr nr cr, .int .i64 lo, .int .i64 stk, .slice qc nc cc], .func (.func 40) #[] #[.pointer (some ⟨w.heap.size + 3, 0, none⟩)], .int .i64 (x.1 : Nat), .int .i64 (x.2 : Nat), undef, undef, undef, undef, undef, undef, undef, undef], defers := [] }) ?assign ?body ?done ?stop
  case assign =>
    intro l x W K hK
    gi_wp2
    exact hK
  case body =>
    rintro l pre x W ⟨⟨⟨v, hv, hrow, ⟨q, c, rfl⟩, hob⟩, ha⟩, hB⟩ hlt
    have hc2 := hv.cell
    have hc1 := ha.cell
    have hlen : (gaN a pre).length + 1 ≤ 2001 := by have := gaN_len a pre; have := HEL.out; omega
    have HG := Lib.hid (gaN_snoc a pre x)
    by_cases hxa : (x.2 : Int) = a
    · have hb : ((x.2 : Int) == a) = true := by simpa using hxa
      rw [if_pos hxa] at HG
      have hBs := hB.size
      gi_wp2_with (gi_at_builtin; refine wpListIn_append_own_at _ rfl _ _ 31 rfl w.heap.size 3 i0 _ 1 8 und_N hi hz0 hz1 hz2 rfl (by decide) _ _ _ rfl (hrow.alloc _) ⟨W.heap.size, 0, none⟩ 1 1 [.int .i64 (x.1 : Nat)] rfl rfl (row_new W [.int .i64 (x.1 : Nat)] 3) (by intro u hu; rw [List.mem_singleton.1 hu]; rfl) (by unfold maxLen; omega) (by omega) (by simp; omega) ?_)
      intro v' w9 hown9 hgrow9 _ hat9
      obtain ⟨g', cap', rfl⟩ := ownsRow_succ hown9
      obtain ⟨hv1, hv2, hr2, hk2, hb2⟩ := hv.appended (by decide) hrow hBs (by omega) hown9 hgrow9
      have hKp := sb_append hv hrow hown9 hgrow9 hat9 hv2
      have e1 := ((ha.alloc (.cells #[.int .i64 (x.1 : Nat)] 3)).kept hgrow9 (fun e => by have := hob _ e.symm; omega)).other (B' := w.heap.size + 2) (by omega) (.slice (some ⟨g', 0, none⟩) ((gaN a pre).length + 1) cap')
      have hob2 : ∀ k, (Value.slice (some ⟨g', 0, none⟩) ((gaN a pre).length + 1) cap').ownBlock = some k → w.heap.size + 4 ≤ k := fun k e => by
        rcases hat9 with h | h
        · exact hob k (by rw [← h]; exact e)
        · rw [h] at e
          injection e with e
          have := hv.lt
          omega
      have HFIN := Lib.hid (show KeepsOthers W (w9.setCell ⟨w.heap.size + 2, 0, none⟩ (.slice (some ⟨g', 0, none⟩) ((gaN a pre).length + 1) cap')) ∧ KpS (Sb (w.heap.size + 2)) W (w9.setCell ⟨w.heap.size + 2, 0, none⟩ (.slice (some ⟨g', 0, none⟩) ((gaN a pre).length + 1) cap')) ∧ AhI w a (pre ++ [x]) (w9.setCell ⟨w.heap.size + 2, 0, none⟩ (.slice (some ⟨g', 0, none⟩) ((gaN a pre).length + 1) cap')) from
        ⟨hk2, hKp, ⟨⟨_, hv2, by rw [HG.out, List.length_append, cI_app]; exact hr2, ⟨_, _, by rw [HG.out, List.length_append]; rfl⟩, hob2⟩, e1⟩, hB.trans hb2⟩)
      have hc9 := hv1.cell
      have hf9 := hv1.frozen
      clear hv1 hv2 hr2 hk2 hb2 hKp e1 hob2 hown9 hgrow9 hat9 hc2
      gi_wp2
      exact HFIN.out
    · have hb : ((x.2 : Int) == a) = false := by simpa using hxa
      rw [if_neg hxa, List.append_nil] at HG
      clear hxa
      gi_wp2
      exact ⟨KeepsOthers.refl _, KpS.refl _ _, ⟨⟨_, hv, by rw [HG.out]; exact hrow, ⟨_, _, by rw [HG.out]⟩, hob⟩, ha⟩, hB⟩
  case done =>
    rintro D xs W hD hS ⟨⟨⟨v, hv, hrow, ⟨q, c, rfl⟩, hob⟩, ha⟩, hB⟩ hK
    have hR : gaN a xs = ahd code a := by rw [hS]; exact ahd_edg code a
    rw [hR] at hrow hv
    have hc2 := hv.cell
    clear hS hR
    gi_wp2
    refine ⟨by simp, .inl ⟨_, _, rfl, run_takeDeferred hK, ?_⟩⟩
    refine ⟨_, results_tmp rfl _ _ _, ?_⟩
    exact ⟨_, rfl, ownsRow_putObj hrow _ hK rfl, hB.trans (belowK_b (w := w) (Nat.le_refl _) W D _ _ (by omega) hK rfl rfl)⟩
  case stop =>
    rintro D cc pre W _ _ h _
    exact h.elim
end
end Go.Proofs.Ythgcnlccikpmaaa
